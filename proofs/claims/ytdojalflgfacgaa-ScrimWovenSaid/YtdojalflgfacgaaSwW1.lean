/- Contract of ScrimWoven's own 'behind'. -/
import Derived.Test.YtdojalflgfacgaaSwMath
import Derived.Test.YtdojalflgfacgaaWeL3
namespace Go.Proofs.Ytdojalflgfacgaa
open Go.RowKit We
theorem iv_get (l : List Int) {k : Nat} {x : Int} (h : l[k]? = some x) : (iv l)[k]? = some (.int .i64 x) := by
  unfold iv
  rw [List.getElem?_map, h]
  rfl
set_option maxHeartbeats 8000000 in
set_option maxRecDepth 100000 in
theorem behind_any (AT AG : Option Addr) (nT cT nG cG : Nat) (to gone pre gs post : List Int) (g near : Int) (w : World) (hnT : nT = to.length) (hnG : nG = gone.length) (hbT : nT ≤ 1000) (hbG : nG ≤ 1000) (haT : At w AT (iv to)) (haG : At w AG (iv gone))
    (hto : to = pre ++ gs ++ g :: post) (hnd : to.Nodup) (hgs : ∀ x ∈ gs, x ∈ gone ∧ x < g) (hend : (pre = [] ∧ near < 0) ∨ ∃ p, pre = p ++ [near] ∧ ¬ near ∈ gone) :
    Calls Try.prog 16 #[.slice AT nT cT, .int .i64 g, .int .i64 near, .slice AG nG cG] w fun e w' => e = .returned (.bool true) ∧ w = w' := by
  have hgm : g ∈ to := by rw [hto]; simp
  have hng : ¬ g ∈ pre ++ gs := fun h => by
    rw [hto] at hnd
    exact (List.nodup_append.1 hnd).2.2 g h g List.mem_cons_self rfl
  have hix : ix to g = pre.length + gs.length := by
    rw [hto, ix_app_right _ hng, List.length_append]
    unfold ix
    rw [if_pos rfl]
    omega
  have hlen : pre.length + gs.length < nT := by rw [hnT, hto]; simp
  have hgsat : ∀ k, k < gs.length → ∃ x, to[pre.length + k]? = some x ∧ x ∈ gone ∧ x < g := fun k hk => by
    refine ⟨gs[k], ?_, hgs _ (List.getElem_mem _)⟩
    rw [hto, List.append_assoc, List.getElem?_append_right (by omega), show pre.length + k - pre.length = k by omega, List.getElem?_append_left hk]
    exact List.getElem?_eq_getElem hk
  have hlast : ∀ p, pre = p ++ [near] → to[p.length]? = some near := fun p hp => by
    rw [hto, hp, List.append_assoc, List.append_assoc, List.getElem?_append_right (Nat.le_refl _), Nat.sub_self]
    rfl
  have C0 := Lib.hid (rat_any AT nT cT to g _ w hnT (by omega) haT (rAt_yes hgm))
  rw [hix] at C0
  have C1 := Lib.hid (fun x v hv => rat_any AG nG cG gone x v w hnG (by omega) haG hv)
  have HT := Lib.hid haT
  have HGS := Lib.hid hgsat
  have HL := Lib.hid hlast
  have HE := Lib.hid hend
  generalize gs.length = q at *
  generalize hpl : pre.length = m at *
  have HPL := Lib.hid hpl
  clear haT haG hgs hend hgsat hlast hto hnd hgm hng hix hnT hnG hpl
  go_enter Try.func16, Try.ntmps16
  go_wp2_with fail
  refine C0.out.mono ?_
  rintro e w9 ⟨rfl, rfl⟩
  obtain ⟨s, hs⟩ : ∃ s : Nat, s = m + q := ⟨_, rfl⟩
  rw [← hs]
  have HS := Lib.hid hs
  clear hs C0
  go_wp2_with fail
  go_loopw [9] (fun v wr => ∃ k : Nat, m ≤ k ∧ k ≤ m + q ∧ v = .int .i64 k ∧ wr = w) (fun v _ => (intOf v).toNat)
  case atStart => exact ⟨s, by have := HS.out; omega, by have := HS.out; omega, rfl, rfl⟩
  case round =>
    obtain ⟨k, hk1, hk2, rfl, rfl⟩ := hrel
    by_cases hk : m < k
    · obtain ⟨k', rfl⟩ : ∃ k', k = k' + 1 := ⟨k - 1, by omega⟩
      obtain ⟨x, hx1, hx2, hx3⟩ := HGS.out (k' - m) (by omega)
      rw [show m + (k' - m) = k' by omega] at hx1
      obtain ⟨b, o, rfl, _, hc⟩ := HT.out.one (iv_get to hx1)
      have D := Lib.hid (C1.out x _ (rAt_yes hx2))
      generalize ix gone x = z at D
      have hkT : k' < nT := by omega
      obtain ⟨kk, hkk⟩ : ∃ kk, kk = k' + 1 := ⟨_, rfl⟩
      rw [← hkk]
      have hk0 : (0 : Int) < (kk : Int) := by omega
      have hw1 : IntKind.i64.wrap ((kk : Int) - 1) = (k' : Int) := by rw [IntKind.wrap_i64]; omega
      have hkT2 : kk ≤ nT := by omega
      have HKK := Lib.hid hkk
      have hz : (0 : Int) ≤ (z : Int) := by omega
      have hxg : ¬ x > g := by omega
      clear hkk
      go_wp2_with fail
      refine D.out.mono ?_
      rintro e w9 ⟨rfl, rfl⟩
      go_wp2_with fail
      go_roundw
      case rel => exact ⟨k', by omega, by omega, by first | rfl | trivial, by first | rfl | trivial⟩
      case measure => have := HKK.out; simp [intOf]; omega
    · obtain rfl : k = m := by omega
      rcases HE.out with ⟨hp, hn⟩ | ⟨p, hp, hn⟩
      · have h0 : k = 0 := by have := HPL.out; rw [hp] at this; simpa using this.symm
        subst h0
        go_wp2_with fail
        go_ret
        exact ⟨by simp, rfl⟩
      · have hkp : k = p.length + 1 := by have := HPL.out; rw [hp] at this; simpa using this.symm
        have hx := HL.out p hp
        obtain ⟨b, o, rfl, _, hc⟩ := HT.out.one (iv_get to hx)
        have D := Lib.hid (C1.out near _ (rAt_no hn))
        obtain ⟨p', hp'⟩ : ∃ p', p' = p.length := ⟨_, rfl⟩
        rw [← hp'] at hc hkp
        have hk0 : (0 : Int) < (k : Int) := by omega
        have hke : ¬ k = 0 := by omega
        have hw1 : IntKind.i64.wrap ((k : Int) - 1) = (p' : Int) := by rw [IntKind.wrap_i64]; omega
        have hkT : p' < nT := by omega
        have e1 : (near == near) = true := by simp
        have e2 : ((k : Int) == 0) = false := by rw [beq_eq_false_iff_ne]; omega
        clear hkp hp hp'
        go_wp2_with fail
        refine D.out.mono ?_
        rintro e w9 ⟨rfl, rfl⟩
        go_wp2_with fail
        go_ret
        exact ⟨rfl, rfl⟩
end Go.Proofs.Ytdojalflgfacgaa
