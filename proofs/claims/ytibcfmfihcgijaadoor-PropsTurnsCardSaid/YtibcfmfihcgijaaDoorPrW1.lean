/- Contracts of layer 4's statements' own helpers: Few, Own, Is. -/
import Derived.Test.YtibcfmfihcgijaaDoorPrMath
import Derived.Test.YtibcfmfihcgijaaDoorClW1
import Derived.Test.YtibcfmfihcgijaaDoorAppAt
import Derived.Deep.RegionHeld3
import Derived.Deep.RegionLaw
import Derived.StillTactics
namespace Go.Proofs.YtibcfmfihcgijaaDoor
open Go.RowKit M
theorem infoPar : (Tryd.prog.info? 38).map (fun i => (i.zero, i.size, i.bytes)) = some (some (.agg #[.string { data := #[] }, .int .i64 0]), 2, 24) := by kernel_rfl
theorem infoPPar : (Tryd.prog.info? 68).map (fun i => (i.zero, i.size, i.bytes)) = some (some (.agg #[.string { data := #[] }, .int .i64 0]), 2, 24) := by kernel_rfl
theorem at_pair {w : World} {A : Option Addr} {L : List Par} (h : At w A (pv L)) {k : Nat} (hk : k < L.length) :
    ∃ b off, A = some ⟨b, off, none⟩ ∧ b < w.heap.size ∧ w.cell? ⟨b, off + k * 2, none⟩ = some (.string L[k].1) ∧ w.cell? ⟨b, off + k * 2 + 1, none⟩ = some (.int .i64 L[k].2) := by
  obtain ⟨h1, h2⟩ := pv_at L k hk
  obtain ⟨b, off, e, hb, hc⟩ := h (fun e => by rw [e] at h1; cases h1)
  exact ⟨b, off, e, hb, hc _ _ h1, hc _ _ h2⟩
set_option maxRecDepth 100000 in
theorem own4_any (A : Option Addr) (n c : Nat) (l : List Par) (w : World) (hn : n = l.length) (hm : n ≤ 100000) (ha : At w A (pv l)) :
    Calls Tryd.prog 9 #[.slice A n c] w fun e w' => ∃ v, e = .returned v ∧ w'.ownsRow w.heap.size 68 2 v n (pv l) ∧ Below w.heap.size w w' := by
  have HN := Lib.hid hn
  have HA := Lib.hid ha
  clear hn ha
  obtain ⟨i0, hi, hz0, hz1, hz2⟩ := info_parts infoPPar
  go_enter Tryd.func9, Tryd.ntmps9
  go_wp2
  go_loopw [3, 8] (fun v i wr => ∃ k : Nat, k ≤ n ∧ i = .int .i64 k ∧ Hid (wr.ownsRow w.heap.size 68 2 v k (pv (l.take k))) ∧ Below w.heap.size w wr) (fun _ i _ => n - (intOf i).toNat)
  case atStart => exact ⟨0, Nat.zero_le _, rfl, World.ownsRow_nil _ _ _ _, Below.refl _ _⟩
  case round =>
    obtain ⟨k, hk, rfl, hown, hbel⟩ := hrel
    by_cases hlt : k < n
    · have hk1 : k < l.length := by have := HN.out; omega
      obtain ⟨b, off, rfl, hlb, hc0, hc1⟩ := at_pair HA.out hk1
      have hd0 := (below_cells hbel).1 b (off + k * 2) hlb
      have hd1 := (below_cells hbel).1 b (off + k * 2 + 1) hlb
      rw [hc0] at hd0
      rw [hc1] at hd1
      clear hc0 hc1
      have hX : pv (l.take (k + 1)) = pv (l.take k) ++ [.string l[k].1, .int .i64 l[k].2] := by rw [take_next l k hk1, pv_app]; rfl
      obtain ⟨x, hx⟩ : ∃ x, x = l[k].1 := ⟨_, rfl⟩
      obtain ⟨z, hz⟩ : ∃ z, z = l[k].2 := ⟨_, rfl⟩
      rw [← hx] at hd0 hX
      rw [← hz] at hd1 hX
      have HX := Lib.hid hX
      clear hx hz hX
      have hsz := hbel.size
      go_wp2_with (at_builtin; refine wpList_append_own _ rfl _ _ 27 rfl w.heap.size 68 i0 (.agg #[.string { data := #[] }, .int .i64 0]) 2 24 Tryd.underlying27 hi hz0 hz1 hz2 rfl (by decide) _ _ _ rfl ((hown.out.alloc _).alloc _) ⟨_, 0, none⟩ 1 1 [.string x, .int .i64 z] rfl rfl (cells_new' _ _ _ _ rfl _ (by simp)) (pv_one [(x, z)]) (by unfold maxLen; omega) (by omega) (by simp; omega) ?_; intro v1 w1 hown1 hgrow1 _hnil1; have HO := Lib.hid hown1; have HG := Lib.hid hgrow1; clear hown1 hgrow1 _hnil1)
      go_roundw
      case rel => exact ⟨k + 1, by omega, by go_num, by show World.ownsRow _ _ _ _ _ _ _; rw [HX.out]; exact HO.out, ((hbel.alloc hsz _).alloc (by simp; omega) _).grown HG.out (by simp; omega) (own_from hown.out)⟩
      case measure => simp [intOf]; omega
    · obtain rfl : k = n := by omega
      go_wp2
      go_ret
      exact ⟨_, rfl, by have h1 := hown.out
                        rw [List.take_of_length_le (by have := HN.out; omega)] at h1; exact h1, hbel⟩
set_option maxHeartbeats 1000000 in
set_option maxRecDepth 100000 in
theorem is_any (A B : Option Addr) (n c m d : Nat) (xs ys : List Par) (w : World) (hn : n = xs.length) (hm : m = ys.length) (hb : n ≤ maxLen) (hb2 : m ≤ maxLen) (ha : At w A (pv xs)) (hb' : At w B (pv ys)) :
    Calls Tryd.prog 14 #[.slice A n c, .slice B m d] w fun e w' => e = .returned (.bool (decide (xs = ys))) ∧ ∃ q, w' = w.drewN q := by
  unfold maxLen at hb hb2
  have HN := Lib.hid hn
  have HM := Lib.hid hm
  have HA := Lib.hid ha
  have HB := Lib.hid hb'
  clear hn hm ha hb'
  by_cases hl : n = m
  · subst hl
    go_enter Tryd.func14, Tryd.ntmps14
    go_wp2
    go_loopw [13] (fun i wr => ∃ k q : Nat, k ≤ n ∧ i = .int .i64 k ∧ wr = w.drewN q ∧ Hid (xs.take k = ys.take k)) (fun i _ => n - (intOf i).toNat)
    case atStart => exact ⟨0, 0, Nat.zero_le _, rfl, rfl, rfl⟩
    case round =>
      obtain ⟨k, q, hk, rfl, rfl, hx⟩ := hrel
      by_cases hlt : k < n
      · have hk1 : k < xs.length := by have := HN.out; omega
        have hk2 : k < ys.length := by have := HM.out; omega
        obtain ⟨b1, o1, rfl, hb1, hc1, hc1'⟩ := at_pair HA.out hk1
        obtain ⟨b2, o2, rfl, hb2', hc2, hc2'⟩ := at_pair HB.out hk2
        have hst0 := take_next xs k hk1
        have hst1 := take_next ys k hk2
        obtain ⟨p, hp⟩ : ∃ p, p = xs[k] := ⟨_, rfl⟩
        obtain ⟨r, hr⟩ : ∃ r, r = ys[k] := ⟨_, rfl⟩
        rw [← hp] at hc1 hc1' hst0
        rw [← hr] at hc2 hc2' hst1
        have HP := Lib.hid hp
        have HR := Lib.hid hr
        have H0 := Lib.hid hst0
        have H1 := Lib.hid hst1
        clear hp hr hst0 hst1
        obtain ⟨s, u⟩ := p
        obtain ⟨t, v⟩ := r
        by_cases hst : s = t
        · have h1 := str_yes hst
          have HX := Lib.hid hst
          clear hst
          by_cases huv : u = v
          · have h2 : (u == v) = true := beq_iff_eq.2 huv
            have HV := Lib.hid huv
            clear huv
            go_wp2
            go_quiet (fail)
            go_wp2
            go_roundw
            case rel => exact ⟨k + 1, _, by omega, by go_num, rfl, by show _ = _; rw [H0.out, H1.out, hx.out, HX.out, HV.out]⟩
            case measure => simp [intOf]; omega
          · have h2 : (u == v) = false := beq_eq_false_iff_ne.2 huv
            have HV := Lib.hid huv
            clear huv
            go_wp2
            go_quiet (fail)
            go_wp2
            go_ret
            exact ⟨ret_bool' (by rw [eq_comm, decide_eq_false_iff_not]; intro e; subst e; exact HV.out (congrArg Prod.snd (HP.out.trans HR.out.symm))), _, World.drewN_drewN _ _ _⟩
        · have h1 := str_no hst
          have HX := Lib.hid hst
          clear hst
          go_wp2
          go_quiet (fail)
          go_wp2
          go_ret
          exact ⟨ret_bool' (by rw [eq_comm, decide_eq_false_iff_not]; intro e; subst e; exact HX.out (congrArg Prod.fst (HP.out.trans HR.out.symm))), _, World.drewN_drewN _ _ _⟩
      · go_wp2
        go_ret
        exact ⟨ret_bool' (by have h1 := HN.out; have h3 := HM.out; have h2 := hx.out; rw [List.take_of_length_le (by omega), List.take_of_length_le (by omega)] at h2; simp [h2]), _, rfl⟩
  · have hd : Hid (decide (xs = ys) = false) := by show decide (xs = ys) = false; rw [decide_eq_false_iff_not]; intro e; subst e; exact hl (HN.out.trans HM.out.symm)
    have hl' : ((n : Int) == (m : Int)) = false := by rw [beq_eq_false_iff_ne]; omega
    have HL := Lib.hid hl
    clear hl
    go_enter Tryd.func14, Tryd.ntmps14
    go_wp2
    go_ret
    exact ⟨ret_bool' hd.out.symm, 0, rfl⟩
end Go.Proofs.YtibcfmfihcgijaaDoor
