/- Numbers; the fixed fact of layer 25. -/
import Derived.Test.YtfapghekakdpgaaGrR2
namespace Go.Proofs.Ytfapghekakdpgaa
open Go.RowKit Gr
set_option linter.unusedVariables false
theorem numbersI_any (A B : Option Addr) (n c m d : Nat) (xs ys : List Int) (w : World) (hn : n = xs.length) (hm : m = ys.length) (hb : n ≤ 100000) (hb2 : m ≤ 100000) (ha : At w A (iv xs)) (hb' : At w B (iv ys)) :
    Calls Try.prog 16 #[.slice A n c, .slice B m d] w fun e w' => e = .returned (.bool (decide (xs = ys))) ∧ ∃ q, w' = w.drewN q := by
  have HN := Lib.hid hn
  have HM := Lib.hid hm
  have HA := Lib.hid ha
  have HB := Lib.hid hb'
  clear hn hm ha hb'
  by_cases hl : n = m
  · subst hl
    go_enter Try.func16, Try.ntmps16
    go_wp2
    go_loopw [13] (fun i wr => ∃ k q : Nat, k ≤ n ∧ i = .int .i64 k ∧ wr = w.drewN q ∧ Hid (xs.take k = ys.take k)) (fun i _ => n - (intOf i).toNat)
    case atStart => exact ⟨0, 0, Nat.zero_le _, rfl, rfl, rfl⟩
    case round =>
      obtain ⟨k, q, hk, rfl, rfl, hx⟩ := hrel
      by_cases hlt : k < n
      · have hk1 : k < xs.length := by have := HN.out; omega
        have hk2 : k < ys.length := by have := HM.out; omega
        obtain ⟨b1, o1, rfl, hb1, hc1⟩ := HA.out.one (iv_at xs k hk1)
        obtain ⟨b2, o2, rfl, hb2', hc2⟩ := HB.out.one (iv_at ys k hk2)
        obtain ⟨s, hs⟩ : ∃ s, s = ats xs k := ⟨_, rfl⟩
        obtain ⟨t, ht⟩ : ∃ t, t = ats ys k := ⟨_, rfl⟩
        rw [← hs] at hc1
        rw [← ht] at hc2
        have HS := Lib.hid hs
        have HT := Lib.hid ht
        clear hs ht
        by_cases hst : s = t
        · have HX := Lib.hid hst
          have h1 : (s == t) = true := beq_iff_eq.2 hst
          clear hst
          go_wp2
          go_quiet (fail)
          go_wp2
          go_roundw
          case rel =>
            refine ⟨k + 1, _, by omega, by go_num, rfl, ?_⟩
            show xs.take (k + 1) = ys.take (k + 1)
            rw [List.take_succ_eq_append_getElem hk1, List.take_succ_eq_append_getElem hk2, hx.out]
            have h5 := HS.out
            have h6 := HT.out
            rw [show ats xs k = xs[k] by simp [ats, hk1]] at h5
            rw [show ats ys k = ys[k] by simp [ats, hk2]] at h6
            rw [← h5, ← h6, HX.out]
          case measure => simp [intOf]; omega
        · have HX := Lib.hid hst
          have h1 : (s == t) = false := beq_eq_false_iff_ne.2 hst
          clear hst
          go_wp2
          go_quiet (fail)
          go_wp2
          go_ret
          exact ⟨ret_bool' (by rw [eq_comm, decide_eq_false_iff_not]; intro e; subst e; exact HX.out (by rw [HS.out, HT.out])), _, World.drewN_drewN _ _ _⟩
      · go_wp2
        go_ret
        exact ⟨ret_bool' (by have h1 := HN.out; have h3 := HM.out; have h2 := hx.out; rw [List.take_of_length_le (by omega), List.take_of_length_le (by omega)] at h2; simp [h2]), _, rfl⟩
  · have hd : Hid (decide (xs = ys) = false) := by show decide (xs = ys) = false; rw [decide_eq_false_iff_not]; intro e; subst e; exact hl (HN.out.trans HM.out.symm)
    have hl' : ((n : Int) == (m : Int)) = false := by rw [beq_eq_false_iff_ne]; omega
    have HL := Lib.hid hl
    clear hl
    go_enter Try.func16, Try.ntmps16
    go_wp2
    go_ret
    exact ⟨ret_bool' hd.out.symm, 0, rfl⟩
theorem nv_iv (l : List Nat) : nv l = iv (l.map fun (k : Nat) => (k : Int)) := by simp [nv, iv]
theorem drewN_below {B : Nat} {a w : World} (h : Below B a w) (q : Nat) : Below B a (w.drewN q) := ⟨h.os, h.tape, h.output, h.size, h.block⟩
def aOld : List Gk := [(⟨#[97]⟩, false), (⟨#[98]⟩, true), (⟨#[99]⟩, false)]
def aKeys : List ByteArray := [⟨#[99]⟩, ⟨#[98]⟩, ⟨#[100]⟩]
theorem aTakes : tks aOld aKeys = [2, 1, -1] := by decide +kernel
theorem aLeaves : leaves aOld [2, 1, -1] = [0] := by decide +kernel
set_option maxHeartbeats 2000000 in
theorem awake25_any (w : World) : Calls Try.prog 11 #[] w fun e w' => e = .returned (.bool true) ∧ Below w.heap.size w w' := by
  have HA0 := at_new w #[.string ⟨#[97]⟩, .bool false, .string ⟨#[98]⟩, .bool true, .string ⟨#[99]⟩, .bool false] 66 w.heap.size rfl (gcs aOld) rfl
  obtain ⟨W1, hW1⟩ : ∃ W, W = w.alloc (.cells #[.string ⟨#[97]⟩, .bool false, .string ⟨#[98]⟩, .bool true, .string ⟨#[99]⟩, .bool false] 66) := ⟨_, rfl⟩
  obtain ⟨U, hU⟩ : ∃ W, W = W1.alloc (.cells #[.string ⟨#[99]⟩, .string ⟨#[98]⟩, .string ⟨#[100]⟩] 9) := ⟨_, rfl⟩
  rw [← hW1] at HA0
  have hs1 : W1.heap.size = w.heap.size + 1 := by rw [hW1]; simp
  have HA1 := Lib.hid (show At U _ (gcs aOld) by rw [hU]; exact HA0.alloc _)
  have HA2 := Lib.hid (show At U (some ⟨w.heap.size + 1, 0, none⟩) (sv aKeys) by rw [hU]; exact at_new W1 #[.string ⟨#[99]⟩, .string ⟨#[98]⟩, .string ⟨#[100]⟩] 9 (w.heap.size + 1) hs1 (sv aKeys) rfl)
  have HB := Lib.hid (show Below w.heap.size w U by rw [hU, hW1]; exact (below_alloc w _).alloc (by simp) _)
  have C1 := Lib.hid (of_any (some ⟨w.heap.size, 0, none⟩) 3 3 aOld (some ⟨w.heap.size + 1, 0, none⟩) 3 3 aKeys U rfl rfl (by omega) (by omega) HA1.out HA2.out (by intro k hk; simp [aOld] at hk; rcases hk with rfl | rfl | rfl <;> (show _ ≤ maxLen; decide)) (by intro k hk; simp [aKeys] at hk; rcases hk with rfl | rfl | rfl <;> (show _ ≤ maxLen; decide)))
  have HU : Hid (U = (w.alloc (.cells #[.string ⟨#[97]⟩, .bool false, .string ⟨#[98]⟩, .bool true, .string ⟨#[99]⟩, .bool false] 66)).alloc (.cells #[.string ⟨#[99]⟩, .string ⟨#[98]⟩, .string ⟨#[100]⟩] 9)) := by show _ = _; rw [hU, hW1]
  clear HA0 hs1 hW1 hU HA1 HA2
  go_enter Try.func11, Try.ntmps11
  go_wp2_with fail
  rw [← HU.out]
  refine C1.out.mono ?_
  rintro e w6 ⟨v1, v2, rfl, ho1, ho2, hb6⟩
  rw [aTakes] at ho1 ho2
  rw [aLeaves] at ho1
  replace ho1 : w6.ownsRow U.heap.size 3 1 v1 1 (nv [0]) := ho1
  obtain ⟨A6, c6, rfl, hc6, hm6⟩ := own_slice ho1
  obtain ⟨A7, c7, rfl, hc7, hm7⟩ := own_slice ho2
  obtain ⟨g, hg⟩ : ∃ g, g = w6.heap.size := ⟨_, rfl⟩
  obtain ⟨W7, hW7⟩ : ∃ W, W = w6.alloc (.cells #[.slice A6 1 c6, .slice A7 3 c7] 31) := ⟨_, rfl⟩
  have hb7 : Below w6.heap.size w6 W7 := by rw [hW7]; exact below_alloc w6 _
  have K7 := Lib.hid (show Blk W7 g 31 #[.slice A6 1 c6, .slice A7 3 c7] by rw [hW7, hg]; exact Blk.new w6 _ _)
  have HB7 := Lib.hid ((HB.out.trans (hb6.mono HB.out.size)).trans (hb7.mono (Nat.le_trans HB.out.size hb6.size)))
  have HT6 := Lib.hid ((At.own ho1).below hb7)
  have HT7 := Lib.hid ((At.own ho2).below hb7)
  have HG := Lib.hid hg
  have HW7 := Lib.hid hW7
  have k1 := K7.out.cell 1 (v := .slice A7 3 c7) rfl
  clear ho1 ho2 hb6 hb7 hg hW7 C1
  go_upto_region 2 with fail
  rw [← HW7.out, ← HG.out]
  have HN1 := Lib.hid (at_new W7 #[.int .i64 2, .int .i64 1, .int .i64 (-1)] 3 W7.heap.size rfl (iv [2, 1, -1]) rfl)
  go_wp2_with fail
  refine (numbersI_any A7 _ 3 c7 3 3 [2, 1, -1] [2, 1, -1] _ rfl rfl (by omega) (by omega) (HT7.out.alloc _) HN1.out).mono ?_
  rintro e w8 ⟨rfl, q, rfl⟩
  rw [decide_eq_true rfl]
  obtain ⟨X, hX⟩ : ∃ X, X = (W7.alloc (.cells #[.int .i64 2, .int .i64 1, .int .i64 (-1)] 3)).drewN q := ⟨_, rfl⟩
  have hbX : Below W7.heap.size W7 X := by rw [hX]; exact drewN_below (below_alloc W7 _) q
  have HBX := Lib.hid (HB7.out.trans (hbX.mono HB7.out.size))
  have k0 := (K7.out.below hbX).cell 0 (v := .slice A6 1 c6) rfl
  have HT8 := Lib.hid (HT6.out.below hbX)
  have HN2 := Lib.hid (at_new X #[.int .i64 0] 3 X.heap.size rfl (nv [0]) rfl)
  rw [← hX]
  clear hX hbX k1 HN1
  go_wp2_with fail
  refine (numbers_any A6 _ 1 c6 1 1 [0] [0] _ rfl rfl (by omega) (by omega) (HT8.out.alloc _) HN2.out).mono ?_
  rintro e w9 ⟨rfl, q2, rfl⟩
  rw [decide_eq_true rfl]
  go_wp2
  go_ret
  exact ⟨rfl, drewN_below (HBX.out.alloc HBX.out.size _) _⟩
end Go.Proofs.Ytfapghekakdpgaa
