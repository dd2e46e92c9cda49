/- Contract of the statements' right. -/
import Derived.Test.YtfapghekakdpgaaSlA
namespace Go.Proofs.Ytfapghekakdpgaa
open Go.RowKit Gr Go.Maps Sl
set_option linter.unusedVariables false
set_option linter.unusedSimpArgs false
namespace Sl
def OkTo (L : List Sk) (k : Nat) : Prop := ∀ i, i < k → (0 ≤ (sk L i).2 ∧ (sk L i).2 ≤ 6) ∧ ∀ j, j < i → (sk L j).1 ≠ (sk L i).1
def liveQ (L : List Sk) (i : Nat) : Bool := decide ((sk L i).2 < 4)
def Right (L : List Sk) : Prop := OkTo L L.length ∧ (wh L.length (liveQ L)).length ≤ 1
instance (L : List Sk) (k : Nat) : Decidable (OkTo L k) := by unfold OkTo; infer_instance
instance (L : List Sk) : Decidable (Right L) := by unfold Right; infer_instance
theorem OkTo.next {L : List Sk} {k : Nat} (h : OkTo L k) (h1 : 0 ≤ (sk L k).2 ∧ (sk L k).2 ≤ 6) (h2 : ∀ j, j < k → (sk L j).1 ≠ (sk L k).1) : OkTo L (k + 1) := fun i hi => by
  by_cases e : i = k
  · subst e; exact ⟨h1, h2⟩
  · exact h i (by omega)
theorem not_right {L : List Sk} {k : Nat} (hk : k < L.length) (h : ¬ ((0 ≤ (sk L k).2 ∧ (sk L k).2 ≤ 6) ∧ ∀ j, j < k → (sk L j).1 ≠ (sk L k).1)) : decide (Right L) = false := decide_eq_false (fun hr => h (hr.1 k hk))
end Sl
set_option maxHeartbeats 4000000 in
set_option maxRecDepth 100000 in
theorem right_any (A : Option Addr) (n c : Nat) (L : List Sk) (w : World) (hn : n = L.length) (hm : n ≤ 1000) (hnc : n ≤ c) (hc : c ≤ maxLen) (ha : At w A (scs L)) :
    Calls Try.prog 31 #[.slice A n c] w fun e w' => e = .returned (.bool (decide (Right L))) ∧ Below w.heap.size w w' := by
  unfold maxLen at hc
  have HN := Lib.hid hn
  have HA := Lib.hid ha
  clear hn ha
  obtain ⟨rr, hrr⟩ : ∃ b, b = decide (Right L) := ⟨_, rfl⟩
  rw [← hrr]
  have HR := Lib.hid hrr
  clear hrr
  go_enter Try.func31, Try.ntmps31
  go_wp2
  go_loopw [3, 10] (fun v i wr => ∃ k q : Nat, k ≤ n ∧ q ≤ k ∧ i = .int .i64 k ∧ v = .int .i64 q ∧ Hid (q = (wh k (liveQ L)).length) ∧ Hid (OkTo L k) ∧ Hid (Below w.heap.size w wr)) (fun _ i _ => n - (intOf i).toNat)
  case atStart => exact ⟨0, 0, Nat.zero_le _, Nat.le_refl _, rfl, rfl, rfl, Lib.hid (fun i h => absurd h (Nat.not_lt_zero _)), Below.refl _ _⟩
  case round =>
    obtain ⟨k, q, hk, hqk, rfl, rfl, hq, hok, hbel⟩ := hrel
    by_cases hlt : k < n
    · have hk' : k < L.length := by have := HN.out; omega
      obtain ⟨b1, o1, hAe, hb1, hc0, hc1⟩ := at_sk HA.out hk'
      have hd0 := ((below_cells hbel.out).1 b1 (o1 + k * 2) hb1).trans hc0
      have hd1 := ((below_cells hbel.out).1 b1 (o1 + k * 2 + 1) hb1).trans hc1
      have hnr := @not_right L k hk'
      have hnx := @OkTo.next L k hok.out
      have hlv := wh_next k (liveQ L)
      have hlq : liveQ L k = decide ((sk L k).2 < 4) := rfl
      rw [hlq] at hlv
      obtain ⟨s, hs⟩ : ∃ s, s = (sk L k).1 := ⟨_, rfl⟩
      obtain ⟨z, hz⟩ : ∃ s, s = (sk L k).2 := ⟨_, rfl⟩
      rw [← hs] at hd0 hnr hnx
      rw [← hz] at hd1 hnr hnx hlv
      rw [← HR.out] at hnr
      have hwr := hbel.out.size
      obtain ⟨gk, hgk⟩ : ∃ g, g = wr.heap.size := ⟨_, rfl⟩
      obtain ⟨W3, hW3⟩ : ∃ W, W = wr.alloc (.cells #[.string s, .int .i64 z] 63) := ⟨_, rfl⟩
      have K3 := Lib.hid (show Blk W3 gk 63 #[.string s, .int .i64 z] by rw [hW3, hgk]; exact Blk.new wr _ _)
      have q0 := K3.out.cell 0 (v := .string s) rfl
      have q1 := K3.out.cell 1 (v := .int .i64 z) rfl
      have HB3 := Lib.hid (show Below w.heap.size w W3 by rw [hW3]; exact hbel.out.alloc hwr _)
      have HW3 := Lib.hid hW3
      have HGK := Lib.hid hgk
      have HNR := Lib.hid hnr
      have HNX := Lib.hid hnx
      have HLV := Lib.hid hlv
      have HS := Lib.hid hs
      subst hAe
      clear hc0 hc1 hW3 hgk hnr hnx hlv hlq hs hz hbel hok
      by_cases z0 : z < 0
      · have e0 : decide (z < 0) = true := decide_eq_true z0
        have HF : Hid (rr = false) := HNR.out (fun h => by omega)
        clear z0
        go_upto_region 5 with fail
        rw [← HW3.out, ← HGK.out]
        go_wp2
        go_ret
        exact ⟨by rw [HF.out]; rfl, HB3.out⟩
      · by_cases z6 : 6 < z
        · have HF : Hid (rr = false) := HNR.out (fun h => by omega)
          go_upto_region 5 with fail
          rw [← HW3.out, ← HGK.out]
          go_wp2
          go_ret
          exact ⟨by rw [HF.out]; rfl, HB3.out⟩
        · have HZ : Hid (0 ≤ z ∧ z ≤ 6) := by constructor <;> omega
          obtain ⟨q2, hq2, hq3⟩ : ∃ q2 : Nat, q2 ≤ k + 1 ∧ q2 = (wh (k + 1) (liveQ L)).length := ⟨_, wh_le _ _, rfl⟩
          have HQ2 := Lib.hid hq3
          by_cases z4 : z < 4
          · have hqq : q2 = q + 1 := by rw [hq3, HLV.out, decide_eq_true z4, if_pos rfl, List.length_append, ← hq.out]; rfl
            subst hqq
            clear hq3
            go_upto_region 5 with fail
            rw [← HW3.out, ← HGK.out]
            go_upto_region 10 with fail
            go_loopw [32] (fun i wz => ∃ j : Nat, j ≤ k ∧ i = .int .i64 j ∧ Hid (∀ t, t < j → (sk L t).1 ≠ s) ∧ Hid (Below W3.heap.size W3 wz)) (fun i _ => k - (intOf i).toNat)
            case atStart => exact ⟨0, Nat.zero_le _, rfl, Lib.hid (fun t h => absurd h (Nat.not_lt_zero _)), Below.refl _ _⟩
            case round =>
              obtain ⟨j, hj, rfl, hno, hbj⟩ := hrel
              have HBJ := Lib.hid (HB3.out.trans (hbj.out.mono HB3.out.size))
              by_cases hjk : j < k
              · obtain ⟨b2, o2, hA2, hb2, hc2, hc3⟩ := at_sk HA.out (k := j) (by have := HN.out; omega)
                injection hA2 with e2
                injection e2 with e3 e4
                subst e3 e4
                have hd2 := (HBJ.out.cell (p := ⟨b1, o1 + j * 2, none⟩) hb2).trans hc2
                have hd3 := (HBJ.out.cell (p := ⟨b1, o1 + j * 2 + 1, none⟩) hb2).trans hc3
                obtain ⟨s2, hs2⟩ : ∃ s, s = (sk L j).1 := ⟨_, rfl⟩
                rw [← hs2] at hd2
                generalize (sk L j).2 = z2 at *
                have HS2 := Lib.hid hs2
                have hwj := hbj.out.size
                obtain ⟨gj, hgj⟩ : ∃ g, g = wr.heap.size := ⟨_, rfl⟩
                obtain ⟨W5, hW5⟩ : ∃ W, W = wr.alloc (.cells #[.string s2, .int .i64 z2] 63) := ⟨_, rfl⟩
                have hb5 : Below wr.heap.size wr W5 := by rw [hW5]; exact below_alloc _ _
                have K5 := Lib.hid (show Blk W5 gj 63 #[.string s2, .int .i64 z2] by rw [hW5, hgj]; exact Blk.new wr _ _)
                have t0 := K5.out.cell 0 (v := .string s2) rfl
                have t1 := ((K3.out.below hbj.out).below hb5).cell 0 (v := .string s) rfl
                have HB5 := Lib.hid (hbj.out.trans (hb5.mono hwj))
                have HBK := Lib.hid (HB3.out.trans (HB5.out.mono HB3.out.size))
                have HW5 := Lib.hid hW5
                have HGJ := Lib.hid hgj
                clear hs2 hgj hW5 hb5 hc2 hc3
                by_cases he : s2 = s
                · have hst : (s2.toList == s.toList) = true := by rw [he]; simp
                  have HF : Hid (rr = false) := HNR.out (fun h => h.2 j hjk (by rw [← HS2.out]; exact he))
                  clear he
                  go_upto_region 12 with fail
                  rw [← HW5.out, ← HGJ.out]
                  go_wp2
                  go_ret
                  exact ⟨by rw [HF.out]; rfl, HBK.out⟩
                · have hst : (s2.toList == s.toList) = false := M.str_no he
                  have HE := Lib.hid he
                  clear he
                  go_upto_region 12 with fail
                  rw [← HW5.out, ← HGJ.out]
                  go_wp2
                  go_roundw
                  case rel => exact ⟨j + 1, by omega, by go_num, Lib.hid (fun t ht => by
                    by_cases e : t = j
                    · subst e; rw [← HS2.out]; exact HE.out
                    · exact hno.out t (by omega)), HB5⟩
                  case measure => simp [intOf]; omega
              · obtain rfl : k = j := by omega
                have HOK := Lib.hid (HNX.out HZ.out hno.out)
                go_wp2
                go_roundw
                case rel => exact ⟨k + 1, q + 1, by omega, by omega, by go_num, by first | rfl | go_num, HQ2, HOK, HBJ⟩
                case measure => simp [intOf]; omega
          · have hqq : q2 = q := by rw [hq3, HLV.out, decide_eq_false z4, if_neg (by simp), ← hq.out]
            subst hqq
            clear hq3
            go_upto_region 5 with fail
            rw [← HW3.out, ← HGK.out]
            go_upto_region 10 with fail
            go_loopw [32] (fun i wz => ∃ j : Nat, j ≤ k ∧ i = .int .i64 j ∧ Hid (∀ t, t < j → (sk L t).1 ≠ s) ∧ Hid (Below W3.heap.size W3 wz)) (fun i _ => k - (intOf i).toNat)
            case atStart => exact ⟨0, Nat.zero_le _, rfl, Lib.hid (fun t h => absurd h (Nat.not_lt_zero _)), Below.refl _ _⟩
            case round =>
              obtain ⟨j, hj, rfl, hno, hbj⟩ := hrel
              have HBJ := Lib.hid (HB3.out.trans (hbj.out.mono HB3.out.size))
              by_cases hjk : j < k
              · obtain ⟨b2, o2, hA2, hb2, hc2, hc3⟩ := at_sk HA.out (k := j) (by have := HN.out; omega)
                injection hA2 with e2
                injection e2 with e3 e4
                subst e3 e4
                have hd2 := (HBJ.out.cell (p := ⟨b1, o1 + j * 2, none⟩) hb2).trans hc2
                have hd3 := (HBJ.out.cell (p := ⟨b1, o1 + j * 2 + 1, none⟩) hb2).trans hc3
                obtain ⟨s2, hs2⟩ : ∃ s, s = (sk L j).1 := ⟨_, rfl⟩
                rw [← hs2] at hd2
                generalize (sk L j).2 = z2 at *
                have HS2 := Lib.hid hs2
                have hwj := hbj.out.size
                obtain ⟨gj, hgj⟩ : ∃ g, g = wr.heap.size := ⟨_, rfl⟩
                obtain ⟨W5, hW5⟩ : ∃ W, W = wr.alloc (.cells #[.string s2, .int .i64 z2] 63) := ⟨_, rfl⟩
                have hb5 : Below wr.heap.size wr W5 := by rw [hW5]; exact below_alloc _ _
                have K5 := Lib.hid (show Blk W5 gj 63 #[.string s2, .int .i64 z2] by rw [hW5, hgj]; exact Blk.new wr _ _)
                have t0 := K5.out.cell 0 (v := .string s2) rfl
                have t1 := ((K3.out.below hbj.out).below hb5).cell 0 (v := .string s) rfl
                have HB5 := Lib.hid (hbj.out.trans (hb5.mono hwj))
                have HBK := Lib.hid (HB3.out.trans (HB5.out.mono HB3.out.size))
                have HW5 := Lib.hid hW5
                have HGJ := Lib.hid hgj
                clear hs2 hgj hW5 hb5 hc2 hc3
                by_cases he : s2 = s
                · have hst : (s2.toList == s.toList) = true := by rw [he]; simp
                  have HF : Hid (rr = false) := HNR.out (fun h => h.2 j hjk (by rw [← HS2.out]; exact he))
                  clear he
                  go_upto_region 12 with fail
                  rw [← HW5.out, ← HGJ.out]
                  go_wp2
                  go_ret
                  exact ⟨by rw [HF.out]; rfl, HBK.out⟩
                · have hst : (s2.toList == s.toList) = false := M.str_no he
                  have HE := Lib.hid he
                  clear he
                  go_upto_region 12 with fail
                  rw [← HW5.out, ← HGJ.out]
                  go_wp2
                  go_roundw
                  case rel => exact ⟨j + 1, by omega, by go_num, Lib.hid (fun t ht => by
                    by_cases e : t = j
                    · subst e; rw [← HS2.out]; exact HE.out
                    · exact hno.out t (by omega)), HB5⟩
                  case measure => simp [intOf]; omega
              · obtain rfl : k = j := by omega
                have HOK := Lib.hid (HNX.out HZ.out hno.out)
                go_wp2
                go_roundw
                case rel => exact ⟨k + 1, q2, by omega, by omega, by go_num, by first | rfl | go_num, HQ2, HOK, HBJ⟩
                case measure => simp [intOf]; omega
    · obtain rfl : n = k := by omega
      have HF : Hid (rr = decide (q ≤ 1)) := by
        show _ = _
        rw [HR.out]
        apply decide_eq_decide.2
        unfold Right
        rw [← HN.out, ← hq.out]
        exact ⟨fun h => h.2, fun h => ⟨hok.out, h⟩⟩
      go_wp2
      go_ret
      exact ⟨by rw [HF.out]; exact ret_bool' (decide_eq_decide.2 (by omega)), hbel.out⟩
end Go.Proofs.Ytfapghekakdpgaa
