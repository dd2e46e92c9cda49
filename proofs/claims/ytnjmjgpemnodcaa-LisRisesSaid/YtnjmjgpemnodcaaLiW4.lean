/- Contracts of lis.Len, the statements' fixed facts, and of the document's own answers. -/
import Derived.Test.YtnjmjgpemnodcaaLiW3
namespace Go.Proofs.Ytnjmjgpemnodcaa
open Go.RowKit Li
theorem drewN_below {B : Nat} {a w : World} (h : Below B a w) (q : Nat) : Below B a (w.drewN q) := ⟨h.os, h.tape, h.output, h.size, h.block⟩
theorem len_any (A : Option Addr) (n c : Nat) (l : List Int) (w : World) (hn : n = l.length) (hm : n ≤ 1000) (ha : At w A (iv l)) :
    Calls Try.prog 12 #[.slice A n c] w fun e w' => e = .returned (.int .i64 (top (ats l) n : Int)) ∧ Below w.heap.size w w' := by
  have HC := Lib.hid (of_any A n c l w hn hm ha)
  have hmx := top_le (ats l) n
  clear hn ha
  go_enter Try.func12, Try.ntmps12
  go_wp2_with (go_at_call 10; (with_reducible refine HC.out.mono ?_); rintro e w6 ⟨v, r, rfl, hr, hown, hb⟩; obtain ⟨A6, c6, rfl, h6, h7⟩ := own_slice hown; have HB := Lib.hid hb; clear hown hb)
  go_ret
  exact ⟨by rw [hr.out.1]; rfl, HB.out⟩
theorem row5 : IsRow (ats [3, 1, 2, 5, 4]) 5 [1, 2, 4] := by
  refine ⟨by decide +kernel, fun k hk => ?_, fun k hk => ?_⟩
  · have : k = 2 := by simp at hk; omega
    subst this
    exact ⟨by decide, by decide +kernel, trivial, by decide +kernel⟩
  · have : k = 0 ∨ k = 1 := by simp at hk; omega
    rcases this with rfl | rfl
    · exact ⟨by decide, by decide +kernel, by decide +kernel, by decide +kernel⟩
    · exact ⟨by decide, by decide +kernel, by decide +kernel, by decide +kernel⟩
theorem awake_any (w : World) : Calls Try.prog 7 #[] w fun e w' => e = .returned (.bool true) ∧ Below w.heap.size w w' := by
  have HA1 := Lib.hid (at_new w #[.int .i64 3, .int .i64 1, .int .i64 2, .int .i64 5, .int .i64 4] 3 w.heap.size rfl (iv [3, 1, 2, 5, 4]) rfl)
  go_enter Try.func7, Try.ntmps7
  go_wp2_with (first | (go_at_call 10; (with_reducible refine (of_any _ 5 5 [3, 1, 2, 5, 4] _ rfl (by simp) HA1.out).mono ?_); rintro e w6 ⟨v, r, rfl, hr, hown, hb⟩; obtain rfl := hr.out.uniq row5; obtain ⟨A6, c6, rfl, h6, h7⟩ := own_slice hown; have HAT := Lib.hid ((At.own hown).alloc (.cells #[.int .i64 1, .int .i64 2, .int .i64 4] 3)); have HB := Lib.hid hb; have HA2 := Lib.hid (at_new w6 #[.int .i64 1, .int .i64 2, .int .i64 4] 3 w6.heap.size rfl (nv [1, 2, 4]) rfl); clear hown hb) | (go_at_call 9; (with_reducible refine (numbers_any A6 _ 3 c6 3 3 [1, 2, 4] [1, 2, 4] _ rfl rfl (by simp) (by simp) HAT.out HA2.out).mono ?_); rintro e w7 ⟨rfl, q, rfl⟩) | (go_at_call 12; (with_reducible refine (len_any none 0 0 [] _ rfl (by omega) (At.nil _ _)).mono ?_); rintro e w8 ⟨rfl, hb8⟩; have HB8 := Lib.hid hb8; clear hb8))
  go_ret
  have X1 := (below_alloc w (.cells #[.int .i64 3, .int .i64 1, .int .i64 2, .int .i64 5, .int .i64 4] 3)).trans (HB.out.mono (below_alloc w _).size)
  have X2 := X1.alloc X1.size (.cells #[.int .i64 1, .int .i64 2, .int .i64 4] 3)
  have X3 := drewN_below X2 q
  exact ⟨by simp [top], X3.trans (HB8.out.mono X3.size)⟩
set_option maxHeartbeats 1000000 in
theorem lens_any (A : Option Addr) (n c : Nat) (l : List Int) (w : World) (hn : n = l.length) (hm : n ≤ 1000) (ha : At w A (iv l)) :
    Calls Try.prog 19 #[.slice A n c] w fun e w' => ∃ v, e = .returned v ∧ w'.ownsRow w.heap.size 3 1 v n (nv (lens (ats l) n)) ∧ Below w.heap.size w w' := by
  have HN := Lib.hid hn
  have HA := Lib.hid ha
  obtain ⟨i0, hi, hz0, hz1, hz2⟩ := info_parts infoInt
  have HO := Lib.hid (own_made (base := w.heap.size) (e := 3) (size := 1) w w.heap.size rfl (Nat.le_refl _))
  clear hn ha
  go_enter Try.func19, Try.ntmps19
  go_wp2
  go_loopw [3, 11] (fun v i wr => ∃ k : Nat, k ≤ n ∧ i = .int .i64 k ∧ Hid (wr.ownsRow w.heap.size 3 1 v k (nv (lens (ats l) k))) ∧ Hid (Below w.heap.size w wr)) (fun _ i _ => n - (intOf i).toNat)
  case atStart => exact ⟨0, Nat.zero_le _, rfl, HO, below_alloc _ _⟩
  case round =>
    obtain ⟨k, hk, rfl, hown, hbel⟩ := hrel
    by_cases hlt : k < n
    · have hk' : k < l.length := by have := HN.out; omega
      obtain ⟨b1, o1, rfl, hb1, hc1⟩ := HA.out.one (iv_at l k hk')
      have hc := (below_cells hbel.out).1 b1 (o1 + k) hb1
      rw [hc1] at hc
      obtain ⟨x, hx⟩ : ∃ x, x = ats l k := ⟨_, rfl⟩
      rw [← hx] at hc
      have HX := Lib.hid hx
      have HC := Lib.hid hc1
      clear hx hc1
      obtain ⟨AE, cE, rfl, hcE, hcE2⟩ := own_slice hown.out
      go_wp2
      go_loop [6, 7] (fun s j => ∃ q : Nat, q ≤ k ∧ j = .int .i64 q ∧ s = .int .i64 (nx (ats l) (lens (ats l) k) k q : Int)) (fun _ j => k - (intOf j).toNat)
      case atStart => exact ⟨0, Nat.zero_le _, rfl, rfl⟩
      case round =>
        obtain ⟨q, hq, rfl, rfl⟩ := hrel
        by_cases hqk : q < k
        · obtain ⟨b2, o2, hA2, hb2, hc2⟩ := HA.out.one (iv_at l q (by omega))
          injection hA2 with hA2
          injection hA2 with hA21 hA22
          subst hA21 hA22
          have hd := (below_cells hbel.out).1 b1 (o1 + q) hb1
          rw [hc2] at hd
          obtain ⟨y, hy⟩ : ∃ y, y = ats l q := ⟨_, rfl⟩
          rw [← hy] at hd
          have HY := Lib.hid hy
          have HC2 := Lib.hid hc2
          clear hy hc2
          have hlq : q < (lens (ats l) k).length := by rw [lens_len]; exact hqk
          obtain ⟨b3, o3, rfl, hb3, hc3⟩ := (At.own hown.out).one (nv_at (lens (ats l) k) q hlq)
          obtain ⟨z, hz⟩ : ∃ z, z = (lens (ats l) k).getD q 0 := ⟨_, rfl⟩
          rw [← hz] at hc3
          obtain ⟨s, hs⟩ : ∃ s, s = nx (ats l) (lens (ats l) k) k q := ⟨_, rfl⟩
          have hzk : z ≤ 1000 := by rw [hz, lens_getD _ _ _ hqk]; have := N_le (ats l) q; omega
          have HN1 : Hid (nx (ats l) (lens (ats l) k) k (q + 1) = if y < x ∧ s ≤ z then z + 1 else s) := by show _ = _; rw [HY.out, HX.out, hs, hz]; rfl
          rw [← hs]
          have HZ := Lib.hid hz
          have HS := Lib.hid hs
          clear hz hs
          by_cases h1 : y < x
          · by_cases h2 : s ≤ z
            · have h3 : (s : Int) ≤ (z : Int) := by omega
              have HN2 : Hid (nx (ats l) (lens (ats l) k) k (q + 1) = z + 1) := by show _ = _; rw [HN1.out, if_pos ⟨h1, h2⟩]
              go_wp2
              go_round
              case rel => exact ⟨q + 1, by omega, by go_num, by rw [HN2.out]; go_num⟩
              case measure => simp [intOf]; omega
            · have h3 : ¬ (s : Int) ≤ (z : Int) := by omega
              have HN2 : Hid (nx (ats l) (lens (ats l) k) k (q + 1) = s) := by show _ = _; rw [HN1.out, if_neg (fun h => h2 h.2)]
              go_wp2
              go_round
              case rel => exact ⟨q + 1, by omega, by go_num, by rw [HN2.out]⟩
              case measure => simp [intOf]; omega
          · have HN2 : Hid (nx (ats l) (lens (ats l) k) k (q + 1) = s) := by show _ = _; rw [HN1.out, if_neg (fun h => h1 h.1)]
            go_wp2
            go_round
            case rel => exact ⟨q + 1, by omega, by go_num, by rw [HN2.out]⟩
            case measure => simp [intOf]; omega
        · obtain rfl : q = k := by omega
          have hwr := hbel.out.size
          have HE : Hid (nx (ats l) (lens (ats l) q) q q = N (ats l) q) := rfl
          obtain ⟨s, hs⟩ : ∃ s, s = nx (ats l) (lens (ats l) q) q q := ⟨_, rfl⟩
          rw [← hs]
          have HS := Lib.hid hs
          clear hs
          go_wp2_with (at_builtin; refine wpList_append_own _ rfl _ _ 22 rfl w.heap.size 3 i0 (.int .i64 0) 1 8 Try.underlying22 hi hz0 hz1 hz2 rfl (by decide) _ _ _ rfl (hown.out.alloc _) ⟨_, 0, none⟩ 1 1 [.int .i64 (s : Int)] rfl rfl (cell_one_new _ _ _) (nv_one [s]) (by unfold maxLen; omega) (by omega) (by simp; omega) ?_; intro v1 w1 hown1 hgrow1 _hnil1; have HO1 := Lib.hid hown1; have HG1 := Lib.hid hgrow1; clear hown1 hgrow1 _hnil1)
          go_roundw
          case rel => exact ⟨q + 1, by omega, by go_num, by show World.ownsRow _ _ _ _ _ _ _; rw [lens_succ, nv_app, ← HE.out, ← HS.out]; exact HO1.out, (hbel.out.alloc hwr _).grown HG1.out (by simp; omega) (own_from hown.out)⟩
          case measure => simp [intOf]; omega
    · obtain rfl : k = n := by omega
      go_wp2
      go_ret
      exact ⟨_, rfl, hown.out, hbel.out⟩
end Go.Proofs.Ytnjmjgpemnodcaa
