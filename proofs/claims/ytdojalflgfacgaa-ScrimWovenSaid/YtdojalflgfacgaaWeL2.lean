/- The document's Lens and Len (as in XLiW4, XLiW5). -/
import Derived.Test.YtdojalflgfacgaaLiW3
import Derived.Test.YtdojalflgfacgaaAppAt
namespace Go.Proofs.Ytdojalflgfacgaa
open Go.RowKit Li
theorem drewN_below {B : Nat} {a w : World} (h : Below B a w) (q : Nat) : Below B a (w.drewN q) := ⟨h.os, h.tape, h.output, h.size, h.block⟩
set_option maxHeartbeats 1000000 in
theorem lens_any (A : Option Addr) (n c : Nat) (l : List Int) (w : World) (hn : n = l.length) (hm : n ≤ 1000) (ha : At w A (iv l)) :
    Calls Try.prog 34 #[.slice A n c] w fun e w' => ∃ v, e = .returned v ∧ w'.ownsRow w.heap.size 3 1 v n (nv (lens (ats l) n)) ∧ Below w.heap.size w w' := by
  have HN := Lib.hid hn
  have HA := Lib.hid ha
  obtain ⟨i0, hi, hz0, hz1, hz2⟩ := info_parts infoInt
  have HO := Lib.hid (own_made (base := w.heap.size) (e := 3) (size := 1) w w.heap.size rfl (Nat.le_refl _))
  clear hn ha
  go_enter Try.func34, Try.ntmps34
  go_wp2
  go_loopw [3, 11] (fun v i wr => ∃ k : Nat, k ≤ n ∧ i = .int .i64 k ∧ Hid (wr.ownsRow w.heap.size 3 1 v k (nv (lens (ats l) k))) ∧ Hid (Below w.heap.size w wr)) (fun _ i _ => n - (intOf i).toNat)
  case atStart => exact ⟨0, Nat.zero_le _, rfl, HO, below_alloc _ _⟩
  case round =>
    obtain ⟨k, hk, rfl, hown, hbel⟩ := hrel
    by_cases hlt : k < n
    · have hk' : k < l.length := by have := HN.out; omega
      obtain ⟨b1, o1, rfl, hb1, hc1⟩ := HA.out.one (iv_at l k hk')
      have hc := (below_cells hbel.out).1 b1 (o1 + k) hb1
      rw [hc1] at hc
      obtain ⟨x, hx⟩ : ∃ x, x = ats l k := ⟨_, rfl⟩
      rw [← hx] at hc
      have HX := Lib.hid hx
      have HC := Lib.hid hc1
      clear hx hc1
      obtain ⟨AE, cE, rfl, hcE, hcE2⟩ := own_slice hown.out
      go_wp2
      go_loop [6, 7] (fun s j => ∃ q : Nat, q ≤ k ∧ j = .int .i64 q ∧ s = .int .i64 (nx (ats l) (lens (ats l) k) k q : Int)) (fun _ j => k - (intOf j).toNat)
      case atStart => exact ⟨0, Nat.zero_le _, rfl, rfl⟩
      case round =>
        obtain ⟨q, hq, rfl, rfl⟩ := hrel
        by_cases hqk : q < k
        · obtain ⟨b2, o2, hA2, hb2, hc2⟩ := HA.out.one (iv_at l q (by omega))
          injection hA2 with hA2
          injection hA2 with hA21 hA22
          subst hA21 hA22
          have hd := (below_cells hbel.out).1 b1 (o1 + q) hb1
          rw [hc2] at hd
          obtain ⟨y, hy⟩ : ∃ y, y = ats l q := ⟨_, rfl⟩
          rw [← hy] at hd
          have HY := Lib.hid hy
          have HC2 := Lib.hid hc2
          clear hy hc2
          have hlq : q < (lens (ats l) k).length := by rw [lens_len]; exact hqk
          obtain ⟨b3, o3, rfl, hb3, hc3⟩ := (At.own hown.out).one (nv_at (lens (ats l) k) q hlq)
          obtain ⟨z, hz⟩ : ∃ z, z = (lens (ats l) k).getD q 0 := ⟨_, rfl⟩
          rw [← hz] at hc3
          obtain ⟨s, hs⟩ : ∃ s, s = nx (ats l) (lens (ats l) k) k q := ⟨_, rfl⟩
          have hzk : z ≤ 1000 := by rw [hz, lens_getD _ _ _ hqk]; have := N_le (ats l) q; omega
          have HN1 : Hid (nx (ats l) (lens (ats l) k) k (q + 1) = if y < x ∧ s ≤ z then z + 1 else s) := by show _ = _; rw [HY.out, HX.out, hs, hz]; rfl
          rw [← hs]
          have HZ := Lib.hid hz
          have HS := Lib.hid hs
          clear hz hs
          by_cases h1 : y < x
          · by_cases h2 : s ≤ z
            · have h3 : (s : Int) ≤ (z : Int) := by omega
              have HN2 : Hid (nx (ats l) (lens (ats l) k) k (q + 1) = z + 1) := by show _ = _; rw [HN1.out, if_pos ⟨h1, h2⟩]
              go_wp2
              go_round
              case rel => exact ⟨q + 1, by omega, by go_num, by rw [HN2.out]; go_num⟩
              case measure => simp [intOf]; omega
            · have h3 : ¬ (s : Int) ≤ (z : Int) := by omega
              have HN2 : Hid (nx (ats l) (lens (ats l) k) k (q + 1) = s) := by show _ = _; rw [HN1.out, if_neg (fun h => h2 h.2)]
              go_wp2
              go_round
              case rel => exact ⟨q + 1, by omega, by go_num, by rw [HN2.out]⟩
              case measure => simp [intOf]; omega
          · have HN2 : Hid (nx (ats l) (lens (ats l) k) k (q + 1) = s) := by show _ = _; rw [HN1.out, if_neg (fun h => h1 h.1)]
            go_wp2
            go_round
            case rel => exact ⟨q + 1, by omega, by go_num, by rw [HN2.out]⟩
            case measure => simp [intOf]; omega
        · obtain rfl : q = k := by omega
          have hwr := hbel.out.size
          have HE : Hid (nx (ats l) (lens (ats l) q) q q = N (ats l) q) := rfl
          obtain ⟨s, hs⟩ : ∃ s, s = nx (ats l) (lens (ats l) q) q q := ⟨_, rfl⟩
          rw [← hs]
          have HS := Lib.hid hs
          clear hs
          go_wp2_with (at_builtin; refine wpList_append_own _ rfl _ _ 22 rfl w.heap.size 3 i0 (.int .i64 0) 1 8 Try.underlying22 hi hz0 hz1 hz2 rfl (by decide) _ _ _ rfl (hown.out.alloc _) ⟨_, 0, none⟩ 1 1 [.int .i64 (s : Int)] rfl rfl (cell_one_new _ _ _) (nv_one [s]) (by unfold maxLen; omega) (by omega) (by simp; omega) ?_; intro v1 w1 hown1 hgrow1 _hnil1; have HO1 := Lib.hid hown1; have HG1 := Lib.hid hgrow1; clear hown1 hgrow1 _hnil1)
          go_roundw
          case rel => exact ⟨q + 1, by omega, by go_num, by show World.ownsRow _ _ _ _ _ _ _; rw [lens_succ, nv_app, ← HE.out, ← HS.out]; exact HO1.out, (hbel.out.alloc hwr _).grown HG1.out (by simp; omega) (own_from hown.out)⟩
          case measure => simp [intOf]; omega
    · obtain rfl : k = n := by omega
      go_wp2
      go_ret
      exact ⟨_, rfl, hown.out, hbel.out⟩

theorem rlen_any (A : Option Addr) (n c : Nat) (l : List Int) (w : World) (hn : n = l.length) (hm : n ≤ 1000) (ha : At w A (iv l)) :
    Calls Try.prog 18 #[.slice A n c] w fun e w' => e = .returned (.int .i64 (top (ats l) n : Int)) ∧ Below w.heap.size w w' := by
  have HC := Lib.hid (lens_any A n c l w hn hm ha)
  clear hn ha
  go_enter Try.func18, Try.ntmps18
  go_wp2_with (go_at_call 34; (with_reducible refine HC.out.mono ?_); rintro e w6 ⟨v, rfl, hown, hb⟩; obtain ⟨A6, c6, rfl, h6, h7⟩ := own_slice hown; have HB := Lib.hid hb; have HO := Lib.hid hown; clear hown hb)
  go_loop [3, 9] (fun s i => ∃ k : Nat, k ≤ n ∧ i = .int .i64 k ∧ s = .int .i64 (top (ats l) k : Int)) (fun _ i => n - (intOf i).toNat)
  case atStart => exact ⟨0, Nat.zero_le _, rfl, rfl⟩
  case round =>
    obtain ⟨k, hk, rfl, rfl⟩ := hrel
    by_cases hlt : k < n
    · obtain ⟨b1, o1, rfl, hb1, hc1⟩ := (At.own HO.out).one (nv_at (lens (ats l) n) k (by rw [lens_len]; exact hlt))
      rw [lens_getD _ _ _ hlt] at hc1
      have HE : Hid (top (ats l) (k + 1) = max (top (ats l) k) (N (ats l) k)) := rfl
      have HI : Hid ((max (top (ats l) k : Int) (N (ats l) k : Int)) = ((max (top (ats l) k) (N (ats l) k) : Nat) : Int)) := by show _ = _; omega
      go_wp2
      go_round
      case rel => exact ⟨k + 1, by omega, by go_num, by rw [HE.out, ← HI.out]⟩
      case measure => simp [intOf]; omega
    · obtain rfl : k = n := by omega
      go_wp2
      go_ret
      exact ⟨rfl, HB.out⟩
end Go.Proofs.Ytdojalflgfacgaa
