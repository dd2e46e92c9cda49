/- The walk of FlipShrinks: on its way what is left never grows. -/
import Derived.Test.YtdaohjimfgdmbaaFpA
import Derived.Laws.BitsLemmas
namespace Go.Proofs.Ytdaohjimfgdmbaa
open Go.RowKit Go.Maps Sn M
theorem i64_and511 (n : Int) : bits .and .i64 n 511 = n % 512 := by
  have h511 : (BitVec.ofInt 64 511).toNat = 2 ^ 9 - 1 := by decide
  have key : (BitVec.ofInt 64 n &&& BitVec.ofInt 64 511).toNat = (n % ((2 ^ 64 : Nat) : Int)).toNat % 2 ^ 9 := by
    rw [BitVec.toNat_and, BitVec.toNat_ofInt, h511, Nat.and_two_pow_sub_one_eq_mod]
  show IntKind.i64.wrap ((BitVec.ofInt 64 n &&& BitVec.ofInt 64 511).toNat : Nat) = n % 512
  rw [key, IntKind.wrap_i64]
  omega
theorem flo_pos (x y : Int) (hy : 0 < y) : flo x y = x / y := by
  have hq : x.tdiv y * y + x.tmod y = x := (parts x y (by omega)).1
  have h1 := (parts x y (by omega)).2.1
  have h2 := (parts x y (by omega)).2.2.1
  have h3 := (parts x y (by omega)).2.2.2.1 hy
  have e1 : ∀ q r : Int, q * y + r = x → 0 ≤ r → r < y → q = x / y := by
    intro q r h h4 h5
    rw [← h, Int.mul_comm q y, Int.mul_add_ediv_left _ _ (by omega), Int.ediv_eq_zero_of_lt h4 h5]
    omega
  unfold flo
  split
  · rename_i h
    obtain ⟨hne, hs⟩ := h
    have hx : x < 0 := by
      rcases Int.lt_or_le x 0 with h9 | h9
      · exact h9
      · exfalso; apply hs; rw [eq_iff_iff]; exact ⟨fun h => by omega, fun h => by omega⟩
    have := h2 (by omega)
    refine e1 _ (x.tmod y + y) ?_ (by omega) (by omega)
    rw [Int.sub_mul]
    omega
  · rename_i h
    by_cases hne : x.tmod y = 0
    · exact e1 _ _ hq (by omega) (by omega)
    · have hx : ¬ x < 0 := fun h9 => h ⟨hne, fun e => by have := e ▸ h9; omega⟩
      have := h1 (by omega)
      exact e1 _ _ hq (by omega) (by omega)
/-- what is left at t of d. -/
def lf (d : Int) (D k : Nat) : Int := d * ((D - k : Nat) : Int) / (D : Int)
theorem prod_le (d : Int) (m : Nat) (D : Nat) (h1 : -2000000 ≤ d) (h2 : d ≤ 2000000) (hm : m ≤ D) (hD : D ≤ 512) : -1024000000 ≤ d * (m : Int) ∧ d * (m : Int) ≤ 1024000000 := by
  have hm2 : (m : Int) ≤ 512 := by omega
  have a := Int.mul_le_mul_of_nonneg_right h2 (show (0 : Int) ≤ m by omega)
  have b := Int.mul_le_mul_of_nonneg_right h1 (show (0 : Int) ≤ m by omega)
  constructor
  · have : (-2000000 : Int) * m ≥ -1024000000 := by omega
    omega
  · have : (2000000 : Int) * m ≤ 1024000000 := by omega
    omega
theorem pt_lf (d : Int) (D k : Nat) (h1 : -2000000 ≤ d) (h2 : d ≤ 2000000) (hk : k ≤ D) (hD : D ≤ 512) (h0 : 0 < D) : pt d ((D : Int) - (k : Int)) (D : Int) = lf d D k := by
  obtain ⟨p1, p2⟩ := prod_le d (D - k) D h1 h2 (by omega) hD
  have e : (D : Int) - (k : Int) = ((D - k : Nat) : Int) := by omega
  unfold pt qu lf
  rw [e, st_in d (by omega) (by omega), st_in ((D - k : Nat) : Int) (by omega) (by omega), st_in (d * _) (by omega) (by omega), st_in (d * _) (by omega) (by omega), st_in (D : Int) (by omega) (by omega), if_neg (by omega), flo_pos _ _ (by omega)]
  have q1 : d * ((D - k : Nat) : Int) / (D : Int) ≤ 1024000000 := by
    refine Int.le_trans (Int.ediv_le_ediv (by omega) p2) ?_
    exact Int.ediv_le_self _ (by omega)
  have q2 : -1024000000 ≤ d * ((D - k : Nat) : Int) / (D : Int) := by
    refine (Int.le_ediv_iff_mul_le (by omega)).2 ?_
    refine Int.le_trans ?_ p1
    omega
  exact st_in _ (by omega) (by omega)
theorem lf_zero (d : Int) (D : Nat) (h0 : 0 < D) : lf d D 0 = d := by
  unfold lf
  rw [Nat.sub_zero]
  exact Int.mul_ediv_cancel _ (by omega)
theorem lf_end (d : Int) (D : Nat) : lf d D D = 0 := by
  unfold lf
  rw [Nat.sub_self]
  simp
theorem left_lf (d : Int) (D k : Nat) (h1 : -2000000 ≤ d) (h2 : d ≤ 2000000) (hk : k ≤ D) (hD : D ≤ 512) (h0 : 0 < D) : leftV 1 d (-d) (k : Int) (D : Int) = .agg #[.int .i64 1, .int .i64 (lf d D k), .int .i64 (lf (-d) D k)] := by
  rcases Nat.eq_or_lt_of_le hk with e | hlt
  · subst e
    rw [leftV_no (.inr (by omega)), lf_end, lf_end]
  · rcases Nat.eq_zero_or_pos k with e | hp
    · subst e
      rw [leftV_all (by omega) (by omega) (by omega), lf_zero _ _ h0, lf_zero _ _ h0]
    · rw [leftV_some (by omega) (by omega) (by omega), pt_lf d D k h1 h2 hk hD h0, pt_lf (-d) D k (by omega) (by omega) hk hD h0]
/-- a number's distance from 0. -/
def ab (x : Int) : Int := if x < 0 then -x else x
theorem lf_sign (d : Int) (D k : Nat) (h0 : 0 < D) : (0 ≤ d → 0 ≤ lf d D k) ∧ (d ≤ 0 → lf d D k ≤ 0) := by
  unfold lf
  refine ⟨fun h => Int.ediv_nonneg (Int.mul_nonneg h (by omega)) (by omega), fun h => ?_⟩
  have : d * ((D - k : Nat) : Int) ≤ 0 := Int.mul_nonpos_of_nonpos_of_nonneg h (by omega)
  exact Int.le_trans (Int.ediv_le_ediv (by omega) this) (by simp)
theorem lf_step (d : Int) (D k : Nat) (h0 : 0 < D) : ab (lf d D k) ≤ ab (lf d D (k - 1)) := by
  have s1 := lf_sign d D k h0
  have s2 := lf_sign d D (k - 1) h0
  rcases Int.le_total 0 d with h | h
  · have m : lf d D k ≤ lf d D (k - 1) := by
      unfold lf
      exact Int.ediv_le_ediv (by omega) (Int.mul_le_mul_of_nonneg_left (by omega) h)
    have := s1.1 h
    have := s2.1 h
    unfold ab
    rw [if_neg (by omega), if_neg (by omega)]
    exact m
  · have m : lf d D (k - 1) ≤ lf d D k := by
      unfold lf
      refine Int.ediv_le_ediv (by omega) ?_
      exact Int.mul_le_mul_of_nonpos_left h (by omega)
    have := s1.2 h
    have := s2.2 h
    unfold ab
    split <;> split <;> omega
theorem lf_bd (d : Int) (D k : Nat) (h1 : -2000000 ≤ d) (h2 : d ≤ 2000000) (hD : D ≤ 512) (h0 : 0 < D) : -1024000000 ≤ lf d D k ∧ lf d D k ≤ 1024000000 := by
  obtain ⟨p1, p2⟩ := prod_le d (D - k) D h1 h2 (by omega) hD
  unfold lf
  constructor
  · refine (Int.le_ediv_iff_mul_le (by omega)).2 ?_
    refine Int.le_trans ?_ p1
    omega
  · refine Int.le_trans (Int.ediv_le_ediv (by omega) p2) ?_
    exact Int.ediv_le_self _ (by omega)
theorem far_any (x : Int) (w : World) (h1 : -1024000000 ≤ x) (h2 : x ≤ 1024000000) : Calls Try.prog 30 #[.int .i64 x] w fun e w' => e = .returned (.int .i64 (ab x)) ∧ w' = w := by
  by_cases h : x < 0
  · rw [show ab x = -x from if_pos h]
    go_enter Try.func30, Try.ntmps30
    go_wp2
    go_ret
    exact ⟨rfl, rfl⟩
  · rw [show ab x = x from if_neg h]
    go_enter Try.func30, Try.ntmps30
    go_wp2
    go_ret
    exact ⟨rfl, rfl⟩
end Go.Proofs.Ytdaohjimfgdmbaa
