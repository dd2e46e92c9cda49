/- Plain facts on whole numbers for layer 1: what 'limited to 32 bits' and 'divided, rounded down' are; no program stands here. -/
import Derived.KernelRfl
namespace Go.Proofs.Ytdaohjimfgdmbaa.M
/-- limited to lo to hi; lo where hi is less. -/
def clp (x lo hi : Int) : Int := max (min x hi) lo
/-- limited to 32 bits. -/
def st (x : Int) : Int := max (min x 2147483647) (-2147483648)
theorem st_lo (x : Int) : -2147483648 ≤ st x := by unfold st; omega
theorem st_hi (x : Int) : st x ≤ 2147483647 := by unfold st; omega
theorem st_in (x : Int) (h : -2147483648 ≤ x) (h' : x ≤ 2147483647) : st x = x := by unfold st; omega
theorem st_st (x : Int) : st (st x) = st x := st_in _ (st_lo x) (st_hi x)
theorem clp_st (x : Int) : clp x (-2147483648) 2147483647 = st x := rfl
theorem mul_bd (a b : Int) (ha : -2147483648 ≤ a) (ha' : a ≤ 2147483647) (hb : -2147483648 ≤ b) (hb' : b ≤ 2147483647) :
    -4611686018427387904 ≤ a * b ∧ a * b ≤ 4611686018427387904 := by
  have h : (a * b).natAbs ≤ 2147483648 * 2147483648 := by
    rw [Int.natAbs_mul]; exact Nat.mul_le_mul (by omega) (by omega)
  omega
/-- the quotient, rounded down, as the program reckons it. -/
def flo (x y : Int) : Int := if x.tmod y ≠ 0 ∧ ((x < 0) ≠ (y < 0)) then x.tdiv y - 1 else x.tdiv y
theorem parts (x y : Int) (hy : y ≠ 0) : x.tdiv y * y + x.tmod y = x ∧ (0 ≤ x → 0 ≤ x.tmod y) ∧ (x ≤ 0 → x.tmod y ≤ 0) ∧ (0 < y → x.tmod y < y ∧ - y < x.tmod y) ∧ (y < 0 → x.tmod y < - y ∧ y < x.tmod y) := by
  have h1 : x.tdiv y * y + x.tmod y = x := by
    have := Int.tmod_add_mul_tdiv x y
    rw [Int.mul_comm]; omega
  have h2 : (x.tmod y).natAbs = x.natAbs % y.natAbs := Int.natAbs_tmod x y
  have h3 : x.natAbs % y.natAbs < y.natAbs := Nat.mod_lt _ (by omega)
  have h4 : 0 ≤ x → 0 ≤ x.tmod y := fun h => Int.tmod_nonneg y h
  have h5 : x ≤ 0 → x.tmod y ≤ 0 := by
    intro h
    have := Int.tmod_nonneg (a := -x) y (by omega)
    rw [Int.neg_tmod] at this; omega
  exact ⟨h1, h4, h5, fun _ => by omega, fun _ => by omega⟩
theorem flo_zero (x y : Int) (h : x.tmod y = 0) : x.tdiv y = flo x y := by unfold flo; rw [if_neg (fun c => c.1 h)]
theorem flo_same (x y : Int) (h : (x < 0 ∧ y < 0) ∨ (0 ≤ x ∧ 0 ≤ y)) : x.tdiv y = flo x y := by
  unfold flo
  rw [if_neg]
  rintro ⟨_, c⟩
  rcases h with ⟨a, b⟩ | ⟨a, b⟩
  · exact c (by simp [a, b])
  · exact c (by rw [eq_false (show ¬ x < 0 by omega), eq_false (show ¬ y < 0 by omega)])
theorem flo_down (x y : Int) (h0 : x.tmod y ≠ 0) (h : (x < 0 ∧ 0 ≤ y) ∨ (0 ≤ x ∧ y < 0)) : x.tdiv y - 1 = flo x y := by
  unfold flo
  rw [if_pos]
  refine ⟨h0, ?_⟩
  rcases h with ⟨a, b⟩ | ⟨a, b⟩
  · rw [eq_true a, eq_false (show ¬ y < 0 by omega)]; simp
  · rw [eq_true b, eq_false (show ¬ x < 0 by omega)]; simp
theorem tq_nonneg (x y : Int) (h : 0 ≤ x) : x.tdiv y = x / y := Int.tdiv_eq_ediv_of_nonneg h
theorem tr_nonneg (x y : Int) (h : 0 ≤ x) : x.tmod y = x % y := Int.tmod_eq_emod_of_nonneg h
/-- does the slow way take one more step down from q? -/
def more (q x y : Int) : Prop := (x < q * y ∧ 0 < y) ∨ (q * y < x ∧ y < 0)
theorem flo_stop (x y : Int) (hy : y ≠ 0) : ¬ more (flo x y) x y := by
  obtain ⟨h1, h2, h3, h4, h5⟩ := parts x y hy
  unfold flo more
  by_cases c : x.tmod y ≠ 0 ∧ ((x < 0) ≠ (y < 0))
  · rw [if_pos c]
    have e : (x.tdiv y - 1) * y = x.tdiv y * y - y := by rw [Int.sub_mul, Int.one_mul]
    rw [e]
    obtain ⟨c1, c2⟩ := c
    have c3 : (x < 0 ∧ ¬ y < 0) ∨ (¬ x < 0 ∧ y < 0) := by
      by_cases a : x < 0 <;> by_cases b : y < 0 <;> simp_all
    omega
  · rw [if_neg c]
    have c3 : x.tmod y = 0 ∨ (x < 0 ∧ y < 0) ∨ (¬ x < 0 ∧ ¬ y < 0) := by
      by_cases a : x < 0 <;> by_cases b : y < 0 <;> by_cases d : x.tmod y = 0 <;> simp_all
    omega
theorem flo_step (x y : Int) (hy : y ≠ 0) (h : x.tdiv y ≠ flo x y) : more (x.tdiv y) x y ∧ x.tdiv y - 1 = flo x y := by
  obtain ⟨h1, h2, h3, h4, h5⟩ := parts x y hy
  unfold flo at h ⊢
  unfold more
  by_cases c : x.tmod y ≠ 0 ∧ ((x < 0) ≠ (y < 0))
  · rw [if_pos c]
    obtain ⟨c1, c2⟩ := c
    have c3 : (x < 0 ∧ ¬ y < 0) ∨ (¬ x < 0 ∧ y < 0) := by
      by_cases a : x < 0 <;> by_cases b : y < 0 <;> simp_all
    exact ⟨by omega, rfl⟩
  · rw [if_neg c] at h; exact absurd rfl h
theorem tdiv_bd (x y : Int) (ha : -2147483648 ≤ x) (ha' : x ≤ 2147483647) : -2147483648 ≤ x.tdiv y ∧ x.tdiv y ≤ 2147483648 := by
  have h : (x.tdiv y).natAbs ≤ x.natAbs := by
    rw [Int.natAbs_tdiv]; exact Nat.div_le_self _ _
  omega
theorem tmod_bd (x y : Int) (ha : -2147483648 ≤ x) (ha' : x ≤ 2147483647) : -2147483648 ≤ x.tmod y ∧ x.tmod y ≤ 2147483648 := by
  have h : (x.tmod y).natAbs ≤ x.natAbs := by
    rw [Int.natAbs_tmod]; exact Nat.mod_le _ _
  omega
theorem flo_bd (x y : Int) (ha : -2147483648 ≤ x) (ha' : x ≤ 2147483647) : -2147483649 ≤ flo x y ∧ flo x y ≤ 2147483648 := by
  have := tdiv_bd x y ha ha'
  unfold flo; split <;> omega
theorem flo_le (x y : Int) : flo x y ≤ x.tdiv y := by unfold flo; split <;> omega
theorem flo_ge (x y : Int) : x.tdiv y - 1 ≤ flo x y := by unfold flo; split <;> omega
theorem prod_bd (a b : Int) (ha : -2147483649 ≤ a) (ha' : a ≤ 2147483648) (hb : -2147483648 ≤ b) (hb' : b ≤ 2147483647) :
    -4611686020574871552 ≤ a * b ∧ a * b ≤ 4611686020574871552 := by
  have h : (a * b).natAbs ≤ 2147483649 * 2147483648 := by
    rw [Int.natAbs_mul]; exact Nat.mul_le_mul (by omega) (by omega)
  omega
/-- the clock, d ticks after now. -/
def ck (x : Int) : Int := max (min x 1099511627776) 0
def lat (now d : Int) : Int := min (ck now + ck d) 1099511627776
theorem ck_lo (x : Int) : 0 ≤ ck x := by unfold ck; omega
theorem ck_hi (x : Int) : ck x ≤ 1099511627776 := by unfold ck; omega
theorem lat_lo (a b : Int) : 0 ≤ lat a b := by unfold lat ck; omega
theorem lat_hi (a b : Int) : lat a b ≤ 1099511627776 := by unfold lat ck; omega
theorem lat_ge (a b : Int) (h : 0 ≤ a) (h' : a ≤ 1099511627776) : a ≤ lat a b := by unfold lat ck; omega
/-- the sum of the first k numbers, each sum limited. -/
def sums (l : List Int) : Int := l.foldl (fun s x => st (st s + st x)) 0
theorem sums_nil : sums [] = 0 := rfl
theorem sums_snoc (l : List Int) (x : Int) : sums (l ++ [x]) = st (st (sums l) + st x) := by simp [sums, List.foldl_append]
end Go.Proofs.Ytdaohjimfgdmbaa.M
