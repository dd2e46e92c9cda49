/- The automaton of hooks as plain maths: a table, where a hook leads, and what counts of a way of it. -/
import Init
namespace Go.Proofs.Ytenolokklkklbaa
namespace Hk
def T : List (Int × Int × Int) := [(0, 1, 1), (0, 5, 4), (1, 2, 2), (2, 3, 3), (2, 4, 3), (3, 5, 4), (4, 6, 5), (5, 7, 6), (5, 8, 6), (6, 1, 1)]
def ta (k : Nat) : Int := (T.getD k (0, 0, 0)).1
def tb (k : Nat) : Int := (T.getD k (0, 0, 0)).2.1
def tc (k : Nat) : Int := (T.getD k (0, 0, 0)).2.2
def nx (s h : Int) : Int := ((T.find? fun r => r.1 == s && r.2.1 == h).map (·.2.2)).getD (-1)
def Miss (k : Nat) (s h : Int) : Prop := ∀ j, j < k → ¬ (ta j = s ∧ tb j = h)
theorem t_at (k : Nat) (hk : k < 10) : T[k]? = some (ta k, tb k, tc k) := by
  have hl : k < T.length := hk
  rw [List.getElem?_eq_getElem hl]
  unfold ta tb tc
  rw [List.getD_eq_getElem?_getD, List.getElem?_eq_getElem hl]
  rfl
theorem Miss.zero (s h : Int) : Miss 0 s h := fun _ hj => absurd hj (Nat.not_lt_zero _)
theorem Miss.next {k : Nat} {s h : Int} (hm : Miss k s h) (hn : ¬ (ta k = s ∧ tb k = h)) : Miss (k + 1) s h := fun j hj => by
  by_cases e : j = k
  · subst e; exact hn
  · exact hm j (by omega)
theorem nx_hit {k : Nat} {s h : Int} (hk : k < 10) (hm : Miss k s h) (ha : ta k = s) (hb : tb k = h) : nx s h = tc k := by
  have hl : k < T.length := hk
  have hg : T[k] = (ta k, tb k, tc k) := by
    have := t_at k hk
    rw [List.getElem?_eq_getElem hl] at this
    exact Option.some.inj this
  have e : T.find? (fun r => r.1 == s && r.2.1 == h) = some T[k] := by
    rw [List.find?_eq_some_iff_getElem]
    refine ⟨by rw [hg]; simp [ha, hb], k, hl, rfl, fun j hj => ?_⟩
    have hlj : j < T.length := Nat.lt_trans hj hl
    have hgj : T[j] = (ta j, tb j, tc j) := by
      have := t_at j (Nat.lt_trans hj hk)
      rw [List.getElem?_eq_getElem hlj] at this
      exact Option.some.inj this
    rw [hgj]
    have h1 := hm j hj
    by_cases h2 : ta j = s
    · have h3 : ¬ tb j = h := fun h4 => h1 ⟨h2, h4⟩
      simp [h2, h3]
    · simp [h2]
  unfold nx
  rw [e, hg]
  rfl
theorem nx_none {s h : Int} (hm : Miss 10 s h) : nx s h = -1 := by
  have e : T.find? (fun r => r.1 == s && r.2.1 == h) = none := by
    rw [List.find?_eq_none]
    intro x hx
    obtain ⟨j, hlj, rfl⟩ := List.getElem_of_mem hx
    have hgj : T[j] = (ta j, tb j, tc j) := by
      have := t_at j hlj
      rw [List.getElem?_eq_getElem hlj] at this
      exact Option.some.inj this
    rw [hgj]
    have := hm j hlj
    simpa using this
  unfold nx
  rw [e]
  rfl
theorem nx_neg (s h : Int) (hs : s < 0) : nx s h = -1 := nx_none fun j hj => by
  have : 0 ≤ ta j := by
    have h10 : j = 0 ∨ j = 1 ∨ j = 2 ∨ j = 3 ∨ j = 4 ∨ j = 5 ∨ j = 6 ∨ j = 7 ∨ j = 8 ∨ j = 9 := by omega
    rcases h10 with rfl | rfl | rfl | rfl | rfl | rfl | rfl | rfl | rfl | rfl <;> decide
  omega
theorem nx_range (s h : Int) : -1 ≤ nx s h ∧ nx s h ≤ 6 := by
  by_cases hm : Miss 10 s h
  · rw [nx_none hm]; omega
  · have : ∃ k, k < 10 ∧ Miss k s h ∧ ta k = s ∧ tb k = h := by
      have key : ∀ n, n ≤ 10 → Miss n s h ∨ ∃ k, k < 10 ∧ Miss k s h ∧ ta k = s ∧ tb k = h := by
        intro n
        induction n with
        | zero => intro _; exact .inl (Miss.zero s h)
        | succ n ih =>
          intro hn
          rcases ih (by omega) with h1 | h1
          · by_cases he : ta n = s ∧ tb n = h
            · exact .inr ⟨n, by omega, h1, he.1, he.2⟩
            · exact .inl (h1.next he)
          · exact .inr h1
      rcases key 10 (Nat.le_refl _) with h1 | h1
      · exact absurd h1 hm
      · exact h1
    obtain ⟨k, hk, h1, h2, h3⟩ := this
    rw [nx_hit hk h1 h2 h3]
    have h10 : k = 0 ∨ k = 1 ∨ k = 2 ∨ k = 3 ∨ k = 4 ∨ k = 5 ∨ k = 6 ∨ k = 7 ∨ k = 8 ∨ k = 9 := by omega
    rcases h10 with rfl | rfl | rfl | rfl | rfl | rfl | rfl | rfl | rfl | rfl <;> decide
/-- where hooks lead, from a state on -/
def run (s : Int) (l : List Int) : Int := l.foldl nx s
theorem run_snoc (s : Int) (l : List Int) (h : Int) : run s (l ++ [h]) = nx (run s l) h := by simp [run]
theorem run_neg (s : Int) (l : List Int) (hs : s < 0) : run s l < 0 := by
  induction l generalizing s with
  | nil => exact hs
  | cons h l ih =>
    show run (nx s h) l < 0
    rw [nx_neg s h hs]
    exact ih _ (by omega)
end Hk
end Go.Proofs.Ytenolokklkklbaa
