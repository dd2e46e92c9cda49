/- What counts of a way of the automaton: enters and leaves are begun, and ended, by turns. -/
import Derived.Test.YtbekoockmageoaaDoorHkMath
namespace Go.Proofs.YtbekoockmageoaaDoor
namespace Hk
theorem nx_cases (s h : Int) : nx s h = -1 ∨ ∃ k, k < 10 ∧ ta k = s ∧ tb k = h ∧ nx s h = tc k := by
  by_cases hm : Miss 10 s h
  · exact .inl (nx_none hm)
  · have key : ∀ n, n ≤ 10 → Miss n s h ∨ ∃ k, k < 10 ∧ Miss k s h ∧ ta k = s ∧ tb k = h := by
      intro n
      induction n with
      | zero => intro _; exact .inl (Miss.zero s h)
      | succ n ih =>
        intro hn
        rcases ih (by omega) with h1 | h1
        · by_cases he : ta n = s ∧ tb n = h
          · exact .inr ⟨n, by omega, h1, he.1, he.2⟩
          · exact .inl (h1.next he)
        · exact .inr h1
    rcases key 10 (Nat.le_refl _) with h1 | ⟨k, hk, h1, h2, h3⟩
    · exact absurd h1 hm
    · exact .inr ⟨k, hk, h2, h3, nx_hit hk h1 h2 h3⟩
def Inv (s : Int) (n : Int → Int) : Prop := ∃ d : Int, (d = 0 ∨ d = 1) ∧
  ((s = 0 ∧ n 1 = 0 ∧ n 2 = 0 ∧ n 3 + n 4 = 0 ∧ n 5 = 0 ∧ n 6 = 0 ∧ n 7 + n 8 = 0) ∨
   (s = 1 ∧ n 2 = n 1 - 1 ∧ n 3 + n 4 = n 1 - 1 ∧ n 5 = n 1 - 1 + d ∧ n 6 = n 1 - 1 + d ∧ n 7 + n 8 = n 1 - 1 + d) ∨
   (s = 2 ∧ n 2 = n 1 ∧ n 3 + n 4 = n 1 - 1 ∧ n 5 = n 1 - 1 + d ∧ n 6 = n 1 - 1 + d ∧ n 7 + n 8 = n 1 - 1 + d) ∨
   (s = 3 ∧ n 2 = n 1 ∧ n 3 + n 4 = n 1 ∧ n 5 = n 1 - 1 + d ∧ n 6 = n 1 - 1 + d ∧ n 7 + n 8 = n 1 - 1 + d) ∨
   (s = 4 ∧ n 2 = n 1 ∧ n 3 + n 4 = n 1 ∧ n 5 = n 1 + d ∧ n 6 = n 5 - 1 ∧ n 7 + n 8 = n 5 - 1) ∨
   (s = 5 ∧ n 2 = n 1 ∧ n 3 + n 4 = n 1 ∧ n 5 = n 1 + d ∧ n 6 = n 5 ∧ n 7 + n 8 = n 5 - 1) ∨
   (s = 6 ∧ n 2 = n 1 ∧ n 3 + n 4 = n 1 ∧ n 5 = n 1 + d ∧ n 6 = n 5 ∧ n 7 + n 8 = n 5))
def up (n : Int → Int) (h : Int) : Int → Int := fun i => if i = h then n i + 1 else n i
theorem nx_list (s h : Int) (hn : 0 ≤ nx s h) : (s = 0 ∧ h = 1 ∧ nx s h = 1) ∨ (s = 0 ∧ h = 5 ∧ nx s h = 4) ∨ (s = 1 ∧ h = 2 ∧ nx s h = 2) ∨ (s = 2 ∧ h = 3 ∧ nx s h = 3) ∨ (s = 2 ∧ h = 4 ∧ nx s h = 3) ∨ (s = 3 ∧ h = 5 ∧ nx s h = 4) ∨ (s = 4 ∧ h = 6 ∧ nx s h = 5) ∨ (s = 5 ∧ h = 7 ∧ nx s h = 6) ∨ (s = 5 ∧ h = 8 ∧ nx s h = 6) ∨ (s = 6 ∧ h = 1 ∧ nx s h = 1) := by
  rcases nx_cases s h with e | ⟨k, hk, h1, h2, h3⟩
  · omega
  · have h10 : k = 0 ∨ k = 1 ∨ k = 2 ∨ k = 3 ∨ k = 4 ∨ k = 5 ∨ k = 6 ∨ k = 7 ∨ k = 8 ∨ k = 9 := by omega
    rcases h10 with rfl | rfl | rfl | rfl | rfl | rfl | rfl | rfl | rfl | rfl
    · exact .inl ⟨h1.symm, h2.symm, h3⟩
    · exact .inr (.inl ⟨h1.symm, h2.symm, h3⟩)
    · exact .inr (.inr (.inl ⟨h1.symm, h2.symm, h3⟩))
    · exact .inr (.inr (.inr (.inl ⟨h1.symm, h2.symm, h3⟩)))
    · exact .inr (.inr (.inr (.inr (.inl ⟨h1.symm, h2.symm, h3⟩))))
    · exact .inr (.inr (.inr (.inr (.inr (.inl ⟨h1.symm, h2.symm, h3⟩)))))
    · exact .inr (.inr (.inr (.inr (.inr (.inr (.inl ⟨h1.symm, h2.symm, h3⟩))))))
    · exact .inr (.inr (.inr (.inr (.inr (.inr (.inr (.inl ⟨h1.symm, h2.symm, h3⟩)))))))
    · exact .inr (.inr (.inr (.inr (.inr (.inr (.inr (.inr (.inl ⟨h1.symm, h2.symm, h3⟩))))))))
    · exact .inr (.inr (.inr (.inr (.inr (.inr (.inr (.inr (.inr (⟨h1.symm, h2.symm, h3⟩)))))))))
theorem inv_step {s h : Int} {n : Int → Int} (hi : Inv s n) (hn : 0 ≤ nx s h) : Inv (nx s h) (up n h) ∧ 1 ≤ h ∧ h ≤ 8 := by
  obtain ⟨d, hd, hi⟩ := hi
  rcases nx_list s h hn with ⟨rfl, rfl, e⟩ | ⟨rfl, rfl, e⟩ | ⟨rfl, rfl, e⟩ | ⟨rfl, rfl, e⟩ | ⟨rfl, rfl, e⟩ | ⟨rfl, rfl, e⟩ | ⟨rfl, rfl, e⟩ | ⟨rfl, rfl, e⟩ | ⟨rfl, rfl, e⟩ | ⟨rfl, rfl, e⟩
  · refine ⟨⟨0, .inl rfl, ?_⟩, by omega, by omega⟩
    rw [e]; simp [up]; omega
  · refine ⟨⟨1, .inr rfl, ?_⟩, by omega, by omega⟩
    rw [e]; simp [up]; omega
  all_goals
    refine ⟨⟨d, hd, ?_⟩, by omega, by omega⟩
    rw [e]; simp [up]; omega
theorem inv_ok {s : Int} {n : Int → Int} (hi : Inv s n) : n 2 ≤ n 1 ∧ n 3 + n 4 ≤ n 2 ∧ n 6 ≤ n 5 ∧ n 7 + n 8 ≤ n 6 ∧ n 1 ≤ n 7 + n 8 + 1 ∧ n 5 ≤ n 3 + n 4 + 1 := by
  obtain ⟨d, hd, hi⟩ := hi
  omega
def cnt (p : List Int) (i : Int) : Int := ((p.count i : Nat) : Int)
theorem cnt_snoc (p : List Int) (h : Int) : cnt (p ++ [h]) = up (cnt p) h := by
  funext i
  unfold cnt up
  rw [List.count_append, List.count_singleton]
  by_cases e : i = h
  · subst e; simp
  · have : (h == i) = false := by rw [beq_eq_false_iff_ne]; exact fun x => e x.symm
    simp [e, this]
theorem cnt_le (p : List Int) (i : Int) : 0 ≤ cnt p i ∧ cnt p i ≤ p.length := by
  unfold cnt
  have := List.count_le_length (a := i) (l := p)
  omega
theorem run_prefix (p q : List Int) (h : 0 ≤ run 0 (p ++ q)) : 0 ≤ run 0 p := by
  rcases Int.lt_or_le (run 0 p) 0 with h1 | h1
  · have := run_neg (run 0 p) q h1
    have e : run 0 (p ++ q) = run (run 0 p) q := by simp [run]
    omega
  · exact h1
theorem inv_way (p : List Int) (h : 0 ≤ run 0 p) : Inv (run 0 p) (cnt p) := by
  generalize hl : p.length = m
  induction m generalizing p with
  | zero =>
    have : p = [] := List.eq_nil_of_length_eq_zero hl
    subst this
    exact ⟨0, .inl rfl, .inl ⟨rfl, rfl, rfl, rfl, rfl, rfl, rfl⟩⟩
  | succ m ih =>
    rcases List.eq_nil_or_concat p with e | ⟨q, x, e⟩
    · subst e; cases hl
    · rw [List.concat_eq_append] at e
      subst e
      have hq := ih q (run_prefix q [x] h) (by simpa using hl)
      rw [run_snoc] at h ⊢
      rw [cnt_snoc]
      exact (inv_step hq h).1
/-- the next hook of a way -/
theorem way_next (l : List Int) (k : Nat) (h : 0 ≤ run 0 l) (x : Int) (hx : l.take (k + 1) = l.take k ++ [x]) :
    1 ≤ x ∧ x ≤ 8 ∧ cnt (l.take (k + 1)) = up (cnt (l.take k)) x ∧ (cnt (l.take (k + 1)) 2 ≤ cnt (l.take (k + 1)) 1 ∧ cnt (l.take (k + 1)) 3 + cnt (l.take (k + 1)) 4 ≤ cnt (l.take (k + 1)) 2 ∧ cnt (l.take (k + 1)) 6 ≤ cnt (l.take (k + 1)) 5 ∧ cnt (l.take (k + 1)) 7 + cnt (l.take (k + 1)) 8 ≤ cnt (l.take (k + 1)) 6 ∧ cnt (l.take (k + 1)) 1 ≤ cnt (l.take (k + 1)) 7 + cnt (l.take (k + 1)) 8 + 1 ∧ cnt (l.take (k + 1)) 5 ≤ cnt (l.take (k + 1)) 3 + cnt (l.take (k + 1)) 4 + 1) := by
  have h1 : 0 ≤ run 0 (l.take (k + 1)) := run_prefix _ (l.drop (k + 1)) (by rw [List.take_append_drop]; exact h)
  have h0 : 0 ≤ run 0 (l.take k) := run_prefix _ [x] (by rw [← hx]; exact h1)
  have hs := inv_step (inv_way _ h0) (h := x) (by rw [← run_snoc, ← hx]; exact h1)
  refine ⟨hs.2.1, hs.2.2, by rw [hx, cnt_snoc], inv_ok (inv_way _ h1)⟩
end Hk
end Go.Proofs.YtbekoockmageoaaDoor
