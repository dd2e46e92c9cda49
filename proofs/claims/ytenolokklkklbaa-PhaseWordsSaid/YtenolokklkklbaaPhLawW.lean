/- A kid's states: the words of the automaton. -/
import Derived.Test.YtenolokklkklbaaPhLaws
namespace Go.Proofs.Ytenolokklkklbaa
namespace Ph
set_option linter.unusedSimpArgs false
structure Good (s : St) : Prop where
  fine : Fine s
  off : s.m ≠ 1 → s.x = 0 ∧ s.y = 0
  inx : s.m = 1 → -2147483648 ≤ s.x ∧ s.x ≤ 2147483647
  iny : s.m = 1 → -2147483648 ≤ s.y ∧ s.y ≤ 2147483647
structure WInv (s : St) (t : Int) : Prop where
  good : Good s
  en : s.k = 2 ∨ s.k = 3 → t = 2
  le : s.k = 5 ∨ s.k = 6 → t = 5
  wa : s.k = 1 → t = 0 ∨ t = 6
  st : s.k = 0 ∨ s.k = 4 → t = 0 ∨ t = 3
theorem winv_fresh (b : Bool) : WInv (fresh b) 0 := by
  cases b <;> exact ⟨⟨fine_fresh _, fun _ => ⟨rfl, rfl⟩, fun h => by simp [fresh] at h, fun h => by simp [fresh] at h⟩, by simp [fresh], by simp [fresh], by simp [fresh], by simp [fresh]⟩
structure WStep (t : Int) (o : Ou) : Prop where
  ok : 0 ≤ Hk.run t o.h
  good : Good o.s
  gone : o.go = true → Hk.run t o.h = 6 ∨ Hk.run t o.h = 0 ∨ Hk.run t o.h = 3
  stays : o.go = false → WInv o.s (Hk.run t o.h)
theorem n1 : Hk.nx 0 1 = 1 := by decide
theorem n2 : Hk.nx 1 2 = 2 := by decide
theorem n3 : Hk.nx 2 3 = 3 := by decide
theorem n4 : Hk.nx 2 4 = 3 := by decide
theorem n5 : Hk.nx 3 5 = 4 := by decide
theorem n6 : Hk.nx 4 6 = 5 := by decide
theorem n7 : Hk.nx 5 7 = 6 := by decide
theorem n8 : Hk.nx 5 8 = 6 := by decide
theorem n9 : Hk.nx 6 1 = 1 := by decide
theorem n10 : Hk.nx 0 5 = 4 := by decide
set_option maxHeartbeats 8000000 in
theorem words_step (s : St) (a : Ac) (t : Int) (h : WInv s t) (hx : -2147483648 ≤ a.x ∧ a.x ≤ 2147483647) (hy : -2147483648 ≤ a.y ∧ a.y ≤ 2147483647) : WStep t (pdo s a) := by
  obtain ⟨⟨f0, g1, g2, g3⟩, t2, t5, t1, t0⟩ := h
  have hf := fine_pdo s a f0
  obtain ⟨k, m, x, y, d, e⟩ := s
  obtain ⟨c, ad, ax, ay, ao⟩ := a
  obtain ⟨f1, f2, f3, f4, f5⟩ := f0
  simp only at f1 f2 f3 f4 f5 g1 g2 g3 t2 t5 t1 t0 hx hy
  have hk : k = 0 ∧ (m = 0 ∨ m = 1 ∨ m = 2) ∨ m = 0 ∧ (k = 1 ∨ k = 2 ∨ k = 3 ∨ k = 4 ∨ k = 5 ∨ k = 6) := by
    rcases Classical.em (m = 0) with h | h
    · omega
    · have := f5 h; omega
  have hc : c = 0 ∨ c = 1 ∨ c = 2 ∨ c = 3 ∨ c = 4 ∨ c = 5 ∨ c = 6 ∨ c = 7 ∨ c = 8 ∨ c = 9 ∨ (c ≠ 0 ∧ c ≠ 1 ∧ c ≠ 2 ∧ c ≠ 3 ∧ c ≠ 4 ∧ c ≠ 5 ∧ c ≠ 6 ∧ c ≠ 7 ∧ c ≠ 8 ∧ c ≠ 9) := by omega
  clear f1 f2 f3 f4 f5
  have key : 0 ≤ Hk.run t (pdo ⟨k, m, x, y, d, e⟩ ⟨c, ad, ax, ay, ao⟩).h ∧ ((pdo ⟨k, m, x, y, d, e⟩ ⟨c, ad, ax, ay, ao⟩).s.m ≠ 1 → (pdo ⟨k, m, x, y, d, e⟩ ⟨c, ad, ax, ay, ao⟩).s.x = 0 ∧ (pdo ⟨k, m, x, y, d, e⟩ ⟨c, ad, ax, ay, ao⟩).s.y = 0) ∧
      ((pdo ⟨k, m, x, y, d, e⟩ ⟨c, ad, ax, ay, ao⟩).s.m = 1 → (-2147483648 ≤ (pdo ⟨k, m, x, y, d, e⟩ ⟨c, ad, ax, ay, ao⟩).s.x ∧ (pdo ⟨k, m, x, y, d, e⟩ ⟨c, ad, ax, ay, ao⟩).s.x ≤ 2147483647) ∧ (-2147483648 ≤ (pdo ⟨k, m, x, y, d, e⟩ ⟨c, ad, ax, ay, ao⟩).s.y ∧ (pdo ⟨k, m, x, y, d, e⟩ ⟨c, ad, ax, ay, ao⟩).s.y ≤ 2147483647)) ∧
      ((pdo ⟨k, m, x, y, d, e⟩ ⟨c, ad, ax, ay, ao⟩).go = true → Hk.run t (pdo ⟨k, m, x, y, d, e⟩ ⟨c, ad, ax, ay, ao⟩).h = 6 ∨ Hk.run t (pdo ⟨k, m, x, y, d, e⟩ ⟨c, ad, ax, ay, ao⟩).h = 0 ∨ Hk.run t (pdo ⟨k, m, x, y, d, e⟩ ⟨c, ad, ax, ay, ao⟩).h = 3) ∧
      ((pdo ⟨k, m, x, y, d, e⟩ ⟨c, ad, ax, ay, ao⟩).go = false → ((pdo ⟨k, m, x, y, d, e⟩ ⟨c, ad, ax, ay, ao⟩).s.k = 2 ∨ (pdo ⟨k, m, x, y, d, e⟩ ⟨c, ad, ax, ay, ao⟩).s.k = 3 → Hk.run t (pdo ⟨k, m, x, y, d, e⟩ ⟨c, ad, ax, ay, ao⟩).h = 2) ∧
        ((pdo ⟨k, m, x, y, d, e⟩ ⟨c, ad, ax, ay, ao⟩).s.k = 5 ∨ (pdo ⟨k, m, x, y, d, e⟩ ⟨c, ad, ax, ay, ao⟩).s.k = 6 → Hk.run t (pdo ⟨k, m, x, y, d, e⟩ ⟨c, ad, ax, ay, ao⟩).h = 5) ∧
        ((pdo ⟨k, m, x, y, d, e⟩ ⟨c, ad, ax, ay, ao⟩).s.k = 1 → Hk.run t (pdo ⟨k, m, x, y, d, e⟩ ⟨c, ad, ax, ay, ao⟩).h = 0 ∨ Hk.run t (pdo ⟨k, m, x, y, d, e⟩ ⟨c, ad, ax, ay, ao⟩).h = 6) ∧
        ((pdo ⟨k, m, x, y, d, e⟩ ⟨c, ad, ax, ay, ao⟩).s.k = 0 ∨ (pdo ⟨k, m, x, y, d, e⟩ ⟨c, ad, ax, ay, ao⟩).s.k = 4 → Hk.run t (pdo ⟨k, m, x, y, d, e⟩ ⟨c, ad, ax, ay, ao⟩).h = 0 ∨ Hk.run t (pdo ⟨k, m, x, y, d, e⟩ ⟨c, ad, ax, ay, ao⟩).h = 3)) := by
    clear hf
    have ht : (k = 0 ∨ k = 4) ∧ (t = 0 ∨ t = 3) ∨ k = 1 ∧ (t = 0 ∨ t = 6) ∨ (k = 2 ∨ k = 3) ∧ t = 2 ∨ (k = 5 ∨ k = 6) ∧ t = 5 := by omega
    clear t2 t5 t1 t0
    rcases hc with rfl | rfl | rfl | rfl | rfl | rfl | rfl | rfl | rfl | rfl | ⟨c0, c1, c2, c3, c4, c5, c6, c7, c8, c9⟩
    case' inr.inr.inr.inr.inr.inr.inr.inr.inl => by_cases hx0 : ax = 0 <;> by_cases hy0 : ay = 0
    case' inl => cases ao
    case' inr.inl => cases ao
    all_goals
      rcases hk with ⟨rfl, rfl | rfl | rfl⟩ | ⟨rfl, rfl | rfl | rfl | rfl | rfl | rfl⟩
    all_goals
      have ht2 : t = 0 ∨ t = 2 ∨ t = 3 ∨ t = 5 ∨ t = 6 := by omega
      rcases ht2 with rfl | rfl | rfl | rfl | rfl <;> first
        | (exfalso; clear g1 g2 g3 hx hy; omega)
        | (clear ht; simp [*, Hk.run, n1, n2, n3, n4, n5, n6, n7, n8, n9, n10, pdo, enter, leave, hold, ret, frame, finish, cancel, settle, shift, moveFrame, moveFinish, St.ent, St.lea, St.com, mk, Ou.kind, Ou.dur, Ou.job, Ou.report, Ou.ended, Ou.gone, Ou.become, Ou.fin, Ou.unmoved, Ou.endMove, Ou.stopE, Ou.vanish, Ou.begin, Ou.away, Ou.back]; try omega)
  obtain ⟨q1, q2, q3, q4, q5⟩ := key
  have hg : Good (pdo ⟨k, m, x, y, d, e⟩ ⟨c, ad, ax, ay, ao⟩).s := ⟨hf, q2, fun h => (q3 h).1, fun h => (q3 h).2⟩
  exact ⟨q1, hg, q4, fun h => ⟨hg, (q5 h).1, (q5 h).2.1, (q5 h).2.2.1, (q5 h).2.2.2⟩⟩
end Ph
end Go.Proofs.Ytenolokklkklbaa
