/- A kid's states: what any call keeps; the words of the automaton; what waits. -/
import Derived.Test.YtenolokklkklbaaPhMath
namespace Go.Proofs.Ytenolokklkklbaa
namespace Ph
structure Fine (s : St) : Prop where
  k0 : 0 ≤ s.k
  k6 : s.k ≤ 6
  m0 : 0 ≤ s.m
  m2 : s.m ≤ 2
  still : s.m ≠ 0 → s.k = 0
def want (k : Int) : Int := if k = 2 ∨ k = 5 then 1 else if k = 3 ∨ k = 6 then 2 else 0
theorem fine_fresh (b : Bool) : Fine (fresh b) := by cases b <;> exact ⟨by decide, by decide, by decide, by decide, by decide⟩
/-- what becomes of a book of what waits -/
def job2 (c job : Int) (o : Ou) : Int := if o.en = true then 0 else if c = 4 then 0 else job
def mv2 (c mv : Int) (o : Ou) : Int := if o.me = true then 0 else if c = 9 then 0 else mv
structure JobsStep (c job mv : Int) (o : Ou) : Prop where
  free : o.j ≠ 0 → job2 c job o = 0
  freem : o.mj ≠ 0 → mv2 c mv o = 0
  gone : o.go = true → (if o.j ≠ 0 then o.j else job2 c job o) = 0 ∧ (if o.mj ≠ 0 then o.mj else mv2 c mv o) = 0
  stays : o.go = false → (if o.j ≠ 0 then o.j else job2 c job o) = want o.s.k ∧ (if o.mj ≠ 0 then o.mj else mv2 c mv o) = o.s.m
  fine : Fine o.s
set_option linter.unusedSimpArgs false
set_option maxHeartbeats 4000000 in
theorem jobs_step (s : St) (a : Ac) (hf : Fine s) (h4 : a.c = 4 → want s.k = 1) (h9 : a.c = 9 → s.m = 1) : JobsStep a.c (want s.k) s.m (pdo s a) := by
  obtain ⟨k, m, x, y, d, e⟩ := s
  obtain ⟨c, ad, ax, ay, ao⟩ := a
  obtain ⟨f1, f2, f3, f4, f5⟩ := hf
  simp only at f1 f2 f3 f4 f5 h4 h9
  have hk : k = 0 ∧ (m = 0 ∨ m = 1 ∨ m = 2) ∨ m = 0 ∧ (k = 1 ∨ k = 2 ∨ k = 3 ∨ k = 4 ∨ k = 5 ∨ k = 6) := by
    rcases Classical.em (m = 0) with h | h
    · omega
    · have := f5 h; omega
  have hc : c = 0 ∨ c = 1 ∨ c = 2 ∨ c = 3 ∨ c = 4 ∨ c = 5 ∨ c = 6 ∨ c = 7 ∨ c = 8 ∨ c = 9 ∨ (c ≠ 0 ∧ c ≠ 1 ∧ c ≠ 2 ∧ c ≠ 3 ∧ c ≠ 4 ∧ c ≠ 5 ∧ c ≠ 6 ∧ c ≠ 7 ∧ c ≠ 8 ∧ c ≠ 9) := by omega
  clear f1 f2 f3 f4 f5
  rcases hc with rfl | rfl | rfl | rfl | rfl | rfl | rfl | rfl | rfl | rfl | ⟨c0, c1, c2, c3, c4, c5, c6, c7, c8, c9⟩
  case' inr.inr.inr.inr.inr.inr.inr.inr.inl => by_cases hx : ax = 0 <;> by_cases hy : ay = 0
  case' inl => cases ao
  case' inr.inl => cases ao
  all_goals
    rcases hk with ⟨rfl, rfl | rfl | rfl⟩ | ⟨rfl, rfl | rfl | rfl | rfl | rfl | rfl⟩ <;>
    (first
      | (exfalso; revert h4; simp [want]; done)
      | (exfalso; revert h9; simp; done)
      | (clear h4 h9
         constructor <;> simp [*, job2, mv2, want, pdo, enter, leave, hold, ret, frame, finish, cancel, settle, shift, moveFrame, moveFinish, St.ent, St.lea, St.com, mk, Ou.kind, Ou.dur, Ou.job, Ou.report, Ou.ended, Ou.gone, Ou.become, Ou.fin, Ou.unmoved, Ou.endMove, Ou.stopE, Ou.vanish, Ou.begin, Ou.away, Ou.back] <;> constructor <;> simp))
set_option maxHeartbeats 4000000 in
theorem fine_pdo (s : St) (a : Ac) (hf : Fine s) : Fine (pdo s a).s := by
  obtain ⟨k, m, x, y, d, e⟩ := s
  obtain ⟨c, ad, ax, ay, ao⟩ := a
  obtain ⟨f1, f2, f3, f4, f5⟩ := hf
  simp only at f1 f2 f3 f4 f5
  have hk : k = 0 ∧ (m = 0 ∨ m = 1 ∨ m = 2) ∨ m = 0 ∧ (k = 1 ∨ k = 2 ∨ k = 3 ∨ k = 4 ∨ k = 5 ∨ k = 6) := by
    rcases Classical.em (m = 0) with h | h
    · omega
    · have := f5 h; omega
  have hc : c = 0 ∨ c = 1 ∨ c = 2 ∨ c = 3 ∨ c = 4 ∨ c = 5 ∨ c = 6 ∨ c = 7 ∨ c = 8 ∨ c = 9 ∨ (c ≠ 0 ∧ c ≠ 1 ∧ c ≠ 2 ∧ c ≠ 3 ∧ c ≠ 4 ∧ c ≠ 5 ∧ c ≠ 6 ∧ c ≠ 7 ∧ c ≠ 8 ∧ c ≠ 9) := by omega
  clear f1 f2 f3 f4 f5
  rcases hc with rfl | rfl | rfl | rfl | rfl | rfl | rfl | rfl | rfl | rfl | ⟨c0, c1, c2, c3, c4, c5, c6, c7, c8, c9⟩
  case' inr.inr.inr.inr.inr.inr.inr.inr.inl => by_cases hx : ax = 0 <;> by_cases hy : ay = 0
  case' inl => cases ao
  case' inr.inl => cases ao
  all_goals
    rcases hk with ⟨rfl, rfl | rfl | rfl⟩ | ⟨rfl, rfl | rfl | rfl | rfl | rfl | rfl⟩ <;> constructor <;> simp [*, pdo, enter, leave, hold, ret, frame, finish, cancel, settle, shift, moveFrame, moveFinish, St.ent, St.lea, St.com, mk, Ou.kind, Ou.dur, Ou.job, Ou.report, Ou.ended, Ou.gone, Ou.become, Ou.fin, Ou.unmoved, Ou.endMove, Ou.stopE, Ou.vanish, Ou.begin, Ou.away, Ou.back]
theorem ends_step (s : St) (hf : Fine s) : ((finish (moveFrame (frame s).s).s).go = true → (moveFrame (frame s).s).s.lea = true) ∧
    ((finish (moveFrame (frame s).s).s).go = false → ((moveFinish (finish (moveFrame (frame s).s).s).s).s.k = 0 ∨ (moveFinish (finish (moveFrame (frame s).s).s).s).s.k = 1 ∨ (moveFinish (finish (moveFrame (frame s).s).s).s).s.k = 4) ∧
      (moveFinish (finish (moveFrame (frame s).s).s).s).s.m = 0 ∧ (finish (moveFinish (finish (moveFrame (frame s).s).s).s).s).s = (moveFinish (finish (moveFrame (frame s).s).s).s).s ∧ (finish (moveFinish (finish (moveFrame (frame s).s).s).s).s).en = false) := by
  obtain ⟨k, m, x, y, d, e⟩ := s
  obtain ⟨f1, f2, f3, f4, f5⟩ := hf
  simp only at f1 f2 f3 f4 f5
  have hk : k = 0 ∧ (m = 0 ∨ m = 1 ∨ m = 2) ∨ m = 0 ∧ (k = 1 ∨ k = 2 ∨ k = 3 ∨ k = 4 ∨ k = 5 ∨ k = 6) := by
    rcases Classical.em (m = 0) with h | h
    · omega
    · have := f5 h; omega
  clear f1 f2 f3 f4 f5
  rcases hk with ⟨rfl, rfl | rfl | rfl⟩ | ⟨rfl, rfl | rfl | rfl | rfl | rfl | rfl⟩ <;> constructor <;> simp [*, pdo, enter, leave, hold, ret, frame, finish, cancel, settle, shift, moveFrame, moveFinish, St.ent, St.lea, St.com, mk, Ou.kind, Ou.dur, Ou.job, Ou.report, Ou.ended, Ou.gone, Ou.become, Ou.fin, Ou.unmoved, Ou.endMove, Ou.stopE, Ou.vanish, Ou.begin, Ou.away, Ou.back]
end Ph
end Go.Proofs.Ytenolokklkklbaa
