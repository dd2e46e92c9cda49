/- How the statements' arguments of layer 4 are opened: a slice of pairs, a slice of steps, nil let in. -/
import Derived.Test.YtibcfmfihcgijaaDoorClOpen
import Derived.Test.YtibcfmfihcgijaaDoorPrMath
import Derived.Deep.Slices
import Derived.Deep.Fields
namespace Go.Proofs.YtibcfmfihcgijaaDoor
open Go.RowKit Go.ChangeShapes Go.WideShapes Go.Deep M
def PairsIn (w : World) (A : Option Addr) (n c : Nat) (l : List Par) : Prop :=
  n = l.length ∧ n ≤ c ∧ c ≤ maxLen ∧ At w A (pv l) ∧ (∀ s ∈ l, s.1.size ≤ maxLen ∧ (Lit.int .i64 s.2).wf = true) ∧ (A = none → n = 0 ∧ c = 0)
def PStepsIn (w : World) (A : Option Addr) (n c : Nat) (l : List PStp) : Prop :=
  n = l.length ∧ n ≤ c ∧ c ≤ maxLen ∧ At w A (psv l) ∧ (∀ s ∈ l, s.2.1.size ≤ maxLen ∧ (Lit.int .i64 s.2.2).wf = true) ∧ (A = none → n = 0 ∧ c = 0)
/-- what each place has is had by a list. -/
theorem list_of {α : Type} {P : Nat → α → Prop} (n : Nat) (each : ∀ i, i < n → ∃ x, P i x) : ∃ l : List α, l.length = n ∧ ∀ i (hi : i < l.length), P i l[i] := by
  induction n with
  | zero => exact ⟨[], rfl, fun i hi => absurd hi (by simp)⟩
  | succ q ih =>
    obtain ⟨l, hl1, hl2⟩ := ih fun i hi => each i (by omega)
    obtain ⟨s, hs⟩ := each q (by omega)
    refine ⟨l ++ [s], by simp [hl1], fun i hi => ?_⟩
    by_cases hiq : i < l.length
    · rw [List.getElem_append_left hiq]; exact hl2 i hiq
    · have : i = q := by simp at hi; omega
      subst this
      rw [List.getElem_append_right (by omega)]
      simpa [hl1] using hs
section
variable {H : Type} {enc : TypeId × Value → H} {P : Program} {w : World} {base : Nat} {spare : Nat → Bool} {held : Bool}
theorem pairs_in {t e : TypeId} {f0 f1 : Field} {A : Option Addr} {n c : Nat} {d : DataW H} {p : List MemPlace} (ht : P.underlying t = some (.slice e)) (he : P.underlying e = some (.struct #[f0, f1]))
    (ce : P.cellsOf e = 2) (o0 : f0.offset = 0) (o1 : f1.offset = 1) (c0 : P.cellsOf f0.type = 1) (c1 : P.cellsOf f1.type = 1) (u0 : P.underlying f0.type = some .string) (u1 : P.underlying f1.type = some (.int .i64))
    (h : DataW.Trod enc P w base spare held t (.slice A n c) d p) : ∃ l, PairsIn w A n c l := by
  obtain ⟨fuel, hf⟩ := h
  rcases open_slice_pairs ht he ce o0 o1 c0 c1 hf with ⟨hcs, _⟩ | ⟨a, len, cap, m, k, V0, V1, D0, D1, P0, P1, hcs, _, hl, hm, hmm, _, hcell⟩
  · simp [Value.cells] at hcs
    obtain ⟨rfl, rfl, rfl⟩ := hcs
    exact ⟨[], rfl, Nat.le_refl _, Nat.zero_le _, At.nil _ _, (fun s hs => by cases hs), fun _ => ⟨rfl, rfl⟩⟩
  · simp [Value.cells] at hcs
    obtain ⟨rfl, rfl, rfl⟩ := hcs
    have hle : n ≤ m := by rw [hmm]; split <;> omega
    obtain ⟨l, hl1, hl2⟩ := list_of (P := fun i (s : Par) => w.cell? (a.add (i * 2)) = some (.string s.1) ∧ w.cell? (a.add (i * 2 + 1)) = some (.int .i64 s.2) ∧ s.1.size ≤ maxLen ∧ (Lit.int .i64 s.2).wf = true) n (by
      intro i hi
      obtain ⟨h1, h2, h3, h4⟩ := hcell i (by omega)
      obtain ⟨s, hs, _, hsz⟩ := DataW.trod_string u0 h3
      obtain ⟨z, hz, _, hwf⟩ := DataW.trod_int u1 h4
      simp at hs hz
      exact ⟨(s, z), by rw [h1, hs], by rw [h2, hz], hsz, hwf⟩)
    refine ⟨l, hl1.symm, hl, hm, at_of_add fun i u hu => ?_, fun s hs => ?_, fun h => nomatch h⟩
    · have hi : i < l.length * 2 := by
        have := (List.getElem?_eq_some_iff.1 hu).1
        rw [pv_len] at this
        exact this
      have h2 := hl2 (i / 2) (by omega)
      have h3 := pv_at l (i / 2) (by omega)
      rcases Nat.mod_two_eq_zero_or_one i with h | h
      · have e : i / 2 * 2 = i := by omega
        rw [e] at h2 h3
        rw [h3.1] at hu
        rw [← hu]
        exact h2.1
      · have e : i / 2 * 2 + 1 = i := by omega
        rw [e] at h2 h3
        rw [h3.2] at hu
        rw [← hu]
        exact h2.2.1
    · obtain ⟨i, hi, rfl⟩ := List.getElem_of_mem hs
      exact (hl2 i hi).2.2
theorem psteps_in {t e : TypeId} {f0 f1 f2 : Field} {A : Option Addr} {n c : Nat} {d : DataW H} {p : List MemPlace} (ht : P.underlying t = some (.slice e)) (he : P.underlying e = some (.struct #[f0, f1, f2]))
    (ce : P.cellsOf e = 3) (o0 : f0.offset = 0) (o1 : f1.offset = 1) (o2 : f2.offset = 2) (c0 : P.cellsOf f0.type = 1) (c1 : P.cellsOf f1.type = 1) (c2 : P.cellsOf f2.type = 1)
    (u0 : P.underlying f0.type = some .bool) (u1 : P.underlying f1.type = some .string) (u2 : P.underlying f2.type = some (.int .i64))
    (h : DataW.Trod enc P w base spare held t (.slice A n c) d p) : ∃ l, PStepsIn w A n c l := by
  obtain ⟨fuel, hf⟩ := h
  rcases open_slice ht hf with ⟨hcs, _⟩ | ⟨a, len, cap, m, k, D, Pl, hcs, _, hl, hm, hmm, _, hcell⟩
  · simp [Value.cells] at hcs
    obtain ⟨rfl, rfl, rfl⟩ := hcs
    exact ⟨[], rfl, Nat.le_refl _, Nat.zero_le _, At.nil _ _, (fun s hs => by cases hs), fun _ => ⟨rfl, rfl⟩⟩
  · simp [Value.cells] at hcs
    obtain ⟨rfl, rfl, rfl⟩ := hcs
    have hle : n ≤ m := by rw [hmm]; split <;> omega
    obtain ⟨l, hl1, hl2⟩ := list_of (P := fun i (s : PStp) => w.cell? (a.add (i * 3)) = some (.bool s.1) ∧ w.cell? (a.add (i * 3 + 1)) = some (.string s.2.1) ∧ w.cell? (a.add (i * 3 + 2)) = some (.int .i64 s.2.2) ∧ s.2.1.size ≤ maxLen ∧ (Lit.int .i64 s.2.2).wf = true) n (by
      intro i hi
      obtain ⟨cs', hc, ht'⟩ := hcell i (by omega)
      rw [ce] at hc
      obtain ⟨ys, n', hn', hy, hlen, hyl, hfl⟩ := DataW.trod_struct he ht'
      obtain ⟨_, hcl, hat⟩ := World.cells?_some hc
      match cs', hcl with
      | [x0, x1, x2], _ =>
        have g0 := hfl 0 f0 rfl
        have g1 := hfl 1 f1 rfl
        have g2 := hfl 2 f2 rfl
        rw [o0, c0] at g0
        rw [o1, c1] at g1
        rw [o2, c2] at g2
        have y0 : ys[0]? = some (ys[0]'(by rw [hyl]; simp)) := List.getElem?_eq_getElem _
        have y1 : ys[1]? = some (ys[1]'(by rw [hyl]; simp)) := List.getElem?_eq_getElem _
        have y2 : ys[2]? = some (ys[2]'(by rw [hyl]; simp)) := List.getElem?_eq_getElem _
        obtain ⟨b, hb, _⟩ := DataW.trod_bool u0 (g0.trans y0)
        obtain ⟨s, hs, _, hsz⟩ := DataW.trod_string u1 (g1.trans y1)
        obtain ⟨z, hz, _, hwf⟩ := DataW.trod_int u2 (g2.trans y2)
        simp at hb hs hz
        subst hb hs hz
        refine ⟨(b, s, z), ?_, ?_, ?_, hsz, hwf⟩
        · have := hat 0 (by omega); simpa [Addr.add] using this
        · have := hat 1 (by omega); rw [Go.Deep.add_add] at this; simpa using this
        · have := hat 2 (by omega); rw [Go.Deep.add_add] at this; simpa using this)
    refine ⟨l, hl1.symm, hl, hm, at_of_add fun i u hu => ?_, fun s hs => ?_, fun h => nomatch h⟩
    · have hi : i < l.length * 3 := by
        have := (List.getElem?_eq_some_iff.1 hu).1
        rw [psv_len] at this
        exact this
      have h2 := hl2 (i / 3) (by omega)
      have h3 := psv_at l (i / 3) (by omega)
      rcases (show i % 3 = 0 ∨ i % 3 = 1 ∨ i % 3 = 2 from by omega) with h | h | h
      · have e : i / 3 * 3 = i := by omega
        rw [e] at h2 h3
        rw [h3.1] at hu
        rw [← hu]
        exact h2.1
      · have e : i / 3 * 3 + 1 = i := by omega
        rw [e] at h2 h3
        rw [h3.2.1] at hu
        rw [← hu]
        exact h2.2.1
      · have e : i / 3 * 3 + 2 = i := by omega
        rw [e] at h2 h3
        rw [h3.2.2] at hu
        rw [← hu]
        exact h2.2.2.1
    · obtain ⟨i, hi, rfl⟩ := List.getElem_of_mem hs
      exact (hl2 i hi).2.2.2
end
end Go.Proofs.YtibcfmfihcgijaaDoor
