/- How a slice of kids is opened, nil let in. -/
import Derived.Test.YtdojalflgfacgaaLiOpen
import Derived.Test.YtdojalflgfacgaaKids
import Derived.Test.YtdojalflgfacgaaKeys
import Derived.Deep.Slices
import Derived.Deep.Fields
namespace Go.Proofs.Ytdojalflgfacgaa
open Go.RowKit Go.ChangeShapes Go.WideShapes Go.Deep Ma
def KidsIn (w : World) (A : Option Addr) (n c : Nat) (l : List Kd) : Prop :=
  n = l.length ∧ n ≤ c ∧ c ≤ maxLen ∧ At w A (kc l) ∧ (∀ k ∈ l, OkK k) ∧ (A = none → n = 0 ∧ c = 0)
section
variable {H : Type} {enc : TypeId × Value → H} {P : Program} {w : World} {base : Nat} {spare : Nat → Bool} {held : Bool}
theorem kids_in {t e : TypeId} {f0 f1 : Field} {A : Option Addr} {n c : Nat} {d : DataW H} {p : List MemPlace} (ht : P.underlying t = some (.slice e)) (he : P.underlying e = some (.struct #[f0, f1]))
    (ce : P.cellsOf e = 2) (o0 : f0.offset = 0) (o1 : f1.offset = 1) (c0 : P.cellsOf f0.type = 1) (c1 : P.cellsOf f1.type = 1) (u0 : P.underlying f0.type = some (.int .i64)) (u1 : P.underlying f1.type = some .string)
    (h : DataW.Trod enc P w base spare held t (.slice A n c) d p) : ∃ l, KidsIn w A n c l := by
  obtain ⟨fuel, hf⟩ := h
  rcases open_slice_pairs ht he ce o0 o1 c0 c1 hf with ⟨hcs, _⟩ | ⟨a, len, cap, m, k, V0, V1, D0, D1, P0, P1, hcs, _, hl, hm, hmm, _, hcell⟩
  · simp [Value.cells] at hcs
    obtain ⟨rfl, rfl, rfl⟩ := hcs
    exact ⟨[], rfl, Nat.le_refl _, Nat.zero_le _, At.nil _ _, (fun s hs => by cases hs), fun _ => ⟨rfl, rfl⟩⟩
  · simp [Value.cells] at hcs
    obtain ⟨rfl, rfl, rfl⟩ := hcs
    have hle : n ≤ m := by rw [hmm]; split <;> omega
    obtain ⟨l, hl1, hl2⟩ := list_of (P := fun i (s : Kd) => w.cell? (a.add (i * 2)) = some (.int .i64 s.1) ∧ w.cell? (a.add (i * 2 + 1)) = some (.string s.2) ∧ OkK s) n (by
      intro i hi
      obtain ⟨h1, h2, h3, h4⟩ := hcell i (by omega)
      obtain ⟨z, hz, _, hwf⟩ := DataW.trod_int u0 h3
      obtain ⟨s, hs, _, hsz⟩ := DataW.trod_string u1 h4
      simp at hs hz
      exact ⟨(z, s), by rw [h1, hz], by rw [h2, hs], hwf, hsz⟩)
    refine ⟨l, hl1.symm, hl, hm, at_of_add fun i u hu => ?_, fun s hs => ?_, fun h => nomatch h⟩
    · have hi : i < l.length * 2 := by
        have := (List.getElem?_eq_some_iff.1 hu).1
        rw [kc_len] at this
        exact this
      have h2 := hl2 (i / 2) (by omega)
      have h3 := kc_at l (i / 2) (by omega)
      rw [g_eq l (i / 2) (by omega)] at h3
      rcases Nat.mod_two_eq_zero_or_one i with h | h
      · have e : i / 2 * 2 = i := by omega
        rw [e] at h2 h3
        rw [h3.1] at hu
        rw [← hu]
        exact h2.1
      · have e : i / 2 * 2 + 1 = i := by omega
        rw [e] at h2 h3
        rw [h3.2] at hu
        rw [← hu]
        exact h2.2.1
    · obtain ⟨i, hi, rfl⟩ := List.getElem_of_mem hs
      exact (hl2 i hi).2.2
end
end Go.Proofs.Ytdojalflgfacgaa
