/- How a slice of ints is opened, nil let in. -/
import Derived.Test.YtbekoockmageoaaDoorHkW5
import Derived.SliceStrings
import Derived.Deep.SlicePairs
import Derived.ChangeArms
namespace Go.Proofs.YtbekoockmageoaaDoor
open Go.RowKit Go.ChangeShapes Go.WideShapes Go.Deep
theorem at_of_add {w : World} {a : Addr} {xs : List Value} (h : ∀ i u, xs[i]? = some u → w.cell? (a.add i) = some u) : At w (some a) xs := fun hx => by
  obtain ⟨b, off, spot⟩ := a
  cases xs with
  | nil => exact absurd rfl hx
  | cons x xs =>
    have h0 := h 0 x rfl
    have hs : spot = none := by simpa [Addr.add] using World.cell?_spot h0
    subst hs
    refine ⟨b, off, rfl, World.block_lt_of_cell? w _ h0, fun j u hu => ?_⟩
    have h1 := h j u hu
    unfold Addr.add at h1
    by_cases hj : j = 0
    · subst hj; simpa using h1
    · simpa [hj] using h1
theorem list_of {α : Type} {P : Nat → α → Prop} : ∀ n, (∀ i, i < n → ∃ x, P i x) → ∃ l : List α, l.length = n ∧ ∀ i (h : i < l.length), P i l[i] := by
  intro n
  induction n with
  | zero => intro _; exact ⟨[], rfl, fun i h => by cases h⟩
  | succ q ih =>
    intro hq
    obtain ⟨l, h1, h2⟩ := ih fun i hi => hq i (by omega)
    obtain ⟨x, hx⟩ := hq q (by omega)
    refine ⟨l ++ [x], by simp [h1], fun i hi => ?_⟩
    rcases Nat.lt_or_ge i l.length with h | h
    · rw [List.getElem_append_left h]; exact h2 i h
    · have : i = q := by simp at hi; omega
      subst this
      rw [List.getElem_append_right h]
      simpa [h1] using hx
def IntsIn (w : World) (A : Option Addr) (n c : Nat) (l : List Int) : Prop := n = l.length ∧ n ≤ c ∧ c ≤ maxLen ∧ At w A (iv l) ∧ (A = none → n = 0 ∧ c = 0)
section
variable {H : Type} {enc : TypeId × Value → H} {P : Program} {w : World} {base : Nat} {spare : Nat → Bool} {held : Bool}
theorem ints_in {t e : TypeId} {A : Option Addr} {n c : Nat} {d : DataW H} {p : List MemPlace} (ht : P.underlying t = some (.slice e)) (he : P.underlying e = some (.int .i64)) (ce : P.cellsOf e = 1)
    (h : DataW.Trod enc P w base spare held t (.slice A n c) d p) : ∃ l, IntsIn w A n c l := by
  obtain ⟨fuel, hf⟩ := h
  rcases open_slice ht hf with ⟨hcs, _⟩ | ⟨a, len, cap, m, k, D, Pl, hcs, _, hl, hm, hmm, _, hcell⟩
  · simp [Value.cells] at hcs
    obtain ⟨rfl, rfl, rfl⟩ := hcs
    exact ⟨[], rfl, Nat.le_refl _, Nat.zero_le _, At.nil _ _, fun _ => ⟨rfl, rfl⟩⟩
  · simp [Value.cells] at hcs
    obtain ⟨rfl, rfl, rfl⟩ := hcs
    have hle : n ≤ m := by rw [hmm]; split <;> omega
    obtain ⟨l, hl1, hl2⟩ := list_of (P := fun i (z : Int) => w.cell? (a.add i) = some (.int .i64 z)) n (by
      intro i hi
      obtain ⟨cs', hc, ht'⟩ := hcell i (by omega)
      rw [ce] at hc
      rw [Nat.mul_one] at hc
      obtain ⟨_, hcl, hat⟩ := World.cells?_some hc
      match cs', hcl with
      | [x0], _ =>
        obtain ⟨z0, e0, _, _⟩ := DataW.trod_int he ht'
        simp at e0
        subst e0
        refine ⟨z0, ?_⟩
        have h9 := hat 0 (by simp)
        rw [Go.Deep.add_add] at h9
        simpa using h9)
    refine ⟨l, hl1.symm, hl, hm, at_of_add fun i u hu => ?_, fun h => nomatch h⟩
    have hi : i < l.length := by
      have := (List.getElem?_eq_some_iff.1 hu).1
      rw [iv_len] at this
      exact this
    have h2 := hl2 i hi
    rw [iv_at l i hi] at hu
    injection hu with hu
    rw [← hu, h2]
    simp [ats, hi]
end
end Go.Proofs.YtbekoockmageoaaDoor
