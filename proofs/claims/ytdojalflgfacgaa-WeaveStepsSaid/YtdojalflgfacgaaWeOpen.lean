/- How a slice of ints is opened, each of them within its bounds. -/
import Derived.Test.YtdojalflgfacgaaLiOpen
import Derived.Test.YtdojalflgfacgaaMapL
namespace Go.Proofs.Ytdojalflgfacgaa
open Go.RowKit Go.ChangeShapes Go.WideShapes Go.Deep
def IntsOk (w : World) (A : Option Addr) (n c : Nat) (l : List Int) : Prop := n = l.length ∧ n ≤ c ∧ c ≤ maxLen ∧ At w A (iv l) ∧ (∀ x ∈ l, OkI x) ∧ (A = none → n = 0 ∧ c = 0)
section
variable {H : Type} {enc : TypeId × Value → H} {P : Program} {w : World} {base : Nat} {spare : Nat → Bool} {held : Bool}
theorem ints_ok {t e : TypeId} {A : Option Addr} {n c : Nat} {d : DataW H} {p : List MemPlace} (ht : P.underlying t = some (.slice e)) (he : P.underlying e = some (.int .i64)) (ce : P.cellsOf e = 1)
    (h : DataW.Trod enc P w base spare held t (.slice A n c) d p) : ∃ l, IntsOk w A n c l := by
  obtain ⟨fuel, hf⟩ := h
  rcases open_slice ht hf with ⟨hcs, _⟩ | ⟨a, len, cap, m, k, D, Pl, hcs, _, hl, hm, hmm, _, hcell⟩
  · simp [Value.cells] at hcs
    obtain ⟨rfl, rfl, rfl⟩ := hcs
    exact ⟨[], rfl, Nat.le_refl _, Nat.zero_le _, At.nil _ _, (fun s hs => by cases hs), fun _ => ⟨rfl, rfl⟩⟩
  · simp [Value.cells] at hcs
    obtain ⟨rfl, rfl, rfl⟩ := hcs
    have hle : n ≤ m := by rw [hmm]; split <;> omega
    obtain ⟨l, hl1, hl2⟩ := list_of (P := fun i (z : Int) => w.cell? (a.add i) = some (.int .i64 z) ∧ OkI z) n (by
      intro i hi
      obtain ⟨cs', hc, ht'⟩ := hcell i (by omega)
      rw [ce] at hc
      rw [Nat.mul_one] at hc
      obtain ⟨_, hcl, hat⟩ := World.cells?_some hc
      match cs', hcl with
      | [x0], _ =>
        obtain ⟨z0, e0, _, hwf⟩ := DataW.trod_int he ht'
        simp at e0
        subst e0
        refine ⟨z0, ?_, hwf⟩
        have h9 := hat 0 (by simp)
        rw [Go.Deep.add_add] at h9
        simpa using h9)
    refine ⟨l, hl1.symm, hl, hm, at_of_add fun i u hu => ?_, fun x hx => ?_, fun h => nomatch h⟩
    · have hi : i < l.length := by
        have := (List.getElem?_eq_some_iff.1 hu).1
        rw [iv_len] at this
        exact this
      have h2 := (hl2 i hi).1
      rw [iv_at l i hi] at hu
      injection hu with hu
      rw [← hu, h2]
      simp [ats, hi]
    · obtain ⟨i, hi, rfl⟩ := List.mem_iff_getElem.1 hx
      exact (hl2 i hi).2
end
end Go.Proofs.Ytdojalflgfacgaa
