/- Contracts of layer 3: Drop and Mine (by the library's DeleteFunc), and the document's own Clean, Drop, Mine. -/
import Derived.Test.YtcboeehmhpkodaaClW2
namespace Go.Proofs.Ytcboeehmhpkodaa
open Go.RowKit M Go.Sort
theorem at_of_own {w : World} {base : Nat} {e : TypeId} {size n : Nat} {v : Value} {xs : List Value} (h : w.ownsRow base e size v n xs) : ∃ A c, v = .slice A n c ∧ n ≤ c ∧ c ≤ maxLen ∧ At w A xs := by
  obtain ⟨A, c, rfl, h1, h2⟩ := own_slice h
  exact ⟨A, c, rfl, h1, h2, At.own h⟩
end Go.Proofs.Ytcboeehmhpkodaa
