/- Contracts of props' Of at numbers, and of its search in a map. -/
import Derived.Test.YtcboeehmhpkodaaPrS2
namespace Go.Proofs.Ytcboeehmhpkodaa
open Go.RowKit M
theorem of_any (A : Option Addr) (n c : Nat) (l : List Par) (w : World) (hn : n = l.length) (hb : n ≤ 100000) (hA0 : A = none → n = 0 ∧ c = 0) (ha : At w A (pv l)) :
    Calls Try.prog 24 #[.slice A n c] w fun e w' => ∃ v, e = .returned v ∧ w'.ownsRow w.heap.size 56 2 v (ofP l).length (pv (ofP l)) ∧ RowKit.Below w.heap.size w w' := by
  have H := Lib.hid (latest_any A n c l w hn hb hA0 ha)
  clear hn hA0 ha
  go_enter Try.func24, Try.ntmps24
  go_wp2_with (go_at_call 37; refine H.out.mono ?_; rintro e w1 ⟨v, rfl, h1, h2⟩)
  go_ret
  exact ⟨v, rfl, h1, h2⟩
theorem rises_at {m : List Par} (hm : Rises m) {i j : Nat} (hij : i < j) (hj : j < m.length) : blt (m[i]'(by omega)).1 m[j].1 = true := List.pairwise_iff_getElem.1 hm i j (by omega) hj hij
end Go.Proofs.Ytcboeehmhpkodaa
