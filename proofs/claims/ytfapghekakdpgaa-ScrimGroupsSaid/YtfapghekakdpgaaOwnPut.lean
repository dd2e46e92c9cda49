/- A row of the call's own whose cells are written anew: it is owned still; nothing below it has changed. -/
import Derived.Test.YtfapghekakdpgaaMem
import Derived.Sort.Row
namespace Go.Proofs.Ytfapghekakdpgaa
open Go.RowKit Go.Sort
theorem put_heap {α : Type} [Inhabited α] (enc : α → Value) (w : World) (g off : Nat) (D : Array α) (cur : Array Value) (e : TypeId) (fr : Nat × Nat) (h : w.heap[g]? = some (.cells cur e fr)) :
    (putRow enc w g off D).heap[g]? = some (.cells (putCells enc off D cur) e fr) := by
  unfold putRow mapBlock
  simp only [Array.getElem?_modify, if_true, h, Option.map_some]
  rfl
theorem put_other {α : Type} [Inhabited α] (enc : α → Value) (w : World) (g off : Nat) (D : Array α) (k : Nat) (h : k ≠ g) : (putRow enc w g off D).heap[k]? = w.heap[k]? := by
  unfold putRow mapBlock
  simp only [Array.getElem?_modify]
  rw [if_neg (fun e => h e.symm)]
theorem put_below {α : Type} [Inhabited α] {B : Nat} (enc : α → Value) (w : World) (g off q : Nat) (D : Array α) (h : B ≤ g) : Below B w (putRow enc (Sort.ahead w q) g off D) :=
  ⟨rfl, rfl, rfl, by rw [size_putRow]; exact Nat.le_refl _, fun k hk => put_other enc (Sort.ahead w q) g off D k (by omega)⟩
theorem own_put {α : Type} [Inhabited α] {w : World} {base : Nat} {e : TypeId} {g n cap : Nat} {xs : List Value} (h : w.ownsRow base e 1 (.slice (some ⟨g, 0, none⟩) n cap) n xs)
    (enc : α → Value) (q : Nat) (D : Array α) (hD : D.size = n) (m : Nat) (hm : m ≤ n) :
    (putRow enc (Sort.ahead w q) g 0 D).ownsRow base e 1 (.slice (some ⟨g, 0, none⟩) m cap) m ((D.toList.take m).map enc) := by
  rcases h.2 with ⟨hv, _⟩ | ⟨g', c, cur, hv, hb, hh, h1, h2, h3, _⟩
  · cases hv
  · injection hv with hA _ hc
    injection hA with hA
    injection hA with hA
    subst hA
    subst hc
    refine ⟨by simp [List.length_take]; omega, .inr ⟨g, cap, putCells enc 0 D cur, rfl, hb, put_heap enc (Sort.ahead w q) g 0 D cur e (0, 0) hh, by omega, h2, by simp [putCells, h3], ?_⟩⟩
    apply List.ext_getElem?
    intro j
    rw [Nat.mul_one, List.getElem?_take, List.getElem?_map, List.getElem?_take]
    by_cases hj : j < m
    · have hjc : j < cur.size := by omega
      have hjD : j < D.size := by omega
      rw [if_pos hj, if_pos hj]
      simp [putCells, hjc, hjD]
    · rw [if_neg hj, if_neg hj]
      rfl
theorem own_head {w : World} {base : Nat} {e : TypeId} {size n : Nat} {v : Value} {xs : List Value} (h : w.ownsRow base e size v n xs) (hn : 0 < n) :
    ∃ g cap, v = .slice (some ⟨g, 0, none⟩) n cap ∧ base ≤ g ∧ g < w.heap.size ∧ n ≤ cap ∧ cap ≤ maxLen := by
  rcases h.2 with ⟨_, h0⟩ | ⟨g, c, cur, hv, hb, hh, h1, h2, _⟩
  · omega
  · refine ⟨g, c, hv, hb, ?_, h1, h2⟩
    rcases Nat.lt_or_ge g w.heap.size with hx | hx
    · exact hx
    · rw [Array.getElem?_eq_none hx] at hh; cases hh
theorem own_holds {α : Type} [Inhabited α] {w : World} {base : Nat} {e : TypeId} {g n cap : Nat} (enc : α → Value) {D : Array α} (h : w.ownsRow base e 1 (.slice (some ⟨g, 0, none⟩) n cap) n (D.toList.map enc)) : Holds enc w g 0 D := by
  intro j hj
  rcases h.2 with ⟨hv, _⟩ | ⟨g', c, cur, hv, hb, hh, h1, h2, h3, h4⟩
  · cases hv
  · injection hv with hA _ hc
    injection hA with hA
    injection hA with hA
    subst hA
    have hx : (D.toList.map enc)[j]? = some (enc D[j]!) := by simp [hj]
    refine ⟨?_, by simp [World.frozen?, hh]⟩
    rw [cell_of_row w g (0 + j) cur e (0, 0) hh, Nat.zero_add]
    rw [← h4, List.getElem?_take] at hx
    split at hx
    · simpa using hx
    · cases hx
end Go.Proofs.Ytfapghekakdpgaa
