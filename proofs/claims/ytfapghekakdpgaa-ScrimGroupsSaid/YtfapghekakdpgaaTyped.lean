/- Blocks told apart by their element types. -/
import Derived.Test.YtfapghekakdpgaaWeW1
import Derived.Test.YtfapghekakdpgaaBeside
import Derived.Test.YtfapghekakdpgaaBlk
namespace Go.Proofs.Ytfapghekakdpgaa
open Go.RowKit Go.Maps
def Typed (W : World) (x : Nat) (T : TypeId) : Prop := ∃ cs fr, W.heap[x]? = some (.cells cs T fr)
theorem Typed.ne {W : World} {x y : Nat} {T U : TypeId} (h : Typed W x T) (k : Typed W y U) (hne : T ≠ U) : x ≠ y := by
  rintro rfl
  obtain ⟨cs, fr, h⟩ := h
  obtain ⟨ds, gr, k⟩ := k
  rw [h] at k
  injection k with k
  injection k with _ k _
  exact hne k
theorem typed_own {W : World} {base : Nat} {e : TypeId} {size n : Nat} {v : Value} {xs : List Value} (h : W.ownsRow base e size v n xs) {x : Nat} (hx : v.ownBlock = some x) : Typed W x e := by
  rcases h.2 with ⟨rfl, _⟩ | ⟨g, c, cur, rfl, _, hh, _⟩
  · cases hx
  · simp only [Value.ownBlock, Option.some.injEq] at hx
    subst hx
    exact ⟨_, _, hh⟩
theorem map_not_typed {α : Type} {P : Program} {K : TypeId} {kl : α → Lit} {ok : α → Prop} {w : World} {b n : Nat} {f : α → Option Value} (h : MapOf P K kl ok w b f n) {x : Nat} {T : TypeId} (k : Typed w x T) : b ≠ x := by
  rintro rfl
  obtain ⟨D, ⟨es, clock, h1, _⟩, _⟩ := h
  obtain ⟨cs, fr, k⟩ := k
  rw [h1] at k
  cases k
end Go.Proofs.Ytfapghekakdpgaa
