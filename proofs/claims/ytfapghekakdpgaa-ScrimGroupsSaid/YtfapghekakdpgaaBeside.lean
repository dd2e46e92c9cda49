/- What turns but for some blocks: general words on memory. -/
import Derived.Test.YtfapghekakdpgaaMem
namespace Go.Proofs.Ytfapghekakdpgaa
open Go.RowKit
theorem set_block {w : World} {b : Nat} {cs : Array Value} {t : TypeId} {fr : Nat × Nat} (h : w.heap[b]? = some (.cells cs t fr)) (i : Nat) (v : Value) : (w.setCell ⟨b, i, none⟩ v).heap[b]? = some (.cells (cs.setIfInBounds i v) t fr) := by
  simp [World.setCell, Array.getElem?_modify, h]
theorem set_other {w : World} {b g : Nat} (hne : g ≠ b) (i : Nat) (v : Value) : (w.setCell ⟨b, i, none⟩ v).heap[g]? = w.heap[g]? := Below.heap_setCell _ _ _ _ hne
theorem frz0 {w : World} {g : Nat} {cs : Array Value} {t : TypeId} (hh : w.heap[g]? = some (.cells cs t (0, 0))) (i : Nat) : w.frozen? ⟨g, i, none⟩ = false := by simp [World.frozen?, hh]
/-- w' is w but for what the blocks in 'bad' hold, and new blocks. -/
structure Beside (bad : Nat → Prop) (w w' : World) : Prop where
  os : w'.os = w.os
  tape : w'.tape = w.tape
  output : w'.output = w.output
  size : w.heap.size ≤ w'.heap.size
  block : ∀ g, g < w.heap.size → ¬ bad g → w'.heap[g]? = w.heap[g]?
theorem Beside.refl (bad : Nat → Prop) (w : World) : Beside bad w w := ⟨rfl, rfl, rfl, Nat.le_refl _, fun _ _ _ => rfl⟩
theorem Beside.trans {bad : Nat → Prop} {a b c : World} (h : Beside bad a b) (k : Beside bad b c) : Beside bad a c :=
  ⟨k.os.trans h.os, k.tape.trans h.tape, k.output.trans h.output, Nat.le_trans h.size k.size, fun g hg hb => (k.block g (Nat.lt_of_lt_of_le hg h.size) hb).trans (h.block g hg hb)⟩
theorem Beside.ofBelow {bad : Nat → Prop} {a b : World} (h : Below a.heap.size a b) : Beside bad a b := ⟨h.os, h.tape, h.output, h.size, fun g hg _ => h.block g hg⟩
theorem Beside.drewN {bad : Nat → Prop} {a b : World} (h : Beside bad a b) (q : Nat) : Beside bad a (b.drewN q) := ⟨h.os, h.tape, h.output, h.size, h.block⟩
theorem Beside.set {bad : Nat → Prop} {a b : World} (h : Beside bad a b) {g : Nat} (hg : bad g ∨ a.heap.size ≤ g) (i : Nat) (v : Value) : Beside bad a (b.setCell ⟨g, i, none⟩ v) :=
  ⟨h.os, h.tape, h.output, by simpa using h.size, fun k hk hb => (set_other (by rintro rfl; rcases hg with hg | hg; exact hb hg; omega) i v).trans (h.block k hk hb)⟩
theorem Beside.alloc {bad : Nat → Prop} {a b : World} (h : Beside bad a b) (o : Obj) : Beside bad a (b.alloc o) := h.trans (.ofBelow (below_alloc b o))
theorem Beside.grown {bad : Nat → Prop} {a b c : World} (h : Beside bad a b) {row : Option Nat} (hg : b.grownBy c row) (hr : ∀ q, row = some q → bad q ∨ a.heap.size ≤ q) : Beside bad a c := by
  have hs : b.heap.size ≤ c.heap.size := hg.size
  refine ⟨?_, ?_, ?_, Nat.le_trans h.size hs, fun g hgl hb => ?_⟩
  · have := (Below.refl 0 b).grown hg (Nat.zero_le _) (fun _ _ => Nat.zero_le _); exact this.os.trans h.os
  · have := (Below.refl 0 b).grown hg (Nat.zero_le _) (fun _ _ => Nat.zero_le _); exact this.tape.trans h.tape
  · have := (Below.refl 0 b).grown hg (Nat.zero_le _) (fun _ _ => Nat.zero_le _); exact this.output.trans h.output
  · rw [hg.block g (Nat.lt_of_lt_of_le hgl h.size) (fun e => by rcases hr g e.symm with h1 | h1; exact hb h1; omega)]
    exact h.block g hgl hb
theorem Beside.below {bad : Nat → Prop} {B : Nat} {a b c : World} (h : Beside bad b c) (hb : Below B a b) (hB : B ≤ b.heap.size) (hbad : ∀ g, bad g → B ≤ g) : Below B a c :=
  ⟨h.os.trans hb.os, h.tape.trans hb.tape, h.output.trans hb.output, Nat.le_trans hb.size h.size, fun g hg => (h.block g (by omega) (fun e => by have := hbad g e; omega)).trans (hb.block g hg)⟩
theorem Beside.mono {bad bad' : Nat → Prop} {a b : World} (h : Beside bad a b) (hb : ∀ g, bad g → bad' g) : Beside bad' a b := ⟨h.os, h.tape, h.output, h.size, fun g hg hn => h.block g hg (fun e => hn (hb g e))⟩
theorem Beside.at {bad : Nat → Prop} {w w' : World} {A : Option Addr} {xs : List Value} (h : Beside bad w w') (ha : At w A xs) (hA : ∀ b o p, A = some ⟨b, o, p⟩ → ¬ bad b) : At w' A xs := fun hx => by
  obtain ⟨b, off, e, hb, hc⟩ := ha hx
  exact ⟨b, off, e, Nat.lt_of_lt_of_le hb h.size, fun j u hu => (World.cell?_of_block (w := w) (h.block b hb (hA _ _ _ e))).trans (hc j u hu)⟩
theorem Beside.keepsOwn {bad : Nat → Prop} {w w' : World} {base : Nat} {e : TypeId} {size n : Nat} {v : Value} {xs : List Value} (h : Beside bad w w') (ho : w.ownsRow base e size v n xs) (hv : ∀ g, v.ownBlock = some g → ¬ bad g) : w'.ownsRow base e size v n xs := by
  rcases ho with ⟨h1, h2 | ⟨g, c, cur, hv2, h3, hh, h4⟩⟩
  · exact ⟨h1, .inl h2⟩
  · have hlt : g < w.heap.size := by
      rcases Nat.lt_or_ge g w.heap.size with hx | hx
      · exact hx
      · rw [Array.getElem?_eq_none hx] at hh; cases hh
    exact ⟨h1, .inr ⟨g, c, cur, hv2, h3, (h.block g hlt (hv g (by rw [hv2]; rfl))).trans hh, h4⟩⟩
end Go.Proofs.Ytfapghekakdpgaa
