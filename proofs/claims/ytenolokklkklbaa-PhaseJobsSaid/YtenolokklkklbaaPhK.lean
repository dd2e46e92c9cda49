/- A kid in memory while calls are made. -/
import Derived.Test.YtenolokklkklbaaPhOpen
import Derived.Test.YtenolokklkklbaaPhQ
namespace Go.Proofs.Ytenolokklkklbaa
open Go.RowKit Ph
set_option linter.unusedVariables false
namespace Ph
/-- what lies in memory while calls are made: the kid in its block -/
structure Kid (w wr : World) (z : Nat) (s : St) : Prop where
  bel : Below w.heap.size w wr
  base : w.heap.size ≤ z
  blk : Blk wr z 27 (stc s)
theorem Kid.below {w wr w' : World} {z : Nat} {s : St} (h : Kid w wr z s) (hb : Below wr.heap.size wr w') : Kid w w' z s := ⟨h.bel.trans (hb.mono h.bel.size), h.base, h.blk.below hb⟩
theorem blk_set6 {w : World} {b : Nat} {t : TypeId} {y0 y1 y2 y3 y4 y5 x0 x1 x2 x3 x4 x5 : Value} (h : Blk w b t #[y0, y1, y2, y3, y4, y5]) : Blk ((((((w.setCell ⟨b, 0, none⟩ x0).setCell ⟨b, 1, none⟩ x1).setCell ⟨b, 2, none⟩ x2).setCell ⟨b, 3, none⟩ x3).setCell ⟨b, 4, none⟩ x4).setCell ⟨b, 5, none⟩ x5) b t #[x0, x1, x2, x3, x4, x5] :=
  (((((h.set 0 x0).set 1 x1).set 2 x2).set 3 x3).set 4 x4).set 5 x5
theorem Kid.put {w wr : World} {z : Nat} {s : St} (h : Kid w wr z s) (q : St) : Kid w ((((((wr.setCell ⟨z, 0, none⟩ (.int .i64 q.k)).setCell ⟨z, 1, none⟩ (.int .i64 q.m)).setCell ⟨z, 2, none⟩ (.int .i64 q.x)).setCell ⟨z, 3, none⟩ (.int .i64 q.y)).setCell ⟨z, 4, none⟩ (.int .i64 q.d)).setCell ⟨z, 5, none⟩ (.int .i64 q.e)) z q :=
  ⟨bset' (bset' (bset' (bset' (bset' (bset' h.bel h.base _ _) h.base _ _) h.base _ _) h.base _ _) h.base _ _) h.base _ _, h.base, blk_set6 h.blk⟩
theorem below_more {a w : World} (h : Below a.heap.size a w) (o : Obj) : Below a.heap.size a (w.alloc o) := h.alloc h.size o
theorem below_join {a b c : World} (h : Below a.heap.size a b) (k : Below b.heap.size b c) : Below a.heap.size a c := h.trans (k.mono h.size)
theorem below_heap {B : Nat} {a w w' : World} (h : Below B a w) (h1 : w'.heap = w.heap) (h2 : w'.os = w.os) (h3 : w'.tape = w.tape) (h4 : w'.output = w.output) : Below B a w' :=
  ⟨h2.trans h.os, h3.trans h.tape, h4.trans h.output, by rw [h1]; exact h.size, fun j hj => by rw [h1]; exact h.block j hj⟩
theorem far1 {w : World} {z k g i : Nat} {x v : Value} (h : w.cell? ⟨g, i, none⟩ = some v) (hne : g ≠ z) : (w.setCell ⟨z, k, none⟩ x).cell? ⟨g, i, none⟩ = some v := (World.cell?_of_block (w := w) (set_other hne k x)).trans h
theorem far6 {w : World} {z g i : Nat} {v x0 x1 x2 x3 x4 x5 : Value} (h : w.cell? ⟨g, i, none⟩ = some v) (hne : g ≠ z) : ((((((w.setCell ⟨z, 0, none⟩ x0).setCell ⟨z, 1, none⟩ x1).setCell ⟨z, 2, none⟩ x2).setCell ⟨z, 3, none⟩ x3).setCell ⟨z, 4, none⟩ x4).setCell ⟨z, 5, none⟩ x5).cell? ⟨g, i, none⟩ = some v := far1 (far1 (far1 (far1 (far1 (far1 h hne) hne) hne) hne) hne) hne
end Ph
end Go.Proofs.Ytenolokklkklbaa
