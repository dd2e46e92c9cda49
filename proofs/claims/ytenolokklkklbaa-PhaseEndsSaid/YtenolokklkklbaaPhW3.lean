/- Contracts of a kid's methods. -/
import Derived.Test.YtenolokklkklbaaPhW2
namespace Go.Proofs.Ytenolokklkklbaa
open Go.RowKit Ph
set_option linter.unusedVariables false
namespace Ph
def zo : Array Value := #[.int .i64 0, .int .i64 0, .int .i64 0, .int .i64 0, .int .i64 0, .int .i64 0, .slice none 0 0, .int .i64 0, .int .i64 0, .bool false, .bool false, .bool false]
/-- what a method answers -/
def Outs (w : World) (o : Ou) (e : Ending) (w' : World) : Prop := ∃ hv, e = .returned (.agg (ouc o hv)) ∧ w'.ownsRow w.heap.size 3 1 hv o.h.length (iv o.h) ∧ Below w.heap.size w w'
theorem start_ob (w : World) (s : St) (V : World) (hV : V = ((w.alloc (.cells #[.int .i64 s.k, .int .i64 s.m, .int .i64 s.x, .int .i64 s.y, .int .i64 s.d, .int .i64 s.e] 27)).alloc (.cells #[.int .i64 0, .int .i64 0, .int .i64 0, .int .i64 0, .int .i64 0, .int .i64 0, .slice none 0 0, .int .i64 0, .int .i64 0, .bool false, .bool false, .bool false] 34)).alloc (.cells #[.int .i64 s.k, .int .i64 s.m, .int .i64 s.x, .int .i64 s.y, .int .i64 s.d, .int .i64 s.e, .slice none 0 0, .int .i64 0, .int .i64 0, .bool false, .bool false, .bool false] 34)) :
    Ob V (w.heap.size + 2) (w.heap.size + 2) (mk s) (.slice none 0 0) ∧ Blk V (w.heap.size + 1) 34 zo ∧ Blk V w.heap.size 27 (stc s) ∧ Below w.heap.size w V ∧ V.heap.size = w.heap.size + 3 := by
  subst hV
  refine ⟨⟨Nat.le_refl _, Blk.new' _ _ _ _ (by simp), World.ownsRow_nil _ _ _ _⟩, (Blk.new' (w.alloc _) _ _ _ (by simp)).alloc _, ((Blk.new w _ _).alloc _).alloc _, ((below_alloc w _).alloc (by simp) _).alloc (by simp; omega) _, by simp⟩
theorem six_cells {w : World} {b : Nat} {s : St} (h : Blk w b 27 (stc s)) : w.cell? ⟨b, 0, none⟩ = some (.int .i64 s.k) ∧ w.cell? ⟨b, 1, none⟩ = some (.int .i64 s.m) ∧ w.cell? ⟨b, 2, none⟩ = some (.int .i64 s.x) ∧ w.cell? ⟨b, 3, none⟩ = some (.int .i64 s.y) ∧ w.cell? ⟨b, 4, none⟩ = some (.int .i64 s.d) ∧ w.cell? ⟨b, 5, none⟩ = some (.int .i64 s.e) :=
  ⟨h.cell 0 rfl, h.cell 1 rfl, h.cell 2 rfl, h.cell 3 rfl, h.cell 4 rfl, h.cell 5 rfl⟩
section
variable {w w' : World} {B b r : Nat} {o : Ou} {hv : Value} {t : TypeId} {x0 x1 x2 x3 x4 x5 x6 x7 x8 x9 x10 x11 : Value}
theorem blk12 (h : Blk w b t #[x0, x1, x2, x3, x4, x5, x6, x7, x8, x9, x10, x11]) : w.cell? ⟨b, 0, none⟩ = some x0 ∧ w.cell? ⟨b, 1, none⟩ = some x1 ∧ w.cell? ⟨b, 2, none⟩ = some x2 ∧ w.cell? ⟨b, 3, none⟩ = some x3 ∧ w.cell? ⟨b, 4, none⟩ = some x4 ∧ w.cell? ⟨b, 5, none⟩ = some x5 ∧ w.cell? ⟨b, 6, none⟩ = some x6 ∧ w.cell? ⟨b, 7, none⟩ = some x7 ∧ w.cell? ⟨b, 8, none⟩ = some x8 ∧ w.cell? ⟨b, 9, none⟩ = some x9 ∧ w.cell? ⟨b, 10, none⟩ = some x10 ∧ w.cell? ⟨b, 11, none⟩ = some x11 := ⟨h.cell 0 rfl, h.cell 1 rfl, h.cell 2 rfl, h.cell 3 rfl, h.cell 4 rfl, h.cell 5 rfl, h.cell 6 rfl, h.cell 7 rfl, h.cell 8 rfl, h.cell 9 rfl, h.cell 10 rfl, h.cell 11 rfl⟩
theorem frz12 {cs : Array Value} (h : Blk w b t cs) : w.frozen? ⟨b, 0, none⟩ = false ∧ w.frozen? ⟨b, 1, none⟩ = false ∧ w.frozen? ⟨b, 2, none⟩ = false ∧ w.frozen? ⟨b, 3, none⟩ = false ∧ w.frozen? ⟨b, 4, none⟩ = false ∧ w.frozen? ⟨b, 5, none⟩ = false ∧ w.frozen? ⟨b, 6, none⟩ = false ∧ w.frozen? ⟨b, 7, none⟩ = false ∧ w.frozen? ⟨b, 8, none⟩ = false ∧ w.frozen? ⟨b, 9, none⟩ = false ∧ w.frozen? ⟨b, 10, none⟩ = false ∧ w.frozen? ⟨b, 11, none⟩ = false := ⟨h.frozen 0, h.frozen 1, h.frozen 2, h.frozen 3, h.frozen 4, h.frozen 5, h.frozen 6, h.frozen 7, h.frozen 8, h.frozen 9, h.frozen 10, h.frozen 11⟩
theorem blk_set12 {y0 y1 y2 y3 y4 y5 y6 y7 y8 y9 y10 y11 : Value} (h : Blk w b t #[y0, y1, y2, y3, y4, y5, y6, y7, y8, y9, y10, y11]) : ((((((((((((w.setCell ⟨b, 0, none⟩ x0).setCell ⟨b, 1, none⟩ x1).setCell ⟨b, 2, none⟩ x2).setCell ⟨b, 3, none⟩ x3).setCell ⟨b, 4, none⟩ x4).setCell ⟨b, 5, none⟩ x5).setCell ⟨b, 6, none⟩ x6).setCell ⟨b, 7, none⟩ x7).setCell ⟨b, 8, none⟩ x8).setCell ⟨b, 9, none⟩ x9).setCell ⟨b, 10, none⟩ x10).setCell ⟨b, 11, none⟩ x11).heap[b]? = some (.cells #[x0, x1, x2, x3, x4, x5, x6, x7, x8, x9, x10, x11] t (0, 0)) := by
  have h1 : Blk (w.setCell ⟨b, 0, none⟩ x0) b t #[x0, y1, y2, y3, y4, y5, y6, y7, y8, y9, y10, y11] := h.set 0 x0
  clear h
  have h2 : Blk ((w.setCell ⟨b, 0, none⟩ x0).setCell ⟨b, 1, none⟩ x1) b t #[x0, x1, y2, y3, y4, y5, y6, y7, y8, y9, y10, y11] := h1.set 1 x1
  clear h1
  have h3 : Blk (((w.setCell ⟨b, 0, none⟩ x0).setCell ⟨b, 1, none⟩ x1).setCell ⟨b, 2, none⟩ x2) b t #[x0, x1, x2, y3, y4, y5, y6, y7, y8, y9, y10, y11] := h2.set 2 x2
  clear h2
  have h4 : Blk ((((w.setCell ⟨b, 0, none⟩ x0).setCell ⟨b, 1, none⟩ x1).setCell ⟨b, 2, none⟩ x2).setCell ⟨b, 3, none⟩ x3) b t #[x0, x1, x2, x3, y4, y5, y6, y7, y8, y9, y10, y11] := h3.set 3 x3
  clear h3
  have h5 : Blk (((((w.setCell ⟨b, 0, none⟩ x0).setCell ⟨b, 1, none⟩ x1).setCell ⟨b, 2, none⟩ x2).setCell ⟨b, 3, none⟩ x3).setCell ⟨b, 4, none⟩ x4) b t #[x0, x1, x2, x3, x4, y5, y6, y7, y8, y9, y10, y11] := h4.set 4 x4
  clear h4
  have h6 : Blk ((((((w.setCell ⟨b, 0, none⟩ x0).setCell ⟨b, 1, none⟩ x1).setCell ⟨b, 2, none⟩ x2).setCell ⟨b, 3, none⟩ x3).setCell ⟨b, 4, none⟩ x4).setCell ⟨b, 5, none⟩ x5) b t #[x0, x1, x2, x3, x4, x5, y6, y7, y8, y9, y10, y11] := h5.set 5 x5
  clear h5
  have h7 : Blk (((((((w.setCell ⟨b, 0, none⟩ x0).setCell ⟨b, 1, none⟩ x1).setCell ⟨b, 2, none⟩ x2).setCell ⟨b, 3, none⟩ x3).setCell ⟨b, 4, none⟩ x4).setCell ⟨b, 5, none⟩ x5).setCell ⟨b, 6, none⟩ x6) b t #[x0, x1, x2, x3, x4, x5, x6, y7, y8, y9, y10, y11] := h6.set 6 x6
  clear h6
  have h8 : Blk ((((((((w.setCell ⟨b, 0, none⟩ x0).setCell ⟨b, 1, none⟩ x1).setCell ⟨b, 2, none⟩ x2).setCell ⟨b, 3, none⟩ x3).setCell ⟨b, 4, none⟩ x4).setCell ⟨b, 5, none⟩ x5).setCell ⟨b, 6, none⟩ x6).setCell ⟨b, 7, none⟩ x7) b t #[x0, x1, x2, x3, x4, x5, x6, x7, y8, y9, y10, y11] := h7.set 7 x7
  clear h7
  have h9 : Blk (((((((((w.setCell ⟨b, 0, none⟩ x0).setCell ⟨b, 1, none⟩ x1).setCell ⟨b, 2, none⟩ x2).setCell ⟨b, 3, none⟩ x3).setCell ⟨b, 4, none⟩ x4).setCell ⟨b, 5, none⟩ x5).setCell ⟨b, 6, none⟩ x6).setCell ⟨b, 7, none⟩ x7).setCell ⟨b, 8, none⟩ x8) b t #[x0, x1, x2, x3, x4, x5, x6, x7, x8, y9, y10, y11] := h8.set 8 x8
  clear h8
  have h10 : Blk ((((((((((w.setCell ⟨b, 0, none⟩ x0).setCell ⟨b, 1, none⟩ x1).setCell ⟨b, 2, none⟩ x2).setCell ⟨b, 3, none⟩ x3).setCell ⟨b, 4, none⟩ x4).setCell ⟨b, 5, none⟩ x5).setCell ⟨b, 6, none⟩ x6).setCell ⟨b, 7, none⟩ x7).setCell ⟨b, 8, none⟩ x8).setCell ⟨b, 9, none⟩ x9) b t #[x0, x1, x2, x3, x4, x5, x6, x7, x8, x9, y10, y11] := h9.set 9 x9
  clear h9
  have h11 : Blk (((((((((((w.setCell ⟨b, 0, none⟩ x0).setCell ⟨b, 1, none⟩ x1).setCell ⟨b, 2, none⟩ x2).setCell ⟨b, 3, none⟩ x3).setCell ⟨b, 4, none⟩ x4).setCell ⟨b, 5, none⟩ x5).setCell ⟨b, 6, none⟩ x6).setCell ⟨b, 7, none⟩ x7).setCell ⟨b, 8, none⟩ x8).setCell ⟨b, 9, none⟩ x9).setCell ⟨b, 10, none⟩ x10) b t #[x0, x1, x2, x3, x4, x5, x6, x7, x8, x9, x10, y11] := h10.set 10 x10
  clear h10
  have h12 : Blk ((((((((((((w.setCell ⟨b, 0, none⟩ x0).setCell ⟨b, 1, none⟩ x1).setCell ⟨b, 2, none⟩ x2).setCell ⟨b, 3, none⟩ x3).setCell ⟨b, 4, none⟩ x4).setCell ⟨b, 5, none⟩ x5).setCell ⟨b, 6, none⟩ x6).setCell ⟨b, 7, none⟩ x7).setCell ⟨b, 8, none⟩ x8).setCell ⟨b, 9, none⟩ x9).setCell ⟨b, 10, none⟩ x10).setCell ⟨b, 11, none⟩ x11) b t #[x0, x1, x2, x3, x4, x5, x6, x7, x8, x9, x10, x11] := h11.set 11 x11
  clear h11
  exact h12
theorem bes_set12 : Beside (fun g => g = b) w ((((((((((((w.setCell ⟨b, 0, none⟩ x0).setCell ⟨b, 1, none⟩ x1).setCell ⟨b, 2, none⟩ x2).setCell ⟨b, 3, none⟩ x3).setCell ⟨b, 4, none⟩ x4).setCell ⟨b, 5, none⟩ x5).setCell ⟨b, 6, none⟩ x6).setCell ⟨b, 7, none⟩ x7).setCell ⟨b, 8, none⟩ x8).setCell ⟨b, 9, none⟩ x9).setCell ⟨b, 10, none⟩ x10).setCell ⟨b, 11, none⟩ x11) := by
  have h0 := Beside.refl (fun g => g = b) w
  have h1 : Beside (fun g => g = b) w (w.setCell ⟨b, 0, none⟩ x0) := h0.set (.inl rfl) 0 x0
  clear h0
  have h2 : Beside (fun g => g = b) w ((w.setCell ⟨b, 0, none⟩ x0).setCell ⟨b, 1, none⟩ x1) := h1.set (.inl rfl) 1 x1
  clear h1
  have h3 : Beside (fun g => g = b) w (((w.setCell ⟨b, 0, none⟩ x0).setCell ⟨b, 1, none⟩ x1).setCell ⟨b, 2, none⟩ x2) := h2.set (.inl rfl) 2 x2
  clear h2
  have h4 : Beside (fun g => g = b) w ((((w.setCell ⟨b, 0, none⟩ x0).setCell ⟨b, 1, none⟩ x1).setCell ⟨b, 2, none⟩ x2).setCell ⟨b, 3, none⟩ x3) := h3.set (.inl rfl) 3 x3
  clear h3
  have h5 : Beside (fun g => g = b) w (((((w.setCell ⟨b, 0, none⟩ x0).setCell ⟨b, 1, none⟩ x1).setCell ⟨b, 2, none⟩ x2).setCell ⟨b, 3, none⟩ x3).setCell ⟨b, 4, none⟩ x4) := h4.set (.inl rfl) 4 x4
  clear h4
  have h6 : Beside (fun g => g = b) w ((((((w.setCell ⟨b, 0, none⟩ x0).setCell ⟨b, 1, none⟩ x1).setCell ⟨b, 2, none⟩ x2).setCell ⟨b, 3, none⟩ x3).setCell ⟨b, 4, none⟩ x4).setCell ⟨b, 5, none⟩ x5) := h5.set (.inl rfl) 5 x5
  clear h5
  have h7 : Beside (fun g => g = b) w (((((((w.setCell ⟨b, 0, none⟩ x0).setCell ⟨b, 1, none⟩ x1).setCell ⟨b, 2, none⟩ x2).setCell ⟨b, 3, none⟩ x3).setCell ⟨b, 4, none⟩ x4).setCell ⟨b, 5, none⟩ x5).setCell ⟨b, 6, none⟩ x6) := h6.set (.inl rfl) 6 x6
  clear h6
  have h8 : Beside (fun g => g = b) w ((((((((w.setCell ⟨b, 0, none⟩ x0).setCell ⟨b, 1, none⟩ x1).setCell ⟨b, 2, none⟩ x2).setCell ⟨b, 3, none⟩ x3).setCell ⟨b, 4, none⟩ x4).setCell ⟨b, 5, none⟩ x5).setCell ⟨b, 6, none⟩ x6).setCell ⟨b, 7, none⟩ x7) := h7.set (.inl rfl) 7 x7
  clear h7
  have h9 : Beside (fun g => g = b) w (((((((((w.setCell ⟨b, 0, none⟩ x0).setCell ⟨b, 1, none⟩ x1).setCell ⟨b, 2, none⟩ x2).setCell ⟨b, 3, none⟩ x3).setCell ⟨b, 4, none⟩ x4).setCell ⟨b, 5, none⟩ x5).setCell ⟨b, 6, none⟩ x6).setCell ⟨b, 7, none⟩ x7).setCell ⟨b, 8, none⟩ x8) := h8.set (.inl rfl) 8 x8
  clear h8
  have h10 : Beside (fun g => g = b) w ((((((((((w.setCell ⟨b, 0, none⟩ x0).setCell ⟨b, 1, none⟩ x1).setCell ⟨b, 2, none⟩ x2).setCell ⟨b, 3, none⟩ x3).setCell ⟨b, 4, none⟩ x4).setCell ⟨b, 5, none⟩ x5).setCell ⟨b, 6, none⟩ x6).setCell ⟨b, 7, none⟩ x7).setCell ⟨b, 8, none⟩ x8).setCell ⟨b, 9, none⟩ x9) := h9.set (.inl rfl) 9 x9
  clear h9
  have h11 : Beside (fun g => g = b) w (((((((((((w.setCell ⟨b, 0, none⟩ x0).setCell ⟨b, 1, none⟩ x1).setCell ⟨b, 2, none⟩ x2).setCell ⟨b, 3, none⟩ x3).setCell ⟨b, 4, none⟩ x4).setCell ⟨b, 5, none⟩ x5).setCell ⟨b, 6, none⟩ x6).setCell ⟨b, 7, none⟩ x7).setCell ⟨b, 8, none⟩ x8).setCell ⟨b, 9, none⟩ x9).setCell ⟨b, 10, none⟩ x10) := h10.set (.inl rfl) 10 x10
  clear h10
  have h12 : Beside (fun g => g = b) w ((((((((((((w.setCell ⟨b, 0, none⟩ x0).setCell ⟨b, 1, none⟩ x1).setCell ⟨b, 2, none⟩ x2).setCell ⟨b, 3, none⟩ x3).setCell ⟨b, 4, none⟩ x4).setCell ⟨b, 5, none⟩ x5).setCell ⟨b, 6, none⟩ x6).setCell ⟨b, 7, none⟩ x7).setCell ⟨b, 8, none⟩ x8).setCell ⟨b, 9, none⟩ x9).setCell ⟨b, 10, none⟩ x10).setCell ⟨b, 11, none⟩ x11) := h11.set (.inl rfl) 11 x11
  clear h11
  exact h12
theorem outs_of {V : World} {o' : Ou} {ys : Array Value} (h : Ob w (w'.heap.size + 2) b o hv) (hr : Blk w (w'.heap.size + 1) t ys) (hb0 : Below w'.heap.size w' V) (hb : Below (w'.heap.size + 2) V w) (e : o = o') :
    Outs w' o' (.returned (.agg (ouc o hv))) ((((((((((((w.setCell ⟨w'.heap.size + 1, 0, none⟩ x0).setCell ⟨w'.heap.size + 1, 1, none⟩ x1).setCell ⟨w'.heap.size + 1, 2, none⟩ x2).setCell ⟨w'.heap.size + 1, 3, none⟩ x3).setCell ⟨w'.heap.size + 1, 4, none⟩ x4).setCell ⟨w'.heap.size + 1, 5, none⟩ x5).setCell ⟨w'.heap.size + 1, 6, none⟩ x6).setCell ⟨w'.heap.size + 1, 7, none⟩ x7).setCell ⟨w'.heap.size + 1, 8, none⟩ x8).setCell ⟨w'.heap.size + 1, 9, none⟩ x9).setCell ⟨w'.heap.size + 1, 10, none⟩ x10).setCell ⟨w'.heap.size + 1, 11, none⟩ x11) := by
  subst e
  have hbs := bes_set12 (w := w) (b := w'.heap.size + 1) (x0 := x0) (x1 := x1) (x2 := x2) (x3 := x3) (x4 := x4) (x5 := x5) (x6 := x6) (x7 := x7) (x8 := x8) (x9 := x9) (x10 := x10) (x11 := x11)
  have hbw : Below w'.heap.size w' w := hb0.trans (hb.mono (by omega))
  refine ⟨hv, rfl, own_mono (hbs.keepsOwn h.row (fun q hq e => ?_)) (by omega), hbs.below hbw hbw.size (fun g hg => by omega)⟩
  have := own_from h.row q hq
  omega
end
theorem stop_len (s : St) : ((mk s).stopE).h.length ≤ 1 := by
  unfold Ou.stopE
  split
  · show ([] ++ [(4 : Int)]).length ≤ 1
    simp
  · show ([] : List Int).length ≤ 1
    simp
set_option maxHeartbeats 1000000 in
set_option maxRecDepth 100000 in
theorem moveFinish_any (s : St) (w : World) : Calls Try.prog 17 #[.agg (stc s)] w fun e w' => Outs w (moveFinish s) e w' := by
  unfold stc
  obtain ⟨V, hV⟩ : ∃ V, V = ((w.alloc (.cells #[.int .i64 s.k, .int .i64 s.m, .int .i64 s.x, .int .i64 s.y, .int .i64 s.d, .int .i64 s.e] 27)).alloc (.cells #[.int .i64 0, .int .i64 0, .int .i64 0, .int .i64 0, .int .i64 0, .int .i64 0, .slice none 0 0, .int .i64 0, .int .i64 0, .bool false, .bool false, .bool false] 34)).alloc (.cells #[.int .i64 s.k, .int .i64 s.m, .int .i64 s.x, .int .i64 s.y, .int .i64 s.d, .int .i64 s.e, .slice none 0 0, .int .i64 0, .int .i64 0, .bool false, .bool false, .bool false] 34) := ⟨_, rfl⟩
  obtain ⟨h0, hr0, hs0, hb0, hz0⟩ := start_ob w s V hV
  have HV := Lib.hid hV
  have H0 := Lib.hid h0
  have HR0 := Lib.hid hr0
  have HS0 := Lib.hid hs0
  have HB0 := Lib.hid hb0
  have HZ0 := hz0
  have HL0 : Hid (w.heap.size + 2 ≤ V.heap.size) := by show _ ≤ _; omega
  have HBV : Hid (Below (w.heap.size + 2) V V) := Below.refl _ _
  clear hV h0 hr0 hs0 hb0 hz0 HZ0
  obtain ⟨sc0, sc1, sc2, sc3, sc4, sc5⟩ := six_cells (HS0.out.belowB HBV.out (by omega))
  by_cases hk : s.m = 2
  · have HE : Hid ((mk s).endMove = moveFinish s) := by show _ = _; unfold moveFinish; rw [if_pos hk]
    have hk1 : (s.m == 2) = true := by simpa using hk
    clear hk
    go_enter Try.func17, Try.ntmps17
    go_upto_region 2 with fail
    rw [← HV.out]
    have C1 := Lib.hid (endMove_any H0.out)
    go_wp2_with fail
    (with_reducible refine C1.out.mono ?_)
    rintro e w1 ⟨rfl, h1, hb1⟩
    have H1 := Lib.hid h1
    have HB1 := Lib.hid (HBV.out.trans hb1)
    clear h1 hb1 C1
    obtain ⟨tc0, tc1, tc2, tc3, tc4, tc5, tc6, tc7, tc8, tc9, tc10, tc11⟩ := H1.out.cells
    have hrw := HR0.out.belowB HB1.out (by omega)
    obtain ⟨rc0, rc1, rc2, rc3, rc4, rc5, rc6, rc7, rc8, rc9, rc10, rc11⟩ := blk12 hrw
    obtain ⟨rz0, rz1, rz2, rz3, rz4, rz5, rz6, rz7, rz8, rz9, rz10, rz11⟩ := frz12 hrw
    have HRW := Lib.hid hrw
    clear hrw
    go_wp2
    (try simp only [Exit.inBlock, Exit.then])
    refine bodyPost_ret (results_cell_row rfl _ _ (w.heap.size + 1) 34 _ (0, 0) _ rfl (blk_set12 HRW.out) Try.underlying34 rfl (by kernel_rfl)) rfl ?_
    exact outs_of H1.out HRW.out HB0.out HB1.out HE.out
  · have HE : Hid (mk s = moveFinish s) := by show _ = _; unfold moveFinish; rw [if_neg hk]
    go_enter Try.func17, Try.ntmps17
    go_upto_region 2 with fail
    rw [← HV.out]
    obtain ⟨tc0, tc1, tc2, tc3, tc4, tc5, tc6, tc7, tc8, tc9, tc10, tc11⟩ := H0.out.cells
    have hrw := HR0.out.belowB HBV.out (by omega)
    obtain ⟨rc0, rc1, rc2, rc3, rc4, rc5, rc6, rc7, rc8, rc9, rc10, rc11⟩ := blk12 hrw
    obtain ⟨rz0, rz1, rz2, rz3, rz4, rz5, rz6, rz7, rz8, rz9, rz10, rz11⟩ := frz12 hrw
    have HRW := Lib.hid hrw
    clear hrw
    go_wp2
    (try simp only [Exit.inBlock, Exit.then])
    refine bodyPost_ret (results_cell_row rfl _ _ (w.heap.size + 1) 34 _ (0, 0) _ rfl (blk_set12 HRW.out) Try.underlying34 rfl (by kernel_rfl)) rfl ?_
    exact outs_of H0.out HRW.out HB0.out HBV.out HE.out
end Ph
end Go.Proofs.Ytenolokklkklbaa
