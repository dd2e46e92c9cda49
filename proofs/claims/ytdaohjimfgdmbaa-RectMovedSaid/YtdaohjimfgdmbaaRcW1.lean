/- Contracts of rect's Right, Bottom, At, Offset, Has, and of the document's Has: numbers within 32 bits, added; each may lay boxes, and changes nothing. -/
import Derived.Test.YtdaohjimfgdmbaaSatO2
import Derived.Test.YtdaohjimfgdmbaaMem
import Derived.Deep.QuietTactic
import Derived.BigQuiet
import Derived.RegionTactic
import Derived.Deep.RegionHeld3
import Derived.StillTailTactics
import Derived.Deep.MidRow
import Derived.Lib.MinMax
import Derived.Below
import Derived.Carry
namespace Go.Proofs.Ytdaohjimfgdmbaa
open Go.RowKit M
theorem below_heap {B : Nat} {a w w' : World} (h : Below B a w) (h1 : w'.heap = w.heap) (h2 : w'.os = w.os) (h3 : w'.tape = w.tape) (h4 : w'.output = w.output) : Below B a w' :=
  ⟨h2.trans h.os, h3.trans h.tape, h4.trans h.output, by rw [h1]; exact h.size, fun k hk => by rw [h1]; exact h.block k hk⟩
theorem below_join {a b c : World} (h : Below a.heap.size a b) (k : Below b.heap.size b c) : Below a.heap.size a c := h.trans (k.mono h.size)
/-- a sum, a difference, within 32 bits -/
def ad (a b : Int) : Int := st (st a + st b)
def sb (a b : Int) : Int := st (st a - st b)
/-- does the rectangle x y w h have the point p q? -/
def inR (x y w h p q : Int) : Bool := decide (x ≤ p) && decide (p < ad x w) && decide (y ≤ q) && decide (q < ad y h)
theorem add_any' (a b : Int) (w : World) : Calls Try.prog 56 #[.int .i64 a, .int .i64 b] w fun e w' => e = .returned (.int .i64 (ad a b)) ∧ w = w' := add_any a b w
theorem sub_any' (a b : Int) (w : World) : Calls Try.prog 54 #[.int .i64 a, .int .i64 b] w fun e w' => e = .returned (.int .i64 (sb a b)) ∧ w = w' := sub_any a b w
theorem radd_any' (a b : Int) (w : World) : Calls Try.prog 43 #[.int .i64 a, .int .i64 b] w fun e w' => e = .returned (.int .i64 (ad a b)) ∧ w = w' := radd_any a b w
theorem rsub_any' (a b : Int) (w : World) : Calls Try.prog 48 #[.int .i64 a, .int .i64 b] w fun e w' => e = .returned (.int .i64 (sb a b)) ∧ w = w' := rsub_any a b w
theorem right_any (x y v h : Int) (w : World) :
    Calls Try.prog 33 #[.agg #[.int .i64 x, .int .i64 y, .int .i64 v, .int .i64 h]] w fun e w' => e = .returned (.int .i64 (ad x v)) ∧ Below w.heap.size w w' := by
  go_enter Try.func33, Try.ntmps33
  go_wp2_with (go_at_call 56; refine (add_any' _ _ _).mono ?_; rintro e w' ⟨rfl, rfl⟩)
  go_ret
  exact ⟨rfl, below_alloc _ _⟩
theorem bottom_any (x y v h : Int) (w : World) :
    Calls Try.prog 55 #[.agg #[.int .i64 x, .int .i64 y, .int .i64 v, .int .i64 h]] w fun e w' => e = .returned (.int .i64 (ad y h)) ∧ Below w.heap.size w w' := by
  go_enter Try.func55, Try.ntmps55
  go_wp2_with (go_at_call 56; refine (add_any' _ _ _).mono ?_; rintro e w' ⟨rfl, rfl⟩)
  go_ret
  exact ⟨rfl, below_alloc _ _⟩
theorem sadd_any (a b : Int) (w : World) : Calls Try.prog 56 #[.int .i64 a, .int .i64 b] w fun e w' => e = .returned (.int .i64 (ad a b)) ∧ w' = w :=
  (add_any a b w).mono fun _ _ h => ⟨h.1, h.2.symm⟩
theorem ssub_any (a b : Int) (w : World) : Calls Try.prog 54 #[.int .i64 a, .int .i64 b] w fun e w' => e = .returned (.int .i64 (sb a b)) ∧ w' = w :=
  (sub_any a b w).mono fun _ _ h => ⟨h.1, h.2.symm⟩
theorem offset_any (a b c d x y v h : Int) (w : World) :
    Calls Try.prog 31 #[.agg #[.int .i64 a, .int .i64 b, .int .i64 c, .int .i64 d], .agg #[.int .i64 x, .int .i64 y, .int .i64 v, .int .i64 h]] w fun e w' => e = .returned (.tuple #[.int .i64 (sb a x), .int .i64 (sb b y)]) ∧ Below w.heap.size w w' := by
  go_enter Try.func31, Try.ntmps31
  go_wp2_with fail
  go_big_quiet ((go_at_call 54; refine Calls.quiet_of_same (ssub_any _ _ _)))
  go_wp2
  go_ret2
  exact ⟨rfl, below_heap ((below_alloc w _).alloc (by simp) _) rfl rfl rfl rfl⟩
theorem rect_laid (w : World) (x y v h : Int) (t : TypeId) : ∃ W, w.alloc (.cells #[.int .i64 x, .int .i64 y, .int .i64 v, .int .i64 h] t) = W ∧ W.heap.size = w.heap.size + 1 ∧ Below w.heap.size w W ∧
    W.cell? ⟨w.heap.size, 0, none⟩ = some (.int .i64 x) ∧ W.cell? ⟨w.heap.size, 1, none⟩ = some (.int .i64 y) ∧ W.cell? ⟨w.heap.size, 2, none⟩ = some (.int .i64 v) ∧ W.cell? ⟨w.heap.size, 3, none⟩ = some (.int .i64 h) ∧
    W.frozen? ⟨w.heap.size, 0, none⟩ = false ∧ W.frozen? ⟨w.heap.size, 1, none⟩ = false ∧ W.frozen? ⟨w.heap.size, 2, none⟩ = false ∧ W.frozen? ⟨w.heap.size, 3, none⟩ = false :=
  ⟨_, rfl, by simp, below_alloc _ _, by simp, by simp, by simp, by simp, by simp, by simp, by simp, by simp⟩
theorem grown_set (w : World) (a : Addr) (u : Value) : w.grownBy (w.setCell a u) (some a.block) :=
  ⟨rfl, rfl, rfl, by simp, fun k _ hk => heap_setCell_other w a k u (fun e => hk (by rw [e]))⟩
theorem below_set {w W : World} (h : Below w.heap.size w W) (g o : Nat) (u : Value) (hg : w.heap.size ≤ g) : Below w.heap.size w (W.setCell ⟨g, o, none⟩ u) :=
  h.grown (grown_set W ⟨g, o, none⟩ u) h.size (fun q hq => by injection hq with hq; simp only at hq; omega)
/-- a struct of numbers that is answered out of memory. -/
theorem results_mid {P : Program} {fn : Func} {p : Tmp} {ty : TypeId} (h : fn.results = #[.cell p ty]) (tmps : Array Value) (w : World) (b o : Nat) (cs : List Value) (d : TypeDesc)
    (hp : tmps.getD p undef = .pointer (some ⟨b, o, none⟩)) (hc : w.rangeAt b o cs) (hu : P.underlying ty = some d) (hd : d.isRow = true) (hi : (P.info? ty).map (·.size) = some cs.length) :
    (results fn tmps).run P w = .ok (.agg cs.toArray) w := by
  have hp' : tmps[p]?.getD undef = .pointer (some ⟨b, o, none⟩) := by simpa using hp
  simp [results, h, hp', asAddr, run_loadVar_mid w b o ty cs d hc hu hd hi]
theorem range4 {w : World} {b o : Nat} {x0 x1 x2 x3 : Value} (h0 : w.cell? ⟨b, o, none⟩ = some x0) (h1 : w.cell? ⟨b, o + 1, none⟩ = some x1) (h2 : w.cell? ⟨b, o + 2, none⟩ = some x2) (h3 : w.cell? ⟨b, o + 3, none⟩ = some x3) : w.rangeAt b o [x0, x1, x2, x3] := by
  intro j u hu
  match j, hu with
  | 0, hu => injection hu with hu; subst hu; exact h0
  | 1, hu => injection hu with hu; subst hu; exact h1
  | 2, hu => injection hu with hu; subst hu; exact h2
  | 3, hu => injection hu with hu; subst hu; exact h3
set_option maxRecDepth 100000 in
theorem at_any (x y v h p q : Int) (w : World) :
    Calls Try.prog 50 #[.agg #[.int .i64 x, .int .i64 y, .int .i64 v, .int .i64 h], .int .i64 p, .int .i64 q] w fun e w' => e = .returned (.agg #[.int .i64 (ad x p), .int .i64 (ad y q), .int .i64 v, .int .i64 h]) ∧ Below w.heap.size w w' := by
  go_enter Try.func50, Try.ntmps50
  go_wp2_with fail
  obtain ⟨W1, e1, s1, b1, f10, f11, f12, f13, r10, r11, r12, r13⟩ := rect_laid w x y v h 29
  rw [e1]
  obtain ⟨W2, e2, s2, b2, f20, f21, f22, f23, r20, r21, r22, r23⟩ := rect_laid W1 0 0 0 0 29
  rw [e2]
  have g10 : W2.cell? ⟨w.heap.size, 0, none⟩ = _ := (b2.cell (p := ⟨w.heap.size, 0, none⟩) (by show w.heap.size < _; omega)).trans f10
  have g11 : W2.cell? ⟨w.heap.size, 1, none⟩ = _ := (b2.cell (p := ⟨w.heap.size, 1, none⟩) (by show w.heap.size < _; omega)).trans f11
  have g12 : W2.cell? ⟨w.heap.size, 2, none⟩ = _ := (b2.cell (p := ⟨w.heap.size, 2, none⟩) (by show w.heap.size < _; omega)).trans f12
  have g13 : W2.cell? ⟨w.heap.size, 3, none⟩ = _ := (b2.cell (p := ⟨w.heap.size, 3, none⟩) (by show w.heap.size < _; omega)).trans f13
  rw [s1] at f20 f21 f22 f23 r20 r21 r22 r23
  have c20 : W2.drew.cell? ⟨w.heap.size + 1, 0, none⟩ = _ := f20
  have c21 : W2.drew.cell? ⟨w.heap.size + 1, 1, none⟩ = _ := f21
  have c22 : W2.drew.cell? ⟨w.heap.size + 1, 2, none⟩ = _ := f22
  have c23 : W2.drew.cell? ⟨w.heap.size + 1, 3, none⟩ = _ := f23
  have z20 : W2.drew.frozen? ⟨w.heap.size + 1, 0, none⟩ = false := r20
  have z21 : W2.drew.frozen? ⟨w.heap.size + 1, 1, none⟩ = false := r21
  have z22 : W2.drew.frozen? ⟨w.heap.size + 1, 2, none⟩ = false := r22
  have z23 : W2.drew.frozen? ⟨w.heap.size + 1, 3, none⟩ = false := r23
  have HB : Hid (Below w.heap.size w W2.drew) := Below_drew (below_join b1 b2)
  clear e1 e2 f10 f11 f12 f13 b1 b2
  refine wp_region_still_tail 13 (by kernel_rfl) (by kernel_rfl) ?_
  simp only [List.take_succ_cons, List.take_zero, List.drop_succ_cons, List.drop_zero]
  repeat (first | still_step | still_call (sadd_any _ _ _))
  refine wpStill_nil ?_
  change wpList _ _ _ _ _ W2.drew
  clear f20 f21 f22 f23 r20 r21 r22 r23 r10 r11 r12 r13
  generalize W2.drew = D at *
  go_wp2
  refine bodyPost_ret (results_mid rfl _ _ (w.heap.size + 1) 0 [.int .i64 (ad x p), .int .i64 (ad y q), .int .i64 v, .int .i64 h] _ rfl (range4 (by go_simp) (by go_simp) (by go_simp) (by go_simp)) Try.underlying29 rfl (by kernel_rfl)) rfl ?_
  refine ⟨rfl, ?_⟩
  refine below_set (below_set (below_set (below_set HB.out _ _ _ ?_) _ _ _ ?_) _ _ _ ?_) _ _ _ ?_ <;> omega
theorem rhas_any (x y v h p q : Int) (w : World) :
    Calls Try.prog 18 #[.agg #[.int .i64 x, .int .i64 y, .int .i64 v, .int .i64 h], .int .i64 p, .int .i64 q] w fun e w' => e = .returned (.bool (inR x y v h p q)) ∧ Below w.heap.size w w' := by
  unfold inR
  by_cases h1 : x ≤ p <;> by_cases h2 : p < ad x v <;> by_cases h3 : y ≤ q <;> by_cases h4 : q < ad y h
  all_goals
    go_enter Try.func18, Try.ntmps18
    go_wp2_with (go_at_call 43; refine (radd_any' _ _ _).mono ?_; rintro e w' ⟨rfl, rfl⟩)
    all_goals
      go_ret
      exact ⟨ret_bool' (by simp [*]), below_alloc _ _⟩
end Go.Proofs.Ytdaohjimfgdmbaa
