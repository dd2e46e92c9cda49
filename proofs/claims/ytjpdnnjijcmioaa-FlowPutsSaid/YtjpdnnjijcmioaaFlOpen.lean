/- How the statements' boxes (four numbers and a slice of sizes), given by value, are opened. -/
import Derived.Test.YtjpdnnjijcmioaaOpenG
import Derived.Test.YtjpdnnjijcmioaaFlS1
namespace Go.Proofs.Ytjpdnnjijcmioaa
open Go.RowKit Go.ChangeShapes Go.WideShapes Go.Deep Fl
def enc2 (b : Bx) : List Value := [.int .i64 b.1, .int .i64 b.2]
theorem cc_flat (L : List Bx) : cc L = L.flatMap enc2 := by
  induction L with
  | nil => rfl
  | cons b L ih => rw [List.flatMap_cons, ← ih]; rfl
def BoxesIn (w : World) (A : Option Addr) (n c : Nat) (L : List Bx) : Prop := n = L.length ∧ n ≤ c ∧ c ≤ maxLen ∧ At w A (cc L)
def OkX (x : Int) : Prop := (Lit.int .i64 x).wf = true
section
variable {H : Type} {enc : TypeId × Value → H} {P : Program} {w : World} {base : Nat} {spare : Nat → Bool} {held : Bool}
theorem boxes_in {r : Reach} {b0 : Nat} {t e : TypeId} {f0 f1 f2 f3 f4 g0 g1 : Field} {v : Value} {d : DataW H} {p : List MemPlace} (ht : P.underlying t = some (.struct #[f0, f1, f2, f3, f4])) (ct : P.cellsOf t = 5)
    (o : (f0.offset, f1.offset, f2.offset, f3.offset, f4.offset) = (0, 1, 2, 3, 4)) (c : (P.cellsOf f0.type, P.cellsOf f1.type, P.cellsOf f2.type, P.cellsOf f3.type, P.cellsOf f4.type) = (1, 1, 1, 1, 1))
    (u0 : P.underlying f0.type = some (.int .i64)) (u1 : P.underlying f1.type = some (.int .i64)) (u2 : P.underlying f2.type = some (.int .i64)) (u3 : P.underlying f3.type = some (.int .i64)) (u4 : P.underlying f4.type = some (.slice e))
    (he : P.underlying e = some (.struct #[g0, g1])) (ce : P.cellsOf e = 2) (q : (g0.offset, g1.offset) = (0, 1)) (k : (P.cellsOf g0.type, P.cellsOf g1.type) = (1, 1)) (y0 : P.underlying g0.type = some (.int .i64)) (y1 : P.underlying g1.type = some (.int .i64))
    (hval : Value.okWide P w r b0 t v) (h : DataW.Trod enc P w base spare held t v d p) :
    ∃ x0 x1 x2 x3 A n c L, v = .agg #[.int .i64 x0, .int .i64 x1, .int .i64 x2, .int .i64 x3, .slice A n c] ∧ (OkX x0 ∧ OkX x1 ∧ OkX x2 ∧ OkX x3) ∧ BoxesIn w A n c L := by
  obtain ⟨cs, rfl, hsz⟩ := okWide_struct ht hval
  simp only [Prod.mk.injEq] at o c q k
  obtain ⟨o0, o1, o2, o3, o4⟩ := o
  obtain ⟨c0, c1, c2, c3, c4⟩ := c
  obtain ⟨q0, q1⟩ := q
  obtain ⟨k0, k1⟩ := k
  have hsize : Op.Opens enc P w base spare held e fun cs => ∃ a, cs = enc2 a ∧ True := by
    intro fuel cs x h
    obtain ⟨h1, h2⟩ := Op.o_struct (R := fun _ cs => ∃ n, cs = [.int .i64 n] ∧ (Lit.int .i64 n).wf = true) he (fun i f hi => by
      match i, hi with
      | 0, hi => injection hi with hi; subst hi; exact Op.o_int y0
      | 1, hi => injection hi with hi; subst hi; exact Op.o_int y1) fuel cs x h
    rw [ce] at h1
    match cs, h1 with
    | [a, b], _ =>
      obtain ⟨n0, e0, _⟩ := h2 0 g0 rfl
      obtain ⟨n1, e1, _⟩ := h2 1 g1 rfl
      rw [q0, k0] at e0
      rw [q1, k1] at e1
      simp at e0 e1
      subst e0 e1
      exact ⟨(n0, n1), rfl, trivial⟩
  obtain ⟨h1, h2⟩ := Op.opened (Op.o_struct (R := fun i cs => (i = 4 → ∃ A n c L, cs = [.slice A n c] ∧ Op.SliceOf w enc2 (fun _ => True) A n c L) ∧ (i ≠ 4 → ∃ n, cs = [.int .i64 n] ∧ (Lit.int .i64 n).wf = true)) ht (fun i f hi => by
      match i, hi with
      | 0, hi => injection hi with hi; subst hi; exact fun a b c d => ⟨fun h => (by cases h), fun _ => Op.o_int u0 a b c d⟩
      | 1, hi => injection hi with hi; subst hi; exact fun a b c d => ⟨fun h => (by cases h), fun _ => Op.o_int u1 a b c d⟩
      | 2, hi => injection hi with hi; subst hi; exact fun a b c d => ⟨fun h => (by cases h), fun _ => Op.o_int u2 a b c d⟩
      | 3, hi => injection hi with hi; subst hi; exact fun a b c d => ⟨fun h => (by cases h), fun _ => Op.o_int u3 a b c d⟩
      | 4, hi => injection hi with hi; subst hi; exact fun a b c d => ⟨fun _ => Op.o_slice 2 u4 ce (fun _ => rfl) hsize a b c d, fun h => absurd rfl h⟩)) h
  rw [ct] at h1
  obtain ⟨x0, x1, x2, x3, x4, hxy⟩ : ∃ x y z u v, cs.toList = [x, y, z, u, v] := by
    match hl : cs.toList, (show cs.toList.length = 5 by simpa using hsz.trans ct) with
    | [x, y, z, u, v], _ => exact ⟨x, y, z, u, v, rfl⟩
  obtain rfl : cs = #[x0, x1, x2, x3, x4] := by rw [← hxy]
  obtain ⟨n0, e0, w0⟩ := (h2 0 f0 rfl).2 (by decide)
  obtain ⟨n1, e1, w1⟩ := (h2 1 f1 rfl).2 (by decide)
  obtain ⟨n2, e2, w2⟩ := (h2 2 f2 rfl).2 (by decide)
  obtain ⟨n3, e3, w3⟩ := (h2 3 f3 rfl).2 (by decide)
  obtain ⟨A, n, c, L, e4, hL⟩ := (h2 4 f4 rfl).1 rfl
  rw [o0, c0] at e0
  rw [o1, c1] at e1
  rw [o2, c2] at e2
  rw [o3, c3] at e3
  rw [o4, c4] at e4
  simp [Value.cells] at e0 e1 e2 e3 e4
  subst e0 e1 e2 e3 e4
  obtain ⟨l1, l2, l3, l4, _⟩ := hL
  exact ⟨n0, n1, n2, n3, A, n, c, L, rfl, ⟨w0, w1, w2, w3⟩, l1, l2, l3, by rw [cc_flat]; exact l4⟩
end
end Go.Proofs.Ytjpdnnjijcmioaa
