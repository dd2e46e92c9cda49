/- A slice of calls as an argument. -/
import Derived.Test.YtenolokklkklbaaPhW8
import Derived.Test.YtenolokklkklbaaOpenG
namespace Go.Proofs.Ytenolokklkklbaa
open Go.RowKit Go.ChangeShapes Go.WideShapes Go.Deep Ph
namespace Ph
def al (a : Ac) : List Value := [.int .i64 a.c, .int .i64 a.d, .int .i64 a.x, .int .i64 a.y, .bool a.o]
def als (L : List Ac) : List Value := L.flatMap al
def OkA (_ : Ac) : Prop := True
def ActsIn (w : World) (A : Option Addr) (n c : Nat) (L : List Ac) : Prop := Op.SliceOf w al OkA A n c L
theorem at_ac {w : World} {A : Option Addr} {L : List Ac} (h : At w A (als L)) {k : Nat} (hk : k < L.length) :
    ∃ b off, A = some ⟨b, off, none⟩ ∧ b < w.heap.size ∧ w.cell? ⟨b, off + k * 5, none⟩ = some (.int .i64 L[k].c) ∧ w.cell? ⟨b, off + k * 5 + 1, none⟩ = some (.int .i64 L[k].d) ∧ w.cell? ⟨b, off + k * 5 + 2, none⟩ = some (.int .i64 L[k].x) ∧ w.cell? ⟨b, off + k * 5 + 3, none⟩ = some (.int .i64 L[k].y) ∧ w.cell? ⟨b, off + k * 5 + 4, none⟩ = some (.bool L[k].o) := by
  have h0 : (als L)[k * 5]? = some (.int .i64 L[k].c) := Op.flat_at al 5 (fun _ => rfl) L k hk 0 (by omega)
  have h1 : (als L)[k * 5 + 1]? = some (.int .i64 L[k].d) := Op.flat_at al 5 (fun _ => rfl) L k hk 1 (by omega)
  have h2 : (als L)[k * 5 + 2]? = some (.int .i64 L[k].x) := Op.flat_at al 5 (fun _ => rfl) L k hk 2 (by omega)
  have h3 : (als L)[k * 5 + 3]? = some (.int .i64 L[k].y) := Op.flat_at al 5 (fun _ => rfl) L k hk 3 (by omega)
  have h4 : (als L)[k * 5 + 4]? = some (.bool L[k].o) := Op.flat_at al 5 (fun _ => rfl) L k hk 4 (by omega)
  obtain ⟨b, off, e, hb, hc⟩ := h (fun e => by rw [e] at h0; cases h0)
  exact ⟨b, off, e, hb, hc _ _ h0, hc _ _ h1, hc _ _ h2, hc _ _ h3, hc _ _ h4⟩
section
variable {H : Type} {enc : TypeId × Value → H} {P : Program} {w : World} {base : Nat} {spare : Nat → Bool} {held : Bool}
theorem acts_in {t e : TypeId} {f0 f1 f2 f3 f4 : Field} {a : Option Addr} {n c : Nat} {d : DataW H} {p : List MemPlace} (ht : P.underlying t = some (.slice e)) (he : P.underlying e = some (.struct #[f0, f1, f2, f3, f4])) (ce : P.cellsOf e = 5)
    (o : (f0.offset, f1.offset, f2.offset, f3.offset, f4.offset) = (0, 1, 2, 3, 4)) (k : (P.cellsOf f0.type, P.cellsOf f1.type, P.cellsOf f2.type, P.cellsOf f3.type, P.cellsOf f4.type) = (1, 1, 1, 1, 1)) (u0 : P.underlying f0.type = some (.int .i64)) (u1 : P.underlying f1.type = some (.int .i64)) (u2 : P.underlying f2.type = some (.int .i64)) (u3 : P.underlying f3.type = some (.int .i64)) (u4 : P.underlying f4.type = some .bool)
    (h : DataW.Trod enc P w base spare held t (.slice a n c) d p) : ∃ L, ActsIn w a n c L := by
  simp only [Prod.mk.injEq] at o k
  obtain ⟨o0, o1, o2, o3, o4⟩ := o
  obtain ⟨k0, k1, k2, k3, k4⟩ := k
  have hact : Op.Opens enc P w base spare held e fun cs => ∃ t, cs = al t ∧ OkA t := by
    intro fuel cs x h
    obtain ⟨h1, h2⟩ := Op.o_struct (R := fun i cs => (i = 4 → ∃ s : Bool, cs = [.bool s]) ∧ (i ≠ 4 → ∃ n, cs = [.int .i64 n] ∧ (Lit.int .i64 n).wf = true)) he (fun i f hi => by
      match i, hi with
      | 0, hi => injection hi with hi; subst hi; exact fun a b c d => ⟨fun h => (by cases h), fun _ => Op.o_int u0 a b c d⟩
      | 1, hi => injection hi with hi; subst hi; exact fun a b c d => ⟨fun h => (by cases h), fun _ => Op.o_int u1 a b c d⟩
      | 2, hi => injection hi with hi; subst hi; exact fun a b c d => ⟨fun h => (by cases h), fun _ => Op.o_int u2 a b c d⟩
      | 3, hi => injection hi with hi; subst hi; exact fun a b c d => ⟨fun h => (by cases h), fun _ => Op.o_int u3 a b c d⟩
      | 4, hi => injection hi with hi; subst hi; exact fun a b c d => ⟨fun _ => Op.o_bool u4 a b c d, fun h => absurd rfl h⟩) fuel cs x h
    rw [ce] at h1
    match cs, h1 with
    | [a0, a1, a2, a3, a4], _ =>
      obtain ⟨n0, e0, _⟩ := (h2 0 f0 rfl).2 (by decide)
      obtain ⟨n1, e1, _⟩ := (h2 1 f1 rfl).2 (by decide)
      obtain ⟨n2, e2, _⟩ := (h2 2 f2 rfl).2 (by decide)
      obtain ⟨n3, e3, _⟩ := (h2 3 f3 rfl).2 (by decide)
      obtain ⟨n4, e4⟩ := (h2 4 f4 rfl).1 rfl
      rw [o0, k0] at e0
      rw [o1, k1] at e1
      rw [o2, k2] at e2
      rw [o3, k3] at e3
      rw [o4, k4] at e4
      simp at e0 e1 e2 e3 e4
      subst e0 e1 e2 e3 e4
      exact ⟨⟨n0, n1, n2, n3, n4⟩, rfl, trivial⟩
  obtain ⟨A, n', c', L, e1, hL⟩ := Op.opened (Op.o_slice 5 ht ce (fun _ => rfl) hact) h
  have e2 : Value.slice a n c = .slice A n' c' := by
    have : (Value.slice a n c).cells.toList = [.slice a n c] := rfl
    rw [this] at e1
    exact (List.cons.inj e1).1
  injection e2 with e3 e4 e5
  subst e3 e4 e5
  exact ⟨L, hL⟩
end
end Ph
end Go.Proofs.Ytenolokklkklbaa
