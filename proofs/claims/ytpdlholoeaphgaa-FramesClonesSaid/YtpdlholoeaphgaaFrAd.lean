/- The words of wheel's walks, said of queues; a slice of calls as an argument. -/
import Derived.Test.YtpdlholoeaphgaaFrDa
import Derived.Deep.RegionHeld3
import Derived.Deep.DeepCutAuto
namespace Go.Proofs.Ytpdlholoeaphgaa
open Go.RowKit Go.ChangeShapes Go.WideShapes Go.Deep
namespace Fr
abbrev Bad := Qb
abbrev Way1 := Way
abbrev Dk (w W : World) (gw b : Nat) (rv mv : Value) (last most : Int) (xs : List Wt) (A : Option Addr) (n c : Nat) (M : List Wt) : Prop := Fk w W gw b rv mv last most xs M A n c
theorem Dk.below {w W Z : World} {gw b : Nat} {rv mv : Value} {last most : Int} {xs M : List Wt} {A : Option Addr} {n c : Nat} (h : Dk w W gw b rv mv last most xs A n c M) (hb : Below W.heap.size W Z) : Dk w Z gw b rv mv last most xs A n c M := Fk.below h hb
theorem Dk.put2 {w W Z : World} {gw b r : Nat} {rv mv : Value} {last most : Int} {xs M : List Wt} {A : Option Addr} {n c : Nat} (h : Dk w W gw b rv mv last most xs A n c M) (hb : Beside (fun x => x = r) W Z) (h1 : ¬ Bad b rv mv r) (h2 : tv (doc xs M) ≠ [] → ∀ b' o p, A = some ⟨b', o, p⟩ → b' ≠ r) (hg : gw ≤ r) : Dk w Z gw b rv mv last most xs A n c M := Fk.put h hb h1 h2 hg
theorem Qm.free {W : World} {b r : Nat} {r1 r2 : Value} {last most : Int} {a1 a2 : List Wt} {cs : Array Value} (h : Qm W b 78 [] [] r1 r2 last most a1 a2) (hr : Blk W r 28 cs) : ¬ Bad b r1 r2 r := by
  intro e
  rcases e with rfl | e | e
  · have h9 := h.blk
    unfold Blk at h9 hr
    rw [hr] at h9
    injection h9 with h9
    injection h9 with _ h9 _
    cases h9
  · exact Fr.row_ne_blk h.row1 hr (by decide) e
  · exact Fr.row_ne_blk h.row2 hr (by decide) e
theorem Dk.free {w W : World} {gw b r : Nat} {rv mv : Value} {last most : Int} {xs M : List Wt} {A : Option Addr} {n c : Nat} {cs : Array Value} (h : Dk w W gw b rv mv last most xs A n c M) (hr : Blk W r 28 cs) : ¬ Bad b rv mv r := Qm.free h.qm hr
theorem Dk.ne {w W : World} {gw b r : Nat} {rv mv : Value} {last most : Int} {xs M : List Wt} {A : Option Addr} {n c : Nat} (h : Dk w W gw b rv mv last most xs A n c M) {t : TypeId} {x y z : Value} (hr : Blk W r t #[x, y, z]) : tv (doc xs M) ≠ [] → ∀ b' o p, A = some ⟨b', o, p⟩ → b' ≠ r := by
  intro hL b' o p e hb
  have h0 : 0 < (doc xs M).length := by
    rcases Nat.eq_zero_or_pos (doc xs M).length with h9 | h9
    · exact absurd (by rw [List.eq_nil_of_length_eq_zero h9]; rfl) hL
    · exact h9
  obtain ⟨b2, o2, e2, _, hc⟩ := h.lies.one (k := 0 * 4 + 3) (tv_at (doc xs M) 0 h0 3 (by omega))
  rw [e] at e2
  injection e2 with e2
  injection e2 with e3 e4 e5
  subst e3 hb
  unfold Blk at hr
  rw [cell_of_row W b' (o2 + (0 * 4 + 3)) _ t (0, 0) hr] at hc
  have h9 := (Array.getElem?_eq_some_iff.1 hc).1
  simp at h9
  omega
theorem blk_of {bad : Nat → Prop} {a b : World} (h : Beside bad a b) {q : Nat} {t : TypeId} {cs : Array Value} (hb : ¬ bad q) (hk : Blk a q t cs) : Blk b q t cs := (h.block q hk.lt hb).trans hk
theorem cell_of {bad : Nat → Prop} {a b : World} (h : Beside bad a b) {q o : Nat} (hb : ¬ bad q) (hk : q < a.heap.size) : b.cell? ⟨q, o, none⟩ = a.cell? ⟨q, o, none⟩ := World.cell?_of_block (h.block q hk hb)
theorem list_any (b : Nat) (rv mv : Value) (last most : Int) (xs M : List Wt) (w : World) (h : Qm w b 78 [] [] rv mv last most xs M) :
    Calls Try.prog 15 #[.pointer (some ⟨b, 0, none⟩)] w fun e w' => ∃ A6 c6, e = .returned (.slice A6 (xs.length + M.length) c6) ∧ At w' A6 (tv (doc xs M)) ∧ Below w.heap.size w w' := by
  refine (flist_any b 0 78 [] [] rv mv last most xs M w h rfl).mono ?_
  rintro e w' ⟨v, rfl, ho, hb⟩
  obtain ⟨A, c, rfl, _, _, hat⟩ := at_of_own' ho
  exact ⟨A, c, rfl, by rw [tv_doc]; exact hat, hb⟩
def OkI (i : Int) : Prop := (Lit.int .i64 i).wf = true
def OkA (t : Tm) : Prop := OkI t.tok ∧ OkI t.dl ∧ OkI t.k ∧ OkI t.n
def ActsIn (w : World) (A : Option Addr) (n c : Nat) (L : List Tm) : Prop := Op.SliceOf w tc OkA A n c L
section
variable {H : Type} {enc : TypeId × Value → H} {P : Program} {w : World} {base : Nat} {spare : Nat → Bool} {held : Bool}
theorem acts_in {t e : TypeId} {f0 f1 f2 g0 g1 : Field} {a : Option Addr} {n c : Nat} {d : DataW H} {p : List MemPlace} (ht : P.underlying t = some (.slice e)) (he : P.underlying e = some (.struct #[f0, f1, f2])) (ce : P.cellsOf e = 4)
    (o : (f0.offset, f1.offset, f2.offset) = (0, 1, 2)) (k : (P.cellsOf f0.type, P.cellsOf f1.type, P.cellsOf f2.type) = (1, 1, 2)) (u0 : P.underlying f0.type = some (.int .i64)) (u1 : P.underlying f1.type = some (.int .i64)) (u2 : P.underlying f2.type = some (.struct #[g0, g1]))
    (q : (g0.offset, g1.offset) = (0, 1)) (z : (P.cellsOf g0.type, P.cellsOf g1.type) = (1, 1)) (y0 : P.underlying g0.type = some (.int .i64)) (y1 : P.underlying g1.type = some (.int .i64))
    (h : DataW.Trod enc P w base spare held t (.slice a n c) d p) : ∃ L, ActsIn w a n c L := by
  simp only [Prod.mk.injEq] at o k q z
  obtain ⟨o0, o1, o2⟩ := o
  obtain ⟨k0, k1, k2⟩ := k
  obtain ⟨q0, q1⟩ := q
  obtain ⟨z0, z1⟩ := z
  have hjob : Op.Opens enc P w base spare held f2.type fun cs => ∃ x y, cs = [.int .i64 x, .int .i64 y] ∧ OkI x ∧ OkI y := by
    intro fuel cs x h
    obtain ⟨h1, h2⟩ := Op.o_struct (R := fun _ cs => ∃ n, cs = [.int .i64 n] ∧ (Lit.int .i64 n).wf = true) u2 (fun i f hi => by
      match i, hi with
      | 0, hi => injection hi with hi; subst hi; exact Op.o_int y0
      | 1, hi => injection hi with hi; subst hi; exact Op.o_int y1) fuel cs x h
    rw [k2] at h1
    match cs, h1 with
    | [a, b], _ =>
      obtain ⟨n0, e0, w0⟩ := h2 0 g0 rfl
      obtain ⟨n1, e1, w1⟩ := h2 1 g1 rfl
      rw [q0, z0] at e0
      rw [q1, z1] at e1
      simp at e0 e1
      subst e0 e1
      exact ⟨n0, n1, rfl, w0, w1⟩
  have hact : Op.Opens enc P w base spare held e fun cs => ∃ t, cs = tc t ∧ OkA t := by
    intro fuel cs x h
    obtain ⟨h1, h2⟩ := Op.o_struct (R := fun i cs => (i = 2 → ∃ x y, cs = [.int .i64 x, .int .i64 y] ∧ OkI x ∧ OkI y) ∧ (i ≠ 2 → ∃ n, cs = [.int .i64 n] ∧ (Lit.int .i64 n).wf = true)) he (fun i f hi => by
      match i, hi with
      | 0, hi => injection hi with hi; subst hi; exact fun a b c d => ⟨fun h => (by cases h), fun _ => Op.o_int u0 a b c d⟩
      | 1, hi => injection hi with hi; subst hi; exact fun a b c d => ⟨fun h => (by cases h), fun _ => Op.o_int u1 a b c d⟩
      | 2, hi => injection hi with hi; subst hi; exact fun a b c d => ⟨fun _ => hjob a b c d, fun h => absurd rfl h⟩) fuel cs x h
    rw [ce] at h1
    match cs, h1 with
    | [a0, a1, a2, a3], _ =>
      obtain ⟨n0, e0, w0⟩ := (h2 0 f0 rfl).2 (by decide)
      obtain ⟨n1, e1, w1⟩ := (h2 1 f1 rfl).2 (by decide)
      obtain ⟨x2, y2, e2, w2, w3⟩ := (h2 2 f2 rfl).1 rfl
      rw [o0, k0] at e0
      rw [o1, k1] at e1
      rw [o2, k2] at e2
      simp at e0 e1 e2
      obtain ⟨e2, e3⟩ := e2
      subst e0 e1 e2 e3
      exact ⟨⟨n0, n1, x2, y2⟩, rfl, w0, w1, w2, w3⟩
  obtain ⟨A, n', c', L, e1, hL⟩ := Op.opened (Op.o_slice 4 ht ce (fun _ => rfl) hact) h
  have e2 : Value.slice a n c = .slice A n' c' := by
    have : (Value.slice a n c).cells.toList = [.slice a n c] := rfl
    rw [this] at e1
    exact (List.cons.inj e1).1
  injection e2 with e3 e4 e5
  subst e3 e4 e5
  exact ⟨L, hL⟩
end
end Fr
end Go.Proofs.Ytpdlholoeaphgaa
