/- How a slice of structs of three ints is opened. -/
import Derived.Test.YtaojjcnghkjgfaaWeOpen
import Derived.Test.YtaojjcnghkjgfaaWeW3
import Derived.Deep.Slices
import Derived.Deep.Fields
namespace Go.Proofs.Ytaojjcnghkjgfaa
open Go.RowKit Go.ChangeShapes Go.WideShapes Go.Deep We
def enc3 (s : Stp) : List Value := [.int .i64 s.1, .int .i64 s.2.1, .int .i64 s.2.2]
theorem sc_len (L : List Stp) : (sc L).length = L.length * 3 := by
  induction L with
  | nil => rfl
  | cons c L ih =>
    show (_ :: _ :: _ :: sc L).length = _
    simp only [List.length_cons]
    omega
theorem sc_of (L : List Stp) (k : Nat) (h : k < L.length) (q : Nat) (hq : q < 3) : (sc L)[k * 3 + q]? = (enc3 L[k])[q]? := by
  induction L generalizing k with
  | nil => cases h
  | cons c L ih =>
    have e : sc (c :: L) = enc3 c ++ sc L := rfl
    cases k with
    | zero =>
      rw [e, List.getElem?_append_left (by simp [enc3]; omega)]
      simp
    | succ k =>
      rw [e, List.getElem?_append_right (by simp [enc3]; omega)]
      have h2 := ih k (by simpa using h)
      rw [show (k + 1) * 3 + q - (enc3 c).length = k * 3 + q by simp [enc3]; omega]
      simpa using h2
def StepsAt (w : World) (A : Option Addr) (n c : Nat) (l : List Stp) : Prop := n = l.length ∧ n ≤ c ∧ c ≤ maxLen ∧ At w A (sc l) ∧ (A = none → n = 0 ∧ c = 0)
section
variable {H : Type} {enc : TypeId × Value → H} {P : Program} {w : World} {base : Nat} {spare : Nat → Bool} {held : Bool}
theorem steps_at {t e : TypeId} {f0 f1 f2 : Field} {A : Option Addr} {n c : Nat} {d : DataW H} {p : List MemPlace} (ht : P.underlying t = some (.slice e)) (he : P.underlying e = some (.struct #[f0, f1, f2]))
    (ce : P.cellsOf e = 3) (o0 : f0.offset = 0) (o1 : f1.offset = 1) (o2 : f2.offset = 2)
    (c0 : P.cellsOf f0.type = 1) (c1 : P.cellsOf f1.type = 1) (c2 : P.cellsOf f2.type = 1)
    (u0 : P.underlying f0.type = some (.int .i64)) (u1 : P.underlying f1.type = some (.int .i64)) (u2 : P.underlying f2.type = some (.int .i64))
    (h : DataW.Trod enc P w base spare held t (.slice A n c) d p) : ∃ l, StepsAt w A n c l := by
  obtain ⟨fuel, hf⟩ := h
  rcases open_slice ht hf with ⟨hcs, _⟩ | ⟨a, len, cap, m, k, D, Pl, hcs, _, hl, hm, hmm, _, hcell⟩
  · simp [Value.cells] at hcs
    obtain ⟨rfl, rfl, rfl⟩ := hcs
    exact ⟨[], rfl, Nat.le_refl _, Nat.zero_le _, At.nil _ _, fun _ => ⟨rfl, rfl⟩⟩
  · simp [Value.cells] at hcs
    obtain ⟨rfl, rfl, rfl⟩ := hcs
    have hle : n ≤ m := by rw [hmm]; split <;> omega
    obtain ⟨l, hl1, hl2⟩ := list_of (P := fun i (s : Stp) => ∀ q u, (enc3 s)[q]? = some u → w.cell? (a.add (i * 3 + q)) = some u) n (by
      intro i hi
      obtain ⟨cs', hc, ht'⟩ := hcell i (by omega)
      rw [ce] at hc
      obtain ⟨ys, n', hn', hy, hlen, hyl, hfl⟩ := DataW.trod_struct he ht'
      obtain ⟨_, hcl, hat⟩ := World.cells?_some hc
      match cs', hcl with
      | [x0, x1, x2], _ =>
        have g0 := hfl 0 f0 rfl
        have g1 := hfl 1 f1 rfl
        have g2 := hfl 2 f2 rfl
        rw [o0, c0] at g0
        rw [o1, c1] at g1
        rw [o2, c2] at g2
        have y0 : ys[0]? = some (ys[0]'(by rw [hyl]; simp)) := List.getElem?_eq_getElem _
        have y1 : ys[1]? = some (ys[1]'(by rw [hyl]; simp)) := List.getElem?_eq_getElem _
        have y2 : ys[2]? = some (ys[2]'(by rw [hyl]; simp)) := List.getElem?_eq_getElem _
        obtain ⟨z0, e0, _, _⟩ := DataW.trod_int u0 (g0.trans y0)
        obtain ⟨z1, e1, _, _⟩ := DataW.trod_int u1 (g1.trans y1)
        obtain ⟨z2, e2, _, _⟩ := DataW.trod_int u2 (g2.trans y2)
        simp at e0 e1 e2
        subst e0 e1 e2
        refine ⟨(z0, z1, z2), fun q u hu => ?_⟩
        have hq : q < 3 := (List.getElem?_eq_some_iff.1 hu).1
        have h9 := hat q hq
        rw [Go.Deep.add_add] at h9
        rw [h9]
        exact hu)
    refine ⟨l, hl1.symm, hl, hm, at_of_add fun i u hu => ?_, fun h => nomatch h⟩
    have hi : i < l.length * 3 := by
      have := (List.getElem?_eq_some_iff.1 hu).1
      rw [sc_len] at this
      exact this
    have h2 := hl2 (i / 3) (by omega) (i % 3) u
    have h3 := sc_of l (i / 3) (by omega) (i % 3) (Nat.mod_lt _ (by omega))
    have e : i / 3 * 3 + i % 3 = i := by omega
    rw [e] at h2 h3
    exact h2 (by rw [← h3]; exact hu)
end
end Go.Proofs.Ytaojjcnghkjgfaa
