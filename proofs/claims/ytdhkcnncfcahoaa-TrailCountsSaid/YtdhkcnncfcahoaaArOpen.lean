/- How the argument of TrailCounts is opened: a slice of ops, nil let in. -/
import Derived.Test.YtdhkcnncfcahoaaAr9
import Derived.Deep.Slices
import Derived.Deep.Fields
import Derived.ChangeArms
import Derived.SliceStrings
namespace Go.Proofs.Ytdhkcnncfcahoaa
open Go.RowKit Go.ChangeShapes Go.WideShapes Go.Deep
theorem at_of_add {w : World} {a : Addr} {xs : List Value} (h : ∀ i u, xs[i]? = some u → w.cell? (a.add i) = some u) : At w (some a) xs := fun hx => by
  obtain ⟨b, off, spot⟩ := a
  cases xs with
  | nil => exact absurd rfl hx
  | cons x xs =>
    have h0 := h 0 x rfl
    have hs : spot = none := by simpa [Addr.add] using World.cell?_spot h0
    subst hs
    refine ⟨b, off, rfl, World.block_lt_of_cell? w _ h0, fun j u hu => ?_⟩
    have h1 := h j u hu
    unfold Addr.add at h1
    by_cases hj : j = 0
    · subst hj; simpa using h1
    · simpa [hj] using h1
theorem list_of {α : Type} {P : Nat → α → Prop} (n : Nat) (each : ∀ i, i < n → ∃ x, P i x) : ∃ l : List α, l.length = n ∧ ∀ i (hi : i < l.length), P i l[i] := by
  induction n with
  | zero => exact ⟨[], rfl, fun i hi => absurd hi (by simp)⟩
  | succ q ih =>
    obtain ⟨l, h1, h2⟩ := ih fun i hi => each i (by omega)
    obtain ⟨x, hx⟩ := each q (by omega)
    refine ⟨l ++ [x], by simp [h1], fun i hi => ?_⟩
    rcases Nat.lt_or_ge i l.length with h | h
    · rw [List.getElem_append_left h]; exact h2 i h
    · have : i = q := by simp at hi; omega
      subst this
      rw [List.getElem_append_right h]
      simpa [h1] using hx
def OpsIn (w : World) (A : Option Addr) (n c : Nat) (l : List OpP) : Prop := n = l.length ∧ n ≤ c ∧ c ≤ maxLen ∧ At w A (ov l)
section
variable {H : Type} {enc : TypeId × Value → H} {P : Program} {w : World} {base : Nat} {spare : Nat → Bool} {held : Bool}
theorem ops_in {t e : TypeId} {f0 f1 f2 f3 f4 f5 : Field} {A : Option Addr} {n c : Nat} {d : DataW H} {p : List MemPlace} (ht : P.underlying t = some (.slice e)) (he : P.underlying e = some (.struct #[f0, f1, f2, f3, f4, f5]))
    (ce : P.cellsOf e = 6) (o0 : f0.offset = 0) (o1 : f1.offset = 1) (o2 : f2.offset = 2) (o3 : f3.offset = 3) (o4 : f4.offset = 4) (o5 : f5.offset = 5)
    (c0 : P.cellsOf f0.type = 1) (c1 : P.cellsOf f1.type = 1) (c2 : P.cellsOf f2.type = 1) (c3 : P.cellsOf f3.type = 1) (c4 : P.cellsOf f4.type = 1) (c5 : P.cellsOf f5.type = 1)
    (u0 : P.underlying f0.type = some (.int .i64)) (u1 : P.underlying f1.type = some (.int .i64)) (u2 : P.underlying f2.type = some (.int .i64)) (u3 : P.underlying f3.type = some (.int .i64)) (u4 : P.underlying f4.type = some .string) (u5 : P.underlying f5.type = some .string)
    (h : DataW.Trod enc P w base spare held t (.slice A n c) d p) : ∃ l, OpsIn w A n c l := by
  obtain ⟨fuel, hf⟩ := h
  rcases open_slice ht hf with ⟨hcs, _⟩ | ⟨a, len, cap, m, k, D, Pl, hcs, _, hl, hm, hmm, _, hcell⟩
  · simp [Value.cells] at hcs
    obtain ⟨rfl, rfl, rfl⟩ := hcs
    exact ⟨[], rfl, Nat.le_refl _, Nat.zero_le _, At.nil _ _⟩
  · simp [Value.cells] at hcs
    obtain ⟨rfl, rfl, rfl⟩ := hcs
    have hle : n ≤ m := by rw [hmm]; split <;> omega
    obtain ⟨l, hl1, hl2⟩ := list_of (P := fun i (s : OpP) => ∀ q u, (encO s)[q]? = some u → w.cell? (a.add (i * 6 + q)) = some u) n (by
      intro i hi
      obtain ⟨cs', hc, ht'⟩ := hcell i (by omega)
      rw [ce] at hc
      obtain ⟨ys, n', hn', hy, hlen, hyl, hfl⟩ := DataW.trod_struct he ht'
      obtain ⟨_, hcl, hat⟩ := World.cells?_some hc
      match cs', hcl with
      | [x0, x1, x2, x3, x4, x5], _ =>
        have g0 := hfl 0 f0 rfl
        have g1 := hfl 1 f1 rfl
        have g2 := hfl 2 f2 rfl
        have g3 := hfl 3 f3 rfl
        have g4 := hfl 4 f4 rfl
        have g5 := hfl 5 f5 rfl
        rw [o0, c0] at g0
        rw [o1, c1] at g1
        rw [o2, c2] at g2
        rw [o3, c3] at g3
        rw [o4, c4] at g4
        rw [o5, c5] at g5
        have y0 : ys[0]? = some (ys[0]'(by rw [hyl]; simp)) := List.getElem?_eq_getElem _
        have y1 : ys[1]? = some (ys[1]'(by rw [hyl]; simp)) := List.getElem?_eq_getElem _
        have y2 : ys[2]? = some (ys[2]'(by rw [hyl]; simp)) := List.getElem?_eq_getElem _
        have y3 : ys[3]? = some (ys[3]'(by rw [hyl]; simp)) := List.getElem?_eq_getElem _
        have y4 : ys[4]? = some (ys[4]'(by rw [hyl]; simp)) := List.getElem?_eq_getElem _
        have y5 : ys[5]? = some (ys[5]'(by rw [hyl]; simp)) := List.getElem?_eq_getElem _
        obtain ⟨z0, e0, _, _⟩ := DataW.trod_int u0 (g0.trans y0)
        obtain ⟨z1, e1, _, _⟩ := DataW.trod_int u1 (g1.trans y1)
        obtain ⟨z2, e2, _, _⟩ := DataW.trod_int u2 (g2.trans y2)
        obtain ⟨z3, e3, _, _⟩ := DataW.trod_int u3 (g3.trans y3)
        obtain ⟨s4, e4, _, _⟩ := DataW.trod_string u4 (g4.trans y4)
        obtain ⟨s5, e5, _, _⟩ := DataW.trod_string u5 (g5.trans y5)
        simp at e0 e1 e2 e3 e4 e5
        subst e0 e1 e2 e3 e4 e5
        refine ⟨(z0, z1, z2, z3, s4, s5), fun q u hu => ?_⟩
        have hq : q < 6 := (List.getElem?_eq_some_iff.1 hu).1
        have h9 := hat q hq
        rw [Go.Deep.add_add] at h9
        rw [h9]
        exact hu)
    refine ⟨l, hl1.symm, hl, hm, at_of_add fun i u hu => ?_⟩
    have hi : i < l.length * 6 := by
      have := (List.getElem?_eq_some_iff.1 hu).1
      rw [ov_len] at this
      exact this
    have h2 := hl2 (i / 6) (by omega) (i % 6) u
    have h3 := ov_at l (i / 6) (by omega) (i % 6) (Nat.mod_lt _ (by omega))
    have e : i / 6 * 6 + i % 6 = i := by omega
    rw [e] at h2 h3
    exact h2 (by rw [← h3]; exact hu)
end
end Go.Proofs.Ytdhkcnncfcahoaa
