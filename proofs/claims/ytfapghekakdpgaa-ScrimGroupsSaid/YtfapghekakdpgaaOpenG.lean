/- How arguments are opened, by shape: what a type's cells are, put together from what its parts' cells are. -/
import Derived.Test.YtfapghekakdpgaaMem
import Derived.ChangeSame
import Derived.WideShapes
import Derived.Deep.Slices
import Derived.Deep.Fields
import Derived.ChangeArms
import Derived.ProofKit
namespace Go.Proofs.Ytfapghekakdpgaa
open Go.RowKit Go.ChangeShapes Go.WideShapes Go.Deep
namespace Op
theorem at_of_add {w : World} {a : Addr} {xs : List Value} (h : ∀ i u, xs[i]? = some u → w.cell? (a.add i) = some u) : At w (some a) xs := fun hx => by
  obtain ⟨b, off, spot⟩ := a
  cases xs with
  | nil => exact absurd rfl hx
  | cons x xs =>
    have h0 := h 0 x rfl
    have hs : spot = none := by simpa [Addr.add] using World.cell?_spot h0
    subst hs
    refine ⟨b, off, rfl, World.block_lt_of_cell? w _ h0, fun j u hu => ?_⟩
    have h1 := h j u hu
    unfold Addr.add at h1
    by_cases hj : j = 0
    · subst hj; simpa using h1
    · simpa [hj] using h1
theorem list_of {α : Type} {P : Nat → α → Prop} : ∀ n, (∀ i, i < n → ∃ x, P i x) → ∃ l : List α, l.length = n ∧ ∀ i (h : i < l.length), P i l[i] := by
  intro n
  induction n with
  | zero => intro _; exact ⟨[], rfl, fun i h => by cases h⟩
  | succ q ih =>
    intro hq
    obtain ⟨l, h1, h2⟩ := ih fun i hi => hq i (by omega)
    obtain ⟨x, hx⟩ := hq q (by omega)
    refine ⟨l ++ [x], by simp [h1], fun i hi => ?_⟩
    rcases Nat.lt_or_ge i l.length with h | h
    · rw [List.getElem_append_left h]; exact h2 i h
    · have : i = q := by simp at hi; omega
      subst this
      rw [List.getElem_append_right h]
      simpa using hx
theorem flat_len {α : Type} (enc : α → List Value) (sz : Nat) (hs : ∀ a, (enc a).length = sz) (L : List α) : (L.flatMap enc).length = L.length * sz := by
  induction L with
  | nil => simp
  | cons a L ih => rw [List.flatMap_cons, List.length_append, hs, ih, List.length_cons, Nat.add_mul, Nat.one_mul, Nat.add_comm]
theorem flat_at {α : Type} (enc : α → List Value) (sz : Nat) (hs : ∀ a, (enc a).length = sz) (L : List α) (k : Nat) (h : k < L.length) (q : Nat) (hq : q < sz) : (L.flatMap enc)[k * sz + q]? = (enc L[k])[q]? := by
  induction L generalizing k with
  | nil => cases h
  | cons a L ih =>
    rw [List.flatMap_cons]
    cases k with
    | zero =>
      rw [List.getElem?_append_left (by rw [hs]; omega)]
      simp
    | succ k =>
      have e : (k + 1) * sz = k * sz + sz := by rw [Nat.add_mul, Nat.one_mul]
      rw [List.getElem?_append_right (by rw [hs]; omega), hs]
      rw [show (k + 1) * sz + q - sz = k * sz + q by omega]
      simpa using ih k (by simpa using h)
/-- a slice of elements that each take as many cells -/
def SliceOf {α : Type} (w : World) (enc : α → List Value) (Q : α → Prop) (A : Option Addr) (n c : Nat) (L : List α) : Prop :=
  n = L.length ∧ n ≤ c ∧ c ≤ maxLen ∧ At w A (L.flatMap enc) ∧ (∀ a ∈ L, Q a) ∧ (A = none → n = 0 ∧ c = 0)
section
variable {H : Type} {enc : TypeId × Value → H} {P : Program} {w : World} {base : Nat} {spare : Nat → Bool} {held : Bool}
def Opens (enc : TypeId × Value → H) (P : Program) (w : World) (base : Nat) (spare : Nat → Bool) (held : Bool) (t : TypeId) (R : List Value → Prop) : Prop :=
  ∀ fuel cs x, DataW.trod enc P w base spare held fuel t cs = some x → R cs
theorem o_int {t : TypeId} {k : IntKind} (ht : P.underlying t = some (.int k)) : Opens enc P w base spare held t fun cs => ∃ n, cs = [.int k n] ∧ (Lit.int k n).wf = true := by
  intro fuel cs x h
  obtain ⟨n, h1, _, h2⟩ := DataW.trod_int ht h
  exact ⟨n, h1, h2⟩
theorem o_bool {t : TypeId} (ht : P.underlying t = some .bool) : Opens enc P w base spare held t fun cs => ∃ b, cs = [.bool b] := by
  intro fuel cs x h
  obtain ⟨n, h1, _⟩ := DataW.trod_bool ht h
  exact ⟨n, h1⟩
theorem o_string {t : TypeId} (ht : P.underlying t = some .string) : Opens enc P w base spare held t fun cs => ∃ s : ByteArray, cs = [.string s] ∧ s.size ≤ maxLen := by
  intro fuel cs x h
  obtain ⟨n, h1, _, h2⟩ := DataW.trod_string ht h
  exact ⟨n, h1, h2⟩
theorem o_struct {t : TypeId} {fs : Array Field} {R : Nat → List Value → Prop} (ht : P.underlying t = some (.struct fs)) (hf : ∀ i f, fs[i]? = some f → Opens enc P w base spare held f.type (R i)) :
    Opens enc P w base spare held t fun cs => cs.length = P.cellsOf t ∧ ∀ i f, fs[i]? = some f → R i ((cs.drop f.offset).take (P.cellsOf f.type)) := by
  intro fuel cs x h
  obtain ⟨ys, n', _, _, hlen, hyl, hfl⟩ := DataW.trod_struct ht h
  refine ⟨hlen, fun i f hi => ?_⟩
  have h1 := hfl i f hi
  have h2 : i < ys.length := by rw [hyl]; exact (Array.getElem?_eq_some_iff.1 hi).1
  rw [List.getElem?_eq_getElem h2] at h1
  exact hf i f hi _ _ _ h1
theorem o_slice {α : Type} {encv : α → List Value} {Q : α → Prop} {t e : TypeId} (sz : Nat) (ht : P.underlying t = some (.slice e)) (hc : P.cellsOf e = sz) (hs : ∀ a, (encv a).length = sz)
    (he : Opens enc P w base spare held e fun cs => ∃ a, cs = encv a ∧ Q a) : Opens enc P w base spare held t fun cs => ∃ A n c L, cs = [.slice A n c] ∧ SliceOf w encv Q A n c L := by
  intro fuel cs x h
  rcases open_slice ht h with ⟨rfl, _⟩ | ⟨a, len, cap, m, k, D, Pl, rfl, _, hl, hm, hmm, _, hcell⟩
  · exact ⟨none, 0, 0, [], rfl, rfl, Nat.le_refl _, Nat.zero_le _, At.nil _ _, (fun a ha => by cases ha), fun _ => ⟨rfl, rfl⟩⟩
  · have hle : len ≤ m := by rw [hmm]; split <;> omega
    obtain ⟨l, hl1, hl2⟩ := list_of (P := fun i (s : α) => (∀ q u, (encv s)[q]? = some u → w.cell? (a.add (i * sz + q)) = some u) ∧ Q s) len (by
      intro i hi
      obtain ⟨cs', hcs, ht'⟩ := hcell i (by omega)
      rw [hc] at hcs
      obtain ⟨s, rfl, hq⟩ := he _ _ _ ht'
      obtain ⟨_, hcl, hat⟩ := World.cells?_some hcs
      refine ⟨s, fun q u hu => ?_, hq⟩
      have hqs : q < sz := by rw [← hcl]; exact (List.getElem?_eq_some_iff.1 hu).1
      have h9 := hat q hqs
      rw [Go.Deep.add_add] at h9
      rw [h9]
      exact hu)
    refine ⟨some a, len, cap, l, rfl, hl1.symm, hl, hm, at_of_add fun i u hu => ?_, fun s hs' => ?_, fun h => nomatch h⟩
    · have hi : i < l.length * sz := by
        have := (List.getElem?_eq_some_iff.1 hu).1
        rw [flat_len encv sz hs] at this
        exact this
      have hz : 0 < sz := by
        rcases Nat.eq_zero_or_pos sz with h0 | h0
        · subst h0; simp at hi
        · exact h0
      have hd : i / sz < l.length := (Nat.div_lt_iff_lt_mul hz).2 hi
      have h2 := (hl2 (i / sz) hd).1 (i % sz) u
      have h3 := flat_at encv sz hs l (i / sz) hd (i % sz) (Nat.mod_lt _ hz)
      have e : i / sz * sz + i % sz = i := Nat.div_add_mod' i sz
      rw [e] at h2 h3
      exact h2 (by rw [← h3]; exact hu)
    · obtain ⟨i, hi, rfl⟩ := List.mem_iff_getElem.1 hs'
      exact (hl2 i hi).2
/-- an argument given by value -/
theorem opened {t : TypeId} {R : List Value → Prop} {v : Value} {d : DataW H} {p : List MemPlace} (ho : Opens enc P w base spare held t R) (h : DataW.Trod enc P w base spare held t v d p) : R v.cells.toList := by
  obtain ⟨fuel, hf⟩ := h
  exact ho _ _ _ hf
end
end Op
end Go.Proofs.Ytfapghekakdpgaa
