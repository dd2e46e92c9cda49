/- A map from numbers to values, told as a function: the library's word 'ownsMap' at what a value is itself. -/
import Derived.Maps.OwnSet
namespace Go.Proofs.Ytfapghekakdpgaa
open Go.RowKit Go.Maps
abbrev heldR (v : Value) : Option (DataW Value × List MemPlace) := some (.held v, [])
abbrev ikey (i : Int) : Lit := .int .i64 i
/-- block b of w is a map of n entries; of a number i it has the value f i. -/
def MapIs (P : Program) (K : TypeId) (w : World) (b : Nat) (f : Int → Option Value) (n : Nat) : Prop :=
  ∃ D : DataW Value, w.ownsMap P K heldR b n D ∧ Maps.size D = n ∧ ∀ i : Int, (ikey i).wf = true → (match f i with | some v => ∀ z, D.atKey (ikey i) z = .held v | none => ∀ z, D.atKey (ikey i) z = z)
theorem exact_bound {P : Program} {K : TypeId} {w : World} {b n : Nat} {D : DataW Value} (h : w.ownsMap P K heldR b n D) : w.ownsMap P K heldR b (Maps.size D) D := by
  obtain ⟨es, clock, hb, F, _, rfl⟩ := h
  exact ⟨es, clock, hb, F, by simp [Maps.size, length_sorted], rfl⟩
theorem MapIs.made (P : Program) (K : TypeId) (w : World) : MapIs P K (w.alloc (.map #[] 0)) w.heap.size (fun _ => none) 0 :=
  ⟨.map [], World.ownsMap_made w P K heldR, rfl, fun i _ z => by rfl⟩
theorem MapIs.lt {P : Program} {K : TypeId} {w : World} {b n : Nat} {f : Int → Option Value} (h : MapIs P K w b f n) : b < w.heap.size := by
  obtain ⟨D, h1, _⟩ := h
  exact h1.lt
theorem MapIs.block {P : Program} {K : TypeId} {w w' : World} {b n : Nat} {f : Int → Option Value} (h : MapIs P K w b f n) (hb : w'.heap[b]? = w.heap[b]?) : MapIs P K w' b f n := by
  obtain ⟨D, ⟨es, clock, h1, h2⟩, h3⟩ := h
  exact ⟨D, ⟨es, clock, hb.trans h1, h2⟩, h3⟩
theorem MapIs.below {P : Program} {K : TypeId} {w w' : World} {b n : Nat} {f : Int → Option Value} (h : MapIs P K w b f n) (hb : Below w.heap.size w w') : MapIs P K w' b f n := h.block (hb.block b h.lt)
variable {P : Program} {K E t : TypeId} {w : World} {b n : Nat} {f : Int → Option Value}
theorem MapIs.look (h : MapIs P K w b f n) (hk : P.underlying K = some (.int .i64)) (ht : P.underlying t = some (.map K E)) {z0 : Value} (hz : ∀ w, (zeroValue E).run P w = .ok z0 w) (i : Int) (hi : (ikey i).wf = true) :
    (Instr.lookup t (.map (some b)) (.int .i64 i) false).run P w = .ok ((f i).getD z0) w := by
  obtain ⟨D, h1, _, h3⟩ := h
  obtain ⟨v, ps, hrun, hv⟩ := h1.lookup (int_keyed hk) ht (hz w) (zd := .held z0) (zp := []) rfl (keyOf_int_mk hk hi)
  rw [hrun]
  have h4 := h3 i hi
  injection hv with hv
  injection hv with hv _
  cases hf : f i with
  | none => rw [hf] at h4; rw [h4] at hv; injection hv with hv; rw [hv]; rfl
  | some u => rw [hf] at h4; rw [h4] at hv; injection hv with hv; rw [hv]; rfl
theorem MapIs.len (h : MapIs P K w b f n) (ht : P.underlying t = some (.map K E)) (ty : TypeId) : (Builtin.len_ #[t] ty #[.map (some b)]).run P w = .ok (.int .i64 n) w := by
  obtain ⟨D, h1, h2, _⟩ := h
  rw [h1.len ht ty, h2]
theorem isKey_int (i : Int) : WideAt.IsKeyLit (ikey i) := by
  first
  | trivial
  | simp [WideAt.IsKeyLit]
  | exact .inl ⟨_, _, rfl⟩
theorem MapIs.store (h : MapIs P K w b f n) (hk : P.underlying K = some (.int .i64)) (ht : P.underlying t = some (.map K E)) (hn : n < maxLen) (i : Int) (hi : (ikey i).wf = true) (v : Value) :
    ∃ w', (Instr.mapUpdate t (.map (some b)) (.int .i64 i) v).run P w = .ok () w' ∧ MapIs P K w' b (fun j => if j = i then some v else f j) (if (f i).isSome then n else n + 1) ∧ w.grownBy w' (some b) ∧ w'.heap.size = w.heap.size := by
  obtain ⟨D, h1, h2, h3⟩ := h
  obtain ⟨w', hrun, h4, h5⟩ := h1.store (int_keyed hk) ht hn (keyOf_int_mk hk hi) (val := v) (d := .held v) (ps := []) rfl
  have htidy := h1.tidy (int_keyed hk)
  have hsz : Maps.size (D.put (ikey i) (.held v)) = if (f i).isSome then n else n + 1 := by
    rw [size_put htidy, h2]
    have h6 := h3 i hi
    cases hf : f i with
    | none => rw [hf] at h6; rw [has_false_of_atKey h6]; rfl
    | some u => rw [hf] at h6; rw [has_true_of_atKey h6]; rfl
  refine ⟨w', hrun, ⟨D.put (ikey i) (.held v), ?_, hsz, fun j hj => ?_⟩, h5.grown, ?_⟩
  · rw [← hsz]; exact exact_bound h4
  · by_cases e : j = i
    · subst e
      simp only [if_true]
      exact fun z => atKey_put_same h1.isMap (isKey_int _) _ _
    · simp only [if_neg e]
      have hne : ikey j ≠ ikey i := fun h => e (by injection h)
      have h6 := h3 j hj
      cases hf : f j with
      | none => rw [hf] at h6; exact fun z => (atKey_put_other hne _ _).trans (h6 z)
      | some u => rw [hf] at h6; exact fun z => (atKey_put_other hne _ _).trans (h6 z)
  · obtain ⟨es, clock, es', clock', _, rfl⟩ := h5
    simp [ChangeMaps.setBlock]
theorem MapIs.drop (h : MapIs P K w b f n) (hk : P.underlying K = some (.int .i64)) (ht : P.underlying t = some (.map K E)) (i : Int) (hi : (ikey i).wf = true) (ty : TypeId) :
    ∃ w', (Builtin.delete_ #[t, K] ty #[.map (some b), .int .i64 i]).run P w = .ok (.tuple #[]) w' ∧ MapIs P K w' b (fun j => if j = i then none else f j) (if (f i).isSome then n - 1 else n) ∧ w.grownBy w' (some b) ∧ w'.heap.size = w.heap.size := by
  obtain ⟨D, h1, h2, h3⟩ := h
  obtain ⟨w', hrun, h4, h5⟩ := h1.drop (int_keyed hk) ht (keyOf_int_mk hk hi) ty
  have htidy := h1.tidy (int_keyed hk)
  have hsz : Maps.size (D.del (ikey i)) = if (f i).isSome then n - 1 else n := by
    have h7 := size_del htidy (k := ikey i)
    have h6 := h3 i hi
    cases hf : f i with
    | none => rw [hf] at h6; rw [has_false_of_atKey h6] at h7; simp at h7 ⊢; omega
    | some u => rw [hf] at h6; rw [has_true_of_atKey h6] at h7; simp at h7 ⊢; omega
  refine ⟨w', hrun, ⟨D.del (ikey i), ?_, hsz, fun j hj => ?_⟩, h5.grown, ?_⟩
  · rw [← hsz]; exact exact_bound h4
  · by_cases e : j = i
    · subst e
      simp only [if_true]
      exact fun z => atKey_del_same z
    · simp only [if_neg e]
      have hne : ikey j ≠ ikey i := fun h => e (by injection h)
      have h6 := h3 j hj
      cases hf : f j with
      | none => rw [hf] at h6; exact fun z => (atKey_del_other hne _).trans (h6 z)
      | some u => rw [hf] at h6; exact fun z => (atKey_del_other hne _).trans (h6 z)
  · obtain ⟨es, clock, es', clock', _, rfl⟩ := h5
    simp [ChangeMaps.setBlock]
end Go.Proofs.Ytfapghekakdpgaa
