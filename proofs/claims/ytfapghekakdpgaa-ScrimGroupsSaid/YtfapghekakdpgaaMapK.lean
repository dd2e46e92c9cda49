/- A map whose keys are plain values of any kind that can be read, told as a function. -/
import Derived.Test.YtfapghekakdpgaaArMap
import Derived.DeepKeys4
import Derived.WideKeyEntry
namespace Go.Proofs.Ytfapghekakdpgaa
open Go.RowKit Go.Maps
/-- how plain keys are values, and what each reads as. -/
structure Way {α : Type} (P : Program) (K : TypeId) (kv : α → Value) (kl : α → Lit) (ok : α → Prop) : Prop where
  keyed : Keyed P K
  reads : ∀ a, ok a → keyOf P K (kv a) = some (kl a)
  inj : ∀ a b, ok a → ok b → kl a = kl b → a = b
/-- block b of w is a map of n entries; at a key a it has the value f a. -/
def MapOf {α : Type} (P : Program) (K : TypeId) (kl : α → Lit) (ok : α → Prop) (w : World) (b : Nat) (f : α → Option Value) (n : Nat) : Prop :=
  ∃ D : DataW Value, w.ownsMap P K heldR b n D ∧ Maps.size D = n ∧ ∀ a, ok a → (match f a with | some v => ∀ z, D.atKey (kl a) z = .held v | none => ∀ z, D.atKey (kl a) z = z)
section
variable {α : Type} {P : Program} {K E t : TypeId} {kv : α → Value} {kl : α → Lit} {ok : α → Prop} {w : World} {b n : Nat} {f : α → Option Value}
theorem MapOf.made (P : Program) (K : TypeId) (kl : α → Lit) (ok : α → Prop) (w : World) : MapOf P K kl ok (w.alloc (.map #[] 0)) w.heap.size (fun _ => none) 0 :=
  ⟨.map [], World.ownsMap_made w P K heldR, rfl, fun i _ z => by rfl⟩
theorem MapOf.lt (h : MapOf P K kl ok w b f n) : b < w.heap.size := by
  obtain ⟨D, h1, _⟩ := h
  exact h1.lt
theorem MapOf.block {w' : World} (h : MapOf P K kl ok w b f n) (hb : w'.heap[b]? = w.heap[b]?) : MapOf P K kl ok w' b f n := by
  obtain ⟨D, ⟨es, clock, h1, h2⟩, h3⟩ := h
  exact ⟨D, ⟨es, clock, hb.trans h1, h2⟩, h3⟩
theorem MapOf.below {w' : World} (h : MapOf P K kl ok w b f n) (hb : Below w.heap.size w w') : MapOf P K kl ok w' b f n := h.block (hb.block b h.lt)
theorem MapOf.grown {w' : World} {row : Option Nat} (h : MapOf P K kl ok w b f n) (hg : w.grownBy w' row) (hne : some b ≠ row) : MapOf P K kl ok w' b f n := h.block (hg.block b h.lt hne)
theorem MapOf.congr {f' : α → Option Value} (h : MapOf P K kl ok w b f n) (e : ∀ a, ok a → f a = f' a) : MapOf P K kl ok w b f' n := by
  obtain ⟨D, h1, h2, h3⟩ := h
  exact ⟨D, h1, h2, fun a ha => by rw [← e a ha]; exact h3 a ha⟩
theorem MapOf.look (h : MapOf P K kl ok w b f n) (W : Way P K kv kl ok) (ht : P.underlying t = some (.map K E)) {z0 : Value} (hz : ∀ w, (zeroValue E).run P w = .ok z0 w) (i : α) (hi : ok i) :
    (Instr.lookup t (.map (some b)) (kv i) false).run P w = .ok ((f i).getD z0) w := by
  obtain ⟨D, h1, _, h3⟩ := h
  obtain ⟨v, ps, hrun, hv⟩ := h1.lookup W.keyed ht (hz w) (zd := .held z0) (zp := []) rfl (W.reads i hi)
  rw [hrun]
  have h4 := h3 i hi
  injection hv with hv
  injection hv with hv _
  cases hf : f i with
  | none => rw [hf] at h4; rw [h4] at hv; injection hv with hv; rw [hv]; rfl
  | some u => rw [hf] at h4; rw [h4] at hv; injection hv with hv; rw [hv]; rfl
theorem MapOf.look_ok (h : MapOf P K kl ok w b f n) (W : Way P K kv kl ok) (ht : P.underlying t = some (.map K E)) {z0 : Value} (hz : ∀ w, (zeroValue E).run P w = .ok z0 w) (i : α) (hi : ok i) :
    (Instr.lookup t (.map (some b)) (kv i) true).run P w = .ok (.tuple #[(f i).getD z0, .bool (f i).isSome]) w := by
  obtain ⟨D, h1, _, h3⟩ := h
  obtain ⟨v, ps, hrun, hv⟩ := h1.look_ok W.keyed ht (hz w) (zd := .held z0) (zp := []) rfl (W.reads i hi)
  rw [hrun]
  have h4 := h3 i hi
  injection hv with hv
  injection hv with hv _
  cases hf : f i with
  | none => rw [hf] at h4; rw [has_false_of_atKey h4]; rw [h4] at hv; injection hv with hv; rw [hv]; rfl
  | some u => rw [hf] at h4; rw [has_true_of_atKey h4]; rw [h4] at hv; injection hv with hv; rw [hv]; rfl
theorem MapOf.len (h : MapOf P K kl ok w b f n) (ht : P.underlying t = some (.map K E)) (ty : TypeId) : (Builtin.len_ #[t] ty #[.map (some b)]).run P w = .ok (.int .i64 n) w := by
  obtain ⟨D, h1, h2, _⟩ := h
  rw [h1.len ht ty, h2]
theorem MapOf.store (h : MapOf P K kl ok w b f n) (W : Way P K kv kl ok) [DecidableEq α] (ht : P.underlying t = some (.map K E)) (hn : n < maxLen) (i : α) (hi : ok i) (v : Value) :
    ∃ w', (Instr.mapUpdate t (.map (some b)) (kv i) v).run P w = .ok () w' ∧ MapOf P K kl ok w' b (fun j => if j = i then some v else f j) (if (f i).isSome then n else n + 1) ∧ w.grownBy w' (some b) ∧ w'.heap.size = w.heap.size := by
  obtain ⟨D, h1, h2, h3⟩ := h
  obtain ⟨w', hrun, h4, h5⟩ := h1.store W.keyed ht hn (W.reads i hi) (val := v) (d := .held v) (ps := []) rfl
  have htidy := h1.tidy W.keyed
  have hsz : Maps.size (D.put (kl i) (.held v)) = if (f i).isSome then n else n + 1 := by
    rw [size_put htidy, h2]
    have h6 := h3 i hi
    cases hf : f i with
    | none => rw [hf] at h6; rw [has_false_of_atKey h6]; rfl
    | some u => rw [hf] at h6; rw [has_true_of_atKey h6]; rfl
  refine ⟨w', hrun, ⟨D.put (kl i) (.held v), ?_, hsz, fun j hj => ?_⟩, h5.grown, ?_⟩
  · rw [← hsz]; exact exact_bound h4
  · by_cases e : j = i
    · subst e
      simp only [if_true]
      exact fun z => atKey_put_same h1.isMap (W.keyed.key (W.reads j hj)) _ _
    · simp only [if_neg e]
      have hne : kl j ≠ kl i := fun h => e (W.inj _ _ hj hi h)
      have h6 := h3 j hj
      cases hf : f j with
      | none => rw [hf] at h6; exact fun z => (atKey_put_other hne _ _).trans (h6 z)
      | some u => rw [hf] at h6; exact fun z => (atKey_put_other hne _ _).trans (h6 z)
  · obtain ⟨es, clock, es', clock', _, rfl⟩ := h5
    simp [ChangeMaps.setBlock]
/-- 'm[k] op= v': the entry first, the store behind it; the look-up on either side of the entry. -/
theorem MapOf.entry (h : MapOf P K kl ok w b f n) (W : Way P K kv kl ok) (KL : WideMaps.KeyLaw P K) [DecidableEq α] (ht : P.underlying t = some (.map K E)) {z0 : Value} (hz : ∀ w, (zeroValue E).run P w = .ok z0 w) (hn : n < maxLen) (i : α) (hi : ok i) (v : Value) :
    ∃ v0 st w1 w2, (Instr.mapEntry t (.map (some b)) (kv i)).run P w = .ok (.tuple #[v0, goInt st]) w1 ∧ (Instr.lookup t (.map (some b)) (kv i) false).run P w1 = .ok ((f i).getD z0) w1 ∧ (Instr.entryStore t (.map (some b)) (goInt st) v).run P w1 = .ok () w2 ∧
      MapOf P K kl ok w2 b (fun j => if j = i then some v else f j) (if (f i).isSome then n else n + 1) ∧ w.grownBy w2 (some b) ∧ w2.heap.size = w.heap.size ∧ w.grownBy w1 (some b) ∧ w1.heap.size = w.heap.size := by
  obtain ⟨ws, hrun, hm, hg, hs⟩ := h.store W ht hn i hi v
  obtain ⟨wz, hrunz, hmz, hgz, hsz⟩ := h.store W ht hn i hi z0
  obtain ⟨D, ⟨es, clock, hb, F, hsize, hD⟩, h2, h3⟩ := id h
  obtain ⟨v0, st, es1, clock1, r1, r2, r3⟩ := WideElems.entry_then_store KL ht hz hb F (W.reads i hi)
  have hb1 : (ChangeMaps.setBlock w b (.map es1 clock1)).heap[b]? = some (.map es1 clock1) := ChangeMaps.heap_setBlock_same hb _
  obtain ⟨es', clock', r4, r5⟩ := r3 _ v hb1
  rw [hrun] at r5
  injection r5 with _ r5
  have e2 : ChangeMaps.setBlock (ChangeMaps.setBlock w b (.map es1 clock1)) b (.map es' clock') = ws := by rw [r5]; simp [ChangeMaps.setBlock]
  have hl := h.look W ht hz i hi
  have hkey := W.reads i hi
  have hw1 : (Instr.lookup t (.map (some b)) (kv i) false).run P (ChangeMaps.setBlock w b (.map es1 clock1)) = .ok ((f i).getD z0) (ChangeMaps.setBlock w b (.map es1 clock1)) ∧ w.grownBy (ChangeMaps.setBlock w b (.map es1 clock1)) (some b) ∧ (ChangeMaps.setBlock w b (.map es1 clock1)).heap.size = w.heap.size := by
    rcases KL.find w hkey es.toList F.keys with ⟨q1, q2⟩ | ⟨j, e0, q1, q2, q3⟩
    · have s1 : (Instr.mapEntry t (.map (some b)) (kv i)).run P w = .ok (.tuple #[z0, goInt clock]) (ChangeMaps.setBlock w b (.map (es.push ⟨kv i, z0, clock⟩) (clock + 1))) := by
        simp [Instr.mapEntry, run_underlying ht, MapKept.run_getObj_map hb, KL.check w false hkey, q1, hz, MapKept.run_setObj_map _ hb, Result.andThen, ChangeMaps.setBlock]
      have s2 : (Instr.mapUpdate t (.map (some b)) (kv i) z0).run P w = .ok () (ChangeMaps.setBlock w b (.map (es.push ⟨kv i, z0, clock⟩) (clock + 1))) := by
        simp [Instr.mapUpdate, run_underlying ht, MapKept.run_getObj_map hb, KL.check w false hkey, q1, MapKept.run_setObj_map _ hb, Result.andThen, ChangeMaps.setBlock]
      have s3 : (Instr.lookup t (.map (some b)) (kv i) false).run P w = .ok z0 w := by
        simp [Instr.lookup, run_underlying ht, MapKept.run_getObj_map hb, KL.check w _ hkey, q1, hz, Result.andThen]
      rw [hl] at s3
      injection s3 with s3 _
      rw [s1] at r1
      injection r1 with _ r1
      rw [hrunz] at s2
      injection s2 with _ s2
      rw [← r1, ← s2]
      have h9 := hmz.look W ht hz i hi
      rw [if_pos rfl] at h9
      refine ⟨?_, hgz, hsz⟩
      rw [h9, s3]
      rfl
    · have hj : es[j]? = some e0 := by simpa using q2
      have hsame : es.modify j (fun e => { e with key := kv i }) = es := by
        apply Array.ext'
        rw [Array.toList_modify, ChangeMaps.modify_eq_set _ _ _ _ q2]
        have : ({ e0 with key := kv i } : MapEntry) = e0 := by rw [← q3]
        rw [this]
        exact WideElems.set_self _ _ _ q2
      have s1 : (Instr.mapEntry t (.map (some b)) (kv i)).run P w = .ok (.tuple #[e0.val, goInt e0.born]) (ChangeMaps.setBlock w b (.map es clock)) := by
        simp [Instr.mapEntry, run_underlying ht, MapKept.run_getObj_map hb, KL.check w false hkey, q1, hj, q3, KL.stays w hkey, hsame, MapKept.run_setObj_map _ hb, Result.andThen, ChangeMaps.setBlock]
      rw [s1] at r1
      injection r1 with _ r1
      have hsw : (ChangeMaps.setBlock w b (.map es clock)).heap[b]? = w.heap[b]? := (ChangeMaps.heap_setBlock_same hb _).trans hb.symm
      rw [← r1]
      refine ⟨(h.block hsw).look W ht hz i hi, ?_, by simp [ChangeMaps.setBlock]⟩
      exact World.mapTurned.grown ⟨es, clock, es, clock, hb, rfl⟩
  exact ⟨v0, st, _, ws, r1, hw1.1, by rw [r4, e2], hm, hg, hs, hw1.2.1, hw1.2.2⟩
end
end Go.Proofs.Ytfapghekakdpgaa
