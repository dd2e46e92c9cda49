/- Entries of a log as cells; a log's maths: what was told of one kid, whether all may be. -/
import Derived.Test.YtbekoockmageoaaDoorMem
import Derived.Test.YtbekoockmageoaaDoorHkMath
import Derived.Test.YtbekoockmageoaaDoorOpenG
import Derived.Test.YtbekoockmageoaaDoorProg
namespace Go.Proofs.YtbekoockmageoaaDoor
open Go.RowKit Go.ChangeShapes Go.WideShapes Go.Deep Hk
namespace Hk
structure En where
  g : Int
  n : Int
  h : Int
  s : ByteArray
/-- a kid: a key in a group -/
abbrev Kid := Int × ByteArray
def En.kid (e : En) : Kid := (e.g, e.s)
def isKid (k : Kid) (e : En) : Bool := decide (e.kid = k)
def hooksOf (L : List En) (k : Kid) : List Int := (L.filter (isKid k)).map En.h
theorem hooksOf_app (a b : List En) (k : Kid) : hooksOf (a ++ b) k = hooksOf a k ++ hooksOf b k := by simp [hooksOf]
theorem hooksOf_one (e : En) (k : Kid) : hooksOf [e] k = if e.kid = k then [e.h] else [] := by
  unfold hooksOf isKid
  by_cases h : e.kid = k <;> simp [h]
theorem hooksOf_next (L : List En) (k : Nat) (h : k < L.length) (q : Kid) : hooksOf (L.take (k + 1)) q = if L[k].kid = q then hooksOf (L.take k) q ++ [L[k].h] else hooksOf (L.take k) q := by
  rw [List.take_succ_eq_append_getElem h, hooksOf_app, hooksOf_one]
  split <;> simp
def AllOk (L : List En) : Prop := ∀ e ∈ L, 0 ≤ run 0 (hooksOf L e.kid)
def okB (L : List En) : Bool := L.all fun e => decide (0 ≤ run 0 (hooksOf L e.kid))
theorem okB_iff (L : List En) : okB L = true ↔ AllOk L := by simp [okB, AllOk]
theorem run_app (s : Int) (p q : List Int) : run s (p ++ q) = run (run s p) q := by simp [run]
/-- of what is behind nothing gets better -/
theorem bad_stays (L : List En) (k : Nat) (q : Kid) (h : run 0 (hooksOf (L.take k) q) < 0) : run 0 (hooksOf L q) < 0 := by
  rw [show hooksOf L q = hooksOf (L.take k) q ++ hooksOf (L.drop k) q by rw [← hooksOf_app, List.take_append_drop], run_app]
  exact run_neg _ _ h
theorem bad_all (L : List En) (k : Nat) (hk : k < L.length) (h : run 0 (hooksOf (L.take (k + 1)) L[k].kid) < 0) : okB L = false := by
  rw [Bool.eq_false_iff]
  intro h1
  have h2 := (okB_iff L).1 h1 L[k] (List.getElem_mem hk)
  have h3 := bad_stays L (k + 1) L[k].kid h
  omega
theorem ok_next (L : List En) (k : Nat) (hk : k < L.length) (h : AllOk (L.take k)) (h1 : 0 ≤ run 0 (hooksOf (L.take (k + 1)) L[k].kid)) : AllOk (L.take (k + 1)) := by
  intro e he
  by_cases hq : L[k].kid = e.kid
  · rw [← hq]; exact h1
  · rw [hooksOf_next L k hk e.kid, if_neg hq]
    refine h e ?_
    rw [List.take_succ_eq_append_getElem hk, List.mem_append] at he
    rcases he with he | he
    · exact he
    · rw [List.mem_singleton] at he
      exact absurd (by rw [he]) hq
theorem none_of (L : List En) (q : Kid) (h : ∀ e ∈ L, e.kid ≠ q) : hooksOf L q = [] := by
  unfold hooksOf isKid
  rw [List.map_eq_nil_iff, List.filter_eq_nil_iff]
  intro e he
  simpa using h e he
/-- what is told of one kid alone -/
theorem own_hooks (L : List En) (q : Kid) : hooksOf (L.filter (isKid q)) q = hooksOf L q := by
  unfold hooksOf
  rw [List.filter_filter]
  simp
theorem own_ok (L : List En) (e : En) (he : e ∈ L) : okB (L.filter (isKid e.kid)) = decide (0 ≤ run 0 (hooksOf L e.kid)) := by
  rw [Bool.eq_iff_iff, okB_iff, decide_eq_true_iff]
  constructor
  · intro h
    have := h e (by rw [List.mem_filter]; exact ⟨he, by simp [isKid]⟩)
    rwa [own_hooks] at this
  · intro h x hx
    rw [List.mem_filter] at hx
    have hk : x.kid = e.kid := by simpa [isKid] using hx.2
    rw [hk, own_hooks]
    exact h
end Hk
def ec (e : En) : List Value := [.int .i64 e.g, .int .i64 e.n, .int .i64 e.h, .string e.s]
def ecs (L : List En) : List Value := L.flatMap ec
theorem ecs_len (L : List En) : (ecs L).length = L.length * 4 := Op.flat_len ec 4 (fun _ => rfl) L
theorem ecs_app (a b : List En) : ecs (a ++ b) = ecs a ++ ecs b := List.flatMap_append
theorem ecs_one (L : List En) : ∀ u ∈ ecs L, u.oneCell' = true := by
  intro u hu
  simp only [ecs, ec, List.mem_flatMap, List.mem_cons, List.not_mem_nil, or_false] at hu
  obtain ⟨k, _, rfl | rfl | rfl | rfl⟩ := hu <;> rfl
theorem at_en {w : World} {A : Option Addr} {L : List En} (h : At w A (ecs L)) {k : Nat} (hk : k < L.length) :
    ∃ b off, A = some ⟨b, off, none⟩ ∧ b < w.heap.size ∧ w.cell? ⟨b, off + k * 4, none⟩ = some (.int .i64 L[k].g) ∧ w.cell? ⟨b, off + k * 4 + 1, none⟩ = some (.int .i64 L[k].n) ∧ w.cell? ⟨b, off + k * 4 + 2, none⟩ = some (.int .i64 L[k].h) ∧ w.cell? ⟨b, off + k * 4 + 3, none⟩ = some (.string L[k].s) := by
  have h0 : (ecs L)[k * 4]? = some (.int .i64 L[k].g) := Op.flat_at ec 4 (fun _ => rfl) L k hk 0 (by omega)
  have h1 : (ecs L)[k * 4 + 1]? = some (.int .i64 L[k].n) := Op.flat_at ec 4 (fun _ => rfl) L k hk 1 (by omega)
  have h2 : (ecs L)[k * 4 + 2]? = some (.int .i64 L[k].h) := Op.flat_at ec 4 (fun _ => rfl) L k hk 2 (by omega)
  have h3 : (ecs L)[k * 4 + 3]? = some (.string L[k].s) := Op.flat_at ec 4 (fun _ => rfl) L k hk 3 (by omega)
  obtain ⟨b, off, e, hb, hc⟩ := h (fun e => by rw [e] at h0; cases h0)
  exact ⟨b, off, e, hb, hc _ _ h0, hc _ _ h1, hc _ _ h2, hc _ _ h3⟩
def OkE (e : En) : Prop := (Lit.int .i64 e.g).wf = true ∧ (Lit.int .i64 e.n).wf = true ∧ (Lit.int .i64 e.h).wf = true ∧ e.s.size ≤ maxLen
def EntriesIn (w : World) (A : Option Addr) (n c : Nat) (L : List En) : Prop := Op.SliceOf w ec OkE A n c L
section
variable {H : Type} {enc : TypeId × Value → H} {P : Program} {w : World} {base : Nat} {spare : Nat → Bool} {held : Bool}
theorem entries_in {t e : TypeId} {f0 f1 f2 f3 : Field} {a : Option Addr} {n c : Nat} {d : DataW H} {p : List MemPlace} (ht : P.underlying t = some (.slice e)) (he : P.underlying e = some (.struct #[f0, f1, f2, f3])) (ce : P.cellsOf e = 4)
    (o : (f0.offset, f1.offset, f2.offset, f3.offset) = (0, 1, 2, 3)) (k : (P.cellsOf f0.type, P.cellsOf f1.type, P.cellsOf f2.type, P.cellsOf f3.type) = (1, 1, 1, 1)) (u0 : P.underlying f0.type = some (.int .i64)) (u1 : P.underlying f1.type = some (.int .i64)) (u2 : P.underlying f2.type = some (.int .i64)) (u3 : P.underlying f3.type = some .string)
    (h : DataW.Trod enc P w base spare held t (.slice a n c) d p) : ∃ L, EntriesIn w a n c L := by
  simp only [Prod.mk.injEq] at o k
  obtain ⟨o0, o1, o2, o3⟩ := o
  obtain ⟨k0, k1, k2, k3⟩ := k
  have hact : Op.Opens enc P w base spare held e fun cs => ∃ t, cs = ec t ∧ OkE t := by
    intro fuel cs x h
    obtain ⟨h1, h2⟩ := Op.o_struct (R := fun i cs => (i = 3 → ∃ s : ByteArray, cs = [.string s] ∧ s.size ≤ maxLen) ∧ (i ≠ 3 → ∃ n, cs = [.int .i64 n] ∧ (Lit.int .i64 n).wf = true)) he (fun i f hi => by
      match i, hi with
      | 0, hi => injection hi with hi; subst hi; exact fun a b c d => ⟨fun h => (by cases h), fun _ => Op.o_int u0 a b c d⟩
      | 1, hi => injection hi with hi; subst hi; exact fun a b c d => ⟨fun h => (by cases h), fun _ => Op.o_int u1 a b c d⟩
      | 2, hi => injection hi with hi; subst hi; exact fun a b c d => ⟨fun h => (by cases h), fun _ => Op.o_int u2 a b c d⟩
      | 3, hi => injection hi with hi; subst hi; exact fun a b c d => ⟨fun _ => Op.o_string u3 a b c d, fun h => absurd rfl h⟩) fuel cs x h
    rw [ce] at h1
    match cs, h1 with
    | [a0, a1, a2, a3], _ =>
      obtain ⟨n0, e0, w0⟩ := (h2 0 f0 rfl).2 (by decide)
      obtain ⟨n1, e1, w1⟩ := (h2 1 f1 rfl).2 (by decide)
      obtain ⟨n2, e2, w2⟩ := (h2 2 f2 rfl).2 (by decide)
      obtain ⟨n3, e3, w3⟩ := (h2 3 f3 rfl).1 rfl
      rw [o0, k0] at e0
      rw [o1, k1] at e1
      rw [o2, k2] at e2
      rw [o3, k3] at e3
      simp at e0 e1 e2 e3
      subst e0 e1 e2 e3
      exact ⟨⟨n0, n1, n2, n3⟩, rfl, w0, w1, w2, w3⟩
  obtain ⟨A, n', c', L, e1, hL⟩ := Op.opened (Op.o_slice 4 ht ce (fun _ => rfl) hact) h
  have e2 : Value.slice a n c = .slice A n' c' := by
    have : (Value.slice a n c).cells.toList = [.slice a n c] := rfl
    rw [this] at e1
    exact (List.cons.inj e1).1
  injection e2 with e3 e4 e5
  subst e3 e4 e5
  exact ⟨L, hL⟩
end
end Go.Proofs.YtbekoockmageoaaDoor
