/- A queue and the document's: what holds between them. -/
import Derived.Test.YtpdlholoeaphgaaFrR2
import Derived.Test.YtpdlholoeaphgaaFrR4
namespace Go.Proofs.Ytpdlholoeaphgaa
open Go.RowKit
namespace Fr
/-- the document's job of one that waits for so many frames. -/
def up (l : Int) (t : Wt) : Tm := ⟨t.tok, l, t.k, t.n⟩
def lift (l : Int) (a : List Wt) : List Tm := a.map (up l)
def doc (a1 a2 : List Wt) : List Tm := lift 1 a1 ++ lift 2 a2
theorem tv_lift (l : Int) (a : List Wt) : tv (lift l a) = rowv l a := by
  unfold tv rowv lift
  rw [List.flatMap_map]
  rfl
theorem tv_doc (a1 a2 : List Wt) : tv (doc a1 a2) = rowv 1 a1 ++ rowv 2 a2 := by rw [doc, tv_app, tv_lift, tv_lift]
theorem doc_len (a1 a2 : List Wt) : (doc a1 a2).length = a1.length + a2.length := by simp [doc, lift]
theorem doc_ask (a1 a2 : List Wt) (t k n : Int) : doc a1 (a2 ++ [⟨t, k, n⟩]) = doc a1 a2 ++ [⟨t, 2, k, n⟩] := by simp [doc, lift, up]
theorem flt_lift (z l : Int) (a : List Wt) : flt z (lift l a) = lift l (keep z a) := by
  unfold flt lift keep
  rw [List.filter_map]
  rfl
theorem flt_doc (z : Int) (a1 a2 : List Wt) : flt z (doc a1 a2) = doc (keep z a1) (keep z a2) := by
  unfold doc
  rw [← flt_lift, ← flt_lift]
  exact List.filter_append ..
theorem dues_doc (a1 a2 : List Wt) : dues (doc a1 a2) = lift 0 a1 := by
  unfold dues doc lift
  rw [List.filter_append, List.map_append]
  have h1 : (a1.map (up 1)).filter (fun t => decide (t.dl = 1)) = a1.map (up 1) := List.filter_eq_self.2 (fun x hx => by
    obtain ⟨y, _, rfl⟩ := List.mem_map.1 hx
    simp [up])
  have h2 : (a2.map (up 2)).filter (fun t => decide (t.dl = 1)) = [] := List.filter_eq_nil_iff.2 (fun x hx => by
    obtain ⟨y, _, rfl⟩ := List.mem_map.1 hx
    simp [up])
  rw [h1, h2, List.map_nil, List.append_nil, List.map_map]
  rfl
theorem lefts_doc (a1 a2 : List Wt) : lefts (doc a1 a2) = doc a2 [] := by
  unfold lefts doc lift
  rw [List.filter_append, List.map_append]
  have h1 : (a1.map (up 1)).filter (fun t => decide (t.dl ≠ 1)) = [] := List.filter_eq_nil_iff.2 (fun x hx => by
    obtain ⟨y, _, rfl⟩ := List.mem_map.1 hx
    simp [up])
  have h2 : (a2.map (up 2)).filter (fun t => decide (t.dl ≠ 1)) = a2.map (up 2) := List.filter_eq_self.2 (fun x hx => by
    obtain ⟨y, _, rfl⟩ := List.mem_map.1 hx
    simp [up])
  rw [h1, h2, List.map_nil, List.nil_append, List.map_map, List.map_nil, List.append_nil]
  rfl
theorem doc_dl (a1 a2 : List Wt) : ∀ t ∈ doc a1 a2, 1 ≤ t.dl ∧ t.dl ≤ 2 := by
  intro t ht
  rcases List.mem_append.1 ht with h | h
  · obtain ⟨y, _, rfl⟩ := List.mem_map.1 h; simp [up]
  · obtain ⟨y, _, rfl⟩ := List.mem_map.1 h; simp [up]
theorem keep_len (z : Int) (a : List Wt) : (keep z a).length ≤ a.length := List.length_filter_le _ _
theorem keep_mem {z : Int} {a : List Wt} {x : Wt} (h : x ∈ keep z a) : x ∈ a := (List.mem_filter.1 h).1
theorem keep_app (z : Int) (a b : List Wt) : keep z (a ++ b) = keep z a ++ keep z b := List.filter_append ..
/-- the document says that there was one just where there was one. -/
theorem keep_lt (z : Int) (a : List Wt) : ((keep z a).length < a.length) ↔ ∃ x ∈ a, x.tok = z := by
  constructor
  · intro h
    refine Classical.byContradiction fun hn => ?_
    have : keep z a = a := keep_all (fun x hx e => hn ⟨x, hx, e⟩)
    rw [this] at h
    omega
  · rintro ⟨x, hx, e⟩
    rcases Nat.lt_or_ge (keep z a).length a.length with h | h
    · exact h
    · have h2 : keep z a = a := List.Sublist.eq_of_length_le (List.filter_sublist) h
      rw [← h2] at hx
      have := (List.mem_filter.1 hx).2
      simp [e] at this
/-- rising tokens, told without places. -/
theorem asc_iff {a : List Wt} : Asc a ↔ a.Pairwise (fun x y => x.tok < y.tok) := by
  rw [List.pairwise_iff_getElem]
  constructor
  · intro h i j hi hj hij
    have := h i j hij hj
    rw [el_of (List.getElem?_eq_getElem hi), el_of (List.getElem?_eq_getElem hj)] at this
    exact this
  · intro h i j hij hj
    have := h i j (by omega) hj hij
    rw [el_of (List.getElem?_eq_getElem (show i < a.length by omega)), el_of (List.getElem?_eq_getElem hj)]
    exact this
theorem asc_app {a b : List Wt} (h : Asc (a ++ b)) : Asc a ∧ Asc b ∧ ∀ x ∈ a, ∀ y ∈ b, x.tok < y.tok := by
  rw [asc_iff, List.pairwise_append] at h
  exact ⟨asc_iff.2 h.1, asc_iff.2 h.2.1, h.2.2⟩
theorem asc_keep2 {a : List Wt} (h : Asc a) (z : Int) : Asc (keep z a) := asc_iff.2 ((asc_iff.1 h).filter _)
theorem asc_snoc {a : List Wt} {t : Wt} (h : Asc a) (ht : ∀ x ∈ a, x.tok < t.tok) : Asc (a ++ [t]) := by
  rw [asc_iff] at h ⊢
  rw [List.pairwise_append]
  exact ⟨h, List.pairwise_singleton _ _, fun x hx y hy => by rw [List.mem_singleton.1 hy]; exact ht x hx⟩
/-- the queue b and the document's list in step. -/
structure Fk (w W : World) (gw b : Nat) (r1 r2 : Value) (last most : Int) (a1 a2 : List Wt) (A : Option Addr) (n c : Nat) : Prop where
  qm : Qm W b 78 [] [] r1 r2 last most a1 a2
  new : ∀ q, Qb b r1 r2 q → gw ≤ q
  bel : Below gw w W
  sz : gw ≤ W.heap.size
  lies : At W A (tv (doc a1 a2))
  sep : ∀ b' o p, A = some ⟨b', o, p⟩ → ¬ Qb b r1 r2 b'
  old : ∀ b' o p, A = some ⟨b', o, p⟩ → b' < W.heap.size
  len : n = a1.length + a2.length
  cap : n ≤ c
  nil : A = none → n = 0 ∧ c = 0
  form : A = none ∨ ∃ b' o', A = some ⟨b', o', none⟩
  tok : ∀ x ∈ a1 ++ a2, 1 ≤ x.tok ∧ x.tok ≤ last
  asc : Asc (a1 ++ a2)
  lo : 0 ≤ last
  m1 : 1 ≤ most
  m2 : most ≤ 65536
  few : (n : Int) ≤ most
theorem Fk.below {w W Z : World} {gw b : Nat} {r1 r2 : Value} {last most : Int} {a1 a2 : List Wt} {A : Option Addr} {n c : Nat} (h : Fk w W gw b r1 r2 last most a1 a2 A n c) (hb : Below W.heap.size W Z) : Fk w Z gw b r1 r2 last most a1 a2 A n c :=
  ⟨h.qm.below hb, h.new, h.bel.trans (hb.mono h.sz), Nat.le_trans h.sz hb.size, h.lies.below hb, h.sep, fun b' o p e => Nat.lt_of_lt_of_le (h.old b' o p e) hb.size, h.len, h.cap, h.nil, h.form, h.tok, h.asc, h.lo, h.m1, h.m2, h.few⟩
theorem Fk.put {w W Z : World} {gw b r : Nat} {r1 r2 : Value} {last most : Int} {a1 a2 : List Wt} {A : Option Addr} {n c : Nat} (h : Fk w W gw b r1 r2 last most a1 a2 A n c) (hb : Beside (fun x => x = r) W Z) (h1 : ¬ Qb b r1 r2 r) (h2 : tv (doc a1 a2) ≠ [] → ∀ b' o p, A = some ⟨b', o, p⟩ → b' ≠ r) (hg : gw ≤ r) : Fk w Z gw b r1 r2 last most a1 a2 A n c :=
  ⟨h.qm.beside hb (fun q hq e => h1 (by rw [← e]; exact hq)), h.new, hb.below h.bel h.sz (fun q hq => by rw [hq]; exact hg), Nat.le_trans h.sz hb.size, by
    by_cases hL : tv (doc a1 a2) = []
    · rw [hL]; exact At.nil _ _
    · exact hb.at h.lies (fun b' o p e => h2 hL b' o p e), h.sep, fun b' o p e => Nat.lt_of_lt_of_le (h.old b' o p e) hb.size, h.len, h.cap, h.nil, h.form, h.tok, h.asc, h.lo, h.m1, h.m2, h.few⟩
/-- what a call does to a queue, seen from outside. -/
def Way (W Z : World) (b : Nat) (r1 r2 r1' r2' : Value) : Prop := Beside (Qb b r1 r2) W Z ∧ ∀ q, Qb b r1' r2' q → Qb b r1 r2 q ∨ W.heap.size ≤ q
/-- the world ahead of a call. -/
def do0 (W : World) (most last : Int) (A : Option Addr) (n c : Nat) (a : Tm) : World := ((W.alloc (.cells #[.int .i64 most, .int .i64 last, .slice A n c] 28)).alloc (.cells #[.int .i64 a.tok, .int .i64 a.dl, .int .i64 a.k, .int .i64 a.n] 35)).alloc (.cells #[.int .i64 0, .int .i64 0, .slice none 0 0] 28)
theorem do0_facts (W : World) (most last : Int) (A : Option Addr) (n c : Nat) (a : Tm) : Below W.heap.size W (do0 W most last A n c a) ∧ (do0 W most last A n c a).heap.size = W.heap.size + 1 + 1 + 1 ∧ Blk (do0 W most last A n c a) W.heap.size 28 #[.int .i64 most, .int .i64 last, .slice A n c] ∧ Blk (do0 W most last A n c a) (W.heap.size + 1) 35 #[.int .i64 a.tok, .int .i64 a.dl, .int .i64 a.k, .int .i64 a.n] ∧ Blk (do0 W most last A n c a) (W.heap.size + 1 + 1) 28 #[.int .i64 0, .int .i64 0, .slice none 0 0] := by
  unfold do0
  refine ⟨?_, by simp, ((Blk.new W _ _).alloc _).alloc _, ?_, ?_⟩
  · exact beside_none ((((Beside.refl (fun _ => False) W).alloc _).alloc _).alloc _)
  · exact (Blk.new' (W.alloc (.cells #[.int .i64 most, .int .i64 last, .slice A n c] 28)) _ _ _ (by simp)).alloc _
  · exact Blk.new' ((W.alloc (.cells #[.int .i64 most, .int .i64 last, .slice A n c] 28)).alloc (.cells #[.int .i64 a.tok, .int .i64 a.dl, .int .i64 a.k, .int .i64 a.n] 35)) _ _ _ (by simp)
end Fr
end Go.Proofs.Ytpdlholoeaphgaa
