/- Mathematics of snapshots: the last one of each name, by rising names. A list in order, with the first of each run kept (comp), is the one snapshot of what was turned round and sorted stably; the search for the next greater name comes to the same. No program is named. -/
namespace Go.Proofs.Ytdaohjimfgdmbaa
namespace Sn
variable {α : Type} (nm : α → Int)
/-- the last one of a name. -/
def lastAt (l : List α) (s : Int) : Option α := l.reverse.find? fun x => decide (nm x = s)
/-- strictly rising names. -/
def Up (l : List α) : Prop := l.Pairwise fun x y => nm x < nm y
/-- the snapshot of l. -/
structure Is (l r : List α) : Prop where
  up : Up nm r
  at_ : ∀ s, r.find? (fun x => decide (nm x = s)) = lastAt nm l s
/-- the first of each run, the name ahead of them being p. -/
def compA : Option Int → List α → List α
  | _, [] => []
  | p, x :: l => if p = some (nm x) then compA (some (nm x)) l else x :: compA (some (nm x)) l
def comp (l : List α) : List α := compA nm none l
/-- the name of the last one, or p. -/
def lastNm : Option Int → List α → Option Int
  | p, [] => p
  | _, x :: l => lastNm (some (nm x)) l
variable {nm}
theorem lastNm_snoc (l : List α) (x : α) : ∀ p, lastNm nm p (l ++ [x]) = some (nm x) := by
  induction l with
  | nil => intro p; rfl
  | cons y l ih => intro p; exact ih _
theorem compA_snoc (l : List α) (x : α) : ∀ p, compA nm p (l ++ [x]) = compA nm p l ++ (if lastNm nm p l = some (nm x) then [] else [x]) := by
  induction l with
  | nil =>
    intro p
    simp only [List.nil_append, compA]
    by_cases h : p = some (nm x)
    · rw [if_pos h, if_pos (show lastNm nm p [] = some (nm x) from h)]
    · rw [if_neg h, if_neg (show ¬ lastNm nm p [] = some (nm x) from h)]
  | cons y l ih =>
    intro p
    simp only [List.cons_append, compA, lastNm]
    by_cases h : p = some (nm y)
    · rw [if_pos h, if_pos h]; exact ih _
    · rw [if_neg h, if_neg h, ih]; rfl
theorem comp_nil : comp nm ([] : List α) = [] := rfl
theorem comp_one (x : α) : comp nm [x] = [x] := by simp [comp, compA]
/-- one more, as a walk by places sees it. -/
theorem comp_take {l : List α} {k : Nat} (h0 : 0 < k) (h : k < l.length) : comp nm (l.take (k + 1)) = comp nm (l.take k) ++ (if nm l[k] = nm (l[k - 1]'(by omega)) then [] else [l[k]]) := by
  have e : l.take (k + 1) = l.take k ++ [l[k]] := by rw [List.take_add_one, List.getElem?_eq_getElem h]; rfl
  have e2 : l.take k = l.take (k - 1) ++ [l[k - 1]'(by omega)] := by
    have := List.take_add_one (l := l) (i := k - 1)
    rw [show k - 1 + 1 = k by omega, List.getElem?_eq_getElem (by omega)] at this
    exact this
  unfold comp
  rw [e, compA_snoc]
  congr 1
  rw [e2, lastNm_snoc]
  by_cases hq : nm l[k] = nm (l[k - 1]'(by omega))
  · rw [if_pos hq, if_pos (by rw [hq])]
  · rw [if_neg hq, if_neg (by intro e; exact hq (Option.some.inj e).symm)]
theorem comp_take_one {l : List α} (h : 0 < l.length) : comp nm (l.take 1) = [l[0]] := by
  obtain ⟨x, l, rfl⟩ : ∃ x r, l = x :: r := by cases l with | nil => simp at h | cons x r => exact ⟨x, r, rfl⟩
  simp [comp, compA]
theorem comp_len (l : List α) : ∀ p, (compA nm p l).length ≤ l.length := by
  induction l with
  | nil => intro p; exact Nat.le_refl _
  | cons x l ih =>
    intro p
    have := ih (some (nm x))
    simp only [compA]
    split
    · simp only [List.length_cons]; omega
    · simp only [List.length_cons]; omega
theorem compA_mem (l : List α) : ∀ p, ∀ x ∈ compA nm p l, x ∈ l := by
  induction l with
  | nil => intro p x hx; cases hx
  | cons y l ih =>
    intro p x hx
    simp only [compA] at hx
    split at hx
    · exact List.mem_cons_of_mem _ (ih _ x hx)
    · rcases List.mem_cons.1 hx with e | e
      · exact e ▸ List.mem_cons_self
      · exact List.mem_cons_of_mem _ (ih _ x e)
/-- of a list in order: those kept rise, above the name ahead of them. -/
theorem compA_up (l : List α) (h : l.Pairwise fun x y => nm x ≤ nm y) : ∀ p, (∀ s, p = some s → ∀ x ∈ l, s ≤ nm x) → Up nm (compA nm p l) ∧ ∀ s, p = some s → ∀ x ∈ compA nm p l, s < nm x := by
  induction l with
  | nil => intro p _; exact ⟨List.Pairwise.nil, fun _ _ x hx => by cases hx⟩
  | cons y l ih =>
    intro p hp
    obtain ⟨h1, h2⟩ := List.pairwise_cons.1 h
    obtain ⟨i1, i2⟩ := ih h2 (some (nm y)) (fun s e x hx => by cases e; exact h1 x hx)
    have i3 := i2 (nm y) rfl
    simp only [compA]
    split
    · rename_i e
      exact ⟨i1, fun s e' x hx => by rw [e] at e'; cases e'; exact i3 x hx⟩
    · rename_i e
      refine ⟨List.pairwise_cons.2 ⟨i3, i1⟩, fun s e' x hx => ?_⟩
      have a : s ≤ nm y := hp s e' y List.mem_cons_self
      have b : s ≠ nm y := fun q => e (by rw [e', q])
      rcases List.mem_cons.1 hx with q | q
      · subst q; omega
      · have := i3 x q; omega
theorem compA_find (l : List α) (h : l.Pairwise fun x y => nm x ≤ nm y) (s : Int) : ∀ p, (∀ t, p = some t → ∀ x ∈ l, t ≤ nm x) → p ≠ some s → (compA nm p l).find? (fun x => decide (nm x = s)) = l.find? (fun x => decide (nm x = s)) := by
  induction l with
  | nil => intro p _ _; rfl
  | cons y l ih =>
    intro p hp hs
    obtain ⟨h1, h2⟩ := List.pairwise_cons.1 h
    have hn : ∀ t, some (nm y) = some t → ∀ x ∈ l, t ≤ nm x := fun t e x hx => by cases e; exact h1 x hx
    by_cases hy : nm y = s
    · simp only [compA]
      rw [if_neg (by rw [hy]; exact hs), List.find?_cons_of_pos (by simpa using hy), List.find?_cons_of_pos (by simpa using hy)]
    · rw [List.find?_cons_of_neg (by simpa using hy)]
      have i := ih h2 (some (nm y)) hn (fun e => hy (Option.some.inj e))
      simp only [compA]
      split
      · exact i
      · rw [List.find?_cons_of_neg (by simpa using hy)]; exact i
theorem find_filter (l : List α) (p : α → Bool) : l.find? p = (l.filter p).head? := by
  induction l with
  | nil => rfl
  | cons x l ih =>
    by_cases h : p x = true
    · rw [List.find?_cons_of_pos h, List.filter_cons_of_pos h]; rfl
    · rw [List.find?_cons_of_neg h, List.filter_cons_of_neg h]; exact ih
/-- what SnapOf does: turned round, in order, those of each name as they stood, and the first of each run. -/
theorem Is.of_sorted {l r : List α} (h : r.Pairwise fun x y => nm x ≤ nm y) (k : ∀ s, r.filter (fun x => decide (nm x = s)) = l.reverse.filter (fun x => decide (nm x = s))) : Is nm l (comp nm r) :=
  ⟨(compA_up r h none (fun _ e => by cases e)).1, fun s => by
    unfold comp lastAt
    rw [compA_find r h s none (fun _ e => by cases e) (fun e => by cases e), find_filter, k s, ← find_filter]⟩
theorem Up.find {r : List α} (h : Up nm r) {x : α} (hx : x ∈ r) : r.find? (fun y => decide (nm y = nm x)) = some x := by
  induction r with
  | nil => cases hx
  | cons y r ih =>
    obtain ⟨h1, h2⟩ := List.pairwise_cons.1 h
    rcases List.mem_cons.1 hx with e | e
    · subst e; rw [List.find?_cons_of_pos (by simp)]
    · have := h1 x e
      rw [List.find?_cons_of_neg (by simp; omega)]
      exact ih h2 e
theorem find_mem {r : List α} {s : Int} {x : α} (h : r.find? (fun y => decide (nm y = s)) = some x) : x ∈ r ∧ nm x = s :=
  ⟨List.mem_of_find?_eq_some h, by simpa using List.find?_some h⟩
theorem Up.len_le {b : List α} (hb : Up nm b) : ∀ {a : List α}, Up nm a → (∀ x ∈ a, x ∈ b) → a.length ≤ b.length := by
  induction b with
  | nil =>
    intro a _ h
    cases a with
    | nil => exact Nat.le_refl _
    | cons x a => exact absurd (h x List.mem_cons_self) (by simp)
  | cons y b ih =>
    intro a ha h
    obtain ⟨b1, b2⟩ := List.pairwise_cons.1 hb
    cases a with
    | nil => simp
    | cons x a =>
      obtain ⟨a1, a2⟩ := List.pairwise_cons.1 ha
      have : a.length ≤ b.length := ih b2 a2 fun z hz => by
        rcases List.mem_cons.1 (h z (List.mem_cons_of_mem _ hz)) with e | e
        · subst e
          have q := a1 z hz
          rcases List.mem_cons.1 (h x List.mem_cons_self) with e | e
          · subst e; omega
          · have := b1 x e; omega
        · exact e
      simp only [List.length_cons]; omega
/-- two rising lists, one within the other and as long, are one. -/
theorem Up.eq_of_len {b : List α} (hb : Up nm b) : ∀ {a : List α}, Up nm a → (∀ x ∈ a, x ∈ b) → a.length = b.length → a = b := by
  induction b with
  | nil => intro a _ _ h; exact List.eq_nil_of_length_eq_zero h
  | cons y b ih =>
    intro a ha h hl
    obtain ⟨b1, b2⟩ := List.pairwise_cons.1 hb
    cases a with
    | nil => simp at hl
    | cons x a =>
      obtain ⟨a1, a2⟩ := List.pairwise_cons.1 ha
      rcases List.mem_cons.1 (h x List.mem_cons_self) with e | e
      · subst e
        congr 1
        refine ih b2 a2 (fun z hz => ?_) (by simpa using hl)
        rcases List.mem_cons.1 (h z (List.mem_cons_of_mem _ hz)) with e | e
        · subst e; have := a1 z hz; omega
        · exact e
      · exfalso
        have : (x :: a).length ≤ b.length := Up.len_le b2 ha fun z hz => by
          rcases List.mem_cons.1 (h z hz) with q | q
          · subst q
            have k := b1 x e
            rcases List.mem_cons.1 hz with q | q
            · subst q; omega
            · have := a1 z q; omega
          · exact q
        simp only [List.length_cons] at this hl; omega
theorem Up.ext {a b : List α} (ha : Up nm a) (hb : Up nm b) (h : ∀ s, a.find? (fun x => decide (nm x = s)) = b.find? (fun x => decide (nm x = s))) : a = b := by
  have ab : ∀ x ∈ a, x ∈ b := fun x hx => (find_mem ((h (nm x)).symm.trans (ha.find hx))).1
  have ba : ∀ x ∈ b, x ∈ a := fun x hx => (find_mem ((h (nm x)).trans (hb.find hx))).1
  exact hb.eq_of_len ha ab (Nat.le_antisymm (hb.len_le ha ab) (ha.len_le hb ba))
/-- there is one snapshot. -/
theorem Is.uniq {l a b : List α} (ha : Is nm l a) (hb : Is nm l b) : a = b := ha.up.ext hb.up fun s => (ha.at_ s).trans (hb.at_ s).symm
theorem Is.mem {l r : List α} (h : Is nm l r) {x : α} : x ∈ r ↔ lastAt nm l (nm x) = some x := by
  rw [← h.at_]
  exact ⟨fun hx => h.up.find hx, fun hx => (find_mem hx).1⟩
/-- a snapshot is its own. -/
theorem Is.self {r : List α} (h : Up nm r) : Is nm r r := ⟨h, fun s => by
  unfold lastAt
  cases hr : r.find? (fun x => decide (nm x = s)) with
  | none =>
    symm
    rw [List.find?_eq_none] at hr ⊢
    exact fun x hx => hr x (List.mem_reverse.1 hx)
  | some x =>
    obtain ⟨m, rfl⟩ := find_mem hr
    cases hq : r.reverse.find? (fun y => decide (nm y = nm x)) with
    | none =>
      rw [List.find?_eq_none] at hq
      exact absurd (by simp) (hq x (List.mem_reverse.2 m))
    | some y =>
      obtain ⟨m2, e⟩ := find_mem hq
      have := h.find (List.mem_reverse.1 m2)
      rw [e, hr] at this
      exact this⟩
theorem Is.again {l r : List α} (h : Is nm l r) : Is nm r r := Is.self h.up
/-- the search for the next greater name: what it has found by now. -/
structure Part (l out : List α) : Prop where
  up : Up nm out
  own : ∀ x ∈ out, lastAt nm l (nm x) = some x
  all : ∀ x ∈ l, (∃ y ∈ out, nm x ≤ nm y) → ∃ y ∈ out, nm y = nm x
theorem Part.start (l : List α) : Part (nm := nm) l [] := ⟨List.Pairwise.nil, fun x hx => (by cases hx), fun x _ h => by obtain ⟨y, hy, _⟩ := h; cases hy⟩
/-- e is next: its name is above all of out's, and the least such. -/
theorem Part.step {l out : List α} (h : Part (nm := nm) l out) {e : α} (he : lastAt nm l (nm e) = some e) (ha : ∀ y ∈ out, nm y < nm e) (hl : ∀ x ∈ l, (∀ y ∈ out, nm y < nm x) → nm e ≤ nm x) : Part (nm := nm) l (out ++ [e]) := by
  refine ⟨List.pairwise_append.2 ⟨h.up, List.pairwise_singleton _ _, fun x hx y hy => ?_⟩, fun x hx => ?_, fun x hx hy => ?_⟩
  · rw [List.mem_singleton.1 hy]; exact ha x hx
  · rcases List.mem_append.1 hx with q | q
    · exact h.own x q
    · rw [List.mem_singleton.1 q]; exact he
  · obtain ⟨y, hy, hxy⟩ := hy
    by_cases hq : ∃ z ∈ out, nm x ≤ nm z
    · obtain ⟨z, hz, e'⟩ := h.all x hx hq
      exact ⟨z, List.mem_append_left _ hz, e'⟩
    · rcases List.mem_append.1 hy with q | q
      · exact absurd ⟨y, q, hxy⟩ hq
      · rw [List.mem_singleton.1 q] at hxy
        have := hl x hx fun z hz => by
          rcases Int.lt_or_le (nm z) (nm x) with k | k
          · exact k
          · exact absurd ⟨z, hz, k⟩ hq
        exact ⟨e, by simp, by omega⟩
/-- nothing is above. -/
theorem Part.stop {l out : List α} (h : Part (nm := nm) l out) (hn : ∀ x ∈ l, ¬ ∀ y ∈ out, nm y < nm x) : Is nm l out := ⟨h.up, fun s => by
  cases hq : out.find? (fun x => decide (nm x = s)) with
  | some x =>
    obtain ⟨m, rfl⟩ := find_mem hq
    exact (h.own x m).symm
  | none =>
    symm
    unfold lastAt
    rw [List.find?_eq_none] at hq ⊢
    intro x hx e
    have e : nm x = s := by simpa using e
    have hx := List.mem_reverse.1 hx
    have : ∃ y ∈ out, nm x ≤ nm y := by
      refine Classical.byContradiction fun hc => hn x hx fun y hy => ?_
      rcases Int.lt_or_le (nm y) (nm x) with k | k
      · exact k
      · exact absurd ⟨y, hy, k⟩ hc
    obtain ⟨y, hy, k⟩ := h.all x hx this
    exact hq y hy (by simpa using k.trans e)⟩
/-- out is rising: to be above its last one is to be above all. -/
theorem Up.above {out : List α} (h : Up nm out) {z : α} (hz : out.getLast? = some z) (s : Int) : (∀ y ∈ out, nm y < s) ↔ nm z < s := by
  have m : z ∈ out := List.mem_of_getLast? hz
  refine ⟨fun k => k z m, fun k y hy => ?_⟩
  obtain ⟨i, rfl⟩ : ∃ i, out = i ++ [z] := by
    have := List.getLast?_eq_some_iff.1 hz
    exact this
  obtain ⟨_, _, q⟩ := List.pairwise_append.1 h
  rcases List.mem_append.1 hy with e | e
  · have := q y e z (by simp); omega
  · rw [List.mem_singleton.1 e]; exact k
/-- each round has one more: there are no more rounds than names. -/
theorem Part.len {l out : List α} (h : Part (nm := nm) l out) : out.length ≤ l.length := by
  have go : ∀ (o m : List α), o.Pairwise (fun x y => nm x < nm y) → (∀ x ∈ o, x ∈ m) → o.length ≤ m.length := by
    intro o
    induction o with
    | nil => intro m _ _; simp
    | cons x o ih =>
      intro m hp hm
      obtain ⟨p1, p2⟩ := List.pairwise_cons.1 hp
      obtain ⟨u, v, rfl⟩ := List.append_of_mem (hm x List.mem_cons_self)
      have := ih (u ++ v) p2 fun y hy => by
        rcases List.mem_append.1 (hm y (List.mem_cons_of_mem _ hy)) with e | e
        · exact List.mem_append_left _ e
        · rcases List.mem_cons.1 e with e | e
          · subst e; have := p1 y hy; omega
          · exact List.mem_append_right _ e
      simp only [List.length_cons, List.length_append] at this ⊢; omega
  exact go out l h.up fun x hx => List.mem_reverse.1 (find_mem (h.own x hx)).1
/-- one more is laid down: the last one of its name is it. -/
theorem lastAt_snoc (l : List α) (x : α) (s : Int) : lastAt nm (l ++ [x]) s = if nm x = s then some x else lastAt nm l s := by
  unfold lastAt
  rw [List.reverse_append]
  by_cases h : nm x = s
  · rw [if_pos h]; simp [h]
  · rw [if_neg h]; simp [h]
theorem lastAt_none {l : List α} {s : Int} : lastAt nm l s = none ↔ ∀ x ∈ l, nm x ≠ s := by
  unfold lastAt
  rw [List.find?_eq_none]
  exact ⟨fun h x hx e => h x (List.mem_reverse.2 hx) (by simpa using e), fun h x hx e => h x (List.mem_reverse.1 hx) (by simpa using e)⟩
theorem lastAt_some {l : List α} {s : Int} {x : α} (h : lastAt nm l s = some x) : x ∈ l ∧ nm x = s :=
  ⟨List.mem_reverse.1 (find_mem h).1, (find_mem h).2⟩
/-- when two snapshots are one: as long, and each of the first is the last of its name in the second's entries. -/
theorem Is.eq_iff {l m a b : List α} (ha : Is nm l a) (hb : Is nm m b) : a = b ↔ a.length = b.length ∧ ∀ x ∈ a, lastAt nm m (nm x) = some x :=
  ⟨fun e => by subst e; exact ⟨rfl, fun x hx => hb.mem.1 hx⟩, fun ⟨h1, h2⟩ => hb.up.eq_of_len ha.up (fun x hx => hb.mem.2 (h2 x hx)) h1⟩
end Sn
end Go.Proofs.Ytdaohjimfgdmbaa
