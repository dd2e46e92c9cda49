/- Layer 3 in plain mathematics: how one list is turned into another one, and that no fewer steps do it. -/
import Derived.Test.YtibcfmfihcgijaaDoorClMath
namespace Go.Proofs.YtibcfmfihcgijaaDoor
namespace M
/-- how many of b's first names stand in a in this order, and which of a are not among them. -/
def gk : List BA → List BA → Nat
  | [], _ => 0
  | _ :: _, [] => 0
  | c :: a, d :: b => if c = d then gk a b + 1 else gk a (d :: b)
def gd : List BA → List BA → List BA
  | [], _ => []
  | c :: a, [] => c :: gd a []
  | c :: a, d :: b => if c = d then gd a b else c :: gd a (d :: b)
theorem gk_le (a b : List BA) : gk a b ≤ b.length := by
  induction a generalizing b with
  | nil => exact Nat.zero_le _
  | cons c a ih =>
    cases b with
    | nil => exact Nat.le_refl _
    | cons d b =>
      unfold gk
      split
      · have := ih b; simp; omega
      · exact ih (d :: b)
theorem gd_len (a b : List BA) : (gd a b).length + gk a b = a.length := by
  induction a generalizing b with
  | nil => rfl
  | cons c a ih =>
    cases b with
    | nil => have := ih []; unfold gd gk; cases a <;> simp [gk] at * <;> omega
    | cons d b =>
      unfold gd gk
      split
      · have := ih b; simp; omega
      · have := ih (d :: b); simp; omega
theorem gk_stands (a b : List BA) (n : Nat) (hn : n ≤ b.length) : stands a (b.take n) = decide (n ≤ gk a b) := by
  induction a generalizing b n with
  | nil =>
    cases n with
    | zero => simp [stands, gk]
    | succ n =>
      cases b with
      | nil => simp at hn
      | cons d b => simp [stands, gk]
  | cons c a ih =>
    cases n with
    | zero => simp [stands_nil]
    | succ n =>
      cases b with
      | nil => simp at hn
      | cons d b =>
        rw [List.take_succ_cons]
        unfold stands gk
        split
        · rename_i h
          rw [ih b n (by simpa using hn)]
          simp
        · rename_i h
          rw [← List.take_succ_cons, ih (d :: b) (n + 1) hn]
theorem gk_mem (a b : List BA) (x : BA) (h : x ∈ b.take (gk a b)) : x ∈ a := by
  induction a generalizing b with
  | nil => simp [gk] at h
  | cons c a ih =>
    cases b with
    | nil => simp at h
    | cons d b =>
      unfold gk at h
      split at h
      · rename_i hcd
        rw [List.take_succ_cons, List.mem_cons] at h
        rcases h with h | h
        · rw [h, ← hcd]; simp
        · exact List.mem_cons_of_mem _ (ih b h)
      · exact List.mem_cons_of_mem _ (ih (d :: b) h)
theorem gd_filter (a b : List BA) (ha : a.Nodup) (hb : b.Nodup) : gd a b = a.filter fun x => !has (b.take (gk a b)) x := by
  induction a generalizing b with
  | nil => rfl
  | cons c a ih =>
    have hca : c ∉ a := (List.nodup_cons.1 ha).1
    have ha' := (List.nodup_cons.1 ha).2
    cases b with
    | nil =>
      have := ih [] ha' List.nodup_nil
      unfold gd
      rw [this]
      simp [has]
    | cons d b =>
      have hb' := (List.nodup_cons.1 hb).2
      unfold gd gk
      split
      · rename_i h
        subst h
        rw [ih b ha' hb', List.take_succ_cons, List.filter_cons, if_neg (by simp [has])]
        apply List.filter_congr
        intro x hx
        have hxc : ¬ x = c := fun e => hca (e ▸ hx)
        simp [has, hxc]
      · rename_i h
        rw [ih (d :: b) ha' hb, List.filter_cons, if_pos]
        have : ¬ c ∈ (d :: b).take (gk a (d :: b)) := fun hm => hca (gk_mem a (d :: b) c hm)
        simp [has, this]
/-- the document's steps. -/
def turn (a b : List BA) : List Stp := (gd (clean a) (clean b)).map (fun c => (true, c)) ++ addsOf ((clean b).drop (gk (clean a) (clean b)))
theorem turn_len (a b : List BA) : (turn a b).length + 2 * gk (clean a) (clean b) = (clean a).length + (clean b).length := by
  have h1 := gd_len (clean a) (clean b)
  have h2 := gk_le (clean a) (clean b)
  unfold turn addsOf
  simp
  omega
/-! what the loop holds after some rounds -/
theorem gk_snoc (a b : List BA) (c : BA) : gk (a ++ [c]) b = if b[gk a b]? = some c then gk a b + 1 else gk a b := by
  induction a generalizing b with
  | nil =>
    cases b with
    | nil => rfl
    | cons d b =>
      unfold gk
      simp only [List.nil_append]
      unfold gk
      by_cases h : c = d
      · subst h; simp
      · rw [if_neg h, if_neg (by simp; exact fun e => h e.symm)]
  | cons x a ih =>
    cases b with
    | nil => cases a <;> simp [gk]
    | cons d b =>
      rw [List.cons_append]
      unfold gk
      by_cases h : x = d
      · rw [if_pos h, if_pos h, ih b]
        simp only [List.getElem?_cons_succ]
        split <;> rfl
      · rw [if_neg h, if_neg h]; exact ih (d :: b)
theorem gd_snoc (a b : List BA) (c : BA) : gd (a ++ [c]) b = if b[gk a b]? = some c then gd a b else gd a b ++ [c] := by
  induction a generalizing b with
  | nil =>
    cases b with
    | nil => simp [gd]
    | cons d b =>
      simp only [List.nil_append]
      unfold gd gk
      by_cases h : c = d
      · subst h; simp [gd]
      · rw [if_neg h, if_neg (by simp; exact fun e => h e.symm)]; simp [gd]
  | cons x a ih =>
    cases b with
    | nil => have := ih []; rw [List.cons_append]; unfold gd; rw [this]; simp
    | cons d b =>
      rw [List.cons_append]
      unfold gd gk
      by_cases h : x = d
      · rw [if_pos h, if_pos h, if_pos h, ih b]
        simp only [List.getElem?_cons_succ]
      · rw [if_neg h, if_neg h, if_neg h, ih (d :: b)]
        split <;> simp_all
theorem foldl_drops (l ds : List BA) : (ds.map fun c => ((true, c) : Stp)).foldl stepOne l = l.filter fun x => !has ds x := by
  induction ds generalizing l with
  | nil => exact (List.filter_eq_self.2 (fun _ _ => by simp [has])).symm
  | cons d ds ih =>
    rw [List.map_cons, List.foldl_cons, ih]
    show (drop l d).filter _ = _
    unfold drop
    rw [List.filter_filter]
    apply List.filter_congr
    intro x _
    by_cases h : x = d <;> simp [has, h]
theorem kept_take (a b : List BA) (ha : a.Nodup) (hb : b.Nodup) : (a.filter fun x => !has (gd a b) x) = b.take (gk a b) := by
  induction a generalizing b with
  | nil => simp [gk]
  | cons c a ih =>
    have hca : c ∉ a := (List.nodup_cons.1 ha).1
    have ha' := (List.nodup_cons.1 ha).2
    have hsub : ∀ (b : List BA) x, x ∈ gd a b → x ∈ a := by
      intro b x hx
      have hg : ∀ (a b : List BA), x ∈ gd a b → x ∈ a := by
        intro a
        induction a with
        | nil => intro b h; simp [gd] at h
        | cons e a ih2 =>
          intro b h
          cases b with
          | nil =>
            unfold gd at h
            rw [List.mem_cons] at h
            rcases h with h | h
            · rw [h]; simp
            · exact List.mem_cons_of_mem _ (ih2 _ h)
          | cons f b =>
            unfold gd at h
            split at h
            · exact List.mem_cons_of_mem _ (ih2 _ h)
            · rw [List.mem_cons] at h
              rcases h with h | h
              · rw [h]; simp
              · exact List.mem_cons_of_mem _ (ih2 _ h)
      exact hg a b hx
    have hskip : ∀ b : List BA, ((c :: a).filter fun x => !has (c :: gd a b) x) = a.filter fun x => !has (gd a b) x := by
      intro b
      rw [List.filter_cons, if_neg (by simp [has])]
      apply List.filter_congr
      intro x hx
      have hxc : ¬ x = c := fun e => hca (e ▸ hx)
      simp [has, hxc]
    cases b with
    | nil =>
      unfold gd
      rw [hskip [], ih [] ha' List.nodup_nil]
      simp
    | cons d b =>
      have hb' := (List.nodup_cons.1 hb).2
      unfold gd gk
      by_cases h : c = d
      · subst h
        rw [if_pos rfl, if_pos rfl, List.take_succ_cons, List.filter_cons, if_pos, ih b ha' hb']
        have : ¬ c ∈ gd a b := fun hm => hca (hsub b c hm)
        simp [has, this]
      · rw [if_neg h, if_neg h, hskip (d :: b), ih (d :: b) ha' hb]
theorem apply_turn (a b : List BA) : apply a (turn a b) = clean b := by
  unfold apply turn
  rw [List.foldl_append, foldl_drops, kept_take _ _ (nodup_clean a) (nodup_clean b), foldl_adds, foldl_add_nodup _ _ (by rw [List.take_append_drop]; exact nodup_clean b), List.take_append_drop]
theorem gd_mem (a b : List BA) (x : BA) (h : x ∈ gd a b) : x ∈ a := by
  induction a generalizing b with
  | nil => simp [gd] at h
  | cons c a ih =>
    cases b with
    | nil =>
      unfold gd at h
      rw [List.mem_cons] at h
      rcases h with h | h
      · rw [h]; simp
      · exact List.mem_cons_of_mem _ (ih _ h)
    | cons d b =>
      unfold gd at h
      split at h
      · exact List.mem_cons_of_mem _ (ih _ h)
      · rw [List.mem_cons] at h
        rcases h with h | h
        · rw [h]; simp
        · exact List.mem_cons_of_mem _ (ih _ h)
theorem turn_small {a b : List BA} {B : Nat} (ha : ∀ s ∈ a, s.size ≤ B) (hb : ∀ s ∈ b, s.size ≤ B) : ∀ s ∈ turn a b, s.2.size ≤ B := by
  intro s hs
  unfold turn at hs
  rw [List.mem_append] at hs
  rcases hs with hs | hs
  · obtain ⟨c, hc, rfl⟩ := List.mem_map.1 hs
    exact ha c ((mem_clean a c).1 (gd_mem _ _ c hc))
  · obtain ⟨c, hc, rfl⟩ := List.mem_map.1 hs
    exact hb c ((mem_clean b c).1 (List.mem_of_mem_drop hc))
/-! no fewer steps do it -/
theorem stands_sub (l ns : List BA) (h : ns.Sublist l) : stands l ns = true := by
  induction l generalizing ns with
  | nil => cases h; rfl
  | cons x l ih =>
    cases ns with
    | nil => exact stands_nil _
    | cons n ns =>
      unfold stands
      split
      · rename_i e
        refine ih ns ?_
        subst e
        exact List.Sublist.of_cons_cons h
      · rename_i e
        refine ih (n :: ns) ?_
        cases h with
        | cons _ h => exact h
        | cons_cons _ h => exact absurd rfl e
def Form (s : List Stp) : Prop := ∃ ds as : List BA, s = (ds.map fun c => ((true, c) : Stp)) ++ as.map fun c => ((false, c) : Stp)
theorem form_nil : Form [] := ⟨[], [], rfl⟩
theorem form_add {s : List Stp} (h : Form s) (c : BA) : Form (s ++ [(false, c)]) := by
  obtain ⟨ds, as, rfl⟩ := h
  exact ⟨ds, as ++ [c], by simp⟩
theorem form_drop {s : List Stp} (h : Form s) (c : BA) (hl : s = [] ∨ ∃ x, s.getLast? = some (true, x)) : Form (s ++ [(true, c)]) := by
  obtain ⟨ds, as, rfl⟩ := h
  have has : as = [] := by
    rcases hl with hl | ⟨x, hx⟩
    · exact List.map_eq_nil_iff.1 (List.append_eq_nil_iff.1 hl).2
    · rcases List.eq_nil_or_concat as with h0 | ⟨r, y, h0⟩
      · exact h0
      · subst h0
        rw [List.concat_eq_append, List.map_append, ← List.append_assoc] at hx
        simp at hx
  subst has
  exact ⟨ds ++ [c], [], by simp⟩
theorem filter_lose (l ds : List BA) (hl : l.Nodup) : l.length ≤ (l.filter fun x => !has ds x).length + ds.length := by
  induction ds generalizing l with
  | nil => rw [List.filter_eq_self.2 (fun _ _ => by simp [has])]; exact Nat.le_refl _
  | cons d ds ih =>
    have h1 := ih (drop l d) (nodup_drop hl d)
    have h2 : (drop l d).filter (fun x => !has ds x) = l.filter fun x => !has (d :: ds) x := by
      unfold drop
      rw [List.filter_filter]
      apply List.filter_congr
      intro x _
      by_cases h : x = d <;> simp [has, h]
    have h3 : l.length ≤ (drop l d).length + 1 := by
      clear ih h1 h2
      unfold drop
      induction l with
      | nil => simp
      | cons e l ih2 =>
        have hn := List.nodup_cons.1 hl
        rw [List.filter_cons]
        by_cases he : e = d
        · rw [if_neg (by simp [he])]
          have : l.filter (fun x => !decide (x = d)) = l := by
            rw [List.filter_eq_self]
            intro x hx
            have : ¬ x = d := fun e2 => hn.1 (by rw [he, ← e2]; exact hx)
            simp [this]
          rw [this]; simp
        · rw [if_pos (by simp [he])]
          have := ih2 hn.2
          simp; omega
    rw [h2] at h1
    simp only [List.length_cons]
    omega
theorem foldl_add_prefix (as acc : List BA) : ∃ r, as.foldl add acc = acc ++ r ∧ r.length ≤ as.length := by
  induction as generalizing acc with
  | nil => exact ⟨[], by simp⟩
  | cons c as ih =>
    obtain ⟨r, h1, h2⟩ := ih (add acc c)
    rw [List.foldl_cons, h1]
    unfold add
    split
    · exact ⟨r, rfl, by simp; omega⟩
    · exact ⟨c :: r, by simp, by simp; omega⟩
theorem least (a b : List BA) (s : List Stp) (hf : Form s) (h : apply a s = clean b) : (turn a b).length ≤ s.length := by
  obtain ⟨ds, as, rfl⟩ := hf
  have hA := nodup_clean a
  unfold apply at h
  rw [List.foldl_append, foldl_drops] at h
  have h0 : (as.map fun c => ((false, c) : Stp)) = addsOf as := rfl
  rw [h0, foldl_adds] at h
  obtain ⟨r, h1, h2⟩ := foldl_add_prefix as ((clean a).filter fun x => !has ds x)
  rw [h1] at h
  have h3 := filter_lose (clean a) ds hA
  have h4 : (clean b).take ((clean a).filter fun x => !has ds x).length = (clean a).filter fun x => !has ds x := by rw [← h]; simp
  have h5 := gk_stands (clean a) (clean b) ((clean a).filter fun x => !has ds x).length (by rw [← h]; simp)
  rw [h4, stands_sub _ _ List.filter_sublist] at h5
  have h6 := of_decide_eq_true h5.symm
  have h7 := turn_len a b
  have h8 := congrArg List.length h
  simp only [List.length_append, List.length_map] at *
  omega
end M
end Go.Proofs.YtibcfmfihcgijaaDoor
