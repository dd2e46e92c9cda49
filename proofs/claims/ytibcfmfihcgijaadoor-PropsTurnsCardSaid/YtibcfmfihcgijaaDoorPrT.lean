/- Layer 4 in plain mathematics: how one map comes to be the other one, by the fewest steps. -/
import Derived.Test.YtibcfmfihcgijaaDoorPrMath
import Derived.Test.YtibcfmfihcgijaaDoorClTurn
namespace Go.Proofs.YtibcfmfihcgijaaDoor
namespace M
section
variable {V : Type} [DecidableEq V] [Inhabited V]
def stepP (m : List (BA × V)) (s : Bool × BA × V) : List (BA × V) := if s.1 then m.filter (fun p => !decide (p.1 = s.2.1)) else setP m s.2
def applyP (l : List (BA × V)) (steps : List (Bool × BA × V)) : List (BA × V) := steps.foldl stepP (ofP l)
def dropsP (a b : List (BA × V)) : List (Bool × BA × V) := ((ofP a).filter fun p => (getP b p.1).isNone).map fun p => (true, p.1, default)
def setsP (a b : List (BA × V)) : List (Bool × BA × V) := ((ofP b).filter fun p => !decide (getP a p.1 = some p.2)).map fun p => (false, p.1, p.2)
def turnP (a b : List (BA × V)) : List (Bool × BA × V) := dropsP a b ++ setsP a b
omit [DecidableEq V] [Inhabited V] in
theorem rises_filter {m : List (BA × V)} (hm : Rises m) (f : BA × V → Bool) : Rises (m.filter f) := List.Pairwise.sublist List.filter_sublist hm
omit [DecidableEq V] [Inhabited V] in
theorem drop_get (m : List (BA × V)) (x y : BA) : getP (m.filter fun p => !decide (p.1 = x)) y = if x = y then none else getP m y := by
  induction m with
  | nil => split <;> rfl
  | cons p m ih =>
    by_cases h : p.1 = x
    · rw [List.filter_cons_of_neg (by simpa using h), ih, getP_cons]
      by_cases hxy : x = y
      · rw [if_pos hxy, if_pos hxy]
      · rw [if_neg hxy, if_neg hxy, if_neg (fun e => hxy (h.symm.trans e))]; simp
    · rw [List.filter_cons_of_pos (by simpa using h), getP_cons, ih, getP_cons]
      by_cases hxy : x = y
      · rw [if_pos hxy, if_pos hxy, if_neg (fun e => h (e.trans hxy.symm))]; rfl
      · rw [if_neg hxy, if_neg hxy]
omit [DecidableEq V] [Inhabited V] in
theorem stepP_rises {m : List (BA × V)} (hm : Rises m) (s : Bool × BA × V) : Rises (stepP m s) := by
  unfold stepP
  split
  · exact rises_filter hm _
  · exact setP_rises hm _
omit [DecidableEq V] [Inhabited V] in
theorem stepP_get {m : List (BA × V)} (hm : Rises m) (s : Bool × BA × V) (x : BA) : getP (stepP m s) x = if s.2.1 = x then (if s.1 then none else some s.2.2) else getP m x := by
  unfold stepP
  split
  · rename_i h
    rw [drop_get]
  · rename_i h
    rw [setP_get hm]
omit [DecidableEq V] [Inhabited V] in
theorem applyP_snoc (l : List (BA × V)) (st : List (Bool × BA × V)) (s : Bool × BA × V) : applyP l (st ++ [s]) = stepP (applyP l st) s := by
  unfold applyP; rw [List.foldl_append]; rfl
omit [DecidableEq V] [Inhabited V] in
theorem applyP_rises (l : List (BA × V)) (st : List (Bool × BA × V)) : Rises (applyP l st) := by
  unfold applyP
  have h : ∀ (st : List (Bool × BA × V)) m, Rises m → Rises (st.foldl stepP m) := by
    intro st
    induction st with
    | nil => intro m hm; exact hm
    | cons s st ih => intro m hm; exact ih _ (stepP_rises hm s)
  exact h st _ (ofP_rises l)
omit [DecidableEq V] [Inhabited V] in
/-- of a name that no step names nothing changes. -/
theorem foldl_other (st : List (Bool × BA × V)) (x : BA) : ∀ m : List (BA × V), Rises m → (∀ s ∈ st, ¬ s.2.1 = x) → getP (st.foldl stepP m) x = getP m x := by
  induction st with
  | nil => intro m _ _; rfl
  | cons s st ih =>
    intro m hm h
    rw [List.foldl_cons, ih _ (stepP_rises hm s) (fun t ht => h t (List.mem_cons_of_mem _ ht)), stepP_get hm, if_neg (h s (by simp))]
theorem nodup_le {l m : List BA} (h : l.Nodup) (hs : ∀ x ∈ l, x ∈ m) : l.length ≤ m.length := by
  induction l generalizing m with
  | nil => exact Nat.zero_le _
  | cons a l ih =>
    have h1 := List.nodup_cons.1 h
    have ha := hs a (by simp)
    have h2 := ih (m := m.erase a) h1.2 fun x hx => (List.mem_erase_of_ne (fun (e : x = a) => h1.1 (by rw [← e]; exact hx))).2 (hs x (List.mem_cons_of_mem _ hx))
    have h3 := List.length_erase_of_mem ha
    have h4 := List.length_pos_of_mem ha
    simp only [List.length_cons]
    omega
omit [DecidableEq V] [Inhabited V] in
theorem rises_nodup {m : List (BA × V)} (hm : Rises m) : (m.map Prod.fst).Nodup := by
  unfold List.Nodup
  rw [List.pairwise_map]
  exact List.Pairwise.imp (fun h => blt_ne h) hm
def namesT (a b : List (BA × V)) : List BA := (turnP a b).map fun s => s.2.1
theorem namesT_nodup (a b : List (BA × V)) : (namesT a b).Nodup := by
  unfold namesT turnP dropsP setsP
  rw [List.map_append, List.map_map, List.map_map]
  rw [List.nodup_append]
  refine ⟨?_, ?_, ?_⟩
  · exact rises_nodup (rises_filter (ofP_rises a) _)
  · exact rises_nodup (rises_filter (ofP_rises b) _)
  · intro x hx y hy e
    subst e
    obtain ⟨p, hp, rfl⟩ := List.mem_map.1 hx
    obtain ⟨q, hq, hqp⟩ := List.mem_map.1 hy
    have h1 := (List.mem_filter.1 hp).2
    have h2 := rises_get (ofP_rises b) (List.mem_filter.1 hq).1
    rw [ofP_get] at h2
    have h3 : q.1 = p.1 := hqp
    rw [h3] at h2
    have h4 : (getP b p.1).isNone = true := h1
    rw [h2] at h4
    cases h4
theorem namesT_diff {a b : List (BA × V)} {x : BA} (h : x ∈ namesT a b) : ¬ getP a x = getP b x := by
  unfold namesT turnP dropsP setsP at h
  rw [List.map_append, List.map_map, List.map_map] at h
  rcases List.mem_append.1 h with h | h
  · obtain ⟨p, hp, rfl⟩ := List.mem_map.1 h
    have h1 := List.mem_filter.1 hp
    have h2 := rises_get (ofP_rises a) h1.1
    rw [ofP_get] at h2
    show ¬ getP a p.1 = getP b p.1
    rw [h2]
    intro e
    have h4 : (getP b p.1).isNone = true := h1.2
    rw [← e] at h4
    cases h4
  · obtain ⟨p, hp, rfl⟩ := List.mem_map.1 h
    have h1 := List.mem_filter.1 hp
    have h2 := rises_get (ofP_rises b) h1.1
    rw [ofP_get] at h2
    show ¬ getP a p.1 = getP b p.1
    rw [h2]
    intro e
    have h4 := h1.2
    rw [e] at h4
    simp at h4
/-- no steps that make the one the other are fewer. -/
theorem turnP_least (a b : List (BA × V)) (st : List (Bool × BA × V)) (h : applyP a st = ofP b) : (turnP a b).length ≤ st.length := by
  have h1 : (namesT a b).length ≤ (st.map fun s => s.2.1).length := by
    refine nodup_le (namesT_nodup a b) fun x hx => ?_
    rw [List.mem_map]
    refine Classical.byContradiction fun hno => namesT_diff hx ?_
    have h2 : getP (applyP a st) x = getP (ofP a) x := foldl_other st x (ofP a) (ofP_rises a) fun s hs e => hno ⟨s, hs, e⟩
    rw [h, ofP_get, ofP_get] at h2
    exact h2.symm
  simpa [namesT] using h1
theorem turnP_len (a b : List (BA × V)) : (turnP a b).length ≤ (ofP a).length + (ofP b).length := by
  unfold turnP dropsP setsP
  rw [List.length_append, List.length_map, List.length_map]
  have h1 := List.length_filter_le (fun p : BA × V => (getP b p.1).isNone) (ofP a)
  have h2 := List.length_filter_le (fun p : BA × V => !decide (getP a p.1 = some p.2)) (ofP b)
  omega
omit [DecidableEq V] [Inhabited V] in
/-- the steps lead there. -/
theorem foldl_get_st (st : List (Bool × BA × V)) (x : BA) : ∀ m : List (BA × V), Rises m → (st.map fun s => s.2.1).Nodup → ∀ s ∈ st, s.2.1 = x → getP (st.foldl stepP m) x = if s.1 then none else some s.2.2 := by
  induction st with
  | nil => intro m _ _ s hs; cases hs
  | cons t st ih =>
    intro m hm hnd s hs hx
    have h1 := List.nodup_cons.1 (by simpa using hnd : (t.2.1 :: st.map fun s => s.2.1).Nodup)
    rcases List.mem_cons.1 hs with rfl | hs
    · rw [List.foldl_cons, foldl_other st x _ (stepP_rises hm s) (fun u hu e => h1.1 (List.mem_map.2 ⟨u, hu, e.trans hx.symm⟩)), stepP_get hm, if_pos hx]
    · rw [List.foldl_cons]
      exact ih _ (stepP_rises hm t) h1.2 s hs hx
theorem turnP_leads (a b : List (BA × V)) : applyP a (turnP a b) = ofP b := by
  refine ofP_unique (applyP_rises a _) fun x => ?_
  by_cases hx : x ∈ namesT a b
  · obtain ⟨s, hs, hsx⟩ := List.mem_map.1 hx
    have h1 := foldl_get_st (turnP a b) x (ofP a) (ofP_rises a) (namesT_nodup a b) s hs hsx
    unfold applyP
    rw [h1]
    unfold turnP dropsP setsP at hs
    rcases List.mem_append.1 hs with hs | hs
    · obtain ⟨p, hp, rfl⟩ := List.mem_map.1 hs
      have h2 : (getP b p.1).isNone = true := (List.mem_filter.1 hp).2
      have h3 : p.1 = x := hsx
      rw [h3] at h2
      cases hb : getP b x with
      | none => rfl
      | some v => rw [hb] at h2; cases h2
    · obtain ⟨p, hp, rfl⟩ := List.mem_map.1 hs
      have h2 := rises_get (ofP_rises b) (List.mem_filter.1 hp).1
      rw [ofP_get] at h2
      have h3 : p.1 = x := hsx
      rw [h3] at h2
      rw [h2]; rfl
  · have h1 : getP (applyP a (turnP a b)) x = getP a x := by
      unfold applyP
      rw [foldl_other _ x (ofP a) (ofP_rises a) (fun s hs e => hx (List.mem_map.2 ⟨s, hs, e⟩)), ofP_get]
    rw [h1]
    cases ha : getP a x with
    | none =>
      cases hb : getP b x with
      | none => rfl
      | some v =>
        refine absurd ?_ hx
        have h2 : (x, v) ∈ ofP b := getP_mem (by rw [ofP_get]; exact hb)
        refine List.mem_map.2 ⟨(false, x, v), List.mem_append.2 (.inr (List.mem_map.2 ⟨(x, v), List.mem_filter.2 ⟨h2, ?_⟩, rfl⟩)), rfl⟩
        show (!decide (getP a x = some v)) = true
        rw [ha]; rfl
    | some u =>
      have h2 : (x, u) ∈ ofP a := getP_mem (by rw [ofP_get]; exact ha)
      cases hb : getP b x with
      | none =>
        refine absurd ?_ hx
        refine List.mem_map.2 ⟨(true, x, default), List.mem_append.2 (.inl (List.mem_map.2 ⟨(x, u), List.mem_filter.2 ⟨h2, ?_⟩, rfl⟩)), rfl⟩
        show (getP b x).isNone = true
        rw [hb]; rfl
      | some v =>
        by_cases huv : u = v
        · rw [huv]
        · refine absurd ?_ hx
          have h3 : (x, v) ∈ ofP b := getP_mem (by rw [ofP_get]; exact hb)
          refine List.mem_map.2 ⟨(false, x, v), List.mem_append.2 (.inr (List.mem_map.2 ⟨(x, v), List.mem_filter.2 ⟨h3, ?_⟩, rfl⟩)), rfl⟩
          show (!decide (getP a x = some v)) = true
          rw [ha]
          simpa using huv
/-- what is said last of each name, be it a pair of the map or a step. -/
def laterP (l : List (BA × V)) (st : List (Bool × BA × V)) : List (BA × (Bool × V)) := l.map (fun p => (p.1, (false, p.2))) ++ st.map (fun s => (s.2.1, (s.1, s.2.2)))
def keptP (m : List (BA × (Bool × V))) : List (BA × V) := (m.filter fun q => !q.2.1).map fun q => (q.1, q.2.2)
omit [DecidableEq V] [Inhabited V] in
theorem keptP_rises {m : List (BA × (Bool × V))} (hm : Rises m) : Rises (keptP m) := by
  unfold keptP Rises
  rw [List.pairwise_map]
  exact rises_filter hm _
omit [DecidableEq V] [Inhabited V] in
theorem keptP_get {m : List (BA × (Bool × V))} (hm : Rises m) (x : BA) : getP (keptP m) x = (getP m x).bind fun q => if q.1 then none else some q.2 := by
  induction m with
  | nil => rfl
  | cons p m ih =>
    have h1 := List.pairwise_cons.1 hm
    have e : keptP (p :: m) = if p.2.1 then keptP m else (p.1, p.2.2) :: keptP m := by
      unfold keptP
      rw [List.filter_cons]
      cases p.2.1 <;> rfl
    rw [e, getP_cons]
    by_cases hx : p.1 = x
    · have h2 : getP m x = none := getP_none fun q hq e => blt_ne (h1.1 q hq) (hx.trans e.symm)
      rw [h2, if_pos hx]
      cases hb : p.2.1 with
      | true => simp [ih h1.2, h2, hb]
      | false => simp [getP_cons, ih h1.2, h2, hb, hx]
    · rw [if_neg hx]
      cases hb : p.2.1 with
      | true => simp [ih h1.2]
      | false => simp [getP_cons, ih h1.2, hx]
omit [DecidableEq V] [Inhabited V] in
theorem getP_append {W : Type} (l m : List (BA × W)) (x : BA) : getP (l ++ m) x = (getP m x).or (getP l x) := by
  unfold getP
  rw [List.foldl_append]
  exact foldl_get m x _
omit [DecidableEq V] [Inhabited V] in
theorem getP_map {W : Type} (l : List (BA × V)) (f : V → W) (x : BA) : getP (l.map fun p => (p.1, f p.2)) x = (getP l x).map f := by
  induction l with
  | nil => rfl
  | cons p l ih =>
    rw [List.map_cons, getP_cons, getP_cons, ih]
    cases getP l x with
    | some v => rfl
    | none => simp only [Option.map_none, Option.none_or]; split <;> rfl
omit [DecidableEq V] [Inhabited V] in
/-- the program's way to apply steps is the document's. -/
theorem later_apply (l : List (BA × V)) (st : List (Bool × BA × V)) : keptP (ofP (laterP l st)) = applyP l st := by
  refine rises_ext (keptP_rises (ofP_rises _)) (applyP_rises _ _) fun x => ?_
  rw [keptP_get (ofP_rises _), ofP_get]
  have h : ∀ (st : List (Bool × BA × V)), (getP (laterP l st) x).bind (fun q => if q.1 then none else some q.2) = getP (applyP l st) x := by
    intro st
    have hrev : ∀ (r : List (Bool × BA × V)), (getP (laterP l r.reverse) x).bind (fun q => if q.1 then none else some q.2) = getP (applyP l r.reverse) x := by
      intro r
      induction r with
      | nil =>
        have e : laterP l ([] : List (Bool × BA × V)).reverse = l.map fun p => (p.1, (false, p.2)) := by simp [laterP]
        rw [e, getP_map l (fun v => (false, v))]
        show _ = getP (ofP l) x
        rw [ofP_get]
        cases getP l x <;> rfl
      | cons s r ih =>
        rw [List.reverse_cons, applyP_snoc, stepP_get (applyP_rises _ _), ← ih]
        have e : laterP l (r.reverse ++ [s]) = laterP l r.reverse ++ [(s.2.1, (s.1, s.2.2))] := by simp [laterP]
        rw [e, getP_snoc]
        by_cases hx : s.2.1 = x
        · rw [if_pos hx, if_pos hx]; rfl
        · rw [if_neg hx, if_neg hx]
    have := hrev st.reverse
    rw [List.reverse_reverse] at this
    exact this
  exact h st
end
end M
end Go.Proofs.YtibcfmfihcgijaaDoor
