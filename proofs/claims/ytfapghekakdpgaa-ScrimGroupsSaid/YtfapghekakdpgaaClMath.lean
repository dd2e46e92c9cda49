/- Layer 3 in plain mathematics: lists of names, cleaned, added to, dropped from; turned one into another. -/
import Derived.Laws.StructEq
import Derived.Lib.Strings
namespace Go.Proofs.Ytfapghekakdpgaa
namespace M
abbrev BA := ByteArray
theorem str_beq (a b : ByteArray) : (a.toList == b.toList) = decide (a = b) := by
  rw [ByteArray.toList_eq, ByteArray.toList_eq, Bool.eq_iff_iff, decide_eq_true_iff, beq_iff_eq]
  constructor
  · intro h
    obtain ⟨⟨x⟩⟩ := a
    obtain ⟨⟨y⟩⟩ := b
    simp only at h
    rw [h]
  · rintro rfl; rfl
instance lawful : LawfulBEq ByteArray where
  eq_of_beq {a b} h := by rw [beq_toListBytes, str_beq] at h; simpa using h
  rfl {a} := by rw [beq_toListBytes, str_beq]; simp
theorem str_yes {a b : ByteArray} (h : a = b) : (a.toList == b.toList) = true := by rw [str_beq]; simp [h]
theorem str_no {a b : ByteArray} (h : ¬ a = b) : (a.toList == b.toList) = false := by rw [str_beq]; simp [h]
def has (l : List BA) (c : BA) : Bool := decide (c ∈ l)
theorem has_yes {l : List BA} {c : BA} (h : c ∈ l) : has l c = true := by simp [has, h]
theorem has_no {l : List BA} {c : BA} (h : ¬ c ∈ l) : has l c = false := by simp [has, h]
def cutS (s : BA) (n : Nat) : BA := if n < s.size then s.extract 0 n else s
def few (l : List BA) (n : Nat) : List BA := (l.take n).map fun s => cutS s 20
theorem few_len (l : List BA) (n : Nat) : (few l n).length ≤ n := by simp [few, List.length_take]; omega
theorem few_len_eq (l : List BA) (k : Nat) (h : k ≤ l.length) : (few l k).length = k := by simp [few, List.length_take]; omega
theorem few_all (l : List BA) (k n : Nat) (h : l.length ≤ k) (hn : k ≤ n) : few l n = few l k := by
  unfold few; rw [List.take_of_length_le (by omega), List.take_of_length_le h]
theorem few_take (l : List BA) (k : Nat) : few l k = (l.take k).map fun s => cutS s 20 := rfl
/-- one more behind, unless it is there. -/
def add (l : List BA) (c : BA) : List BA := if c ∈ l then l else l ++ [c]
def clean (l : List BA) : List BA := l.foldl add []
def drop (l : List BA) (c : BA) : List BA := l.filter fun x => !decide (x = c)
def stepOne (l : List BA) (s : Bool × BA) : List BA := if s.1 then drop l s.2 else add l s.2
def apply (l : List BA) (steps : List (Bool × BA)) : List BA := steps.foldl stepOne (clean l)
theorem take_next {α : Type} (l : List α) (k : Nat) (h : k < l.length) : l.take (k + 1) = l.take k ++ [l[k]] := by
  rw [List.take_succ_eq_append_getElem h]
theorem clean_next (l : List BA) (k : Nat) (h : k < l.length) : clean (l.take (k + 1)) = add (clean (l.take k)) l[k] := by
  unfold clean
  rw [take_next l k h, List.foldl_append]
  rfl
theorem mem_add (l : List BA) (c x : BA) : x ∈ add l c ↔ x ∈ l ∨ x = c := by
  unfold add
  split
  · rename_i h
    constructor
    · exact Or.inl
    · rintro (h1 | rfl)
      · exact h1
      · exact h
  · simp
theorem mem_foldl_add (l acc : List BA) (x : BA) : x ∈ l.foldl add acc ↔ x ∈ acc ∨ x ∈ l := by
  induction l generalizing acc with
  | nil => simp
  | cons a l ih => rw [List.foldl_cons, ih, mem_add, List.mem_cons, or_assoc]
theorem mem_clean (l : List BA) (x : BA) : x ∈ clean l ↔ x ∈ l := by
  unfold clean; rw [mem_foldl_add]; simp
theorem has_clean (l : List BA) (x : BA) : has (clean l) x = has l x := by simp [has, mem_clean]
theorem add_len (l : List BA) (c : BA) : (add l c).length ≤ l.length + 1 := by
  unfold add; split <;> simp
theorem nodup_add {l : List BA} (h : l.Nodup) (c : BA) : (add l c).Nodup := by
  unfold add
  split
  · exact h
  · rename_i hc
    rw [List.nodup_append]
    refine ⟨h, by simp, ?_⟩
    intro x hx y hy
    simp at hy
    subst hy
    intro e
    exact hc (e ▸ hx)
theorem nodup_foldl_add (l acc : List BA) (h : acc.Nodup) : (l.foldl add acc).Nodup := by
  induction l generalizing acc with
  | nil => exact h
  | cons a l ih => exact ih _ (nodup_add h a)
theorem nodup_clean (l : List BA) : (clean l).Nodup := nodup_foldl_add l [] List.nodup_nil
theorem clean_len (l : List BA) : (clean l).length ≤ l.length := by
  have h : ∀ (l acc : List BA), (l.foldl add acc).length ≤ acc.length + l.length := by
    intro l
    induction l with
    | nil => simp
    | cons a l ih => intro acc; have h1 := ih (add acc a); have h2 := add_len acc a; simp only [List.foldl_cons, List.length_cons]; omega
  simpa [clean] using h l []
theorem nodup_drop {l : List BA} (h : l.Nodup) (c : BA) : (drop l c).Nodup := List.Nodup.sublist List.filter_sublist h
/-- a list that has none twice is clean. -/
theorem foldl_add_nodup (l acc : List BA) (h : (acc ++ l).Nodup) : l.foldl add acc = acc ++ l := by
  induction l generalizing acc with
  | nil => simp
  | cons a l ih =>
    have ha : ¬ a ∈ acc := by
      rw [List.nodup_append] at h
      intro hc
      exact h.2.2 a hc a (by simp) rfl
    rw [List.foldl_cons]
    have : add acc a = acc ++ [a] := by unfold add; rw [if_neg ha]
    rw [this, ih _ (by simpa using h)]
    simp
theorem clean_nodup {l : List BA} (h : l.Nodup) : clean l = l := by
  have := foldl_add_nodup l [] (by simpa using h)
  simpa [clean] using this
theorem clean_clean (l : List BA) : clean (clean l) = clean l := clean_nodup (nodup_clean l)
def resB (s : BA) : Bool := Lib.hasPrefix s.data.toList [116, 45]
def ownB (s : BA) : Bool := !resB s
def mine (l : List BA) : List BA := l.filter ownB
theorem filter_take_yes {α : Type} (l : List α) (p : α → Bool) (k : Nat) (h : k < l.length) (hp : p l[k] = true) : (l.take (k + 1)).filter p = (l.take k).filter p ++ [l[k]] := by
  rw [take_next l k h, List.filter_append]; simp [hp]
theorem filter_take_no {α : Type} (l : List α) (p : α → Bool) (k : Nat) (h : k < l.length) (hp : p l[k] = false) : (l.take (k + 1)).filter p = (l.take k).filter p := by
  rw [take_next l k h, List.filter_append]; simp [hp]
theorem filter_take_le {α : Type} (l : List α) (p : α → Bool) (k : Nat) : ((l.take k).filter p).length ≤ k := Nat.le_trans (List.length_filter_le _ _) (List.length_take_le _ _)
theorem resB_short (s : BA) (h : s.size < 2) : resB s = false := by
  obtain ⟨⟨l⟩⟩ := s
  have h' : l.length < 2 := h
  match l, h' with
  | [], _ => decide
  | [a], _ => show List.isPrefixOf [116, 45] [a] = false; simp [List.isPrefixOf]
theorem resB_eq (s : BA) (h : 2 ≤ s.size) : ((s.extract 0 2).toList == [116, 45]) = resB s := by
  obtain ⟨⟨l⟩⟩ := s
  have h' : 2 ≤ l.length := h
  match l, h' with
  | a :: b :: r, _ =>
    unfold resB Lib.hasPrefix
    rw [ByteArray.toList_eq, ByteArray.data_extract]
    simp [List.isPrefixOf, Bool.beq_comm]
/-- steps as cells -/
abbrev Stp := Bool × BA
def stv (l : List Stp) : List Value := l.flatMap fun s => [.bool s.1, .string s.2]
theorem stv_len (l : List Stp) : (stv l).length = l.length * 2 := by
  unfold stv; induction l with
  | nil => rfl
  | cons a l ih => rw [List.flatMap_cons, List.length_append, ih]; simp; omega
theorem stv_app (a b : List Stp) : stv (a ++ b) = stv a ++ stv b := by simp [stv]
theorem stv_nil : stv [] = [] := rfl
theorem stv_cons (s : Stp) (l : List Stp) : stv (s :: l) = .bool s.1 :: .string s.2 :: stv l := rfl
theorem stv_one (l : List Stp) : ∀ u ∈ stv l, u.oneCell' = true := by
  intro u hu
  simp only [stv, List.mem_flatMap] at hu
  obtain ⟨s, _, h⟩ := hu
  simp at h
  rcases h with rfl | rfl <;> rfl
theorem stv_at (l : List Stp) (k : Nat) (h : k < l.length) : (stv l)[k * 2]? = some (.bool l[k].1) ∧ (stv l)[k * 2 + 1]? = some (.string l[k].2) := by
  induction l generalizing k with
  | nil => simp at h
  | cons a l ih =>
    cases k with
    | zero => exact ⟨rfl, rfl⟩
    | succ k =>
      have := ih k (by simpa using h)
      rw [stv_cons]
      rw [show (k + 1) * 2 = k * 2 + 1 + 1 from by omega]
      simpa using this
def addsOf (l : List BA) : List Stp := l.map fun c => (false, c)
theorem addsOf_next (l : List BA) (k : Nat) (h : k < l.length) : addsOf (l.take (k + 1)) = addsOf (l.take k) ++ [(false, l[k])] := by
  unfold addsOf; rw [take_next l k h, List.map_append]; rfl
theorem addsOf_len (l : List BA) (k : Nat) (h : k ≤ l.length) : (addsOf (l.take k)).length = k := by simp [addsOf]; omega
/-- do names stand in a list, one behind the other? -/
def stands : List BA → List BA → Bool
  | _, [] => true
  | [], _ :: _ => false
  | x :: l, n :: ns => if x = n then stands l ns else stands l (n :: ns)
theorem stands_nil (l : List BA) : stands l [] = true := by cases l <;> rfl
theorem stands_yes (l ns : List BA) (k : Nat) (hk : k < l.length) (h0 : 0 < ns.length) (e : l[k] = ns[0]) : stands (l.drop k) ns = stands (l.drop (k + 1)) (ns.drop 1) := by
  rw [List.drop_eq_getElem_cons hk]
  cases ns with
  | nil => simp at h0
  | cons a ns => simp at e; simp [stands, e]
theorem stands_no (l ns : List BA) (k : Nat) (hk : k < l.length) (h0 : 0 < ns.length) (e : ¬ l[k] = ns[0]) : stands (l.drop k) ns = stands (l.drop (k + 1)) ns := by
  rw [List.drop_eq_getElem_cons hk]
  cases ns with
  | nil => simp at h0
  | cons a ns => simp at e; simp [stands, e]
theorem stands_end (l ns : List BA) (k : Nat) (hk : l.length ≤ k) (h0 : 0 < ns.length) : stands (l.drop k) ns = false := by
  rw [List.drop_of_length_le hk]
  cases ns with
  | nil => simp at h0
  | cons a ns => rfl
/-- which step last added each name: what the program keeps in a map. -/
def stepM (M : BA → Option Nat) (i : Nat) (s : Stp) : BA → Option Nat :=
  if s.1 then (fun y => if y = s.2 then none else M y) else if (M s.2).isSome then M else (fun y => if y = s.2 then some i else M y)
def nm (all : List Stp) (i : Nat) : BA := (all.getD i (false, ByteArray.empty)).2
def mapTo (all : List Stp) : Nat → BA → Option Nat
  | 0 => fun _ => none
  | k + 1 => stepM (mapTo all k) k (all.getD k (false, ByteArray.empty))
def pickN (M : BA → Option Nat) (f : Nat → BA) : Nat → List BA
  | 0 => []
  | k + 1 => if M (f k) = some k then pickN M f k ++ [f k] else pickN M f k
theorem pickN_le (M : BA → Option Nat) (f : Nat → BA) (k : Nat) : (pickN M f k).length ≤ k := by
  induction k with
  | zero => simp [pickN]
  | succ k ih =>
    unfold pickN
    split
    · simp; omega
    · omega
theorem mem_pickN (M : BA → Option Nat) (f : Nat → BA) (k : Nat) (x : BA) : x ∈ pickN M f k ↔ ∃ j, j < k ∧ f j = x ∧ M x = some j := by
  induction k with
  | zero => simp [pickN]
  | succ k ih =>
    unfold pickN
    constructor
    · intro h
      split at h
      · rename_i hk
        rw [List.mem_append] at h
        rcases h with h | h
        · obtain ⟨j, h1, h2, h3⟩ := ih.1 h
          exact ⟨j, by omega, h2, h3⟩
        · have hx := List.mem_singleton.1 h
          exact ⟨k, by omega, hx.symm, hx ▸ hk⟩
      · obtain ⟨j, h1, h2, h3⟩ := ih.1 h
        exact ⟨j, by omega, h2, h3⟩
    · rintro ⟨j, h1, h2, h3⟩
      by_cases hj : j = k
      · subst hj
        rw [if_pos (by rw [h2]; exact h3), List.mem_append]
        exact .inr (by rw [h2]; simp)
      · have hm := ih.2 ⟨j, by omega, h2, h3⟩
        split
        · rw [List.mem_append]; exact .inl hm
        · exact hm
theorem pickN_erase (M : BA → Option Nat) (f : Nat → BA) (k : Nat) (x : BA) : pickN (fun y => if y = x then none else M y) f k = drop (pickN M f k) x := by
  induction k with
  | zero => rfl
  | succ k ih =>
    unfold pickN
    rw [ih]
    by_cases hx : f k = x
    · have h0 : ¬ (if f k = x then none else M (f k)) = some k := by rw [if_pos hx]; intro h; cases h
      rw [if_neg h0]
      split
      · unfold drop; rw [List.filter_append]; simp [hx]
      · rfl
    · rw [if_neg hx]
      split
      · unfold drop; rw [List.filter_append]; simp [hx]
      · rfl
theorem pickN_more (M : BA → Option Nat) (f : Nat → BA) (K : Nat) (x : BA) (hx : M x = none) (k : Nat) (hk : k ≤ K) : pickN (fun y => if y = x then some K else M y) f k = pickN M f k := by
  induction k with
  | zero => rfl
  | succ k ih =>
    unfold pickN
    rw [ih (by omega)]
    by_cases h : f k = x
    · rw [if_pos h, if_neg (by intro e; injection e; omega), if_neg (by rw [h, hx]; simp)]
    · rw [if_neg h]
theorem mapTo_lt (all : List Stp) (k : Nat) (x : BA) (j : Nat) (h : mapTo all k x = some j) : j < k ∧ nm all j = x := by
  induction k generalizing j with
  | zero => simp [mapTo] at h
  | succ k ih =>
    unfold mapTo stepM at h
    split at h
    · simp only at h
      split at h
      · cases h
      · have := ih j h; exact ⟨by omega, this.2⟩
    · split at h
      · have := ih j h; exact ⟨by omega, this.2⟩
      · simp only at h
        split at h
        · rename_i hx; injection h with h; subst h; exact ⟨by omega, hx.symm⟩
        · have := ih j h; exact ⟨by omega, this.2⟩
theorem repr (all : List Stp) (k : Nat) (hk : k ≤ all.length) : (all.take k).foldl stepOne [] = pickN (mapTo all k) (nm all) k := by
  induction k with
  | zero => rfl
  | succ k ih =>
    have hk1 : k < all.length := by omega
    have hg : all.getD k (false, ByteArray.empty) = all[k] := by simp [hk1]
    rw [take_next all k hk1, List.foldl_append, ih (by omega)]
    show stepOne _ all[k] = _
    have hn : nm all k = all[k].2 := by unfold nm; rw [hg]
    have hM : mapTo all (k + 1) = stepM (mapTo all k) k all[k] := by rw [mapTo, hg]
    conv => rhs; unfold pickN
    rw [hM, hn]
    by_cases h1 : all[k].1 = true
    · have e1 : stepM (mapTo all k) k all[k] = fun y => if y = all[k].2 then none else mapTo all k y := by unfold stepM; rw [if_pos h1]
      rw [e1, if_neg (by intro h; simp at h), pickN_erase]
      unfold stepOne
      rw [if_pos h1]
    · cases h2 : mapTo all k all[k].2 with
      | some j =>
        have e1 : stepM (mapTo all k) k all[k] = mapTo all k := by unfold stepM; rw [if_neg h1, if_pos (by rw [h2]; rfl)]
        have hj := mapTo_lt all k _ j h2
        rw [e1, if_neg (by rw [h2]; intro e; injection e; omega)]
        unfold stepOne add
        rw [if_neg h1, if_pos ((mem_pickN _ _ _ _).2 ⟨j, hj.1, hj.2, h2⟩)]
      | none =>
        have e1 : stepM (mapTo all k) k all[k] = fun y => if y = all[k].2 then some k else mapTo all k y := by unfold stepM; rw [if_neg h1, if_neg (by rw [h2]; simp)]
        rw [e1, if_pos (by simp), pickN_more _ _ _ _ h2 k (Nat.le_refl _)]
        unfold stepOne add
        rw [if_neg h1, if_neg (fun hm => by obtain ⟨j, _, _, h3⟩ := (mem_pickN _ _ _ _).1 hm; rw [h2] at h3; cases h3)]
theorem foldl_adds (l : List BA) (acc : List BA) : (addsOf l).foldl stepOne acc = l.foldl add acc := by
  induction l generalizing acc with
  | nil => rfl
  | cons a l ih => exact ih _
theorem apply_repr (l : List BA) (steps : List Stp) : apply l steps = pickN (mapTo (addsOf l ++ steps) (l.length + steps.length)) (nm (addsOf l ++ steps)) (l.length + steps.length) := by
  rw [← repr _ _ (by simp [addsOf]), List.take_of_length_le (by simp [addsOf]), List.foldl_append, foldl_adds]
  rfl
theorem nm_at (all : List Stp) (i : Nat) (h : i < all.length) : nm all i = all[i].2 := by unfold nm; simp [h]
theorem nm_size (B : Nat) (l : List BA) (steps : List Stp) (hl : ∀ s ∈ l, s.size ≤ B) (hs : ∀ s ∈ steps, s.2.size ≤ B) (i : Nat) : (nm (addsOf l ++ steps) i).size ≤ B := by
  rcases Nat.lt_or_ge i (addsOf l ++ steps).length with h | h
  · rw [nm_at _ _ h]
    have hm := List.getElem_mem h
    rw [List.mem_append] at hm
    rcases hm with hm | hm
    · obtain ⟨s, hs, he⟩ := List.mem_map.1 hm
      rw [← he]
      exact hl s hs
    · exact hs _ hm
  · have h0 : nm (addsOf l ++ steps) i = ByteArray.empty := by
      unfold nm
      rw [List.getD_eq_getElem?_getD, List.getElem?_eq_none h]
      rfl
    rw [h0]
    exact Nat.zero_le _
end M
end Go.Proofs.Ytfapghekakdpgaa
