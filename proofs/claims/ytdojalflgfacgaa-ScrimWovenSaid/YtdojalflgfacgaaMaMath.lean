/- Plain facts on pairing kids: names, counts, who is paired with whom. -/
namespace Go.Proofs.Ytdojalflgfacgaa
namespace Ma
abbrev Kd := Int × ByteArray
def noK : Kd := (0, ByteArray.empty)
/-- the kid at a place -/
def g (l : List Kd) (i : Nat) : Kd := l.getD i noK
/-- under what name it is counted -/
def canon (k : Kd) : Kd := if k.2 = ByteArray.empty then noK else k
/-- how many ahead of i are counted so -/
def cnt (l : List Kd) (i : Nat) (c : Kd) : Nat := ((l.take i).filter (fun k => decide (canon k = c))).length
def nm (l : List Kd) (i : Nat) : Kd × Nat := (g l i, cnt l i (canon (g l i)))
theorem g_eq (l : List Kd) (i : Nat) (h : i < l.length) : g l i = l[i] := by simp [g, h]
theorem cnt_zero (l : List Kd) (c : Kd) : cnt l 0 c = 0 := by simp [cnt]
theorem cnt_succ (l : List Kd) (i : Nat) (c : Kd) (h : i < l.length) : cnt l (i + 1) c = cnt l i c + if canon (g l i) = c then 1 else 0 := by
  unfold cnt
  rw [List.take_succ_eq_append_getElem h, List.filter_append, List.length_append, g_eq l i h]
  by_cases e : canon l[i] = c <;> simp [e]
theorem cnt_le (l : List Kd) (c : Kd) : ∀ i, cnt l i c ≤ i := by
  intro i
  unfold cnt
  exact Nat.le_trans (List.length_filter_le _ _) (by simp; omega)
theorem cnt_mono (l : List Kd) (c : Kd) {i j : Nat} (h : i ≤ j) (hj : j ≤ l.length) : cnt l i c ≤ cnt l j c := by
  induction j with
  | zero => have : i = 0 := by omega
            subst this; exact Nat.le_refl _
  | succ j ih =>
    by_cases e : i = j + 1
    · subst e; exact Nat.le_refl _
    · have := ih (by omega) (by omega)
      rw [cnt_succ l j c (by omega)]
      omega
/-- counts go up by one: each number below comes. -/
theorem cnt_has (l : List Kd) (c : Kd) (b : Nat) : ∀ m, m ≤ l.length → b < cnt l m c → ∃ j, j < m ∧ canon (g l j) = c ∧ cnt l j c = b := by
  intro m
  induction m with
  | zero => intro _ h; rw [cnt_zero] at h; omega
  | succ m ih =>
    intro hm h
    by_cases hb : b < cnt l m c
    · obtain ⟨j, h1, h2⟩ := ih (by omega) hb
      exact ⟨j, by omega, h2⟩
    · rw [cnt_succ l m c (by omega)] at h
      by_cases e : canon (g l m) = c
      · rw [if_pos e] at h; exact ⟨m, by omega, e, by omega⟩
      · rw [if_neg e] at h; omega
theorem nm_inj (l : List Kd) {i j : Nat} (hi : i < l.length) (hj : j < l.length) (h : nm l i = nm l j) : i = j := by
  have key : ∀ {i j : Nat}, i < j → j < l.length → nm l i ≠ nm l j := by
    intro i j hij hj h
    have h1 : g l i = g l j := congrArg Prod.fst h
    have h2 : cnt l i (canon (g l i)) = cnt l j (canon (g l j)) := congrArg Prod.snd h
    rw [← h1] at h2
    have h3 := cnt_mono l (canon (g l i)) (show i + 1 ≤ j by omega) (by omega)
    rw [cnt_succ l i _ (by omega), if_pos rfl] at h3
    omega
  rcases Nat.lt_trichotomy i j with h1 | h1 | h1
  · exact absurd h (key h1 hj)
  · exact h1
  · exact absurd h.symm (key h1 hi)
/-- what the new kid i has -/
def IsPair (old new : List Kd) (i : Nat) (r : Int) : Prop :=
  (r = -1 ∧ ∀ j, j < old.length → nm old j ≠ nm new i) ∨ ∃ j : Nat, j < old.length ∧ r = (j : Int) ∧ nm old j = nm new i
theorem IsPair.uniq {old new : List Kd} {i : Nat} {r s : Int} (h : IsPair old new i r) (h' : IsPair old new i s) : r = s := by
  rcases h with ⟨h1, h2⟩ | ⟨j, h1, h2, h3⟩ <;> rcases h' with ⟨k1, k2⟩ | ⟨k, k1, k2, k3⟩
  · omega
  · exact absurd k3 (h2 k k1)
  · exact absurd h3 (k2 j h1)
  · have := nm_inj old h1 k1 (h3.trans k3.symm); omega
theorem isPair_has (old new : List Kd) (i : Nat) : ∃ r, IsPair old new i r := by
  by_cases h : ∃ j, j < old.length ∧ nm old j = nm new i
  · obtain ⟨j, h1, h2⟩ := h
    exact ⟨j, .inr ⟨j, h1, rfl, h2⟩⟩
  · exact ⟨-1, .inl ⟨rfl, fun j h1 h2 => h ⟨j, h1, h2⟩⟩⟩
noncomputable def pairF (old new : List Kd) (i : Nat) : Int := Classical.choose (isPair_has old new i)
theorem pairF_is (old new : List Kd) (i : Nat) : IsPair old new i (pairF old new i) := Classical.choose_spec (isPair_has old new i)
theorem pairF_eq {old new : List Kd} {i : Nat} {r : Int} (h : IsPair old new i r) : pairF old new i = r := (pairF_is old new i).uniq h
noncomputable def pairs (old new : List Kd) : List Int := (List.range new.length).map (pairF old new)
noncomputable def pairsTo (old new : List Kd) (k : Nat) : List Int := (List.range k).map (pairF old new)
theorem pairsTo_succ (old new : List Kd) (k : Nat) : pairsTo old new (k + 1) = pairsTo old new k ++ [pairF old new k] := by simp [pairsTo, List.range_succ]
theorem pairsTo_len (old new : List Kd) (k : Nat) : (pairsTo old new k).length = k := by simp [pairsTo]
theorem pairs_len (old new : List Kd) : (pairs old new).length = new.length := by simp [pairs]
theorem pairs_at (old new : List Kd) (i : Nat) (h : i < new.length) : (pairs old new).getD i 0 = pairF old new i := by simp [pairs, h]
theorem pairsTo_at (old new : List Kd) (k i : Nat) (h : i < k) : (pairsTo old new k).getD i 0 = pairF old new i := by simp [pairsTo, h]
theorem pairF_lt (old new : List Kd) (i : Nat) : -1 ≤ pairF old new i ∧ pairF old new i < old.length := by
  rcases pairF_is old new i with ⟨h1, _⟩ | ⟨j, h1, h2, _⟩ <;> omega
theorem pairF_inj {old new : List Kd} {i i' : Nat} (hi : i < new.length) (hi' : i' < new.length) (h : pairF old new i = pairF old new i') (h0 : 0 ≤ pairF old new i) : i = i' := by
  rcases pairF_is old new i with ⟨h1, _⟩ | ⟨j, h1, h2, h3⟩
  · omega
  · rcases pairF_is old new i' with ⟨k1, _⟩ | ⟨j', k1, k2, k3⟩
    · omega
    · have : j = j' := by omega
      subst this
      exact nm_inj new hi hi' (h3.symm.trans k3)
theorem pairF_same {old new : List Kd} {i j : Nat} (h : pairF old new i = (j : Int)) : j < old.length ∧ g old j = g new i := by
  rcases pairF_is old new i with ⟨h1, _⟩ | ⟨j', h1, h2, h3⟩
  · omega
  · have : j = j' := by omega
    subst this
    exact ⟨h1, congrArg Prod.fst h3⟩
/-! the document's search -/
/-- how many without a key stand ahead -/
def ahead (l : List Kd) (i : Nat) : Nat := ((l.take i).filter (fun k => decide (k.2 = ByteArray.empty))).length
theorem canon_no (k : Kd) : canon k = noK ↔ k.2 = ByteArray.empty := by
  unfold canon
  split
  · simp [*]
  · rename_i h
    constructor
    · intro e; rw [e]; rfl
    · intro e; exact absurd e h
theorem ahead_cnt (l : List Kd) (i : Nat) : ahead l i = cnt l i noK := by
  unfold ahead cnt
  congr 1
  apply List.filter_congr
  intro x _
  simp [canon_no]
theorem ahead_succ (l : List Kd) (i : Nat) (h : i < l.length) : ahead l (i + 1) = ahead l i + if (g l i).2 = ByteArray.empty then 1 else 0 := by
  rw [ahead_cnt, ahead_cnt, cnt_succ l i _ h]
  simp [canon_no]
theorem ahead_take (l : List Kd) (i m : Nat) (h : i ≤ m) : ahead (l.take m) i = ahead l i := by
  unfold ahead
  rw [List.take_take, Nat.min_eq_left h]
def Same (old new : List Kd) (i j : Nat) : Prop := g old j = g new i ∧ ((g new i).2 ≠ ByteArray.empty ∨ ahead old j = ahead new i)
def Free (old new : List Kd) (i j : Nat) : Prop := ∀ i', i' < i → pairF old new i' ≠ (j : Int)
/-- what the loop from the end on has found among those from q on -/
def Found (old new : List Kd) (i q : Nat) (r : Int) : Prop :=
  (r = -1 ∧ ∀ j, q ≤ j → j < old.length → ¬ (Same old new i j ∧ Free old new i j)) ∨
  ∃ j : Nat, r = (j : Int) ∧ q ≤ j ∧ j < old.length ∧ Same old new i j ∧ Free old new i j ∧ ∀ j', q ≤ j' → j' < j → ¬ (Same old new i j' ∧ Free old new i j')
theorem Found.start (old new : List Kd) (i : Nat) : Found old new i old.length (-1) := .inl ⟨rfl, fun j h1 h2 => by omega⟩
theorem Found.yes {old new : List Kd} {i q : Nat} (hq : q < old.length) (hs : Same old new i q) (hf : Free old new i q) : Found old new i q (q : Int) :=
  .inr ⟨q, rfl, Nat.le_refl _, hq, hs, hf, fun j' h1 h2 => by omega⟩
theorem Found.no {old new : List Kd} {i q : Nat} {r : Int} (h : Found old new i (q + 1) r) (hn : ¬ (Same old new i q ∧ Free old new i q)) : Found old new i q r := by
  rcases h with ⟨h1, h2⟩ | ⟨j, h1, h2, h3, h4, h5, h6⟩
  · refine .inl ⟨h1, fun j h3 h4 => ?_⟩
    by_cases e : j = q
    · subst e; exact hn
    · exact h2 j (by omega) h4
  · refine .inr ⟨j, h1, by omega, h3, h4, h5, fun j' h7 h8 => ?_⟩
    by_cases e : j' = q
    · subst e; exact hn
    · exact h6 j' (by omega) h8
theorem free_of_nm {old new : List Kd} {i j : Nat} (hi : i < new.length) (h : nm old j = nm new i) : Free old new i j := by
  intro i' hi' e
  rcases pairF_is old new i' with ⟨h1, _⟩ | ⟨j', h1, h2, h3⟩
  · omega
  · have : j' = j := by omega
    subst this
    have := nm_inj new (by omega) hi (h3.symm.trans h)
    omega
theorem same_of_nm {old new : List Kd} {i j : Nat} (h : nm old j = nm new i) : Same old new i j := by
  have h1 : g old j = g new i := congrArg Prod.fst h
  have h2 : cnt old j (canon (g old j)) = cnt new i (canon (g new i)) := congrArg Prod.snd h
  refine ⟨h1, ?_⟩
  by_cases e : (g new i).2 = ByteArray.empty
  · right
    rw [h1, (canon_no _).2 e] at h2
    rw [ahead_cnt, ahead_cnt, h2]
  · exact .inl e
theorem canon_key {k : Kd} (h : k.2 ≠ ByteArray.empty) : canon k = k := by unfold canon; rw [if_neg h]
theorem canon_eq_key {k k' : Kd} (h : k.2 ≠ ByteArray.empty) (e : canon k' = k) : k' = k := by
  unfold canon at e
  split at e
  · rw [← e] at h; exact absurd rfl h
  · exact e
/-- of a kid with a key: whoever is not the one by name, and stands ahead of it, is had. -/
theorem had_ahead {old new : List Kd} {i j : Nat} (hi : i < new.length) (hj : j < old.length) (hs : Same old new i j) (hlt : cnt old j (canon (g new i)) < cnt new i (canon (g new i))) : ¬ Free old new i j := by
  intro hf
  obtain ⟨i', h1, h2, h3⟩ := cnt_has new (canon (g new i)) (cnt old j (canon (g new i))) i (by omega) hlt
  by_cases e : (g new i).2 = ByteArray.empty
  · rcases hs.2 with h4 | h4
    · exact h4 e
    · rw [(canon_no _).2 e, ← ahead_cnt, ← ahead_cnt] at hlt
      omega
  · rw [canon_key e] at h2 h3
    have h4 := canon_eq_key e h2
    refine hf i' h1 (pairF_eq (.inr ⟨j, hj, rfl, ?_⟩))
    show (g old j, cnt old j (canon (g old j))) = (g new i', cnt new i' (canon (g new i')))
    rw [hs.1, h4, canon_key e, h3]
theorem Found.done {old new : List Kd} {i : Nat} {r : Int} (hi : i < new.length) (h : Found old new i 0 r) : r = pairF old new i := by
  rcases pairF_is old new i with ⟨h1, h2⟩ | ⟨j0, h1, h2, h3⟩
  · rcases h with ⟨k1, k2⟩ | ⟨j, k1, k2, k3, k4, k5, k6⟩
    · omega
    · exfalso
      rcases Nat.lt_trichotomy (cnt old j (canon (g new i))) (cnt new i (canon (g new i))) with h5 | h5 | h5
      · exact had_ahead hi k3 k4 h5 k5
      · refine h2 j k3 ?_
        show (g old j, cnt old j (canon (g old j))) = (g new i, cnt new i (canon (g new i)))
        rw [k4.1, h5]
      · by_cases e : (g new i).2 = ByteArray.empty
        · rcases k4.2 with h4 | h4
          · exact h4 e
          · rw [(canon_no _).2 e, ← ahead_cnt, ← ahead_cnt] at h5
            omega
        · obtain ⟨j', h6, h7, h8⟩ := cnt_has old (canon (g new i)) (cnt new i (canon (g new i))) j (by omega) h5
          rw [canon_key e] at h7 h8
          have h9 := canon_eq_key e h7
          refine h2 j' (by omega) ?_
          show (g old j', cnt old j' (canon (g old j'))) = (g new i, cnt new i (canon (g new i)))
          rw [h9, canon_key e, h8]
  · rcases h with ⟨k1, k2⟩ | ⟨j, k1, k2, k3, k4, k5, k6⟩
    · exact absurd ⟨same_of_nm h3, free_of_nm hi h3⟩ (k2 j0 (Nat.zero_le _) h1)
    · rcases Nat.lt_trichotomy j j0 with h5 | h5 | h5
      · exfalso
        have hg : g old j = g old j0 := by rw [k4.1]; exact (congrArg Prod.fst h3).symm
        have h6 := cnt_mono old (canon (g new i)) (show j + 1 ≤ j0 by omega) (by omega)
        rw [cnt_succ old j _ (by omega), k4.1, if_pos rfl] at h6
        have h7 : cnt old j0 (canon (g old j0)) = cnt new i (canon (g new i)) := congrArg Prod.snd h3
        rw [show g old j0 = g new i from congrArg Prod.fst h3] at h7
        exact had_ahead hi k3 k4 (by omega) k5
      · subst h5; omega
      · exact absurd ⟨same_of_nm h3, free_of_nm hi h3⟩ (k6 j0 (Nat.zero_le _) h5)
/-! who is had by none -/
noncomputable def goneTo (old new : List Kd) (k : Nat) : List Nat := (List.range k).filter (fun j => decide (¬ ((j : Int) ∈ pairs old new)))
theorem goneTo_yes {old new : List Kd} {k : Nat} (h : ¬ ((k : Int) ∈ pairs old new)) : goneTo old new (k + 1) = goneTo old new k ++ [k] := by
  simp [goneTo, List.range_succ, List.filter_append, h]
theorem goneTo_no {old new : List Kd} {k : Nat} (h : (k : Int) ∈ pairs old new) : goneTo old new (k + 1) = goneTo old new k := by
  simp [goneTo, List.range_succ, List.filter_append, h]
theorem goneTo_le (old new : List Kd) (k : Nat) : (goneTo old new k).length ≤ k := by
  unfold goneTo
  exact Nat.le_trans (List.length_filter_le _ _) (by simp)
/-! the same at both ends -/
def IsFront (p : List Int) (n : Nat) : Prop := n ≤ p.length ∧ (∀ i, i < n → p.getD i 0 = (i : Int)) ∧ (n < p.length → p.getD n 0 ≠ (n : Int))
theorem IsFront.uniq {p : List Int} {n m : Nat} (h : IsFront p n) (h' : IsFront p m) : n = m := by
  rcases Nat.lt_trichotomy n m with h1 | h1 | h1
  · exact absurd (h'.2.1 n h1) (h.2.2 (by have := h'.1; omega))
  · exact h1
  · exact absurd (h.2.1 m h1) (h'.2.2 (by have := h.1; omega))
theorem IsFront.le_old {old new : List Kd} {n : Nat} (h : IsFront (pairs old new) n) : n ≤ old.length ∧ n ≤ new.length := by
  have h1 := h.1
  rw [pairs_len] at h1
  refine ⟨?_, h1⟩
  rcases Nat.eq_zero_or_pos n with h0 | h0
  · omega
  · have h2 := h.2.1 (n - 1) (by omega)
    rw [pairs_at _ _ _ (by omega)] at h2
    have := pairF_lt old new (n - 1)
    omega
/-- how many of at most 'left' are the same from the end on -/
def IsBack (p : List Int) (o f left n : Nat) : Prop := n ≤ left ∧ (∀ i, i < n → p.getD (f - 1 - i) 0 = (o : Int) - 1 - i) ∧ (n < left → p.getD (f - 1 - n) 0 ≠ (o : Int) - 1 - n)
theorem IsBack.uniq {p : List Int} {o f left n m : Nat} (h : IsBack p o f left n) (h' : IsBack p o f left m) : n = m := by
  rcases Nat.lt_trichotomy n m with h1 | h1 | h1
  · exact absurd (h'.2.1 n h1) (h.2.2 (by have := h'.1; omega))
  · exact h1
  · exact absurd (h.2.1 m h1) (h'.2.2 (by have := h.1; omega))
theorem pairF_self (a : List Kd) (i : Nat) (h : i < a.length) : pairF a a i = (i : Int) := pairF_eq (.inr ⟨i, h, rfl, rfl⟩)
theorem front_self (a : List Kd) : IsFront (pairs a a) a.length := by
  refine ⟨by rw [pairs_len]; exact Nat.le_refl _, fun i hi => ?_, fun h => by rw [pairs_len] at h; omega⟩
  rw [pairs_at _ _ _ hi, pairF_self a i hi]
/-- kids that stand once: the same are paired. -/
theorem pair_once {old new : List Kd} {i j : Nat} (hi : i < new.length) (hj : j < old.length) (h : g old j = g new i) (ho : ∀ j', j' < j → canon (g old j') ≠ canon (g old j)) (hn : ∀ i', i' < i → canon (g new i') ≠ canon (g new i)) : pairF old new i = (j : Int) := by
  have h1 : ∀ (l : List Kd) (k : Nat), k < l.length → (∀ k', k' < k → canon (g l k') ≠ canon (g l k)) → cnt l k (canon (g l k)) = 0 := by
    intro l k hk hl
    rcases Nat.eq_zero_or_pos (cnt l k (canon (g l k))) with h0 | h0
    · exact h0
    · obtain ⟨j, h1, h2, _⟩ := cnt_has l _ 0 k (by omega) h0
      exact absurd h2 (hl j h1)
  refine pairF_eq (.inr ⟨j, hj, rfl, ?_⟩)
  show (g old j, cnt old j (canon (g old j))) = (g new i, cnt new i (canon (g new i)))
  rw [h1 old j hj ho, h1 new i hi hn, h]
end Ma
end Go.Proofs.Ytdojalflgfacgaa
