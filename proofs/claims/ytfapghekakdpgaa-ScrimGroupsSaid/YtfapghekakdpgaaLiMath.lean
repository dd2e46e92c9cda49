/- Rows of rising numbers, in plain words: how many stand in the longest one that ends at each place; which place is best; the row that is the document's. -/
namespace Go.Proofs.Ytfapghekakdpgaa
namespace Li
/-- one more than the most that a row of `out` has that may stand ahead of place `i`, by the first `q` places. -/
def nx (L : Nat → Int) (out : List Nat) (i : Nat) : Nat → Nat
  | 0 => 1
  | q + 1 => if L q < L i ∧ nx L out i q ≤ out.getD q 0 then out.getD q 0 + 1 else nx L out i q
def lens (L : Nat → Int) : Nat → List Nat
  | 0 => []
  | k + 1 => lens L k ++ [nx L (lens L k) k k]
def N (L : Nat → Int) (i : Nat) : Nat := nx L (lens L i) i i
theorem lens_len (L : Nat → Int) (k : Nat) : (lens L k).length = k := by
  induction k with
  | zero => rfl
  | succ k ih => simp [lens, ih]
theorem lens_succ (L : Nat → Int) (k : Nat) : lens L (k + 1) = lens L k ++ [N L k] := rfl
theorem lens_at (L : Nat → Int) (k j : Nat) (h : j < k) : (lens L k)[j]? = some (N L j) := by
  induction k with
  | zero => omega
  | succ k ih =>
    rw [lens_succ]
    by_cases hj : j < k
    · rw [List.getElem?_append_left (by rw [lens_len]; exact hj)]
      exact ih hj
    · have : j = k := by omega
      subst this
      rw [List.getElem?_append_right (by rw [lens_len]; exact Nat.le_refl _), lens_len]
      simp
theorem lens_getD (L : Nat → Int) (k j : Nat) (h : j < k) : (lens L k).getD j 0 = N L j := by
  rw [List.getD_eq_getElem?_getD, lens_at L k j h]; rfl
theorem nx_pos (L : Nat → Int) (out : List Nat) (i q : Nat) : 1 ≤ nx L out i q := by
  induction q with
  | zero => exact Nat.le_refl _
  | succ q ih =>
    unfold nx
    split
    · omega
    · exact ih
theorem nx_ge (L : Nat → Int) (out : List Nat) (i q : Nat) : ∀ j, j < q → L j < L i → out.getD j 0 < nx L out i q := by
  induction q with
  | zero => intro j h; omega
  | succ q ih =>
    intro j hj hl
    unfold nx
    by_cases hq : j < q
    · have h1 := ih j hq hl
      split
      · omega
      · exact h1
    · have : j = q := by omega
      subst this
      split
      · omega
      · rename_i h
        have : ¬ nx L out i j ≤ out.getD j 0 := fun h2 => h ⟨hl, h2⟩
        omega
theorem nx_has (L : Nat → Int) (out : List Nat) (i q : Nat) : nx L out i q = 1 ∨ ∃ j, j < q ∧ L j < L i ∧ nx L out i q = out.getD j 0 + 1 := by
  induction q with
  | zero => exact .inl rfl
  | succ q ih =>
    unfold nx
    split
    · rename_i h
      exact .inr ⟨q, Nat.lt_succ_self _, h.1, rfl⟩
    · rcases ih with h | ⟨j, h1, h2, h3⟩
      · exact .inl h
      · exact .inr ⟨j, by omega, h2, h3⟩
theorem N_pos (L : Nat → Int) (i : Nat) : 1 ≤ N L i := nx_pos ..
theorem N_lt (L : Nat → Int) {i j : Nat} (h : j < i) (hl : L j < L i) : N L j < N L i := by
  have := nx_ge L (lens L i) i i j h hl
  rw [lens_getD L i j h] at this
  exact this
theorem N_has (L : Nat → Int) (i : Nat) (h : 2 ≤ N L i) : ∃ j, j < i ∧ L j < L i ∧ N L i = N L j + 1 := by
  rcases nx_has L (lens L i) i i with h1 | ⟨j, h1, h2, h3⟩
  · have : N L i = 1 := h1
    omega
  · exact ⟨j, h1, h2, by rw [lens_getD L i j h1] at h3; exact h3⟩
theorem N_le (L : Nat → Int) : ∀ i, N L i ≤ i + 1 := by
  intro i
  induction i using Nat.strongRecOn with
  | _ i ih =>
    rcases Nat.lt_or_ge (N L i) 2 with h | h
    · omega
    · obtain ⟨j, h1, h2, h3⟩ := N_has L i h
      have := ih j h1
      omega
/-- of the longest row of the first `k` -/
def top (L : Nat → Int) : Nat → Nat
  | 0 => 0
  | k + 1 => max (top L k) (N L k)
theorem top_ge (L : Nat → Int) (k j : Nat) (h : j < k) : N L j ≤ top L k := by
  induction k with
  | zero => omega
  | succ k ih =>
    unfold top
    by_cases hj : j < k
    · have := ih hj; omega
    · have : j = k := by omega
      subst this
      omega
theorem top_has (L : Nat → Int) (k : Nat) : top L k = 0 ∨ ∃ j, j < k ∧ N L j = top L k := by
  induction k with
  | zero => exact .inl rfl
  | succ k ih =>
    unfold top
    by_cases h : top L k ≤ N L k
    · exact .inr ⟨k, by omega, by omega⟩
    · rcases ih with h1 | ⟨j, h1, h2⟩
      · omega
      · exact .inr ⟨j, by omega, by omega⟩
theorem top_le (L : Nat → Int) (k : Nat) : top L k ≤ k := by
  rcases top_has L k with h | ⟨j, h1, h2⟩
  · omega
  · have := N_le L j; omega
theorem top_pos (L : Nat → Int) (k : Nat) (h : 0 < k) : 0 < top L k := by
  have h1 := top_ge L k 0 h
  have h2 := N_pos L 0
  omega
theorem top_zero (L : Nat → Int) (k : Nat) (h : top L k = 0) : k = 0 := by
  rcases Nat.eq_zero_or_pos k with h1 | h1
  · exact h1
  · have := top_pos L k h1; omega
/-- the best of those of row `n` that are ok, among the first `lim`: the least number, at its first place. -/
def Best (L : Nat → Int) (n : Nat) (ok : Nat → Prop) (lim b : Nat) : Prop :=
  b < lim ∧ N L b = n ∧ ok b ∧ ∀ j, j < lim → N L j = n → ok j → L b < L j ∨ (L b = L j ∧ b ≤ j)
theorem Best.uniq {L : Nat → Int} {n : Nat} {ok : Nat → Prop} {lim b c : Nat} (h : Best L n ok lim b) (h' : Best L n ok lim c) : b = c := by
  have h1 := h.2.2.2 c h'.1 h'.2.1 h'.2.2.1
  have h2 := h'.2.2.2 b h.1 h.2.1 h.2.2.1
  omega
/-- the document's row -/
def IsRow (L : Nat → Int) (len : Nat) (r : List Nat) : Prop :=
  r.length = top L len ∧ (∀ k, k + 1 = r.length → Best L (k + 1) (fun _ => True) len (r.getD k 0)) ∧
  ∀ k, k + 1 < r.length → Best L (k + 1) (fun i => L i < L (r.getD (k + 1) 0)) (r.getD (k + 1) 0) (r.getD k 0)
theorem IsRow.uniq {L : Nat → Int} {len : Nat} {r s : List Nat} (h : IsRow L len r) (h' : IsRow L len s) : r = s := by
  have hl : r.length = s.length := h.1.trans h'.1.symm
  have key : ∀ d k, k + d + 1 = r.length → r.getD k 0 = s.getD k 0 := by
    intro d
    induction d with
    | zero =>
      intro k hk
      exact (h.2.1 k (by omega)).uniq (h'.2.1 k (by omega))
    | succ d ih =>
      intro k hk
      have e := ih (k + 1) (by omega)
      have h1 := h.2.2 k (by omega)
      have h2 := h'.2.2 k (by omega)
      rw [e] at h1
      exact h1.uniq h2
  apply List.ext_getElem?
  intro k
  by_cases hk : k < r.length
  · have := key (r.length - k - 1) k (by omega)
    rw [List.getD_eq_getElem?_getD, List.getD_eq_getElem?_getD, List.getElem?_eq_getElem hk, List.getElem?_eq_getElem (by omega : k < s.length)] at this
    rw [List.getElem?_eq_getElem hk, List.getElem?_eq_getElem (by omega : k < s.length)]
    simpa using this
  · rw [List.getElem?_eq_none (by omega), List.getElem?_eq_none (by omega)]
theorem IsRow.lt {L : Nat → Int} {len : Nat} {r : List Nat} (h : IsRow L len r) : ∀ k, k < r.length → r.getD k 0 < len := by
  have key : ∀ d k, k + d + 1 = r.length → r.getD k 0 < len := by
    intro d
    induction d with
    | zero => intro k hk; exact (h.2.1 k (by omega)).1
    | succ d ih =>
      intro k hk
      have e := ih (k + 1) (by omega)
      have h1 := (h.2.2 k (by omega)).1
      omega
  intro k hk
  exact key (r.length - k - 1) k (by omega)
theorem IsRow.rises {L : Nat → Int} {len : Nat} {r : List Nat} (h : IsRow L len r) (k : Nat) (hk : k + 1 < r.length) : r.getD k 0 < r.getD (k + 1) 0 ∧ L (r.getD k 0) < L (r.getD (k + 1) 0) :=
  ⟨(h.2.2 k hk).1, (h.2.2 k hk).2.2.1⟩
/-- what patience keeps: of each length the best end so far. -/
def Ends (L : Nat → Int) (k : Nat) (es : List Nat) : Prop := es.length = top L k ∧ ∀ m, m < es.length → Best L (m + 1) (fun _ => True) k (es.getD m 0)
theorem Ends.nil (L : Nat → Int) : Ends L 0 [] := ⟨rfl, fun m h => absurd h (by simp)⟩
theorem Ends.mono {L : Nat → Int} {k : Nat} {es : List Nat} (h : Ends L k es) (m : Nat) (hm : m + 1 < es.length) : L (es.getD m 0) < L (es.getD (m + 1) 0) := by
  have h1 := h.2 (m + 1) hm
  obtain ⟨j, hj1, hj2, hj3⟩ := N_has L (es.getD (m + 1) 0) (by rw [h1.2.1]; omega)
  rw [h1.2.1] at hj3
  have h2 := (h.2 m (by omega)).2.2.2 j (by have := h1.1; omega) (by omega) trivial
  omega
theorem Ends.mono2 {L : Nat → Int} {k : Nat} {es : List Nat} (h : Ends L k es) (a b : Nat) (hab : a < b) (hb : b < es.length) : L (es.getD a 0) < L (es.getD b 0) := by
  induction b with
  | zero => omega
  | succ b ih =>
    have h1 := h.mono b hb
    by_cases he : a = b
    · subst he; exact h1
    · have := ih (by omega) (by omega)
      omega
/-- where the next number goes. -/
def Spot (L : Nat → Int) (es : List Nat) (x : Int) (a : Nat) : Prop := a ≤ es.length ∧ (∀ m, m < a → L (es.getD m 0) < x) ∧ (∀ m, a ≤ m → m < es.length → ¬ L (es.getD m 0) < x)
theorem Ends.next {L : Nat → Int} {k : Nat} {es : List Nat} (h : Ends L k es) {a : Nat} (s : Spot L es (L k) a) : N L k = a + 1 := by
  have h1 : ∀ j, j < k → L j < L k → N L j ≤ a := by
    intro j hj hl
    have hp := N_pos L j
    have ht := top_ge L k j hj
    rw [← h.1] at ht
    have hb := (h.2 (N L j - 1) (by omega)).2.2.2 j hj (by omega) trivial
    rcases Nat.lt_or_ge (N L j - 1) a with hx | hx
    · omega
    · exact absurd (by omega : L (es.getD (N L j - 1) 0) < L k) (s.2.2 _ hx (by omega))
  rcases Nat.lt_or_ge (N L k) 2 with h2 | h2
  · have hp := N_pos L k
    rcases Nat.eq_zero_or_pos a with ha | ha
    · omega
    · have hb := h.2 (a - 1) (by have := s.1; omega)
      have := N_lt L hb.1 (s.2.1 (a - 1) (by omega))
      rw [hb.2.1] at this
      omega
  · obtain ⟨j, hj1, hj2, hj3⟩ := N_has L k h2
    have h3 := h1 j hj1 hj2
    rcases Nat.eq_zero_or_pos a with ha | ha
    · have := N_pos L j; omega
    · have hb := h.2 (a - 1) (by have := s.1; omega)
      have := N_lt L hb.1 (s.2.1 (a - 1) (by omega))
      rw [hb.2.1] at this
      omega
theorem Ends.prev {L : Nat → Int} {k : Nat} {es : List Nat} (h : Ends L k es) {a : Nat} (s : Spot L es (L k) a) (ha : 0 < a) : Best L a (fun i => L i < L k) k (es.getD (a - 1) 0) := by
  have hb := h.2 (a - 1) (by have := s.1; omega)
  rw [show a - 1 + 1 = a by omega] at hb
  exact ⟨hb.1, hb.2.1, s.2.1 (a - 1) (by omega), fun j h1 h2 _ => hb.2.2.2 j h1 h2 trivial⟩
theorem getD_set {α : Type} (l : List α) (a m : Nat) (x d : α) (h : a < l.length) : (l.set a x).getD m d = if m = a then x else l.getD m d := by
  rw [List.getD_eq_getElem?_getD, List.getD_eq_getElem?_getD, List.getElem?_set]
  by_cases hm : a = m
  · subst hm
    simp [h]
  · rw [if_neg hm, if_neg (fun e => hm e.symm)]
theorem getD_app {α : Type} (l : List α) (x d : α) (m : Nat) (h : m < l.length) : (l ++ [x]).getD m d = l.getD m d := by
  rw [List.getD_eq_getElem?_getD, List.getD_eq_getElem?_getD, List.getElem?_append_left h]
theorem getD_last {α : Type} (l : List α) (x d : α) : (l ++ [x]).getD l.length d = x := by
  rw [List.getD_eq_getElem?_getD, List.getElem?_append_right (Nat.le_refl _)]
  simp
theorem Best.more {L : Nat → Int} {n k b : Nat} (h : Best L n (fun _ => True) k b) (hn : N L k ≠ n) : Best L n (fun _ => True) (k + 1) b :=
  ⟨by have := h.1; omega, h.2.1, trivial, fun j h1 h2 _ => by
    by_cases hj : j < k
    · exact h.2.2.2 j hj h2 trivial
    · have : j = k := by omega
      subst this
      exact absurd h2 hn⟩
/-- the number goes behind all. -/
theorem Ends.append {L : Nat → Int} {k : Nat} {es : List Nat} (h : Ends L k es) (s : Spot L es (L k) es.length) : Ends L (k + 1) (es ++ [k]) := by
  have hN := h.next s
  have h1 := h.1
  refine ⟨by rw [List.length_append, List.length_singleton]; unfold top; omega, fun m hm => ?_⟩
  rw [List.length_append, List.length_singleton] at hm
  by_cases hme : m < es.length
  · rw [getD_app _ _ _ _ hme]
    exact (h.2 m hme).more (by omega)
  · have : m = es.length := by omega
    subst this
    rw [getD_last]
    refine ⟨by omega, hN, trivial, fun j h2 h3 _ => ?_⟩
    by_cases hj : j < k
    · have := top_ge L k j hj
      omega
    · have : j = k := by omega
      subst this
      exact .inr ⟨rfl, Nat.le_refl _⟩
/-- the number is less than the one that stood there. -/
theorem Ends.put {L : Nat → Int} {k : Nat} {es : List Nat} (h : Ends L k es) {a : Nat} (s : Spot L es (L k) a) (ha : a < es.length) (hlt : L k < L (es.getD a 0)) : Ends L (k + 1) (es.set a k) := by
  have hN := h.next s
  have h1 := h.1
  refine ⟨by rw [List.length_set]; unfold top; omega, fun m hm => ?_⟩
  rw [List.length_set] at hm
  rw [getD_set _ _ _ _ _ ha]
  by_cases hma : m = a
  · subst hma
    rw [if_pos rfl]
    refine ⟨by omega, hN, trivial, fun j h2 h3 _ => ?_⟩
    by_cases hj : j < k
    · have := (h.2 m hm).2.2.2 j hj h3 trivial
      omega
    · have : j = k := by omega
      subst this
      exact .inr ⟨rfl, Nat.le_refl _⟩
  · rw [if_neg hma]
    exact (h.2 m hm).more (by omega)
/-- the number stands there already. -/
theorem Ends.keep {L : Nat → Int} {k : Nat} {es : List Nat} (h : Ends L k es) {a : Nat} (s : Spot L es (L k) a) (ha : a < es.length) (he : L (es.getD a 0) = L k) : Ends L (k + 1) es := by
  have hN := h.next s
  have h1 := h.1
  refine ⟨by unfold top; omega, fun m hm => ?_⟩
  by_cases hma : m = a
  · subst hma
    have hb := h.2 m hm
    refine ⟨by have := hb.1; omega, hb.2.1, trivial, fun j h2 h3 _ => ?_⟩
    by_cases hj : j < k
    · exact hb.2.2.2 j hj h3 trivial
    · have : j = k := by omega
      subst this
      have := hb.1
      omega
  · exact (h.2 m hm).more (by omega)
/-- which one stands ahead of each. -/
def Befores (L : Nat → Int) (k : Nat) (bs : List Nat) : Prop := ∀ i, i < k → 2 ≤ N L i → Best L (N L i - 1) (fun j => L j < L i) i (bs.getD i 0)
theorem Befores.nil (L : Nat → Int) (bs : List Nat) : Befores L 0 bs := fun _ h => absurd h (Nat.not_lt_zero _)
theorem Befores.put {L : Nat → Int} {k : Nat} {bs es : List Nat} (h : Befores L k bs) (he : Ends L k es) {a : Nat} (s : Spot L es (L k) a) (ha : 0 < a) (hk : k < bs.length) : Befores L (k + 1) (bs.set k (es.getD (a - 1) 0)) := by
  intro i hi h2
  rw [getD_set _ _ _ _ _ hk]
  by_cases hik : i = k
  · subst hik
    rw [if_pos rfl]
    have hN := he.next s
    rw [hN, Nat.add_sub_cancel]
    exact he.prev s ha
  · rw [if_neg hik]
    exact h i (by omega) h2
theorem Befores.keep {L : Nat → Int} {k : Nat} {bs es : List Nat} (h : Befores L k bs) (he : Ends L k es) (s : Spot L es (L k) 0) : Befores L (k + 1) bs := by
  intro i hi h2
  by_cases hik : i = k
  · subst hik
    have := he.next s
    omega
  · exact h i (by omega) h2
/-- ends are turned into the row from the end on: those from `q` on stand. -/
def Half (L : Nat → Int) (len : Nat) (es0 : List Nat) (q : Nat) (es : List Nat) : Prop :=
  es.length = top L len ∧ (∀ k, k < q → es.getD k 0 = es0.getD k 0) ∧ (∀ k, k + 1 = es.length → Best L (k + 1) (fun _ => True) len (es.getD k 0)) ∧
  ∀ k, q ≤ k → k + 1 < es.length → Best L (k + 1) (fun i => L i < L (es.getD (k + 1) 0)) (es.getD (k + 1) 0) (es.getD k 0)
theorem Half.start {L : Nat → Int} {len : Nat} {es : List Nat} (h : Ends L len es) : Half L len es (es.length - 1) es :=
  ⟨h.1, fun _ _ => rfl, fun k hk => h.2 k (by omega), fun k h1 h2 => by omega⟩
theorem Half.level {L : Nat → Int} {len : Nat} {es0 es : List Nat} {q : Nat} (h : Half L len es0 q es) : ∀ k, q ≤ k → k < es.length → N L (es.getD k 0) = k + 1 ∧ es.getD k 0 < len := by
  have key : ∀ d k, k + d + 1 = es.length → q ≤ k → N L (es.getD k 0) = k + 1 ∧ es.getD k 0 < len := by
    intro d
    induction d with
    | zero => intro k hk _; exact ⟨(h.2.2.1 k (by omega)).2.1, (h.2.2.1 k (by omega)).1⟩
    | succ d ih =>
      intro k hk hq
      have e := ih (k + 1) (by omega) (by omega)
      have h1 := h.2.2.2 k hq (by omega)
      exact ⟨h1.2.1, by have := h1.1; omega⟩
  intro k h1 h2
  exact key (es.length - k - 1) k (by omega) h1
theorem Half.step {L : Nat → Int} {len : Nat} {es0 es bs : List Nat} {q : Nat} (h : Half L len es0 (q + 1) es) (hb : Befores L len bs) (hq : q + 1 < es.length) : Half L len es0 q (es.set q (bs.getD (es.getD (q + 1) 0) 0)) := by
  have hql : q < es.length := by omega
  have hl := h.level (q + 1) (Nat.le_refl _) hq
  have hbest := hb _ hl.2 (by omega)
  rw [hl.1, Nat.add_sub_cancel] at hbest
  refine ⟨by rw [List.length_set]; exact h.1, fun k hk => ?_, fun k hk => ?_, fun k h1 h2 => ?_⟩
  · rw [getD_set _ _ _ _ _ hql, if_neg (by omega)]
    exact h.2.1 k (by omega)
  · rw [List.length_set] at hk
    rw [getD_set _ _ _ _ _ hql, if_neg (by omega)]
    exact h.2.2.1 k hk
  · rw [List.length_set] at h2
    rw [getD_set _ _ _ _ _ hql, getD_set _ _ _ _ _ hql, if_neg (by omega : k + 1 ≠ q)]
    by_cases hkq : k = q
    · subst hkq
      rw [if_pos rfl]
      exact hbest
    · rw [if_neg hkq]
      exact h.2.2.2 k (by omega) h2
theorem Half.row {L : Nat → Int} {len : Nat} {es0 es : List Nat} (h : Half L len es0 0 es) : IsRow L len es := ⟨h.1, h.2.2.1, fun k hk => h.2.2.2 k (Nat.zero_le _) hk⟩
/-- a part of the row, from place `q` on (so the document's answer is built). -/
def Tail (L : Nat → Int) (len n : Nat) (t : List Nat) : Prop :=
  n + t.length = top L len ∧ (∀ k, k + 1 = t.length → Best L (n + k + 1) (fun _ => True) len (t.getD k 0)) ∧
  ∀ k, k + 1 < t.length → Best L (n + k + 1) (fun i => L i < L (t.getD (k + 1) 0)) (t.getD (k + 1) 0) (t.getD k 0)
theorem Tail.start (L : Nat → Int) (len : Nat) : Tail L len (top L len) [] := ⟨rfl, fun k h => by simp at h, fun k h => by simp at h⟩
theorem Tail.row {L : Nat → Int} {len : Nat} {t : List Nat} (h : Tail L len 0 t) : IsRow L len t := by
  have e : ∀ k, 0 + k + 1 = k + 1 := by intro k; omega
  refine ⟨by have := h.1; omega, fun k hk => ?_, fun k hk => ?_⟩
  · have := h.2.1 k hk; rwa [e] at this
  · have := h.2.2 k hk; rwa [e] at this
theorem Tail.cons_last {L : Nat → Int} {len n b : Nat} (h : Tail L len (n + 1) []) (hb : Best L (n + 1) (fun _ => True) len b) : Tail L len n [b] :=
  ⟨by have := h.1; simpa using this, fun k hk => by simp at hk; subst hk; exact hb, fun k hk => by simp at hk⟩
theorem Tail.cons {L : Nat → Int} {len n b c : Nat} {t : List Nat} (h : Tail L len (n + 1) (c :: t)) (hb : Best L (n + 1) (fun i => L i < L c) c b) : Tail L len n (b :: c :: t) := by
  refine ⟨by have := h.1; simp at this ⊢; omega, fun k hk => ?_, fun k hk => ?_⟩
  · cases k with
    | zero => simp at hk
    | succ k =>
      have := h.2.1 k (by simpa using hk)
      rw [show n + 1 + k + 1 = n + (k + 1) + 1 by omega] at this
      simpa using this
  · cases k with
    | zero => simpa using hb
    | succ k =>
      have := h.2.2 k (by simpa using hk)
      rw [show n + 1 + k + 1 = n + (k + 1) + 1 by omega] at this
      simpa using this
/-- the best so far, or none. -/
def Seek (L : Nat → Int) (n : Nat) (ok : Nat → Prop) (i : Nat) (b : Int) : Prop := (b = -1 ∧ ∀ j, j < i → N L j = n → ¬ ok j) ∨ ∃ m : Nat, b = (m : Int) ∧ Best L n ok i m
theorem Seek.start (L : Nat → Int) (n : Nat) (ok : Nat → Prop) : Seek L n ok 0 (-1) := .inl ⟨rfl, fun _ h => absurd h (Nat.not_lt_zero _)⟩
theorem Seek.skip {L : Nat → Int} {n : Nat} {ok : Nat → Prop} {i : Nat} {b : Int} (h : Seek L n ok i b) (hn : N L i = n → ok i → ∃ m : Nat, b = (m : Int) ∧ L m ≤ L i) : Seek L n ok (i + 1) b := by
  rcases h with ⟨h1, h2⟩ | ⟨m, h1, h2⟩
  · refine .inl ⟨h1, fun j hj e ho => ?_⟩
    by_cases hji : j < i
    · exact h2 j hji e ho
    · have : j = i := by omega
      subst this
      obtain ⟨m, hm, _⟩ := hn e ho
      omega
  · refine .inr ⟨m, h1, by have := h2.1; omega, h2.2.1, h2.2.2.1, fun j hj e ho => ?_⟩
    by_cases hji : j < i
    · exact h2.2.2.2 j hji e ho
    · have : j = i := by omega
      subst this
      obtain ⟨m', hm, hle⟩ := hn e ho
      have : m = m' := by omega
      subst this
      have := h2.1
      omega
theorem Seek.take {L : Nat → Int} {n : Nat} {ok : Nat → Prop} {i : Nat} {b : Int} (h : Seek L n ok i b) (e : N L i = n) (ho : ok i) (hlt : b = -1 ∨ ∃ m : Nat, b = (m : Int) ∧ L i < L m) : Seek L n ok (i + 1) (i : Int) := by
  refine .inr ⟨i, rfl, Nat.lt_succ_self _, e, ho, fun j hj e' ho' => ?_⟩
  by_cases hji : j < i
  · rcases h with ⟨h1, h2⟩ | ⟨m, h1, h2⟩
    · exact absurd ho' (h2 j hji e')
    · rcases hlt with hlt | ⟨m', hm, hlt⟩
      · omega
      · have : m = m' := by omega
        subst this
        have := h2.2.2.2 j hji e' ho'
        omega
  · have : j = i := by omega
    subst this
    exact .inr ⟨rfl, Nat.le_refl _⟩
theorem Seek.done {L : Nat → Int} {n : Nat} {ok : Nat → Prop} {i : Nat} {b : Int} (h : Seek L n ok i b) (hx : ∃ j, j < i ∧ N L j = n ∧ ok j) : ∃ m : Nat, b = (m : Int) ∧ Best L n ok i m := by
  rcases h with ⟨h1, h2⟩ | h
  · obtain ⟨j, h3, h4, h5⟩ := hx
    exact absurd h5 (h2 j h3 h4)
  · exact h
theorem IsRow.nil {L : Nat → Int} {r : List Nat} (h : IsRow L 0 r) : r = [] := List.eq_nil_of_length_eq_zero h.1
/-- places whose numbers rise are no more than the row that ends at the last of them. -/
theorem chain {L : Nat → Int} {at' p n : Nat} (h : n ≤ N L at') (hp : at' < p) (hl : L at' < L p) : n + 1 ≤ N L p := by
  have := N_lt L hp hl
  omega
/-- those places that aren't in the row. -/
def rest (r : List Nat) (k : Nat) : List Nat := (List.range k).filter fun i => !decide (i ∈ r)
end Li
end Go.Proofs.Ytfapghekakdpgaa
