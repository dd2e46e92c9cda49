/- Mathematics of the library's stable sort: segments of an array, what keeps the order of those of one name, rotations, and that two sorted parts come to be one. No program is named. -/
import Derived.Sort.LotA
namespace Go.Proofs.Ytcboeehmhpkodaa
open Go.Sort
namespace St
section
variable {α : Type} [Inhabited α]
def seg (d : Array α) (a n : Nat) : List α := (List.range n).map fun i => d[a + i]!
theorem seg_len (d : Array α) (a n : Nat) : (seg d a n).length = n := by simp [seg]
theorem seg_succ (d : Array α) (a n : Nat) : seg d a (n + 1) = seg d a n ++ [d[a + n]!] := by simp [seg, List.range_succ]
theorem seg_add (d : Array α) (a n m : Nat) : seg d a (n + m) = seg d a n ++ seg d (a + n) m := by
  induction m with
  | zero => simp [seg]
  | succ m ih => rw [← Nat.add_assoc, seg_succ, ih, seg_succ, List.append_assoc, Nat.add_assoc]
theorem seg_congr {d d' : Array α} {a a' n : Nat} (h : ∀ i, i < n → d[a + i]! = d'[a' + i]!) : seg d a n = seg d' a' n := by
  unfold seg
  exact List.map_congr_left fun i hi => h i (List.mem_range.1 hi)
theorem mem_seg {d : Array α} {a n : Nat} {x : α} : x ∈ seg d a n ↔ ∃ i, a ≤ i ∧ i < a + n ∧ x = d[i]! := by
  unfold seg
  rw [List.mem_map]
  constructor
  · rintro ⟨i, hi, rfl⟩
    exact ⟨a + i, by omega, by have := List.mem_range.1 hi; omega, rfl⟩
  · rintro ⟨i, h1, h2, rfl⟩
    exact ⟨i - a, List.mem_range.2 (by omega), by rw [show a + (i - a) = i from by omega]⟩
variable {β : Type} [DecidableEq β] (nm : α → β)
/-- those of each name stand in the same order. -/
def Sm (l r : List α) : Prop := ∀ s, r.filter (fun x => decide (nm x = s)) = l.filter (fun x => decide (nm x = s))
omit [Inhabited α] in
theorem Sm.refl (l : List α) : Sm nm l l := fun _ => rfl
variable {nm}
omit [Inhabited α] in
theorem Sm.trans {l m r : List α} (h : Sm nm l m) (k : Sm nm m r) : Sm nm l r := fun s => (k s).trans (h s)
omit [Inhabited α] in
theorem Sm.append {l r l' r' : List α} (h : Sm nm l r) (k : Sm nm l' r') : Sm nm (l ++ l') (r ++ r') := fun s => by
  rw [List.filter_append, List.filter_append, h s, k s]
omit [Inhabited α] in
theorem Sm.mem {l r : List α} (h : Sm nm l r) {x : α} (hx : x ∈ r) : x ∈ l := by
  have h1 : x ∈ r.filter (fun y => decide (nm y = nm x)) := List.mem_filter.2 ⟨hx, by simp⟩
  rw [h (nm x)] at h1
  exact (List.mem_filter.1 h1).1
omit [Inhabited α] in
theorem Sm.swap {u v : List α} (h : ∀ x ∈ u, ∀ y ∈ v, nm x ≠ nm y) : Sm nm (u ++ v) (v ++ u) := fun s => by
  rw [List.filter_append, List.filter_append]
  by_cases hu : ∃ x ∈ u, nm x = s
  · obtain ⟨x, hx, rfl⟩ := hu
    have e : v.filter (fun y => decide (nm y = nm x)) = [] := by
      rw [List.filter_eq_nil_iff]
      intro y hy
      simpa using fun e => h x hx y hy e.symm
    rw [e]; simp
  · have e : u.filter (fun y => decide (nm y = s)) = [] := by
      rw [List.filter_eq_nil_iff]
      intro y hy
      simpa using fun e => hu ⟨y, hy, e⟩
    rw [e]; simp
variable (nm)
/-- d' is d, the places from a on and ahead of b in another order, those of each name in the same one. -/
structure Kept (a b : Nat) (d d' : Array α) : Prop where
  size : d'.size = d.size
  out : ∀ i, i < a ∨ b ≤ i → d'[i]! = d[i]!
  sm : Sm nm (seg d a (b - a)) (seg d' a (b - a))
variable {nm}
theorem Kept.refl (a b : Nat) (d : Array α) : Kept nm a b d d := ⟨rfl, fun _ _ => rfl, Sm.refl nm _⟩
theorem Kept.trans {a b : Nat} {d e f : Array α} (h : Kept nm a b d e) (k : Kept nm a b e f) : Kept nm a b d f :=
  ⟨k.size.trans h.size, fun i hi => (k.out i hi).trans (h.out i hi), h.sm.trans k.sm⟩
theorem Kept.mono {a b a' b' : Nat} {d d' : Array α} (h : Kept nm a b d d') (h1 : a' ≤ a) (h2 : a ≤ b) (h3 : b ≤ b') : Kept nm a' b' d d' := by
  refine ⟨h.size, fun i hi => h.out i (by omega), ?_⟩
  have e : b' - a' = (a - a') + ((b - a) + (b' - b)) := by omega
  rw [e, seg_add, seg_add, seg_add d', seg_add d', show a' + (a - a') = a from by omega, show a + (b - a) = b from by omega]
  rw [show seg d' a' (a - a') = seg d a' (a - a') from seg_congr fun i hi => h.out _ (by omega), show seg d' b (b' - b) = seg d b (b' - b) from seg_congr fun i hi => h.out _ (by omega)]
  exact (Sm.refl nm _).append (h.sm.append (Sm.refl nm _))
theorem Kept.mem {a b : Nat} {d d' : Array α} (h : Kept nm a b d d') {i : Nat} (h1 : a ≤ i) (h2 : i < b) : ∃ j, a ≤ j ∧ j < b ∧ d'[i]! = d[j]! := by
  have hx : d'[i]! ∈ seg d' a (b - a) := mem_seg.2 ⟨i, h1, by omega, rfl⟩
  obtain ⟨j, h3, h4, h5⟩ := mem_seg.1 (h.sm.mem hx)
  exact ⟨j, h3, by omega, h5⟩
/-- n places from a on and n from b on have changed with one another. -/
def SwR (a b n : Nat) (d d' : Array α) : Prop := d'.size = d.size ∧ ∀ t, d'[t]! = if a ≤ t ∧ t < a + n then d[t - a + b]! else if b ≤ t ∧ t < b + n then d[t - b + a]! else d[t]!
theorem SwR.start (a b : Nat) (d : Array α) : SwR a b 0 d d := ⟨rfl, fun t => by rw [if_neg (by omega), if_neg (by omega)]⟩
theorem SwR.step {a b n : Nat} {d d' : Array α} (h : SwR a b n d d') (hab : a + n < b) (hb : b + n < d.size) : SwR a b (n + 1) d (swp d' (a + n) (b + n)) := by
  refine ⟨by rw [size_swp]; exact h.1, fun t => ?_⟩
  rw [swp_get d' (by rw [h.1]; omega) (by rw [h.1]; omega), h.2, h.2, h.2]
  rw [if_neg (by omega : ¬ (a ≤ a + n ∧ a + n < a + n)), if_neg (by omega : ¬ (b ≤ a + n ∧ a + n < b + n)), if_neg (by omega : ¬ (a ≤ b + n ∧ b + n < a + n)), if_neg (by omega : ¬ (b ≤ b + n ∧ b + n < b + n))]
  repeat' split
  all_goals first | rfl | (exfalso; omega) | (congr 1; omega)
/-- what stands from m on and ahead of b stands ahead of what stood from a on and ahead of m. -/
def Rot (a m b : Nat) (d d' : Array α) : Prop := d'.size = d.size ∧ ∀ t, d'[t]! = if a ≤ t ∧ t < a + (b - m) then d[t - a + m]! else if a + (b - m) ≤ t ∧ t < b then d[t - (b - m)]! else d[t]!
theorem Rot.id (a m b : Nat) (d : Array α) (h1 : a ≤ m) (h2 : m ≤ b) (h : a = m ∨ m = b) : Rot a m b d d := ⟨rfl, fun t => by
  repeat' split
  all_goals first | rfl | (exfalso; omega) | (congr 1; omega)⟩
theorem Rot.last {m i : Nat} {d d' : Array α} (hi : i ≤ m) (h : SwR (m - i) m i d d') : Rot (m - i) m (m + i) d d' := ⟨h.1, fun t => by
  rw [h.2]
  repeat' split
  all_goals first | rfl | (exfalso; omega) | (congr 1; omega)⟩
theorem Rot.left {m i j : Nat} {d e d' : Array α} (hi : i ≤ m) (hj : j < i) (h : SwR (m - i) m j d e) (k : Rot (m - (i - j)) m (m + j) e d') : Rot (m - i) m (m + j) d d' := ⟨k.1.trans h.1, fun t => by
  rw [k.2]
  repeat' split
  all_goals (rw [h.2]; repeat' split)
  all_goals first | rfl | (exfalso; omega) | (congr 1; omega)⟩
theorem Rot.right {m i j : Nat} {d e d' : Array α} (hi : i ≤ m) (hj : i < j) (h : SwR (m - i) (m + j - i) i d e) (k : Rot (m - i) m (m + (j - i)) e d') : Rot (m - i) m (m + j) d d' := ⟨k.1.trans h.1, fun t => by
  rw [k.2]
  repeat' split
  all_goals (rw [h.2]; repeat' split)
  all_goals first | rfl | (exfalso; omega) | (congr 1; omega)⟩
/-- one goes up. -/
theorem Rot.up {a n : Nat} {d d' : Array α} (h : Rot a (a + 1) (a + 1 + n) d d') (hs : a + n + 1 < d.size) : Rot a (a + 1) (a + 1 + (n + 1)) d (swp d' (a + n) (a + n + 1)) := ⟨by rw [size_swp]; exact h.1, fun t => by
  rw [swp_get d' (by rw [h.1]; omega) (by rw [h.1]; omega), h.2, h.2, h.2]
  repeat' split
  all_goals first | rfl | (exfalso; omega) | (congr 1; omega)⟩
/-- one goes down. -/
theorem Rot.down {m n : Nat} {d d' : Array α} (h : Rot (n + 1) m (m + 1) d d') (hn : n + 1 ≤ m) (hs : m < d.size) : Rot n m (m + 1) d (swp d' (n + 1) n) := ⟨by rw [size_swp]; exact h.1, fun t => by
  rw [swp_get d' (by rw [h.1]; omega) (by rw [h.1]; omega), h.2, h.2, h.2]
  repeat' split
  all_goals first | rfl | (exfalso; omega) | (congr 1; omega)⟩
variable {lt : α → α → Bool}
theorem in_go (a j : Nat) (d : Array α) (hj : a < j) (hl : lt d[j]! d[j - 1]! = true) : insInner lt a j d = insInner lt a (j - 1) (swp d j (j - 1)) := by
  obtain ⟨k, rfl⟩ : ∃ k, j = k + 1 := ⟨j - 1, by omega⟩
  rw [insInner]
  simp only [Nat.add_sub_cancel] at hl ⊢
  simp [hj, hl]
theorem in_stop (a j : Nat) (d : Array α) (h : j ≤ a ∨ lt d[j]! d[j - 1]! = false) : insInner lt a j d = d := by
  cases j with
  | zero => rw [insInner]
  | succ k =>
    rw [insInner]
    simp only [Nat.add_sub_cancel] at h
    rcases h with h | h
    · simp [show ¬ k + 1 > a by omega]
    · simp [h]
theorem out_go (a b i : Nat) (d : Array α) (h : i < b) : insOuter lt a b i d = insOuter lt a b (i + 1) (insInner lt a i d) := by rw [insOuter, if_pos h]
theorem out_stop (a b i : Nat) (d : Array α) (h : ¬ i < b) : insOuter lt a b i d = d := by rw [insOuter, if_neg h]
omit [Inhabited α] in
theorem asym (hO : SWO lt) {x y : α} (h : lt x y = true) : lt y x = false := by
  cases hx : lt y x with
  | false => rfl
  | true => have := hO.trans x y x h hx; rw [hO.irrefl] at this; cases this
omit [Inhabited α] in
theorem le_lt (hO : SWO lt) {x y z : α} (h1 : lt y x = false) (h2 : lt y z = true) : lt x z = true := by
  cases h : lt x z with
  | true => rfl
  | false => have := hO.ntrans y x z h1 h; rw [h2] at this; cases this
omit [Inhabited α] in
theorem lt_le (hO : SWO lt) {x y z : α} (h1 : lt x y = true) (h2 : lt z y = false) : lt x z = true := by
  cases h : lt x z with
  | true => rfl
  | false => have := hO.ntrans x z y h h2; rw [h1] at this; cases this
theorem sorted_le (hO : SWO lt) {a b : Nat} {d : Array α} (h : SortedIn lt a b d) {i j : Nat} (h1 : a ≤ i) (h2 : i ≤ j) (h3 : j < b) : lt d[j]! d[i]! = false := by
  rcases Nat.lt_or_ge i j with h4 | h4
  · exact h i j h1 h4 h3
  · obtain rfl : i = j := by omega
    exact hO.irrefl _
theorem sorted_of {a b a' b' : Nat} {d d' : Array α} (h : SortedIn lt a b d) (h1 : a ≤ a') (h2 : b' ≤ b) (he : ∀ i, a' ≤ i → i < b' → d'[i]! = d[i]!) : SortedIn lt a' b' d' := fun i j hi hij hj => by
  rw [he i hi (by omega), he j (by omega) hj]
  exact h i j (by omega) hij (by omega)
theorem sorted_shift {a b s n : Nat} {d d' : Array α} (h : SortedIn lt a b d) (p : Nat) (h1 : a ≤ p) (h2 : p + n ≤ b) (he : ∀ i, i < n → d'[s + i]! = d[p + i]!) : SortedIn lt s (s + n) d' := fun i j hi hij hj => by
  have e1 := he (i - s) (by omega)
  have e2 := he (j - s) (by omega)
  rw [show s + (i - s) = i from by omega] at e1
  rw [show s + (j - s) = j from by omega] at e2
  rw [e1, e2]
  exact h _ _ (by omega) (by omega) (by omega)
theorem sorted_none (a b : Nat) (d : Array α) (h : b ≤ a + 1) : SortedIn lt a b d := fun i j hi hij hj => by omega
/-- two sorted rows, parted and turned about, and each part sorted by itself: one sorted row. -/
theorem join (hO : SWO lt) (hn : ∀ x y, lt x y = true → nm x ≠ nm y) {a s m e b mid : Nat} {d d1 d2 d3 : Array α} (h1 : a ≤ s) (h2 : s ≤ m) (h3 : m ≤ e) (h4 : e ≤ b) (hmid : mid = s + (e - m))
    (sA : SortedIn lt a m d) (sB : SortedIn lt m b d) (hr : Rot s m e d d1) (hF : ∀ p q, m ≤ p → p < e → s ≤ q → q < m → lt d[p]! d[q]! = true) (hG : ∀ p q, a ≤ p → p < s → e ≤ q → q < b → lt d[q]! d[p]! = false)
    (k2 : Kept nm a mid d1 d2) (s2 : SortedIn lt a mid d2) (k3 : Kept nm mid b d2 d3) (s3 : SortedIn lt mid b d3) : Kept nm a b d d3 ∧ SortedIn lt a b d3 := by
  subst hmid
  have r1 : ∀ i, i < s ∨ e ≤ i → d1[i]! = d[i]! := fun i hi => by
    rw [hr.2]
    repeat' split
    all_goals first | rfl | (exfalso; omega)
  have r2 : ∀ i, s ≤ i → i < s + (e - m) → d1[i]! = d[i - s + m]! := fun i hi1 hi2 => by rw [hr.2, if_pos ⟨hi1, hi2⟩]
  have r3 : ∀ i, s + (e - m) ≤ i → i < e → d1[i]! = d[i - (e - m)]! := fun i hi1 hi2 => by rw [hr.2, if_neg (by omega), if_pos ⟨hi1, hi2⟩]
  have k1 : Kept nm s e d d1 := by
    refine ⟨hr.1, r1, ?_⟩
    have e1 : e - s = (m - s) + (e - m) := by omega
    have e2 : e - s = (e - m) + (m - s) := by omega
    have g1 : seg d s (e - s) = seg d s (m - s) ++ seg d m (e - m) := by rw [e1, seg_add, show s + (m - s) = m from by omega]
    have g2 : seg d1 s (e - s) = seg d m (e - m) ++ seg d s (m - s) := by
      rw [e2, seg_add]
      congr 1
      · exact seg_congr fun i hi => by rw [r2 _ (by omega) (by omega)]; congr 1; omega
      · exact seg_congr fun i hi => by rw [r3 _ (by omega) (by omega)]; congr 1; omega
    rw [g1, g2]
    refine Sm.swap fun x hx y hy => ?_
    obtain ⟨q, q1, q2, rfl⟩ := mem_seg.1 hx
    obtain ⟨p, p1, p2, rfl⟩ := mem_seg.1 hy
    exact fun e => hn _ _ (hF p q p1 (by omega) q1 (by omega)) e.symm
  have kk : Kept nm a b d d3 := ((k1.mono h1 (by omega) h4).trans (k2.mono (Nat.le_refl _) (by omega) (by omega))).trans (k3.mono (by omega) (by omega) (Nat.le_refl _))
  refine ⟨kk, fun i j hi hij hj => ?_⟩
  rcases Nat.lt_or_ge j (s + (e - m)) with hjm | hjm
  · rw [k3.out i (by omega), k3.out j (by omega)]
    exact s2 i j hi hij hjm
  · rcases Nat.lt_or_ge i (s + (e - m)) with him | him
    · rw [k3.out i (by omega)]
      obtain ⟨i', i1, i2, ei⟩ := k2.mem hi him
      obtain ⟨j', j1, j2, ej⟩ := k3.mem hjm hj
      rw [ei, ej, k2.out j' (by omega)]
      rcases Nat.lt_or_ge i' s with hi' | hi'
      · rw [r1 i' (by omega)]
        rcases Nat.lt_or_ge j' e with hj' | hj'
        · rw [r3 j' (by omega) hj']
          exact sA _ _ (by omega) (by omega) (by omega)
        · rw [r1 j' (by omega)]
          exact hG _ _ (by omega) hi' hj' j2
      · rw [r2 i' hi' i2]
        rcases Nat.lt_or_ge j' e with hj' | hj'
        · rw [r3 j' (by omega) hj']
          exact asym hO (hF _ _ (by omega) (by omega) (by omega) (by omega))
        · rw [r1 j' (by omega)]
          exact sB _ _ (by omega) (by omega) j2
    · exact s3 i j him hij hj
/-- what the merge hands on: the two parts are sorted again. -/
theorem parts {a s m e b mid : Nat} {d d1 : Array α} (h1 : a ≤ s) (h2 : s ≤ m) (h3 : m ≤ e) (h4 : e ≤ b) (hmid : mid = s + (e - m))
    (sA : SortedIn lt a m d) (sB : SortedIn lt m b d) (hr : Rot s m e d d1) : SortedIn lt a s d1 ∧ SortedIn lt s mid d1 ∧ SortedIn lt mid e d1 ∧ SortedIn lt e b d1 := by
  subst hmid
  refine ⟨sorted_of sA (Nat.le_refl _) h2 fun i _ hi => ?_, sorted_shift sB m (Nat.le_refl _) (by omega) fun i hi => ?_, ?_, sorted_of sB h3 (Nat.le_refl _) fun i hi _ => ?_⟩
  · rw [hr.2]
    repeat' split
    all_goals first | rfl | (exfalso; omega)
  · rw [hr.2, if_pos (by omega)]; congr 1; omega
  · have := sorted_shift (s := s + (e - m)) (n := m - s) (d' := d1) sA s h1 (by omega) fun i hi => by rw [hr.2, if_neg (by omega), if_pos (by omega)]; congr 1; omega
    rw [show s + (e - m) + (m - s) = e from by omega] at this
    exact this
  · rw [hr.2]
    repeat' split
    all_goals first | rfl | (exfalso; omega)
/-- an exchange of neighbours of different names. -/
theorem kept_swp {d : Array α} {i : Nat} (hi : i + 1 < d.size) (hne : nm d[i]! ≠ nm d[i + 1]!) : Kept nm i (i + 2) d (swp d (i + 1) i) := by
  refine ⟨size_swp d _ _, fun t ht => swp_other d _ _ _ (by omega) (by omega), ?_⟩
  rw [show i + 2 - i = 1 + 1 from by omega, seg_add, seg_add]
  have e : ∀ (d : Array α) x, seg d x 1 = [d[x]!] := fun d x => by simp [seg]
  rw [e, e, e, e]
  have e1 : (swp d (i + 1) i)[i]! = d[i + 1]! := by rw [swp_get d hi (by omega), if_pos rfl]
  have e2 : (swp d (i + 1) i)[i + 1]! = d[i]! := by rw [swp_get d hi (by omega), if_neg (by omega), if_pos rfl]
  rw [e1, e2]
  exact Sm.swap (u := [d[i]!]) (v := [d[i + 1]!]) fun x hx y hy => by
    rw [List.mem_singleton] at hx hy
    subst hx; subst hy
    exact hne
theorem kept_inner (hn : ∀ x y, lt x y = true → nm x ≠ nm y) (a b : Nat) : ∀ (j : Nat) (d : Array α), j < b → b ≤ d.size → Kept nm a b d (insInner lt a j d) := by
  intro j
  induction j with
  | zero => intro d _ _; rw [in_stop (lt := lt) a 0 d (.inl (Nat.zero_le _))]; exact Kept.refl _ _ _
  | succ j ih =>
    intro d hj hb
    by_cases h : a < j + 1 ∧ lt d[j + 1]! d[j]! = true
    · have hgo := in_go (lt := lt) a (j + 1) d h.1 (by rw [Nat.add_sub_cancel]; exact h.2)
      rw [Nat.add_sub_cancel] at hgo
      rw [hgo]
      have k1 : Kept nm j (j + 2) d (swp d (j + 1) j) := kept_swp (by omega) fun e => hn _ _ h.2 e.symm
      exact (k1.mono (by omega) (by omega) (by omega)).trans (ih _ (by omega) (by rw [size_swp]; exact hb))
    · rw [in_stop (lt := lt) a (j + 1) d (by
        rcases Nat.lt_or_ge a (j + 1) with h1 | h1
        · right
          rw [Nat.add_sub_cancel]
          cases h2 : lt d[j + 1]! d[j]! with
          | false => rfl
          | true => exact absurd ⟨h1, h2⟩ h
        · exact .inl h1)]
      exact Kept.refl _ _ _
theorem kept_outer (hn : ∀ x y, lt x y = true → nm x ≠ nm y) (a b : Nat) : ∀ (k i : Nat) (d : Array α), b - i ≤ k → b ≤ d.size → Kept nm a b d (insOuter lt a b i d) := by
  intro k
  induction k with
  | zero => intro i d hk _; rw [out_stop (lt := lt) a b i d (by omega)]; exact Kept.refl _ _ _
  | succ k ih =>
    intro i d hk hb
    by_cases h : i < b
    · rw [out_go (lt := lt) a b i d h]
      have k1 := kept_inner hn a b i d h hb
      exact k1.trans (ih _ _ (by omega) (by rw [k1.size]; exact hb))
    · rw [out_stop (lt := lt) a b i d h]; exact Kept.refl _ _ _
theorem kept_ins (hO : SWO lt) (hn : ∀ x y, lt x y = true → nm x ≠ nm y) (d : Array α) (a b : Nat) (hab : a ≤ b) (hb : b ≤ d.size) : Kept nm a b d (insertionSort lt d a b) ∧ SortedIn lt a b (insertionSort lt d a b) :=
  ⟨kept_outer hn a b _ (a + 1) d (Nat.le_refl _) hb, (insertionSort_holds hO d a b hab hb).2⟩
theorem skip1 {a s mid : Nat} {d1 : Array α} (h : a = s ∨ s = mid) (p1 : SortedIn lt a s d1) (p2 : SortedIn lt s mid d1) : SortedIn lt a mid d1 := by
  rcases h with rfl | rfl
  · exact p2
  · exact p1
theorem next2 {a mid e b : Nat} {d1 d2 : Array α} (k : Kept nm a mid d1 d2) (p3 : SortedIn lt mid e d1) (p4 : SortedIn lt e b d1) (hme : mid ≤ e) : SortedIn lt mid e d2 ∧ SortedIn lt e b d2 :=
  ⟨sorted_of p3 (Nat.le_refl _) (Nat.le_refl _) fun i hi _ => k.out i (by omega), sorted_of p4 (Nat.le_refl _) (Nat.le_refl _) fun i hi _ => k.out i (by omega)⟩
/-- the search of the merge goes one way. -/
theorem mono_no (hO : SWO lt) {a m b q c c' : Nat} {d : Array α} (sA : SortedIn lt a m d) (sB : SortedIn lt m b d) (h1 : a ≤ c') (h2 : c' ≤ c) (h3 : c < m) (h4 : m ≤ q - c) (h5 : q - c' < b) (h : lt d[q - c]! d[c]! = false) : lt d[q - c']! d[c']! = false :=
  hO.ntrans _ _ _ (hO.ntrans _ _ _ (sorted_le hO sB h4 (by omega) h5) h) (sorted_le hO sA h1 h2 h3)
theorem mono_yes (hO : SWO lt) {a m b q c c' : Nat} {d : Array α} (sA : SortedIn lt a m d) (sB : SortedIn lt m b d) (h1 : a ≤ c) (h2 : c ≤ c') (h3 : c' < m) (h4 : m ≤ q - c') (h5 : q - c < b) (h : lt d[q - c]! d[c]! = true) : lt d[q - c']! d[c']! = true :=
  lt_le hO (le_lt hO (sorted_le hO sB h4 (by omega) h5) h) (sorted_le hO sA h1 h2 h3)
theorem all_F (hO : SWO lt) {a s m e b : Nat} {d : Array α} (sA : SortedIn lt a m d) (sB : SortedIn lt m b d) (h1 : a ≤ s) (h4 : e ≤ b) (h : s < m → m < e → lt d[e - 1]! d[s]! = true) : ∀ p q, m ≤ p → p < e → s ≤ q → q < m → lt d[p]! d[q]! = true :=
  fun p q p1 p2 q1 q2 => lt_le hO (le_lt hO (sorted_le hO sB p1 (by omega : p ≤ e - 1) (by omega)) (h (by omega) (by omega))) (sorted_le hO sA h1 q1 q2)
theorem all_G (hO : SWO lt) {a s m e b : Nat} {d : Array α} (sA : SortedIn lt a m d) (sB : SortedIn lt m b d) (h2 : s ≤ m) (h3 : m ≤ e) (h : a < s → e < b → lt d[e]! d[s - 1]! = false) : ∀ p q, a ≤ p → p < s → e ≤ q → q < b → lt d[q]! d[p]! = false :=
  fun p q p1 p2 q1 q2 => hO.ntrans _ _ _ (hO.ntrans _ _ _ (sorted_le hO sB h3 q1 q2) (h (by omega) (by omega))) (sorted_le hO sA p1 (by omega : p ≤ s - 1) (by omega))
theorem one_up (hO : SWO lt) (hn : ∀ x y, lt x y = true → nm x ≠ nm y) {a m i b : Nat} {d dk : Array α} (hm : m = a + 1) (h1 : m ≤ i) (h2 : i ≤ b) (sB : SortedIn lt m b d) (hr : Rot a m i d dk)
    (hY : ∀ t, m ≤ t → t < i → lt d[t]! d[a]! = true) (hZ : ∀ t, i ≤ t → t < b → lt d[t]! d[a]! = false) : Kept nm a b d dk ∧ SortedIn lt a b dk := by
  have sA : SortedIn lt a m d := sorted_none a m d (by omega)
  obtain ⟨_, p2, _, p4⟩ := parts (lt := lt) (Nat.le_refl a) (by omega) h1 h2 rfl sA sB hr
  refine join hO hn (Nat.le_refl a) (by omega) h1 h2 rfl sA sB hr (fun p q q1 q2 q3 q4 => ?_) (fun p q q1 q2 => absurd q2 (by omega)) (Kept.refl _ _ _) p2 (Kept.refl _ _ _) ?_
  · obtain rfl : q = a := by omega
    exact hY p q1 q2
  · intro p q q1 q2 q3
    have e0 : i = a + (i - m) + 1 := by omega
    rcases Nat.lt_or_ge p i with h | h
    · rcases Nat.lt_or_ge q i with h' | h'
      · exact absurd q2 (by omega)
      · have e1 : dk[p]! = d[a]! := by rw [hr.2, if_neg (by omega), if_pos (by omega)]; congr 1; omega
        have e2 : dk[q]! = d[q]! := by rw [hr.2, if_neg (by omega), if_neg (by omega)]
        rw [e1, e2]
        exact hZ q h' q3
    · exact p4 p q h q2 q3
theorem one_down (hO : SWO lt) (hn : ∀ x y, lt x y = true → nm x ≠ nm y) {a m i b : Nat} {d dk : Array α} (hm : b = m + 1) (h1 : a ≤ i) (h2 : i ≤ m) (sA : SortedIn lt a m d) (hr : Rot i m b d dk)
    (hY : ∀ t, a ≤ t → t < i → lt d[m]! d[t]! = false) (hZ : ∀ t, i ≤ t → t < m → lt d[m]! d[t]! = true) : Kept nm a b d dk ∧ SortedIn lt a b dk := by
  have sB : SortedIn lt m b d := sorted_none m b d (by omega)
  obtain ⟨p1, _, p3, _⟩ := parts (lt := lt) h1 h2 (by omega) (Nat.le_refl b) rfl sA sB hr
  refine join hO hn h1 h2 (by omega) (Nat.le_refl b) rfl sA sB hr (fun p q q1 q2 q3 q4 => ?_) (fun p q _ _ q3 q4 => absurd q4 (by omega)) (Kept.refl _ _ _) ?_ (Kept.refl _ _ _) p3
  · obtain rfl : p = m := by omega
    exact hZ q q3 q4
  · intro p q q1 q2 q3
    rcases Nat.lt_or_ge q i with h | h
    · exact p1 p q q1 q2 h
    · have e1 : dk[q]! = d[m]! := by rw [hr.2, if_pos (by omega)]; congr 1; omega
      have e2 : dk[p]! = d[p]! := by rw [hr.2, if_neg (by omega), if_neg (by omega)]
      rw [e1, e2]
      exact hY p q1 (by omega)
/-- the blocks of c places that begin ahead of x are sorted. -/
def Blk (lt : α → α → Bool) (c n x : Nat) (d : Array α) : Prop := ∀ y, c ∣ y → y < x → SortedIn lt y (min (y + c) n) d
/-- .. those that begin from x on. -/
def Rest (lt : α → α → Bool) (c n x : Nat) (d : Array α) : Prop := ∀ y, c ∣ y → x ≤ y → y < n → SortedIn lt y (min (y + c) n) d
theorem dvd_le {c x y : Nat} (hx : c ∣ x) (hy : c ∣ y) (h : y < x + c) : y ≤ x := by
  rcases Nat.lt_or_ge x y with h1 | h1
  · have h2 := Nat.le_of_dvd (by omega) (Nat.dvd_sub hy hx)
    omega
  · exact h1
theorem dvd_lt {c x y : Nat} (hx : c ∣ x) (hy : c ∣ y) (h : y < x) : y + c ≤ x := by
  have h2 := Nat.le_of_dvd (by omega) (Nat.dvd_sub hx hy)
  omega
theorem blk_step {c n x : Nat} {d d1 : Array α} (hx : c ∣ x) (hxn : x + c ≤ n) (h : Blk lt c n x d) (k : Kept nm x (x + c) d d1) (s : SortedIn lt x (x + c) d1) : Blk lt c n (x + c) d1 := fun y hy hl => by
  rcases Nat.lt_or_ge y x with h1 | h1
  · have h2 := dvd_lt hx hy h1
    exact sorted_of (h y hy h1) (Nat.le_refl _) (Nat.le_refl _) fun i _ hi => k.out i (by omega)
  · obtain rfl : y = x := by have := dvd_le hx hy hl; omega
    rw [Nat.min_eq_left hxn]
    exact s
theorem blk_last {c n x : Nat} {d d1 : Array α} (hx : c ∣ x) (hnx : n ≤ x + c) (h : Blk lt c n x d) (k : Kept nm x n d d1) (s : SortedIn lt x n d1) : Blk lt c n n d1 := fun y hy hl => by
  rcases Nat.lt_or_ge y x with h1 | h1
  · have h2 := dvd_lt hx hy h1
    exact sorted_of (h y hy h1) (Nat.le_refl _) (Nat.le_refl _) fun i _ hi => k.out i (by omega)
  · rcases Nat.lt_or_ge y (x + c) with h2 | h2
    · obtain rfl : y = x := by have := dvd_le hx hy h2; omega
      rw [Nat.min_eq_right hnx]
      exact s
    · exact absurd hl (by omega)
theorem rest_step {c n x : Nat} {d d1 : Array α} (h : Rest lt c n x d) (k : Kept nm x (x + 2 * c) d d1) : Rest lt c n (x + 2 * c) d1 := fun y hy h1 h2 =>
  sorted_of (h y hy (by omega) h2) (Nat.le_refl _) (Nat.le_refl _) fun i hi _ => k.out i (by omega)
theorem blk_rest {c n : Nat} {d : Array α} (h : Blk lt c n n d) : Rest lt c n 0 d := fun _ hy _ h2 => h _ hy h2
theorem blk_none (c n : Nat) (d : Array α) : Blk lt c n 0 d := fun _ _ h => absurd h (Nat.not_lt_zero _)
theorem blk_whole {c n : Nat} {d : Array α} (h : Blk lt c n n d) (hc : n ≤ c) : SortedIn lt 0 n d := by
  rcases Nat.eq_zero_or_pos n with h0 | h0
  · subst h0; intro i j _ _ hj; exact absurd hj (Nat.not_lt_zero _)
  · have := h 0 (Nat.dvd_zero c) h0
    rw [Nat.zero_add, Nat.min_eq_right hc] at this
    exact this
theorem dvd_two {c x : Nat} (h : 2 * c ∣ x) : c ∣ x := Nat.dvd_trans (Nat.dvd_mul_left c 2) h
end
end St
end Go.Proofs.Ytcboeehmhpkodaa
