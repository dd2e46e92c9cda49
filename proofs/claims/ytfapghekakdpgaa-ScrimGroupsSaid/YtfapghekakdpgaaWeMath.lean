/- Plain facts on weaving: lists without repeats, places, the steps that change one list into another. -/
import Derived.Test.YtfapghekakdpgaaLiMath
namespace Go.Proofs.Ytfapghekakdpgaa
namespace We
def at' (l : List Int) (i : Nat) : Int := l.getD i 0
theorem at_eq (l : List Int) (i : Nat) (h : i < l.length) : at' l i = l[i] := by simp [at', h]
/-! each number once -/
def onceStep (acc : List Int) (x : Int) : List Int := if x ∈ acc then acc else acc ++ [x]
def once (l : List Int) : List Int := l.foldl onceStep []
theorem once_next (l : List Int) (k : Nat) (h : k < l.length) : once (l.take (k + 1)) = onceStep (once (l.take k)) (at' l k) := by
  unfold once
  rw [List.take_succ_eq_append_getElem h, List.foldl_append, at_eq l k h]
  rfl
theorem onceStep_mem (acc : List Int) (x y : Int) : y ∈ onceStep acc x ↔ y ∈ acc ∨ y = x := by
  unfold onceStep
  split
  · constructor
    · exact .inl
    · rintro (h | rfl) <;> assumption
  · simp
theorem onceStep_nodup {acc : List Int} (h : acc.Nodup) (x : Int) : (onceStep acc x).Nodup := by
  unfold onceStep
  split
  · exact h
  · rename_i hx
    refine List.nodup_append.2 ⟨h, by simp, fun a ha b hb e => ?_⟩
    simp at hb
    subst hb e
    exact hx ha
theorem foldl_nodup : ∀ (l acc : List Int), acc.Nodup → (l.foldl onceStep acc).Nodup
  | [], _, h => h
  | x :: l, _, h => foldl_nodup l _ (onceStep_nodup h x)
theorem once_nodup (l : List Int) : (once l).Nodup := foldl_nodup l [] List.nodup_nil
theorem foldl_mem : ∀ (l acc : List Int) (y : Int), y ∈ l.foldl onceStep acc ↔ y ∈ acc ∨ y ∈ l
  | [], acc, y => by simp
  | x :: l, acc, y => by
    rw [List.foldl_cons, foldl_mem l, onceStep_mem]
    simp only [List.mem_cons]
    constructor
    · rintro ((h | h) | h)
      · exact .inl h
      · exact .inr (.inl h)
      · exact .inr (.inr h)
    · rintro (h | h | h)
      · exact .inl (.inl h)
      · exact .inl (.inr h)
      · exact .inr h
theorem once_mem (l : List Int) (y : Int) : y ∈ once l ↔ y ∈ l := by unfold once; rw [foldl_mem]; simp
theorem foldl_len : ∀ (l acc : List Int), (l.foldl onceStep acc).length ≤ acc.length + l.length
  | [], acc => by simp
  | x :: l, acc => by
    have h1 := foldl_len l (onceStep acc x)
    have h2 : (onceStep acc x).length ≤ acc.length + 1 := by unfold onceStep; split <;> simp
    rw [List.foldl_cons, List.length_cons]
    omega
theorem once_len (l : List Int) : (once l).length ≤ l.length := by have := foldl_len l []; simpa [once] using this
theorem foldl_once : ∀ (l acc : List Int), (acc ++ l).Nodup → l.foldl onceStep acc = acc ++ l
  | [], acc, _ => by simp
  | x :: l, acc, h => by
    have hx : ¬ x ∈ acc := fun hx => (List.nodup_append.1 h).2.2 x hx x (by simp) rfl
    have e : onceStep acc x = acc ++ [x] := by unfold onceStep; rw [if_neg hx]
    rw [List.foldl_cons, e, foldl_once l (acc ++ [x]) (by simpa using h)]
    simp
theorem once_of_nodup {l : List Int} (h : l.Nodup) : once l = l := by unfold once; rw [foldl_once l [] (by simpa using h)]; simp
/-! places -/
def ix : List Int → Int → Nat
  | [], _ => 0
  | a :: l, x => if a = x then 0 else ix l x + 1
theorem ix_lt : ∀ {l : List Int} {x : Int}, x ∈ l → ix l x < l.length
  | a :: l, x, h => by
    unfold ix
    by_cases e : a = x
    · rw [if_pos e]; simp
    · rw [if_neg e]
      have := ix_lt (l := l) (x := x) (by rcases List.mem_cons.1 h with h | h; exact absurd h.symm e; exact h)
      simp; omega
theorem get_ix : ∀ {l : List Int} {x : Int}, x ∈ l → at' l (ix l x) = x
  | a :: l, x, h => by
    unfold ix
    by_cases e : a = x
    · rw [if_pos e]; exact e
    · rw [if_neg e]
      exact get_ix (l := l) (x := x) (by rcases List.mem_cons.1 h with h | h; exact absurd h.symm e; exact h)
theorem ix_none : ∀ {l : List Int} {x : Int}, ¬ x ∈ l → ix l x = l.length
  | [], _, _ => rfl
  | a :: l, x, h => by
    unfold ix
    rw [if_neg (fun e => h (by rw [e]; simp)), ix_none (fun hx => h (by simp [hx]))]
    rfl
theorem at_mem {l : List Int} {i : Nat} (h : i < l.length) : at' l i ∈ l := by rw [at_eq l i h]; exact List.getElem_mem _
theorem nodup_at {l : List Int} (h : l.Nodup) {i j : Nat} (hi : i < l.length) (hj : j < l.length) (e : at' l i = at' l j) : i = j := by
  rw [at_eq l i hi, at_eq l j hj] at e
  have hp := List.pairwise_iff_getElem.1 h
  rcases Nat.lt_trichotomy i j with h1 | h1 | h1
  · exact absurd e (hp i j hi hj h1)
  · exact h1
  · exact absurd e.symm (hp j i hj hi h1)
theorem ix_at {l : List Int} (h : l.Nodup) {i : Nat} (hi : i < l.length) : ix l (at' l i) = i := nodup_at h (ix_lt (at_mem hi)) hi (get_ix (at_mem hi))
theorem ix_app_left : ∀ {l : List Int} {x : Int} (r : List Int), x ∈ l → ix (l ++ r) x = ix l x
  | a :: l, x, r, h => by
    show ix (a :: (l ++ r)) x = _
    unfold ix
    by_cases e : a = x
    · rw [if_pos e, if_pos e]
    · rw [if_neg e, if_neg e, ix_app_left r (by rcases List.mem_cons.1 h with h | h; exact absurd h.symm e; exact h)]
theorem ix_app_right : ∀ {l : List Int} {x : Int} (r : List Int), ¬ x ∈ l → ix (l ++ r) x = l.length + ix r x
  | [], _, r, _ => by simp
  | a :: l, x, r, h => by
    show ix (a :: (l ++ r)) x = _
    unfold ix
    rw [if_neg (fun e => h (by rw [e]; simp)), ix_app_right r (fun hx => h (by simp [hx]))]
    cases r with
    | nil => simp [ix]
    | cons b r => simp only [List.length_cons, ix]; split <;> omega
theorem mem_take_lt {l : List Int} (h : l.Nodup) {i : Nat} {x : Int} (hi : i ≤ l.length) : x ∈ l.take i ↔ x ∈ l ∧ ix l x < i := by
  constructor
  · intro hx
    obtain ⟨j, hj, e⟩ := List.mem_iff_getElem.1 hx
    simp at hj
    have hjl : j < l.length := by omega
    have e2 : at' l j = x := by rw [at_eq l j hjl, ← e]; simp
    exact ⟨List.mem_of_mem_take hx, by rw [← e2, ix_at h hjl]; omega⟩
  · rintro ⟨h1, h2⟩
    have h3 := get_ix h1
    rw [at_eq l _ (ix_lt h1)] at h3
    rw [← h3]
    have : (l.take i)[ix l x]'(by have := ix_lt h1; simp; omega) = l[ix l x]'(ix_lt h1) := by simp
    rw [← this]
    exact List.getElem_mem _
theorem take_next {l : List Int} {k : Nat} (h : k < l.length) : l.take (k + 1) = l.take k ++ [at' l k] := by rw [List.take_succ_eq_append_getElem h, at_eq l k h]
theorem drop_next {l : List Int} {k : Nat} (h : k < l.length) : l.drop k = at' l k :: l.drop (k + 1) := by rw [List.drop_eq_getElem_cons h, at_eq l k h]
/-! the two lists' common numbers, and which of them stay -/
def comm (a b : List Int) : List Int := b.filter (· ∈ a)
def olds (a b : List Int) : List Int := (comm a b).map fun x => (ix a x : Int)
theorem comm_mem {a b : List Int} {x : Int} : x ∈ comm a b ↔ x ∈ b ∧ x ∈ a := by simp [comm]
theorem comm_nodup {a b : List Int} (hb : b.Nodup) : (comm a b).Nodup := hb.filter _
theorem olds_len (a b : List Int) : (olds a b).length = (comm a b).length := by simp [olds]
theorem olds_at {a b : List Int} {i : Nat} (h : i < (comm a b).length) : at' (olds a b) i = (ix a (at' (comm a b) i) : Int) := by
  rw [at_eq _ _ (by rw [olds_len]; exact h), at_eq _ _ h]
  simp [olds]
/-- the numbers that stay, by the row r of places among the common ones -/
def stayIds (a b : List Int) (r : List Nat) : List Int := r.map fun i => at' (comm a b) i
/-- what is asked of the row: its places are places, and rise, with the old places there. -/
def Rises (a b : List Int) (r : List Nat) : Prop := (∀ i ∈ r, i < (comm a b).length) ∧ ∀ k m, k < m → m < r.length → r.getD k 0 < r.getD m 0 ∧ ix a (at' (comm a b) (r.getD k 0)) < ix a (at' (comm a b) (r.getD m 0))
theorem filter_ix : ∀ {b : List Int} (p : Int → Bool), b.Nodup → ∀ {x y : Int}, x ∈ b → y ∈ b → p x = true → p y = true → (ix (b.filter p) x < ix (b.filter p) y ↔ ix b x < ix b y)
  | [], p, _, x, y, hx, _, _, _ => by cases hx
  | c :: b, p, hn, x, y, hx, hy, px, py => by
    have hn2 := (List.nodup_cons.1 hn)
    by_cases hc : p c = true
    · rw [List.filter_cons_of_pos hc]
      unfold ix
      by_cases ex : c = x
      · by_cases ey : c = y
        · rw [if_pos ex, if_pos ey, if_pos ex, if_pos ey]
        · rw [if_pos ex, if_neg ey, if_pos ex, if_neg ey]; omega
      · by_cases ey : c = y
        · rw [if_neg ex, if_pos ey, if_neg ex, if_pos ey]; omega
        · rw [if_neg ex, if_neg ey, if_neg ex, if_neg ey]
          have := filter_ix p hn2.2 (x := x) (y := y) (by rcases List.mem_cons.1 hx with h | h; exact absurd h.symm ex; exact h) (by rcases List.mem_cons.1 hy with h | h; exact absurd h.symm ey; exact h) px py
          omega
    · rw [List.filter_cons_of_neg hc]
      have ex : ¬ c = x := fun e => hc (e ▸ px)
      have ey : ¬ c = y := fun e => hc (e ▸ py)
      conv => rhs; unfold ix
      rw [if_neg ex, if_neg ey]
      have := filter_ix p hn2.2 (x := x) (y := y) (by rcases List.mem_cons.1 hx with h | h; exact absurd h.symm ex; exact h) (by rcases List.mem_cons.1 hy with h | h; exact absurd h.symm ey; exact h) px py
      omega
/-- those that stay stand in the same order in both lists. -/
theorem stay_order {a b : List Int} {r : List Nat} (hb : b.Nodup) (hr : Rises a b r) {x y : Int} (hx : x ∈ stayIds a b r) (hy : y ∈ stayIds a b r) (h : ix b x < ix b y) : ix a x < ix a y := by
  unfold stayIds at hx hy
  rw [List.mem_map] at hx hy
  obtain ⟨i, hi, rfl⟩ := hx
  obtain ⟨j, hj, rfl⟩ := hy
  have hil := hr.1 i hi
  have hjl := hr.1 j hj
  have hmi := comm_mem.1 (at_mem hil)
  have hmj := comm_mem.1 (at_mem hjl)
  have h1 := (filter_ix (b := b) (fun x => decide (x ∈ a)) hb hmi.1 hmj.1 (by simp [hmi.2]) (by simp [hmj.2])).2 h
  have h2 : ix (comm a b) (at' (comm a b) i) < ix (comm a b) (at' (comm a b) j) := h1
  rw [ix_at (comm_nodup hb) hil, ix_at (comm_nodup hb) hjl] at h2
  obtain ⟨k, hk, rfl⟩ := List.mem_iff_getElem.1 hi
  obtain ⟨m, hm, rfl⟩ := List.mem_iff_getElem.1 hj
  have gk : r.getD k 0 = r[k] := by simp [hk]
  have gm : r.getD m 0 = r[m] := by simp [hm]
  rcases Nat.lt_trichotomy k m with hkm | hkm | hkm
  · have := (hr.2 k m hkm hm).2
    rw [gk, gm] at this
    exact this
  · subst hkm; omega
  · have := (hr.2 m k hkm hk).1
    rw [gk, gm] at this
    omega
/-! the steps, from the last one to the first one -/
abbrev Stp := Int × Int × Int
/-- where the first of those that stay, from place i of b on, stood in a -/
def limD (a b : List Int) (s : List Int) : Nat → Nat
  | 0 => a.length
  | j + 1 => let x := at' b (b.length - 1 - j); if x ∈ s then ix a x else limD a b s j
/-- .. as a function of i = |b| - j -/
def lim (a b s : List Int) (i : Nat) : Nat := limD a b s (b.length - i)
theorem lim_end (a b s : List Int) : lim a b s b.length = a.length := by unfold lim; rw [Nat.sub_self]; rfl
theorem lim_next (a b s : List Int) {i : Nat} (h : i < b.length) : lim a b s i = if at' b i ∈ s then ix a (at' b i) else lim a b s (i + 1) := by
  unfold lim
  rw [show b.length - i = (b.length - (i + 1)) + 1 by omega]
  show (if at' b (b.length - 1 - (b.length - (i + 1))) ∈ s then _ else _) = _
  rw [show b.length - 1 - (b.length - (i + 1)) = i by omega]
theorem lim_le {a b s : List Int} (hs : ∀ x ∈ s, x ∈ a) : ∀ j, limD a b s j ≤ a.length
  | 0 => Nat.le_refl _
  | j + 1 => by
    show (if _ then _ else _) ≤ _
    split
    · rename_i h; exact Nat.le_of_lt (ix_lt (hs _ h))
    · exact lim_le hs j
/-- the ones ahead of the limit that are still to be processed -/
def ahd (a b s : List Int) (i m : Nat) : List Int := (a.take (lim a b s i)).filter (· ∈ b.take m)
def cnt (a b s : List Int) (i : Nat) : Nat := (ahd a b s (i + 1) i).length
def stepOf (a b s : List Int) (i : Nat) : List Stp :=
  let n := at' b i
  if n ∈ a then (if n ∈ s then [] else [(3, n, (cnt a b s i : Int))]) else [(2, n, (cnt a b s i : Int))]
def sfx (a b s : List Int) : Nat → List Stp
  | 0 => []
  | j + 1 => sfx a b s j ++ stepOf a b s (b.length - 1 - j)
def dropsOf (a b : List Int) : List Stp := (a.filter (fun x => decide (¬ x ∈ b))).map fun x => (1, x, 0)
def steps (a b s : List Int) : List Stp := dropsOf a b ++ sfx a b s b.length
theorem lim_stay {a b : List Int} {r : List Nat} (hb : b.Nodup) (hr : Rises a b r) {i : Nat} (hi : i < b.length) (hs : at' b i ∈ stayIds a b r) : ix a (at' b i) < lim a b (stayIds a b r) (i + 1) := by
  have key : ∀ j, j ≤ b.length - (i + 1) → ix a (at' b i) < limD a b (stayIds a b r) j := by
    intro j
    induction j with
    | zero =>
      intro _
      refine ix_lt ?_
      unfold stayIds at hs
      rw [List.mem_map] at hs
      obtain ⟨k, hk, e⟩ := hs
      rw [← e]
      exact (comm_mem.1 (at_mem (hr.1 k hk))).2
    | succ j ih =>
      intro hj
      show _ < (if _ then _ else _)
      split
      · rename_i h
        exact stay_order hb hr hs h (by rw [ix_at hb hi, ix_at hb (by omega)]; omega)
      · exact ih (by omega)
  exact key _ (Nat.le_refl _)
theorem mem_take_next {b : List Int} {i : Nat} (hi : i < b.length) (x : Int) : x ∈ b.take (i + 1) ↔ x ∈ b.take i ∨ x = at' b i := by
  rw [take_next hi]
  simp
theorem not_mem_take {b : List Int} (hb : b.Nodup) {i : Nat} (hi : i < b.length) : ¬ at' b i ∈ b.take i := fun h => by
  have := ((mem_take_lt hb (by omega)).1 h).2
  rw [ix_at hb hi] at this
  omega
/-- a number is taken out of those that are ahead. -/
theorem filter_out : ∀ {l : List Int} (p q : Int → Bool) {n : Int}, (∀ x, p x = true ↔ q x = true ∨ x = n) → q n = false → l.filter q = (l.filter p).filter (· ≠ n)
  | [], _, _, _, _, _ => rfl
  | c :: l, p, q, n, h, hn => by
    by_cases hc : c = n
    · subst hc
      rw [List.filter_cons_of_neg (by simp [hn]), List.filter_cons_of_pos ((h c).2 (.inr rfl)), List.filter_cons_of_neg (by simp), filter_out p q h hn]
    · by_cases hq : q c = true
      · rw [List.filter_cons_of_pos hq, List.filter_cons_of_pos ((h c).2 (.inl hq)), List.filter_cons_of_pos (by simpa using hc), filter_out p q h hn]
      · have hp : ¬ p c = true := fun hp => by rcases (h c).1 hp with h1 | h1; exact hq h1; exact hc h1
        rw [List.filter_cons_of_neg hq, List.filter_cons_of_neg hp, filter_out p q h hn]
def without (l : List Int) (n : Int) : List Int := l.filter (· ≠ n)
theorem without_app (l r : List Int) (n : Int) : without (l ++ r) n = without l n ++ without r n := by simp [without]
theorem without_none {l : List Int} {n : Int} (h : ¬ n ∈ l) : without l n = l := by
  unfold without
  rw [List.filter_eq_self]
  intro x hx
  simp only [decide_eq_true_eq]
  exact fun e => h (e ▸ hx)
theorem ahd_out {a b s : List Int} (hb : b.Nodup) {i m : Nat} (hm : m < b.length) : ahd a b s i m = without (ahd a b s i (m + 1)) (at' b m) := by
  unfold ahd without
  refine filter_out _ _ (fun x => ?_) ?_
  · simp only [decide_eq_true_eq]
    exact mem_take_next hm x
  · simp only [decide_eq_false_iff_not]
    exact not_mem_take hb hm
theorem ahd_mem {a b s : List Int} {i m : Nat} {x : Int} (h : x ∈ ahd a b s i m) : x ∈ a ∧ x ∈ b.take m := by
  unfold ahd at h
  rw [List.mem_filter] at h
  exact ⟨List.mem_of_mem_take h.1, by simpa using h.2⟩
theorem ahd_zero (a b s : List Int) (i : Nat) : ahd a b s i 0 = [] := by simp [ahd]
theorem drop_apart {b : List Int} (hb : b.Nodup) {i : Nat} {x : Int} (h1 : x ∈ b.take i) : ¬ x ∈ b.drop i := fun h2 => by
  have hnd := hb
  rw [← List.take_append_drop i b] at hnd
  exact (List.nodup_append.1 hnd).2.2 x h1 x h2 rfl
theorem not_mem_drop {b : List Int} (hb : b.Nodup) {i : Nat} (hi : i < b.length) : ¬ at' b i ∈ b.drop (i + 1) := fun hm => by
  have hnd := hb
  rw [← List.take_append_drop i b, drop_next hi] at hnd
  exact (List.nodup_cons.1 (List.nodup_append.1 hnd).2.1).1 hm
theorem fd1 {b : List Int} {i : Nat} (hi : i < b.length) {l : List Int} (hn : ¬ at' b i ∈ l) : l.filter (· ∈ b.drop i) = l.filter (· ∈ b.drop (i + 1)) := by
  apply List.filter_congr
  intro x hx
  rw [decide_eq_decide, drop_next hi]
  simp only [List.mem_cons]
  constructor
  · rintro (h | h)
    · exact absurd (h ▸ hx) hn
    · exact h
  · exact .inr
theorem fd2 {b : List Int} (hb : b.Nodup) {i : Nat} (hi : i < b.length) (l : List Int) : (without l (at' b i)).filter (· ∈ b.drop (i + 1)) = l.filter (· ∈ b.drop (i + 1)) := by
  unfold without
  rw [List.filter_filter]
  apply List.filter_congr
  intro x _
  by_cases hx : x = at' b i
  · subst hx; simp [not_mem_drop hb hi]
  · simp [hx]
theorem fd3 {b : List Int} (hb : b.Nodup) {i : Nat} {l : List Int} (h : ∀ x ∈ l, x ∈ b.take i) : l.filter (· ∈ b.drop i) = [] := by
  rw [List.filter_eq_nil_iff]
  intro x hx
  simp only [decide_eq_true_eq]
  exact drop_apart hb (h x hx)
theorem fd3' {b : List Int} (hb : b.Nodup) {i : Nat} {l : List Int} (hi : i < b.length) (h : ∀ x ∈ l, x ∈ b.take i) : l.filter (· ∈ b.drop (i + 1)) = [] := by
  rw [List.filter_eq_nil_iff]
  intro x hx
  simp only [decide_eq_true_eq]
  exact drop_apart hb ((mem_take_next hi x).2 (.inl (h x hx)))
theorem without_no (l : List Int) (n : Int) : ¬ n ∈ without l n := by simp [without]
/-- what the list is like when the numbers from place i of b on are processed. -/
structure Now (a b s : List Int) (i : Nat) (now : List Int) : Prop where
  shape : ∃ rest, now = ahd a b s i i ++ rest ∧ (∀ _ : i < b.length, ∃ t, rest = at' b i :: t) ∧ (i = b.length → rest = [])
  done : now.filter (· ∈ b.drop i) = b.drop i
  subset : ∀ x ∈ now, x ∈ b
  nodup : now.Nodup
theorem Now.start {a b s : List Int} (ha : a.Nodup) : Now a b s b.length (a.filter (· ∈ b)) := by
  refine ⟨⟨[], ?_, fun h => absurd h (Nat.lt_irrefl _), fun _ => rfl⟩, ?_, ?_, ha.filter _⟩
  · unfold ahd
    rw [lim_end]
    simp
  · simp
  · intro x hx
    simpa using (List.mem_filter.1 hx).2
theorem Now.fin {a b s now : List Int} (h : Now a b s 0 now) : now = b := by
  have h1 := h.done
  simp only [List.drop_zero] at h1
  rw [List.filter_eq_self.2 (fun x hx => by simpa using h.subset x hx)] at h1
  exact h1
/-- where the next one goes. -/
theorem Now.place {a b s now : List Int} {i : Nat} (hb : b.Nodup) (hi : i < b.length) (h : Now a b s (i + 1) now) (now' : List Int) (hn : now' = without now (at' b i)) : 
    (∃ rest, now' = ahd a b s (i + 1) i ++ rest ∧ (i + 1 < b.length → ∃ t, rest = at' b (i + 1) :: t) ∧ (i + 1 = b.length → rest = [])) := by
  obtain ⟨rest, h1, h2, h3⟩ := h.shape
  refine ⟨without rest (at' b i), ?_, fun h4 => ?_, fun h4 => ?_⟩
  · rw [hn, h1, without_app, ahd_out hb hi]
  · obtain ⟨t, ht⟩ := h2 h4
    refine ⟨without t (at' b i), ?_⟩
    rw [ht]
    unfold without
    rw [List.filter_cons_of_pos]
    simp only [decide_eq_true_eq]
    exact fun e => by have := nodup_at hb h4 hi e; omega
  · rw [h3 h4]; rfl
theorem Now.at_is {a b s now : List Int} {i : Nat} (hb : b.Nodup) (hi : i < b.length) (h : Now a b s (i + 1) now) (now' : List Int) (hn : now' = without now (at' b i)) :
    (i + 1 = b.length → now'.length = cnt a b s i) ∧ (i + 1 < b.length → at' b (i + 1) ∈ now' ∧ ix now' (at' b (i + 1)) = cnt a b s i) ∧ cnt a b s i ≤ now'.length := by
  obtain ⟨rest, h1, h2, h3⟩ := h.place hb hi now' hn
  refine ⟨fun h4 => ?_, fun h4 => ?_, ?_⟩
  · rw [h1, h3 h4]; simp [cnt]
  · obtain ⟨t, ht⟩ := h2 h4
    subst ht
    have hno : ¬ at' b (i + 1) ∈ ahd a b s (i + 1) i := fun hm => by
      have := ((mem_take_lt hb (by omega)).1 (ahd_mem hm).2).2
      rw [ix_at hb h4] at this
      omega
    refine ⟨by rw [h1]; simp, ?_⟩
    rw [h1, ix_app_right _ hno]
    simp [ix, cnt]
  · rw [h1]; simp [cnt]
/-- one is put where it belongs. -/
theorem Now.put {a b s now : List Int} {i : Nat} (hb : b.Nodup) (hi : i < b.length) (h : Now a b s (i + 1) now) (now' : List Int) (hn : now' = without now (at' b i)) (hs : ¬ at' b i ∈ s) :
    Now a b s i (now'.take (cnt a b s i) ++ at' b i :: now'.drop (cnt a b s i)) := by
  obtain ⟨rest, h1, h2, h3⟩ := h.place hb hi now' hn
  have hl : lim a b s i = lim a b s (i + 1) := by rw [lim_next a b s hi, if_neg hs]
  have e1 : ahd a b s (i + 1) i = ahd a b s i i := by unfold ahd; rw [hl]
  have ht : now'.take (cnt a b s i) = ahd a b s i i := by rw [h1]; unfold cnt; rw [List.take_left' rfl, e1]
  have hd : now'.drop (cnt a b s i) = rest := by rw [h1]; unfold cnt; rw [List.drop_left' rfl]
  have hno : ¬ at' b i ∈ now' := by rw [hn]; exact without_no _ _
  have hnd : now'.Nodup := by rw [hn]; exact h.nodup.filter _
  refine ⟨⟨at' b i :: rest, by rw [ht, hd], fun _ => ⟨rest, rfl⟩, fun h => by omega⟩, ?_, ?_, ?_⟩
  · rw [List.filter_append, List.filter_cons_of_pos (by rw [drop_next hi]; simp)]
    have e2 : (now'.take (cnt a b s i)).filter (· ∈ b.drop i) ++ (now'.drop (cnt a b s i)).filter (· ∈ b.drop i) = b.drop (i + 1) := by
      rw [← List.filter_append, List.take_append_drop, fd1 hi hno, hn, fd2 hb hi, h.done]
    have e3 : (now'.take (cnt a b s i)).filter (· ∈ b.drop i) = [] := by
      rw [ht]
      exact fd3 hb fun x hx => (ahd_mem hx).2
    rw [e3, List.nil_append] at e2
    rw [e3, List.nil_append, e2, drop_next hi]
  · intro x hx
    rcases List.mem_append.1 hx with h4 | h4
    · have := List.mem_of_mem_take h4
      rw [hn] at this
      exact h.subset x (List.mem_filter.1 this).1
    · rcases List.mem_cons.1 h4 with h4 | h4
      · rw [h4]; exact at_mem hi
      · have := List.mem_of_mem_drop h4
        rw [hn] at this
        exact h.subset x (List.mem_filter.1 this).1
  · have h6 := hnd
    rw [← List.take_append_drop (cnt a b s i) now'] at h6
    obtain ⟨h7, h8, h9⟩ := List.nodup_append.1 h6
    refine List.nodup_append.2 ⟨h7, List.nodup_cons.2 ⟨fun h => hno (List.mem_of_mem_drop h), h8⟩, fun x hx y hy e => ?_⟩
    rcases List.mem_cons.1 hy with hy | hy
    · exact hno (by rw [← hy, ← e]; exact List.mem_of_mem_take hx)
    · exact h9 x hx y hy e
/-- one stays. -/
theorem Now.stay {a b s now : List Int} {i : Nat} (ha : a.Nodup) (hb : b.Nodup) (hi : i < b.length) (h : Now a b s (i + 1) now) (hs : at' b i ∈ s) (hsa : at' b i ∈ a) (hlt : ix a (at' b i) < lim a b s (i + 1)) (hle : lim a b s (i + 1) ≤ a.length) : Now a b s i now := by
  obtain ⟨rest, h1, h2, h3⟩ := h.shape
  have hl : lim a b s i = ix a (at' b i) := by rw [lim_next a b s hi, if_pos hs]
  have hp := ix_lt hsa
  have hsplit : a.take (lim a b s (i + 1)) = a.take (ix a (at' b i)) ++ at' b i :: (a.take (lim a b s (i + 1))).drop (ix a (at' b i) + 1) := by
    have e1 : ix a (at' b i) < (a.take (lim a b s (i + 1))).length := by simp; omega
    have e2 := drop_next e1
    have e3 : at' (a.take (lim a b s (i + 1))) (ix a (at' b i)) = at' b i := by
      rw [at_eq _ _ e1]
      simp only [List.getElem_take]
      rw [← at_eq a _ hp, get_ix hsa]
    rw [e3] at e2
    rw [← e2]
    have e4 : a.take (ix a (at' b i)) = (a.take (lim a b s (i + 1))).take (ix a (at' b i)) := by rw [List.take_take, Nat.min_eq_left (by omega)]
    rw [e4, List.take_append_drop]
  obtain ⟨D, hD⟩ : ∃ D, D = (a.take (lim a b s (i + 1))).drop (ix a (at' b i) + 1) := ⟨_, rfl⟩
  rw [← hD] at hsplit
  have e5 : ahd a b s (i + 1) (i + 1) = ahd a b s i i ++ at' b i :: D.filter (· ∈ b.take (i + 1)) := by
    unfold ahd
    rw [hsplit, List.filter_append, List.filter_cons_of_pos (by simp [mem_take_next hi]), hl]
    congr 1
    apply List.filter_congr
    intro x hx
    rw [decide_eq_decide, mem_take_next hi]
    constructor
    · rintro (h | h)
      · exact h
      · subst h
        have := ((mem_take_lt ha (by omega)).1 hx).2
        omega
    · exact .inl
  have e6 : now = ahd a b s i i ++ at' b i :: (D.filter (· ∈ b.take (i + 1)) ++ rest) := by rw [h1, e5]; simp
  refine ⟨⟨at' b i :: (D.filter (· ∈ b.take (i + 1)) ++ rest), e6, fun _ => ⟨_, rfl⟩, fun h => by omega⟩, ?_, h.subset, h.nodup⟩
  have hno : ¬ at' b i ∈ D.filter (· ∈ b.take (i + 1)) ++ rest := by
    have := h.nodup
    rw [e6] at this
    exact (List.nodup_cons.1 (List.nodup_append.1 this).2.1).1
  have h9 := h.done
  rw [e6] at h9 ⊢
  rw [List.filter_append, fd3' hb hi (fun x hx => (ahd_mem hx).2), List.nil_append, List.filter_cons_of_neg (by simpa using not_mem_drop hb hi)] at h9
  rw [List.filter_append, fd3 hb (fun x hx => (ahd_mem hx).2), List.nil_append, List.filter_cons_of_pos (by rw [drop_next hi]; simp), fd1 hi hno, h9, drop_next hi]
/-! what the program counts -/
/-- of the ones ahead of the limit, one less, if the one that is taken stood there. -/
theorem ahd_take {a b s : List Int} (ha : a.Nodup) (hb : b.Nodup) {i : Nat} (hi : i < b.length) (hle : lim a b s (i + 1) ≤ a.length) (hna : at' b i ∈ a) :
    (ahd a b s (i + 1) (i + 1)).length = cnt a b s i + if ix a (at' b i) < lim a b s (i + 1) then 1 else 0 := by
  unfold cnt
  rw [ahd_out hb hi]
  have hnd : (ahd a b s (i + 1) (i + 1)).Nodup := (List.Nodup.sublist (List.take_sublist _ _) ha).filter _
  have hmem : at' b i ∈ ahd a b s (i + 1) (i + 1) ↔ ix a (at' b i) < lim a b s (i + 1) := by
    unfold ahd
    rw [List.mem_filter, mem_take_lt ha hle]
    constructor
    · rintro ⟨h, _⟩; exact h.2
    · intro h; exact ⟨⟨hna, h⟩, by simp [mem_take_next hi]⟩
  have key : ∀ (l : List Int) (n : Int), l.Nodup → l.length = (without l n).length + if n ∈ l then 1 else 0 := by
    intro l n
    induction l with
    | nil => intro _; simp [without]
    | cons c l ih =>
      intro hl
      obtain ⟨h1, h2⟩ := List.nodup_cons.1 hl
      have h3 := ih h2
      by_cases hc : c = n
      · subst hc
        have e : without (c :: l) c = without l c := by unfold without; rw [List.filter_cons_of_neg (by simp)]
        rw [e, if_pos (by simp), List.length_cons, without_none h1]
      · have e : without (c :: l) n = c :: without l n := by unfold without; rw [List.filter_cons_of_pos (by simpa using hc)]
        rw [e, List.length_cons, List.length_cons, h3]
        by_cases hm : n ∈ l
        · rw [if_pos hm, if_pos (by simp [hm])]
        · rw [if_neg hm, if_neg (by simp [hm]; exact fun e => hc e.symm)]
  rw [key _ (at' b i) hnd]
  by_cases h : at' b i ∈ ahd a b s (i + 1) (i + 1)
  · rw [if_pos h, if_pos (hmem.1 h)]
  · rw [if_neg h, if_neg (fun h2 => h (hmem.2 h2))]
theorem ahd_not {a b s : List Int} (hb : b.Nodup) {i : Nat} (hi : i < b.length) (hna : ¬ at' b i ∈ a) : (ahd a b s (i + 1) (i + 1)).length = cnt a b s i := by
  unfold cnt
  rw [ahd_out hb hi, without_none (fun h => hna (ahd_mem h).1)]
theorem ahd_lim {a b s : List Int} {i : Nat} (hi : i < b.length) (hs : ¬ at' b i ∈ s) : (ahd a b s i i).length = cnt a b s i := by
  unfold cnt ahd
  rw [lim_next a b s hi, if_neg hs]
end We
end Go.Proofs.Ytfapghekakdpgaa
