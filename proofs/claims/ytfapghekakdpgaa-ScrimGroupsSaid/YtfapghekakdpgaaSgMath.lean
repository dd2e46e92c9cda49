/- Plain facts on the kids of a group: numbers woven with any others; what the map of all holds. -/
import Derived.Test.YtfapghekakdpgaaWeM2
import Derived.Test.YtfapghekakdpgaaGrW4
import Derived.Test.YtfapghekakdpgaaClW3
namespace Go.Proofs.Ytfapghekakdpgaa
open Go.RowKit We Gr
set_option linter.unusedVariables false
set_option linter.unusedSimpArgs false
namespace Sg
theorem nodup_inj {α : Type} {l : List α} (h : l.Nodup) {i j : Nat} (hi : i < l.length) (hj : j < l.length) (e : l[i] = l[j]) : i = j := by
  rw [List.nodup_iff_pairwise_ne] at h
  rcases Nat.lt_trichotomy i j with h1 | h1 | h1
  · exact absurd e ((List.pairwise_iff_getElem.mp h) i j hi hj h1)
  · exact h1
  · exact absurd e.symm ((List.pairwise_iff_getElem.mp h) j i hj hi h1)
section
variable {W L : List Int}
theorem ghK_mem {j : Nat} {x : Int} : ∀ k, k ≤ W.length → x ∈ ghK W L k j → x ∈ W.take k ∧ ¬ x ∈ L
  | 0, _, h => by cases h
  | k + 1, hk, h => by
    rw [We.take_next (show k < W.length by omega), List.mem_append, List.mem_singleton]
    by_cases hm : at' W k ∈ L
    · rw [ghK_in W L hm] at h
      obtain ⟨h1, h2⟩ := ghK_mem k (by omega) h
      exact ⟨.inl h1, h2⟩
    · rw [ghK_out W L hm] at h
      split at h
      · rcases List.mem_append.1 h with h | h
        · obtain ⟨h1, h2⟩ := ghK_mem k (by omega) h
          exact ⟨.inl h1, h2⟩
        · rw [List.mem_singleton.1 h]
          exact ⟨.inr rfl, hm⟩
      · obtain ⟨h1, h2⟩ := ghK_mem k (by omega) h
        exact ⟨.inl h1, h2⟩
theorem ghK_more {j k : Nat} : ∀ d, ∃ more, ghK W L (k + d) j = ghK W L k j ++ more
  | 0 => ⟨[], by simp⟩
  | d + 1 => by
    obtain ⟨more, h1⟩ := ghK_more (j := j) (k := k) d
    have e : k + (d + 1) = (k + d) + 1 := rfl
    rw [e]
    by_cases hm : at' W (k + d) ∈ L
    · rw [ghK_in W L hm]
      exact ⟨more, h1⟩
    · rw [ghK_out W L hm]
      split
      · exact ⟨more ++ [at' W (k + d)], by rw [h1, List.append_assoc]⟩
      · exact ⟨more, h1⟩
theorem flat_put {α : Type} (F : Nat → List α) (x : α) (f : Nat) : ∀ M, ((List.range M).flatMap (fun j => if j = f then F j ++ [x] else F j)).Perm (if f < M then (List.range M).flatMap F ++ [x] else (List.range M).flatMap F)
  | 0 => by simp
  | M + 1 => by
    have ih := flat_put F x f M
    rw [List.range_succ, List.flatMap_append, List.flatMap_append]
    simp only [List.flatMap_cons, List.flatMap_nil, List.append_nil]
    by_cases e : M = f
    · subst e
      rw [if_neg (by omega)] at ih
      rw [if_pos rfl, if_pos (by omega), ← List.append_assoc]
      exact (ih.append_right _).append_right _
    · rw [if_neg e]
      by_cases h : f < M
      · rw [if_pos h] at ih
        rw [if_pos (by omega)]
        refine (ih.append_right _).trans ?_
        rw [List.append_assoc, List.append_assoc]
        exact List.Perm.append_left _ List.perm_append_comm
      · rw [if_neg h] at ih
        rw [if_neg (by omega)]
        exact ih.append_right _
theorem cat_perm : ∀ k, k ≤ W.length → ((List.range (L.length + 1)).flatMap (ghK W L k)).Perm ((W.take k).filter (fun x => decide (¬ x ∈ L)))
  | 0, _ => by
    have e : (List.range (L.length + 1)).flatMap (ghK W L 0) = [] := by
      rw [List.flatMap_eq_nil_iff]
      intro j _
      rfl
    rw [e]
    exact List.Perm.refl []
  | k + 1, h => by
    have ih := cat_perm k (by omega)
    rw [We.take_next (show k < W.length by omega), List.filter_append]
    by_cases hm : at' W k ∈ L
    · have e : ghK W L (k + 1) = ghK W L k := by
        funext j
        exact ghK_in W L hm j
      rw [e]
      simpa [hm] using ih
    · have e : ghK W L (k + 1) = fun j => if j = folK W L k then ghK W L k j ++ [at' W k] else ghK W L k j := by
        funext j
        rw [ghK_out W L hm]
      rw [e]
      have hp := flat_put (ghK W L k) (at' W k) (folK W L k) (L.length + 1)
      rw [if_pos (by have := folK_le W L k; omega)] at hp
      refine hp.trans ?_
      have e2 : [at' W k].filter (fun x => decide (¬ x ∈ L)) = [at' W k] := by simp [hm]
      rw [e2]
      exact ih.append_right _
theorem mgK_perm (W : List Int) : ∀ m, m ≤ L.length → (mgK W L m).Perm (L.take m ++ (List.range (m + 1)).flatMap (ghK W L W.length))
  | 0, _ => by
    show (ghK W L W.length 0).Perm _
    simp
  | m + 1, h => by
    have ih := mgK_perm W m (by omega)
    show (mgK W L m ++ [at' L m] ++ ghK W L W.length (m + 1)).Perm _
    rw [We.take_next (by omega), List.range_succ (n := m + 1), List.flatMap_append]
    simp only [List.flatMap_cons, List.flatMap_nil, List.append_nil]
    have h1 := (ih.append_right [at' L m]).append_right (ghK W L W.length (m + 1))
    refine h1.trans ?_
    rw [← List.append_assoc]
    refine List.Perm.append_right _ ?_
    rw [List.append_assoc, List.append_assoc]
    exact List.Perm.append_left _ List.perm_append_comm
theorem merge_perm : (merge W L).Perm (L ++ W.filter (fun x => decide (¬ x ∈ L))) := by
  have h := mgK_perm (L := L) W L.length (Nat.le_refl _)
  have h2 := cat_perm (W := W) (L := L) W.length (Nat.le_refl _)
  rw [List.take_length] at h h2
  exact h.trans (List.Perm.append_left _ h2)
theorem merge_nodup (hW : W.Nodup) (hL : L.Nodup) : (merge W L).Nodup := by
  rw [merge_perm.nodup_iff, List.nodup_append]
  refine ⟨hL, hW.filter _, fun a ha b hb e => ?_⟩
  subst e
  have := (List.mem_filter.1 hb).2
  simp at this
  exact this ha
theorem merge_mem {x : Int} : x ∈ merge W L ↔ x ∈ L ∨ x ∈ W := by
  rw [merge_perm.mem_iff, List.mem_append, List.mem_filter]
  simp only [decide_eq_true_iff]
  constructor
  · rintro (h | h)
    · exact .inl h
    · exact .inr h.1
  · rintro (h | h)
    · exact .inl h
    · by_cases e : x ∈ L
      · exact .inl e
      · exact .inr ⟨h, e⟩
theorem merge_len : (merge W L).length ≤ L.length + W.length := by
  rw [merge_perm.length_eq, List.length_append]
  have := List.length_filter_le (fun x => decide (¬ x ∈ L)) W
  omega
theorem gh_filter (j : Nat) : (ghK W L W.length j).filter (fun x => decide (x ∈ L)) = [] := by
  apply List.filter_eq_nil_iff.mpr
  intro x hx
  have := (ghK_mem W.length (Nat.le_refl _) hx).2
  simp [this]
theorem mg_filter : ∀ i, i ≤ L.length → (mgK W L i).filter (fun x => decide (x ∈ L)) = L.take i
  | 0, _ => by show (ghK W L W.length 0).filter _ = _; rw [gh_filter]; rfl
  | i + 1, h => by
    show (mgK W L i ++ [at' L i] ++ ghK W L W.length (i + 1)).filter _ = _
    rw [List.filter_append, List.filter_append, mg_filter i (by omega), gh_filter, We.take_next (show i < L.length by omega), List.append_nil]
    congr 1
    have := at_mem (l := L) (i := i) (by omega)
    simp [this]
theorem merge_filter : (merge W L).filter (fun x => decide (x ∈ L)) = L := by
  have := mg_filter (W := W) (L := L) L.length (Nat.le_refl _)
  rw [List.take_length] at this
  exact this
theorem mgK_more (W : List Int) {i : Nat} : ∀ d, ∃ more, mgK W L (i + d) = mgK W L i ++ more
  | 0 => ⟨[], by simp⟩
  | d + 1 => by
    obtain ⟨more, h1⟩ := mgK_more W (i := i) d
    refine ⟨more ++ [at' L (i + d)] ++ ghK W L W.length (i + d + 1), ?_⟩
    show mgK W L (i + d) ++ [at' L (i + d)] ++ ghK W L W.length (i + d + 1) = _
    rw [h1]
    simp
theorem merge_split (W : List Int) {j : Nat} (hj : j ≤ L.length) : ∃ pre post, merge W L = pre ++ ghK W L W.length j ++ post ∧ (j = 0 → pre = []) ∧ (∀ i, j = i + 1 → ∃ p, pre = p ++ [at' L i]) := by
  obtain ⟨more, h1⟩ := mgK_more (L := L) W (i := j) (L.length - j)
  rw [show j + (L.length - j) = L.length by omega] at h1
  cases j with
  | zero => exact ⟨[], more, by rw [show merge W L = mgK W L L.length from rfl, h1]; rfl, fun _ => rfl, fun i h => by omega⟩
  | succ i =>
    refine ⟨mgK W L i ++ [at' L i], more, ?_, fun h => by omega, fun i' h => ⟨mgK W L i, by rw [show i' = i by omega]⟩⟩
    rw [show merge W L = mgK W L L.length from rfl, h1]
    rfl
end
/-- the nearest one ahead that is among some. -/
def nearF (A : List Int) (g : Int) : List Int → Int → Int
  | [], acc => acc
  | x :: l, acc => if x = g then acc else nearF A g l (if x ∈ A then x else acc)
theorem near_app {A : List Int} {g : Int} : ∀ (p q : List Int) (acc : Int), ¬ g ∈ p → nearF A g (p ++ q) acc = nearF A g q (nearF A g p acc)
  | [], q, acc, _ => rfl
  | x :: p, q, acc, h => by
    have hx : ¬ x = g := fun e => h (by rw [e]; exact List.mem_cons_self ..)
    show (if x = g then acc else nearF A g (p ++ q) _) = nearF A g q (if x = g then acc else nearF A g p _)
    rw [if_neg hx, if_neg hx]
    exact near_app p q _ (fun e => h (List.mem_cons_of_mem _ e))
theorem near_dead {A : List Int} {g : Int} : ∀ (p : List Int) (acc : Int), (∀ x ∈ p, ¬ x ∈ A) → nearF A g p acc = acc
  | [], acc, _ => rfl
  | x :: p, acc, h => by
    show (if x = g then acc else nearF A g p _) = acc
    rw [if_neg (h x (List.mem_cons_self ..))]
    rw [near_dead p acc (fun y hy => h y (List.mem_cons_of_mem _ hy))]
    split <;> rfl
def lastL (L : List Int) : Nat → Int
  | 0 => -1
  | j + 1 => at' L j
theorem near_take {W L : List Int} {g : Int} : ∀ k, k ≤ W.length → ¬ g ∈ W.take k → nearF L g (W.take k) (-1) = lastL L (folK W L k)
  | 0, _, _ => rfl
  | k + 1, hk, hg => by
    rw [We.take_next (show k < W.length by omega)] at hg ⊢
    have h1 : ¬ g ∈ W.take k := fun e => hg (List.mem_append_left _ e)
    have h2 : ¬ at' W k = g := fun e => hg (List.mem_append_right _ (by rw [e]; exact List.mem_singleton.mpr rfl))
    rw [near_app _ _ _ h1, near_take k (by omega) h1]
    show (if at' W k = g then _ else (if at' W k ∈ L then at' W k else _)) = _
    rw [if_neg h2]
    by_cases hm : at' W k ∈ L
    · rw [if_pos hm, folK_in W L hm]
      show _ = at' L (ix L (at' W k))
      rw [get_ix hm]
    · rw [if_neg hm, folK_out W L hm]
theorem near_head (A : List Int) (g : Int) (l : List Int) (acc : Int) : nearF A g (g :: l) acc = acc := by
  show (if g = g then acc else _) = acc
  rw [if_pos rfl]
/-- a ghost stands behind the same one. -/
theorem near_is {W L : List Int} (hW : W.Nodup) (hL : L.Nodup) {g : Int} (hg : g ∈ W) (hn : ¬ g ∈ L) : nearF L g (merge W L) (-1) = nearF L g W (-1) := by
  obtain ⟨k, hk, he⟩ : ∃ k, k < W.length ∧ at' W k = g := ⟨ix W g, ix_lt hg, get_ix hg⟩
  have hnk : ¬ g ∈ W.take k := fun e => by
    rw [mem_take_lt hW (by omega)] at e
    have := ix_at hW hk
    rw [he] at this
    omega
  have hw : nearF L g W (-1) = lastL L (folK W L k) := by
    have hd : W = W.take k ++ at' W k :: W.drop (k + 1) := by rw [← We.drop_next hk, List.take_append_drop]
    rw [he] at hd
    rw [← near_take k (by omega) hnk]
    conv => lhs; rw [hd]
    rw [near_app _ _ _ hnk, near_head]
  obtain ⟨pre, post, h1, h2, h3⟩ := merge_split (L := L) W (folK_le W L k)
  obtain ⟨more, h4⟩ := ghK_more (W := W) (L := L) (j := folK W L k) (k := k + 1) (W.length - (k + 1))
  rw [show k + 1 + (W.length - (k + 1)) = W.length by omega, ghK_out W L (k := k) (by rw [he]; exact hn), if_pos rfl, he] at h4
  rw [h4] at h1
  have hm : merge W L = (pre ++ ghK W L k (folK W L k)) ++ g :: (more ++ post) := by rw [h1]; simp
  have hnd := merge_nodup hW hL
  rw [hm, List.nodup_append] at hnd
  have hgp : ¬ g ∈ pre ++ ghK W L k (folK W L k) := fun e => hnd.2.2 g e g (List.mem_cons_self ..) rfl
  have hgp1 : ¬ g ∈ pre := fun e => hgp (List.mem_append_left _ e)
  have hgs : ∀ x ∈ ghK W L k (folK W L k), ¬ x ∈ L := fun x hx => (ghK_mem k (by omega) hx).2
  rw [hm, near_app _ _ _ hgp, near_head, near_app _ _ _ hgp1, near_dead _ _ hgs, hw]
  cases hf : folK W L k with
  | zero => rw [h2 hf]; rfl
  | succ i =>
    obtain ⟨p, hp⟩ := h3 i hf
    have hfl := folK_le W L k
    have ha : at' L i ∈ L := at_mem (by omega)
    have hag : ¬ at' L i = g := fun e => hn (by rw [← e]; exact ha)
    rw [hp, near_app _ _ _ (fun e => hgp1 (by rw [hp]; exact List.mem_append_left _ e))]
    show (if at' L i = g then _ else (if at' L i ∈ L then at' L i else _)) = _
    rw [if_neg hag, if_pos ha]
    rfl
/-! kids of a group -/
abbrev Mb := Int × ByteArray × Bool
def mb (K : List Mb) (i : Nat) : Mb := K.getD i (0, ByteArray.empty, false)
theorem mb_eq (K : List Mb) (i : Nat) (h : i < K.length) : mb K i = K[i] := by simp [mb, h]
def ids (K : List Mb) : List Int := K.map (·.1)
def olds (K : List Mb) : List Gk := K.map (·.2)
theorem ids_len (K : List Mb) : (ids K).length = K.length := by simp [ids]
theorem olds_len (K : List Mb) : (olds K).length = K.length := by simp [olds]
theorem ids_at (K : List Mb) {i : Nat} (h : i < K.length) : at' (ids K) i = (mb K i).1 := by rw [at_eq _ _ (by rw [ids_len]; exact h), mb_eq K i h]; simp [ids]
theorem olds_at (K : List Mb) {i : Nat} (h : i < K.length) : gk (olds K) i = (mb K i).2 := by rw [gk_eq _ _ (by rw [olds_len]; exact h), mb_eq K i h]; simp [olds]
structure Inv (K : List Mb) (next : Int) : Prop where
  nd : (ids K).Nodup
  keys : ∀ i j, i < K.length → j < K.length → (mb K i).2.1 = (mb K j).2.1 → i = j
  low : ∀ i, i < K.length → 1 ≤ (mb K i).1 ∧ (mb K i).1 < next
  ok : ∀ i, i < K.length → OkS (mb K i).2.1
  one : 1 ≤ next
theorem Inv.nil : Inv [] 1 := ⟨List.nodup_nil, fun i j h => absurd h (Nat.not_lt_zero _), fun i h => absurd h (Nat.not_lt_zero _), fun i h => absurd h (Nat.not_lt_zero _), by omega⟩
theorem Inv.idx {K : List Mb} {next : Int} (h : Inv K next) {i j : Nat} (hi : i < K.length) (hj : j < K.length) (e : (mb K i).1 = (mb K j).1) : i = j := by
  rw [← ids_at K hi, ← ids_at K hj] at e
  exact nodup_at h.nd (by rw [ids_len]; exact hi) (by rw [ids_len]; exact hj) e
section
variable {K : List Mb} {ks : List ByteArray} {next : Int}
/-- who is taken. -/
def tk (K : List Mb) (ks : List ByteArray) : List Int := tks (olds K) ks
theorem tk_len : (tk K ks).length = ks.length := tks_len _ _
theorem tk_is (hk : ks.Nodup) {i : Nat} (hi : i < ks.length) : (ats (tk K ks) i = -1 ∧ ∀ j, j < K.length → (mb K j).2.1 ≠ key ks i) ∨ ∃ j : Nat, ats (tk K ks) i = (j : Int) ∧ j < K.length ∧ (mb K j).2.1 = key ks i := by
  unfold tk
  rw [tks_at _ _ hi]
  unfold takeI takeO
  have hnt : ¬ key ks i ∈ ks.take i := by
    rw [key_eq ks i hi]
    intro hm
    obtain ⟨j, hj, e⟩ := List.getElem_of_mem hm
    rw [List.length_take] at hj
    rw [List.getElem_take] at e
    have := nodup_inj hk _ _ e
    omega
  rw [if_neg hnt]
  cases hf : first (olds K) (olds K).length (key ks i) with
  | none =>
    left
    refine ⟨rfl, fun j hj => ?_⟩
    have := first_none hf j (by rw [olds_len]; exact hj)
    rw [olds_at K hj] at this
    exact this
  | some j =>
    right
    obtain ⟨h1, h2⟩ := first_some hf
    rw [olds_len] at h1
    rw [olds_at K h1] at h2
    exact ⟨j, rfl, h1, h2⟩
def cnt (K : List Mb) (ks : List ByteArray) (i : Nat) : Nat := (wh i (newQ (tk K ks))).length
theorem cnt_next (i : Nat) : cnt K ks (i + 1) = if ats (tk K ks) i < 0 then cnt K ks i + 1 else cnt K ks i := by
  unfold cnt
  rw [wh_next]
  unfold newQ
  by_cases h : ats (tk K ks) i < 0
  · rw [if_pos (by simpa using h), if_pos h]; simp
  · rw [if_neg (by simpa using h), if_neg h]
theorem cnt_le (i : Nat) : cnt K ks i ≤ i := wh_le _ _
theorem cnt_mono {i j : Nat} (h : i ≤ j) : cnt K ks i ≤ cnt K ks j := by
  obtain ⟨d, rfl⟩ := Nat.exists_eq_add_of_le h
  clear h
  induction d with
  | zero => exact Nat.le_refl _
  | succ d ih =>
    have := cnt_next (K := K) (ks := ks) (i + d)
    show cnt K ks i ≤ cnt K ks (i + d + 1)
    rw [this]
    split <;> omega
/-- which number each that is to be there has. -/
def lid (K : List Mb) (ks : List ByteArray) (next : Int) (i : Nat) : Int := if ats (tk K ks) i < 0 then next + (cnt K ks i : Int) else (mb K (ats (tk K ks) i).toNat).1
def live (K : List Mb) (ks : List ByteArray) (next : Int) (k : Nat) : List Int := (List.range k).map (lid K ks next)
theorem live_len (k : Nat) : (live K ks next k).length = k := by simp [live]
theorem live_next (k : Nat) : live K ks next (k + 1) = live K ks next k ++ [lid K ks next k] := by simp [live, List.range_succ]
theorem live_at {k i : Nat} (h : i < k) : at' (live K ks next k) i = lid K ks next i := by rw [at_eq _ _ (by rw [live_len]; exact h)]; simp [live]
theorem live_mem {x : Int} {k : Nat} : x ∈ live K ks next k ↔ ∃ i, i < k ∧ x = lid K ks next i := by
  unfold live
  rw [List.mem_map]
  constructor
  · rintro ⟨i, hi, rfl⟩; exact ⟨i, List.mem_range.mp hi, rfl⟩
  · rintro ⟨i, hi, rfl⟩; exact ⟨i, List.mem_range.mpr hi, rfl⟩
theorem lid_is (hv : Inv K next) (hk : ks.Nodup) {i : Nat} (hi : i < ks.length) : (ats (tk K ks) i = -1 ∧ lid K ks next i = next + (cnt K ks i : Int) ∧ ∀ j, j < K.length → (mb K j).2.1 ≠ key ks i) ∨ ∃ j : Nat, ats (tk K ks) i = (j : Int) ∧ j < K.length ∧ (mb K j).2.1 = key ks i ∧ lid K ks next i = (mb K j).1 := by
  rcases tk_is (K := K) hk hi with ⟨h1, h2⟩ | ⟨j, h1, h2, h3⟩
  · refine .inl ⟨h1, ?_, h2⟩
    unfold lid
    rw [if_pos (by omega)]
  · refine .inr ⟨j, h1, h2, h3, ?_⟩
    unfold lid
    rw [if_neg (by omega), h1]
    rfl
theorem lid_ne (hv : Inv K next) (hk : ks.Nodup) {i i' : Nat} (h : i < i') (hi : i' < ks.length) : lid K ks next i ≠ lid K ks next i' := by
  intro e
  rcases lid_is hv hk (show i < ks.length by omega) with ⟨a1, a2, _⟩ | ⟨j, a1, a2, a3, a4⟩ <;> rcases lid_is hv hk hi with ⟨b1, b2, _⟩ | ⟨j', b1, b2, b3, b4⟩
  · have h1 := cnt_next (K := K) (ks := ks) i
    rw [if_pos (by omega)] at h1
    have h2 := cnt_mono (K := K) (ks := ks) (show i + 1 ≤ i' by omega)
    omega
  · have := hv.low j' b2; omega
  · have := hv.low j a2; omega
  · have hj := hv.idx a2 b2 (by rw [← a4, ← b4, e])
    subst hj
    rw [a3] at b3
    rw [key_eq ks i (by omega), key_eq ks i' hi] at b3
    have := nodup_inj hk _ _ b3
    omega
theorem live_nodup (hv : Inv K next) (hk : ks.Nodup) : (live K ks next ks.length).Nodup := by
  unfold live
  rw [List.nodup_iff_pairwise_ne, List.pairwise_map]
  refine (List.pairwise_lt_range (n := ks.length)).imp_of_mem ?_
  intro i j hi hj hij
  exact lid_ne hv hk hij (List.mem_range.mp hj)
/-- who is taken is live, and nobody else. -/
theorem taken_is (hv : Inv K next) (hk : ks.Nodup) {j : Nat} (hj : j < K.length) : (mb K j).1 ∈ live K ks next ks.length ↔ (j : Int) ∈ tk K ks := by
  rw [live_mem]
  constructor
  · rintro ⟨i, hi, e⟩
    rcases lid_is hv hk hi with ⟨a1, a2, _⟩ | ⟨j', a1, a2, a3, a4⟩
    · have := hv.low j hj; omega
    · have := hv.idx hj a2 (by rw [e, a4])
      subst this
      have hl : i < (tk K ks).length := by rw [tk_len]; exact hi
      rw [← a1]
      unfold ats
      rw [List.getD_eq_getElem?_getD, List.getElem?_eq_getElem hl]
      exact List.getElem_mem hl
  · intro hm
    obtain ⟨i, hi, e⟩ := List.getElem_of_mem hm
    have hi' : i < ks.length := by rw [tk_len] at hi; exact hi
    have ha : ats (tk K ks) i = (j : Int) := by unfold ats; rw [List.getD_eq_getElem?_getD, List.getElem?_eq_getElem hi]; exact e
    refine ⟨i, hi', ?_⟩
    rcases lid_is hv hk hi' with ⟨a1, _⟩ | ⟨j', a1, a2, a3, a4⟩
    · omega
    · have : j = j' := by omega
      subst this
      exact a4.symm
def mc (m : Mb) : List Value := [.int .i64 m.1, .string m.2.1, .bool m.2.2]
def mcs (K : List Mb) : List Value := K.flatMap mc
def mv (m : Mb) : Value := .agg #[.int .i64 m.1, .string m.2.1, .bool m.2.2]
theorem mcs_app (a b : List Mb) : mcs (a ++ b) = mcs a ++ mcs b := List.flatMap_append
/-- what an old one is then. -/
def was (K : List Mb) (ks : List ByteArray) (j : Nat) : Mb := ((mb K j).1, (mb K j).2.1, !decide ((j : Int) ∈ tk K ks))
def now (K : List Mb) (ks : List ByteArray) (next : Int) (i : Nat) : Mb := (lid K ks next i, key ks i, false)
def Spec1 (K : List Mb) (ks : List ByteArray) (f : Int → Option Value) (k : Nat) : Prop := ∀ j, j < k → f (mb K j).1 = some (mv (was K ks j))
def Spec2 (K : List Mb) (ks : List ByteArray) (next : Int) (f : Int → Option Value) (k : Nat) : Prop := Spec1 K ks f K.length ∧ ∀ i, i < k → f (lid K ks next i) = some (mv (now K ks next i))
theorem spec1_next (hv : Inv K next) {f : Int → Option Value} {k : Nat} (hk : k < K.length) (h : Spec1 K ks f k) : Spec1 K ks (fun j => if j = (mb K k).1 then some (mv (was K ks k)) else f j) (k + 1) := by
  intro j hj
  dsimp only
  by_cases e : j = k
  · subst e; rw [if_pos rfl]
  · rw [if_neg (fun e2 => e (hv.idx (by omega) hk e2))]
    exact h j (by omega)
theorem spec2_next (hv : Inv K next) (hk : ks.Nodup) {f : Int → Option Value} {k : Nat} (hl : k < ks.length) (h : Spec2 K ks next f k) : Spec2 K ks next (fun j => if j = lid K ks next k then some (mv (now K ks next k)) else f j) (k + 1) := by
  obtain ⟨h1, h2⟩ := h
  constructor
  · intro j hj
    dsimp only
    by_cases e : (mb K j).1 = lid K ks next k
    · rw [if_pos e]
      rcases lid_is hv hk hl with ⟨a1, a2, _⟩ | ⟨j', a1, a2, a3, a4⟩
      · have := hv.low j hj; omega
      · have hjj := hv.idx hj a2 (by rw [e, a4])
        subst hjj
        have hm : (j : Int) ∈ tk K ks := (taken_is hv hk hj).mp (live_mem.mpr ⟨k, hl, e⟩)
        unfold now was
        rw [← e, a3, decide_eq_true hm]
        rfl
    · rw [if_neg e]
      exact h1 j hj
  · intro i hi
    dsimp only
    by_cases e : i = k
    · subst e; rw [if_pos rfl]
    · rw [if_neg (lid_ne hv hk (show i < k by omega) hl)]
      exact h2 i (by omega)
/-- who is taken is there as it is to be. -/
theorem spec2_at (hv : Inv K next) (hk : ks.Nodup) {f : Int → Option Value} {k j : Nat} (hl : k < ks.length) (h : Spec2 K ks next f k) (ha : ats (tk K ks) k = (j : Int)) (hj : j < K.length) : f (mb K j).1 = some (mv (now K ks next k)) ∧ (mb K j).1 = lid K ks next k ∧ (mb K j).2.1 = key ks k := by
  rcases lid_is hv hk hl with ⟨a1, _⟩ | ⟨j', a1, a2, a3, a4⟩
  · omega
  · have : j = j' := by omega
    subst this
    refine ⟨?_, a4.symm, a3⟩
    rw [h.1 j hj]
    have hm : (j : Int) ∈ tk K ks := (taken_is hv hk hj).mp (live_mem.mpr ⟨k, hl, a4.symm⟩)
    unfold now was
    rw [a4, a3, decide_eq_true hm]
    rfl
/-- all behind it. -/
def mem (K : List Mb) (ks : List ByteArray) (next : Int) (x : Int) : Mb := if x ∈ live K ks next ks.length then (x, key ks (ix (live K ks next ks.length) x), false) else (x, (mb K (ix (ids K) x)).2.1, true)
def mrg (K : List Mb) (ks : List ByteArray) (next : Int) : List Int := merge (ids K) (live K ks next ks.length)
def tos (K : List Mb) (ks : List ByteArray) (next : Int) : List Mb := (mrg K ks next).map (mem K ks next)
theorem mem_id (x : Int) : (mem K ks next x).1 = x := by unfold mem; split <;> rfl
theorem mem_gh (x : Int) : (mem K ks next x).2.2 = !decide (x ∈ live K ks next ks.length) := by
  unfold mem
  split
  · rename_i h; rw [decide_eq_true h]; rfl
  · rename_i h; rw [decide_eq_false h]; rfl
theorem spec2_mem (hv : Inv K next) (hk : ks.Nodup) {f : Int → Option Value} (h : Spec2 K ks next f ks.length) {x : Int} (hx : x ∈ mrg K ks next) : f x = some (mv (mem K ks next x)) := by
  unfold mem
  by_cases hl : x ∈ live K ks next ks.length
  · rw [if_pos hl]
    have hi := ix_lt hl
    have hg := get_ix hl
    rw [live_len] at hi
    rw [live_at hi] at hg
    have := h.2 _ hi
    unfold now at this
    rw [hg] at this
    exact this
  · rw [if_neg hl]
    have hw : x ∈ ids K := (merge_mem.mp hx).resolve_left hl
    have hi := ix_lt hw
    have hg := get_ix hw
    rw [ids_len] at hi
    rw [ids_at K hi] at hg
    have := h.1 _ hi
    unfold was at this
    rw [hg] at this
    rw [this]
    have hn : ¬ ((ix (ids K) x : Nat) : Int) ∈ tk K ks := fun e => hl (by rw [← hg]; exact (taken_is hv hk hi).mpr e)
    rw [decide_eq_false hn]
    rfl
theorem to_len : (tos K ks next).length ≤ ks.length + K.length := by
  unfold tos mrg
  rw [List.length_map]
  have := merge_len (W := ids K) (L := live K ks next ks.length)
  rw [live_len, ids_len] at this
  exact this
theorem to_ids : ids (tos K ks next) = mrg K ks next := by
  unfold ids tos
  rw [List.map_map]
  have h : ((fun x : Mb => x.1) ∘ mem K ks next) = id := funext fun x => mem_id x
  rw [h, List.map_id]
theorem to_at {i : Nat} (h : i < (mrg K ks next).length) : mb (tos K ks next) i = mem K ks next (at' (mrg K ks next) i) := by
  rw [mb_eq _ _ (by unfold tos; rw [List.length_map]; exact h), at_eq _ _ h]
  simp [tos]
theorem mrg_nodup (hv : Inv K next) (hk : ks.Nodup) : (mrg K ks next).Nodup := merge_nodup hv.nd (live_nodup hv hk)
theorem mem_key (hv : Inv K next) (hk : ks.Nodup) {x y : Int} (hx : x ∈ mrg K ks next) (hy : y ∈ mrg K ks next) (e : (mem K ks next x).2.1 = (mem K ks next y).2.1) : x = y := by
  have main : ∀ {x y : Int}, x ∈ live K ks next ks.length → ¬ y ∈ live K ks next ks.length → y ∈ ids K → key ks (ix (live K ks next ks.length) x) = (mb K (ix (ids K) y)).2.1 → False := by
    intro x y hx hy hw e
    have hi := ix_lt hx
    have hj := ix_lt hw
    have hg := get_ix hw
    rw [live_len] at hi
    rw [ids_len] at hj
    rw [ids_at K hj] at hg
    rcases lid_is hv hk hi with ⟨_, _, a3⟩ | ⟨j', a1, a2, a3, a4⟩
    · exact a3 _ hj e.symm
    · have := hv.keys _ _ a2 hj (by rw [a3, e])
      apply hy
      rw [live_mem]
      exact ⟨_, hi, by rw [a4, this, hg]⟩
  unfold mem at e
  by_cases hlx : x ∈ live K ks next ks.length
  · rw [if_pos hlx] at e
    by_cases hly : y ∈ live K ks next ks.length
    · rw [if_pos hly] at e
      have hi := ix_lt hlx
      have hj := ix_lt hly
      rw [live_len] at hi hj
      dsimp only at e
      rw [key_eq ks _ hi, key_eq ks _ hj] at e
      have h2 := nodup_inj hk _ _ e
      rw [← get_ix hlx, ← get_ix hly, h2]
    · rw [if_neg hly] at e
      exact (main hlx hly ((merge_mem.mp hy).resolve_left hly) e).elim
  · rw [if_neg hlx] at e
    have hwx := (merge_mem.mp hx).resolve_left hlx
    by_cases hly : y ∈ live K ks next ks.length
    · rw [if_pos hly] at e
      exact (main hly hlx hwx e.symm).elim
    · rw [if_neg hly] at e
      have hwy := (merge_mem.mp hy).resolve_left hly
      have hi := ix_lt hwx
      have hj := ix_lt hwy
      rw [ids_len] at hi hj
      have h2 := hv.keys _ _ hi hj e
      rw [← get_ix hwx, ← get_ix hwy, h2]
theorem inv_next (hv : Inv K next) (hk : ks.Nodup) (hok : ∀ k ∈ ks, OkS k) : Inv (tos K ks next) (next + (cnt K ks ks.length : Int)) := by
  have hl : (tos K ks next).length = (mrg K ks next).length := by unfold tos; rw [List.length_map]
  refine ⟨by rw [to_ids]; exact mrg_nodup hv hk, fun i j hi hj e => ?_, fun i hi => ?_, fun i hi => ?_, by have := hv.one; omega⟩
  · rw [hl] at hi hj
    rw [to_at hi, to_at hj] at e
    exact nodup_at (mrg_nodup hv hk) hi hj (mem_key hv hk (at_mem hi) (at_mem hj) e)
  · rw [hl] at hi
    rw [to_at hi, mem_id]
    have hm := at_mem hi
    generalize at' (mrg K ks next) i = x at *
    rcases merge_mem.mp hm with h | h
    · obtain ⟨i, hi, rfl⟩ := live_mem.mp h
      rcases lid_is hv hk hi with ⟨a1, a2, _⟩ | ⟨j, a1, a2, a3, a4⟩
      · have h1 := cnt_next (K := K) (ks := ks) i
        rw [if_pos (by omega)] at h1
        have h2 := cnt_mono (K := K) (ks := ks) (show i + 1 ≤ ks.length by omega)
        have := hv.one
        omega
      · have := hv.low j a2; omega
    · have hi2 := ix_lt h
      have hg := get_ix h
      rw [ids_len] at hi2
      rw [ids_at K hi2] at hg
      have := hv.low _ hi2
      omega
  · rw [hl] at hi
    rw [to_at hi]
    have hm := at_mem hi
    generalize at' (mrg K ks next) i = x at *
    unfold mem
    split
    · rename_i h
      have hi2 := ix_lt h
      rw [live_len] at hi2
      dsimp only
      rw [key_eq ks _ hi2]
      exact hok _ (List.getElem_mem _)
    · rename_i h
      have hw := (merge_mem.mp hm).resolve_left h
      have hi2 := ix_lt hw
      rw [ids_len] at hi2
      exact hv.ok _ hi2
/-- who stands there alive, in their order. -/
theorem seen_is (hv : Inv K next) : (mrg K ks next).filter (fun x => !(mem K ks next x).2.2) = live K ks next ks.length := by
  have h := merge_filter (W := ids K) (L := live K ks next ks.length)
  unfold mrg
  rw [List.filter_congr (q := fun x => decide (x ∈ live K ks next ks.length)) (fun x _ => by rw [mem_gh]; simp), h]
theorem stand_is (hv : Inv K next) (hk : ks.Nodup) {x : Int} (hx : x ∈ mrg K ks next) (hg : (mem K ks next x).2.2 = true) : nearF (live K ks next ks.length) x (mrg K ks next) (-1) = nearF (live K ks next ks.length) x (ids K) (-1) := by
  rw [mem_gh] at hg
  have hn : ¬ x ∈ live K ks next ks.length := by simpa using hg
  exact near_is hv.nd (live_nodup hv hk) ((merge_mem.mp hx).resolve_left hn) hn
end
end Sg
end Go.Proofs.Ytfapghekakdpgaa
