/- Plain facts on weaving the numbers 0, 1, .. with others: where ghosts stand, and that nobody is lost. -/
import Derived.Test.YtdojalflgfacgaaWeM1
namespace Go.Proofs.Ytdojalflgfacgaa
open We
namespace Sw
def wasN (n : Nat) : List Int := (List.range n).map fun (i : Nat) => (i : Int)
theorem wasN_len (n : Nat) : (wasN n).length = n := by simp [wasN]
theorem wasN_at {n k : Nat} (h : k < n) : at' (wasN n) k = (k : Int) := by rw [at_eq _ _ (by rw [wasN_len]; exact h)]; simp [wasN]
theorem wasN_mem {n : Nat} {x : Int} : x ∈ wasN n ↔ ∃ k : Nat, k < n ∧ x = (k : Int) := by
  unfold wasN
  rw [List.mem_map]
  constructor
  · rintro ⟨k, hk, rfl⟩; exact ⟨k, List.mem_range.1 hk, rfl⟩
  · rintro ⟨k, hk, rfl⟩; exact ⟨k, List.mem_range.2 hk, rfl⟩
theorem wasN_nodup (n : Nat) : (wasN n).Nodup := by
  unfold wasN
  exact List.Pairwise.map _ (fun a b (h : a ≠ b) => fun (e : (a : Int) = (b : Int)) => h (by omega)) List.nodup_range
theorem wasN_next (n : Nat) : wasN (n + 1) = wasN n ++ [(n : Int)] := by simp [wasN, List.range_succ]
theorem wasN_ix {n k : Nat} (h : k < n) : ix (wasN n) (k : Int) = k := by
  have h1 := ix_at (wasN_nodup n) (i := k) (by rw [wasN_len]; exact h)
  rw [wasN_at h] at h1
  exact h1
section
variable {n : Nat} {L : List Int}
/-- the nearest number ahead of k that is live -/
theorem folK_spec : ∀ k, k ≤ n → ((∀ s : Nat, s < k → ¬ (s : Int) ∈ L) ∧ folK (wasN n) L k = 0) ∨ ∃ s : Nat, s < k ∧ (s : Int) ∈ L ∧ (∀ t : Nat, s < t → t < k → ¬ (t : Int) ∈ L) ∧ folK (wasN n) L k = ix L (s : Int) + 1
  | 0, _ => .inl ⟨fun s h => absurd h (Nat.not_lt_zero s), rfl⟩
  | k + 1, h => by
    have hk : k < n := by omega
    have ha := wasN_at hk
    by_cases hm : (k : Int) ∈ L
    · refine .inr ⟨k, by omega, hm, fun t h1 h2 => by omega, ?_⟩
      rw [folK_in (wasN n) L (k := k) (by rw [ha]; exact hm), ha]
    · rw [folK_out (wasN n) L (k := k) (by rw [ha]; exact hm)]
      rcases folK_spec k (by omega) with ⟨h1, h2⟩ | ⟨s, h1, h2, h3, h4⟩
      · refine .inl ⟨fun s hs => ?_, h2⟩
        by_cases e : s = k
        · subst e; exact hm
        · exact h1 s (by omega)
      · refine .inr ⟨s, by omega, h2, fun t ht1 ht2 => ?_, h4⟩
        by_cases e : t = k
        · subst e; exact hm
        · exact h3 t ht1 (by omega)
theorem ghK_mem {j : Nat} {x : Int} : ∀ k, k ≤ n → (x ∈ ghK (wasN n) L k j → ∃ t : Nat, t < k ∧ x = (t : Int) ∧ ¬ x ∈ L)
  | 0, _, h => by cases h
  | k + 1, hk, h => by
    have ha := wasN_at (n := n) (k := k) (by omega)
    by_cases hm : (k : Int) ∈ L
    · rw [ghK_in (wasN n) L (k := k) (by rw [ha]; exact hm)] at h
      obtain ⟨t, h1, h2⟩ := ghK_mem k (by omega) h
      exact ⟨t, by omega, h2⟩
    · rw [ghK_out (wasN n) L (k := k) (by rw [ha]; exact hm), ha] at h
      split at h
      · rcases List.mem_append.1 h with h | h
        · obtain ⟨t, h1, h2⟩ := ghK_mem k (by omega) h
          exact ⟨t, by omega, h2⟩
        · rw [List.mem_singleton.1 h]
          exact ⟨k, by omega, rfl, hm⟩
      · obtain ⟨t, h1, h2⟩ := ghK_mem k (by omega) h
        exact ⟨t, by omega, h2⟩
theorem ghK_more {j k : Nat} : ∀ d, k + d ≤ n → ∃ more, ghK (wasN n) L (k + d) j = ghK (wasN n) L k j ++ more
  | 0, _ => ⟨[], by simp⟩
  | d + 1, h => by
    obtain ⟨more, h1⟩ := ghK_more (j := j) (k := k) d (by omega)
    have ha := wasN_at (n := n) (k := k + d) (by omega)
    have e : k + (d + 1) = (k + d) + 1 := rfl
    rw [e]
    by_cases hm : ((k + d : Nat) : Int) ∈ L
    · rw [ghK_in (wasN n) L (k := k + d) (by rw [ha]; exact hm)]
      exact ⟨more, h1⟩
    · rw [ghK_out (wasN n) L (k := k + d) (by rw [ha]; exact hm)]
      split
      · exact ⟨more ++ [at' (wasN n) (k + d)], by rw [h1, List.append_assoc]⟩
      · exact ⟨more, h1⟩
theorem mgK_more (W : List Int) {i : Nat} : ∀ d, ∃ more, mgK W L (i + d) = mgK W L i ++ more
  | 0 => ⟨[], by simp⟩
  | d + 1 => by
    obtain ⟨more, h1⟩ := mgK_more W (i := i) d
    refine ⟨more ++ [at' L (i + d)] ++ ghK W L W.length (i + d + 1), ?_⟩
    show mgK W L (i + d) ++ [at' L (i + d)] ++ ghK W L W.length (i + d + 1) = _
    rw [h1]
    simp
theorem merge_split (W : List Int) {j : Nat} (hj : j ≤ L.length) : ∃ pre post, merge W L = pre ++ ghK W L W.length j ++ post ∧ (j = 0 → pre = []) ∧ (∀ i, j = i + 1 → ∃ p, pre = p ++ [at' L i]) := by
  obtain ⟨more, h1⟩ := mgK_more (L := L) W (i := j) (L.length - j)
  rw [show j + (L.length - j) = L.length by omega] at h1
  cases j with
  | zero => exact ⟨[], more, by rw [show merge W L = mgK W L L.length from rfl, h1]; rfl, fun _ => rfl, fun i h => by omega⟩
  | succ i =>
    refine ⟨mgK W L i ++ [at' L i], more, ?_, fun h => by omega, fun i' h => ⟨mgK W L i, by rw [show i' = i by omega]⟩⟩
    rw [show merge W L = mgK W L L.length from rfl, h1]
    rfl
/-- a ghost stands behind the nearest one ahead of it that is live, with none but ghosts between that are ahead of it. -/
theorem behind_is {g : Nat} (hg : g < n) (hm : ¬ (g : Int) ∈ L) : ∃ pre gs post, merge (wasN n) L = pre ++ gs ++ (g : Int) :: post ∧ (∀ x ∈ gs, ∃ t : Nat, x = (t : Int) ∧ t < g ∧ ¬ x ∈ L) ∧
    ((pre = [] ∧ ∀ s : Nat, s < g → ¬ (s : Int) ∈ L) ∨ ∃ (p : List Int) (s : Nat), pre = p ++ [(s : Int)] ∧ s < g ∧ (s : Int) ∈ L ∧ ∀ t : Nat, s < t → t < g → ¬ (t : Int) ∈ L) := by
  have ha := wasN_at hg
  have hfl := folK_le (wasN n) L g
  obtain ⟨pre, post, h1, h2, h3⟩ := merge_split (L := L) (wasN n) hfl
  rw [wasN_len] at h1
  obtain ⟨more, h4⟩ := ghK_more (L := L) (n := n) (j := folK (wasN n) L g) (k := g + 1) (n - (g + 1)) (by omega)
  rw [show g + 1 + (n - (g + 1)) = n by omega, ghK_out (wasN n) L (k := g) (by rw [ha]; exact hm), if_pos rfl, ha] at h4
  rw [h4] at h1
  refine ⟨pre, ghK (wasN n) L g (folK (wasN n) L g), more ++ post, by rw [h1]; simp, fun x hx => ?_, ?_⟩
  · obtain ⟨t, t1, t2, t3⟩ := ghK_mem (n := n) (L := L) g (by omega) hx
    exact ⟨t, t2, t1, t3⟩
  · rcases folK_spec (n := n) (L := L) g (by omega) with ⟨k1, k2⟩ | ⟨s, k1, k2, k3, k4⟩
    · exact .inl ⟨h2 k2, k1⟩
    · obtain ⟨p, hp⟩ := h3 _ k4
      rw [get_ix k2] at hp
      exact .inr ⟨p, s, hp, k1, k2, k3⟩
theorem flat_put {α : Type} (F : Nat → List α) (x : α) (f : Nat) : ∀ M, ((List.range M).flatMap (fun j => if j = f then F j ++ [x] else F j)).Perm (if f < M then (List.range M).flatMap F ++ [x] else (List.range M).flatMap F)
  | 0 => by simp
  | M + 1 => by
    have ih := flat_put F x f M
    rw [List.range_succ, List.flatMap_append, List.flatMap_append]
    simp only [List.flatMap_cons, List.flatMap_nil, List.append_nil]
    by_cases e : M = f
    · subst e
      rw [if_neg (by omega)] at ih
      rw [if_pos rfl, if_pos (by omega), ← List.append_assoc]
      exact (ih.append_right _).append_right _
    · rw [if_neg e]
      by_cases h : f < M
      · rw [if_pos h] at ih
        rw [if_pos (by omega)]
        refine (ih.append_right _).trans ?_
        rw [List.append_assoc, List.append_assoc]
        exact List.Perm.append_left _ List.perm_append_comm
      · rw [if_neg h] at ih
        rw [if_neg (by omega)]
        exact ih.append_right _
theorem cat_perm : ∀ k, k ≤ n → ((List.range (L.length + 1)).flatMap (ghK (wasN n) L k)).Perm ((wasN k).filter (fun x => decide (¬ x ∈ L)))
  | 0, _ => by
    have e : (List.range (L.length + 1)).flatMap (ghK (wasN n) L 0) = [] := by
      rw [List.flatMap_eq_nil_iff]
      intro j _
      rfl
    rw [e]
    exact List.Perm.refl []
  | k + 1, h => by
    have ih := cat_perm k (by omega)
    have ha := wasN_at (n := n) (k := k) (by omega)
    rw [wasN_next, List.filter_append]
    by_cases hm : (k : Int) ∈ L
    · have e : ghK (wasN n) L (k + 1) = ghK (wasN n) L k := by
        funext j
        exact ghK_in (wasN n) L (k := k) (by rw [ha]; exact hm) j
      rw [e]
      simpa [hm] using ih
    · have e : ghK (wasN n) L (k + 1) = fun j => if j = folK (wasN n) L k then ghK (wasN n) L k j ++ [(k : Int)] else ghK (wasN n) L k j := by
        funext j
        rw [ghK_out (wasN n) L (k := k) (by rw [ha]; exact hm), ha]
      rw [e]
      have hp := flat_put (ghK (wasN n) L k) (k : Int) (folK (wasN n) L k) (L.length + 1)
      rw [if_pos (by have := folK_le (wasN n) L k; omega)] at hp
      refine hp.trans ?_
      have e2 : [(k : Int)].filter (fun x => decide (¬ x ∈ L)) = [(k : Int)] := by simp [hm]
      rw [e2]
      exact ih.append_right _
theorem mgK_perm (W : List Int) : ∀ m, m ≤ L.length → (mgK W L m).Perm (L.take m ++ (List.range (m + 1)).flatMap (ghK W L W.length))
  | 0, _ => by
    show (ghK W L W.length 0).Perm _
    simp
  | m + 1, h => by
    have ih := mgK_perm W m (by omega)
    show (mgK W L m ++ [at' L m] ++ ghK W L W.length (m + 1)).Perm _
    rw [take_next (by omega), List.range_succ (n := m + 1), List.flatMap_append]
    simp only [List.flatMap_cons, List.flatMap_nil, List.append_nil]
    have h1 := (ih.append_right [at' L m]).append_right (ghK W L W.length (m + 1))
    refine h1.trans ?_
    rw [← List.append_assoc]
    refine List.Perm.append_right _ ?_
    rw [List.append_assoc, List.append_assoc]
    exact List.Perm.append_left _ List.perm_append_comm
/-- all that are live, and all ghosts: each once. -/
theorem merge_perm : (merge (wasN n) L).Perm (L ++ (wasN n).filter (fun x => decide (¬ x ∈ L))) := by
  have h := mgK_perm (L := L) (wasN n) L.length (Nat.le_refl _)
  rw [List.take_length, wasN_len] at h
  exact h.trans (List.Perm.append_left _ (cat_perm n (Nat.le_refl _)))
theorem merge_nodup (hL : L.Nodup) : (merge (wasN n) L).Nodup := by
  rw [merge_perm.nodup_iff, List.nodup_append]
  refine ⟨hL, (wasN_nodup n).filter _, fun a ha b hb e => ?_⟩
  subst e
  have := (List.mem_filter.1 hb).2
  simp at this
  exact this ha
theorem merge_mem {x : Int} : x ∈ merge (wasN n) L ↔ x ∈ L ∨ x ∈ wasN n := by
  rw [merge_perm.mem_iff, List.mem_append, List.mem_filter]
  simp only [decide_eq_true_iff]
  constructor
  · rintro (h | h)
    · exact .inl h
    · exact .inr h.1
  · rintro (h | h)
    · exact .inl h
    · by_cases e : x ∈ L
      · exact .inl e
      · exact .inr ⟨h, e⟩
theorem merge_len : (merge (wasN n) L).length = L.length + ((wasN n).filter (fun x => decide (¬ x ∈ L))).length := by rw [merge_perm.length_eq, List.length_append]
end
end Sw
end Go.Proofs.Ytdojalflgfacgaa
