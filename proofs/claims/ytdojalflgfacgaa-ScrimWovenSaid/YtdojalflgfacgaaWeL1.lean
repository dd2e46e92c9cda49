/- The document's row is there; how many steps and moves there are. -/
import Derived.Test.YtdojalflgfacgaaWeMath
import Derived.Test.YtdojalflgfacgaaLiMath
namespace Go.Proofs.Ytdojalflgfacgaa
namespace Li
theorem seek_ex (L : Nat → Int) (n : Nat) (ok : Nat → Prop) : ∀ i, ∃ b, Seek L n ok i b
  | 0 => ⟨_, Seek.start L n ok⟩
  | i + 1 => by
    obtain ⟨b, h⟩ := seek_ex L n ok i
    by_cases e : N L i = n ∧ ok i
    · rcases h with ⟨h1, h2⟩ | ⟨m, h1, h2⟩
      · exact ⟨_, Seek.take (.inl ⟨h1, h2⟩) e.1 e.2 (.inl h1)⟩
      · by_cases hl : L i < L m
        · exact ⟨_, Seek.take (.inr ⟨m, h1, h2⟩) e.1 e.2 (.inr ⟨m, h1, hl⟩)⟩
        · exact ⟨_, Seek.skip (.inr ⟨m, h1, h2⟩) (fun _ _ => ⟨m, h1, by omega⟩)⟩
    · exact ⟨_, Seek.skip h (fun h1 h2 => absurd ⟨h1, h2⟩ e)⟩
theorem best_ex {L : Nat → Int} {n : Nat} {ok : Nat → Prop} {i : Nat} (h : ∃ j, j < i ∧ N L j = n ∧ ok j) : ∃ m, Best L n ok i m := by
  obtain ⟨b, hb⟩ := seek_ex L n ok i
  obtain ⟨m, _, hm⟩ := hb.done h
  exact ⟨m, hm⟩
theorem tail_ex (L : Nat → Int) (len : Nat) : ∀ q, q ≤ top L len → ∃ t, Tail L len (top L len - q) t
  | 0, _ => ⟨[], Tail.start L len⟩
  | q + 1, hq => by
    obtain ⟨t, ht⟩ := tail_ex L len q (by omega)
    obtain ⟨n, hn⟩ : ∃ n, n + 1 = top L len - q := ⟨top L len - q - 1, by omega⟩
    rw [← hn] at ht
    rw [show top L len - (q + 1) = n by omega]
    cases t with
    | nil =>
      have h1 := ht.1
      simp only [List.length_nil] at h1
      rcases top_has L len with h0 | ⟨j, hj, e⟩
      · omega
      · obtain ⟨m, hm⟩ := best_ex (L := L) (n := n + 1) (ok := fun _ => True) (i := len) ⟨j, hj, by omega, trivial⟩
        exact ⟨_, ht.cons_last hm⟩
    | cons c t =>
      have hc : N L c = n + 2 := by
        cases t with
        | nil => have h9 := (ht.2.1 0 rfl).2.1; simpa using h9
        | cons d t => have h9 := (ht.2.2 0 (by simp)).2.1; simpa using h9
      obtain ⟨j, h1, h2, h3⟩ := N_has L c (by omega)
      obtain ⟨m, hm⟩ := best_ex (L := L) (n := n + 1) (ok := fun i => L i < L c) (i := c) ⟨j, h1, by omega, h2⟩
      exact ⟨_, ht.cons hm⟩
theorem row_ex (L : Nat → Int) (len : Nat) : ∃ r, IsRow L len r := by
  obtain ⟨t, ht⟩ := tail_ex L len (top L len) (Nat.le_refl _)
  rw [Nat.sub_self] at ht
  exact ⟨t, ht.row⟩
end Li
namespace We
/-- kinds and numbers of the steps behind the drops. -/
def kn (a : List Int) (n : Int) : Int × Int := (if n ∈ a then 3 else 2, n)
theorem stepOf_kn {a b s : List Int} (hs : ∀ x ∈ s, x ∈ a) (i : Nat) : (stepOf a b s i).map (fun t => (t.1, t.2.1)) = if at' b i ∈ s then [] else [kn a (at' b i)] := by
  unfold stepOf kn
  simp only
  by_cases h1 : at' b i ∈ a
  · by_cases h2 : at' b i ∈ s
    · simp [h1, h2]
    · simp [h1, h2]
  · have h2 : ¬ at' b i ∈ s := fun h => h1 (hs _ h)
    simp [h1, h2]
theorem sfx_kn {a b s : List Int} (hs : ∀ x ∈ s, x ∈ a) : ∀ j, j ≤ b.length → (sfx a b s j).map (fun t => (t.1, t.2.1)) = (((b.drop (b.length - j)).filter (fun x => decide (¬ x ∈ s))).map (kn a)).reverse
  | 0, _ => by
    rw [Nat.sub_zero, List.drop_length]
    rfl
  | j + 1, h => by
    have e : b.length - j = (b.length - (j + 1)) + 1 := by omega
    have hi : b.length - (j + 1) < b.length := by omega
    show (sfx a b s j ++ stepOf a b s (b.length - 1 - j)).map _ = _
    rw [List.map_append, sfx_kn hs j (by omega), stepOf_kn hs, drop_next hi, ← e, show b.length - 1 - j = b.length - (j + 1) by omega]
    by_cases h2 : at' b (b.length - (j + 1)) ∈ s
    · rw [if_pos h2, List.append_nil, List.filter_cons_of_neg (by simpa using h2)]
    · rw [if_neg h2, List.filter_cons_of_pos (by simpa using h2), List.map_cons, List.reverse_cons]
theorem sfx_all {a b s : List Int} (hs : ∀ x ∈ s, x ∈ a) : (sfx a b s b.length).map (fun t => (t.1, t.2.1)) = ((b.filter (fun x => decide (¬ x ∈ s))).map (kn a)).reverse := by
  have h := sfx_kn (b := b) hs b.length (Nat.le_refl _)
  rw [Nat.sub_self, List.drop_zero] at h
  exact h
theorem filter_sub {b s : List Int} (hb : b.Nodup) (hn : s.Nodup) (hs : ∀ x ∈ s, x ∈ b) : (b.filter (fun x => decide (x ∈ s))).length = s.length := by
  refine List.Perm.length_eq ((List.perm_ext_iff_of_nodup (hb.filter _) hn).2 fun x => ?_)
  rw [List.mem_filter]
  simp only [decide_eq_true_eq]
  exact ⟨fun h => h.2, fun h => ⟨hs x h, h⟩⟩
theorem filter_not (l : List Int) (p : Int → Bool) : (l.filter (fun x => !p x)).length + (l.filter p).length = l.length := by
  induction l with
  | nil => rfl
  | cons c l ih =>
    cases h : p c
    · rw [List.filter_cons_of_pos (by simp [h]), List.filter_cons_of_neg (by simp [h])]; simp only [List.length_cons]; omega
    · rw [List.filter_cons_of_neg (by simp [h]), List.filter_cons_of_pos h]; simp only [List.length_cons]; omega
theorem filter_not' (l : List Int) (s : List Int) : (l.filter (fun x => decide (¬ x ∈ s))).length + (l.filter (fun x => decide (x ∈ s))).length = l.length := by
  have h := filter_not l (fun x => decide (x ∈ s))
  rw [show (fun x : Int => decide (¬ x ∈ s)) = (fun x => !decide (x ∈ s)) from funext fun x => by simp]
  exact h
theorem stay_len (a b : List Int) (r : List Nat) : (stayIds a b r).length = r.length := by unfold stayIds; rw [List.length_map]
theorem stay_nodup {a b : List Int} {r : List Nat} (hb : b.Nodup) (hr : Rises a b r) : (stayIds a b r).Nodup := by
  rw [List.nodup_iff_pairwise_ne, List.pairwise_iff_getElem]
  intro i j hi hj hij
  rw [stay_len] at hi hj
  have e : ∀ k (hk : k < r.length), (stayIds a b r)[k]'(by rw [stay_len]; exact hk) = at' (comm a b) (r.getD k 0) := by
    intro k hk
    unfold stayIds
    rw [List.getElem_map]
    simp [hk]
  rw [e i hi, e j hj]
  intro h
  have hlt := (hr.2 i j hij hj).1
  have l1 : r.getD i 0 < (comm a b).length := hr.1 _ (by simp [hi])
  have l2 : r.getD j 0 < (comm a b).length := hr.1 _ (by simp [hj])
  have := nodup_at (comm_nodup hb) l1 l2 h
  omega
theorem drops_ids (a b : List Int) : (dropsOf a b).map (fun t => (t.1, t.2.1)) = (a.filter (fun x => decide (¬ x ∈ b))).map fun x => ((1 : Int), x) := by
  unfold dropsOf
  rw [List.map_map]
  rfl
def mvs (L : List Stp) : Nat := (L.filter (fun t => decide (t.1 = 3))).length
theorem mvs_map (L : List Stp) : mvs L = ((L.map (fun t => (t.1, t.2.1))).filter (fun p : Int × Int => decide (p.1 = 3))).length := by
  unfold mvs
  induction L with
  | nil => rfl
  | cons c L ih =>
    rw [List.map_cons]
    by_cases h : c.1 = 3
    · rw [List.filter_cons_of_pos (by simpa using h), List.filter_cons_of_pos (by simpa using h)]; simp only [List.length_cons]; omega
    · rw [List.filter_cons_of_neg (by simpa using h), List.filter_cons_of_neg (by simpa using h)]; exact ih
theorem kn_moves (a : List Int) (l : List Int) : ((l.map (kn a)).filter (fun p : Int × Int => decide (p.1 = 3))).length = (l.filter (fun x => decide (x ∈ a))).length := by
  induction l with
  | nil => rfl
  | cons c l ih =>
    rw [List.map_cons]
    by_cases h : c ∈ a
    · rw [List.filter_cons_of_pos (by simp [kn, h]), List.filter_cons_of_pos (by simpa using h)]; simp only [List.length_cons]; omega
    · rw [List.filter_cons_of_neg (by simp [kn, h]), List.filter_cons_of_neg (by simpa using h)]; exact ih
theorem filter_swap (l : List Int) (p q : Int → Bool) : (l.filter p).filter q = (l.filter q).filter p := by
  rw [List.filter_filter, List.filter_filter]
  congr 1
  funext x
  exact Bool.and_comm _ _
section
variable {a b : List Int} {r : List Nat}
/-- the three counts. -/
theorem count_moves (hb : b.Nodup) (hr : Rises a b r) (hsa : ∀ x ∈ stayIds a b r, x ∈ a) (hsc : ∀ x ∈ stayIds a b r, x ∈ comm a b) : mvs (steps a b (stayIds a b r)) + r.length = (comm a b).length := by
  rw [mvs_map]
  unfold steps
  rw [List.map_append, drops_ids, sfx_all hsa, List.filter_append, List.length_append]
  have h1 : (((a.filter (fun x => decide (¬ x ∈ b))).map fun x => ((1 : Int), x)).filter (fun p : Int × Int => decide (p.1 = 3))) = [] := by
    rw [List.filter_eq_nil_iff]
    intro p hp
    obtain ⟨x, _, rfl⟩ := List.mem_map.1 hp
    simp
  rw [h1, List.length_nil, Nat.zero_add, List.filter_reverse, List.length_reverse, kn_moves, filter_swap]
  have h2 := filter_not' (comm a b) (stayIds a b r)
  rw [filter_sub (comm_nodup hb) (stay_nodup hb hr) hsc, stay_len] at h2
  exact h2
theorem comm_len (ha : a.Nodup) (hb : b.Nodup) : (a.filter (fun x => decide (x ∈ b))).length = (comm a b).length := by
  refine List.Perm.length_eq ((List.perm_ext_iff_of_nodup (ha.filter _) (comm_nodup hb)).2 fun x => ?_)
  rw [List.mem_filter, comm_mem]
  simp only [decide_eq_true_eq]
  exact ⟨fun h => ⟨h.2, h.1⟩, fun h => ⟨h.2, h.1⟩⟩
theorem count_all (ha : a.Nodup) (hb : b.Nodup) (hr : Rises a b r) (hsa : ∀ x ∈ stayIds a b r, x ∈ a) (hsb : ∀ x ∈ stayIds a b r, x ∈ b) : (steps a b (stayIds a b r)).length + (comm a b).length + r.length = a.length + b.length := by
  unfold steps
  rw [List.length_append]
  have h1 : (dropsOf a b).length = (a.filter (fun x => decide (¬ x ∈ b))).length := by unfold dropsOf; rw [List.length_map]
  have h2 : (sfx a b (stayIds a b r) b.length).length = (b.filter (fun x => decide (¬ x ∈ stayIds a b r))).length := by
    have h := congrArg List.length (sfx_all (b := b) hsa)
    simpa using h
  have h3 := filter_not' a b
  have h4 := filter_not' b (stayIds a b r)
  rw [filter_sub hb (stay_nodup hb hr) hsb, stay_len] at h4
  rw [comm_len ha hb] at h3
  omega
theorem ids_nodup (ha : a.Nodup) (hb : b.Nodup) (hsa : ∀ x ∈ stayIds a b r, x ∈ a) : ((steps a b (stayIds a b r)).map (fun t => t.2.1)).Nodup := by
  have e : (steps a b (stayIds a b r)).map (fun t => t.2.1) = (a.filter (fun x => decide (¬ x ∈ b))) ++ (b.filter (fun x => decide (¬ x ∈ stayIds a b r))).reverse := by
    unfold steps
    rw [List.map_append]
    congr 1
    · unfold dropsOf
      rw [List.map_map]
      exact List.map_id _
    · have h := congrArg (List.map Prod.snd) (sfx_all (b := b) hsa)
      rw [List.map_map, ← List.map_reverse, List.map_map] at h
      have h5 : (Prod.snd ∘ kn a) = id := by funext x; rfl
      rw [h5, List.map_id] at h
      exact h
  rw [e, List.nodup_append]
  refine ⟨ha.filter _, (List.reverse_perm _).nodup_iff.2 (hb.filter _), fun x hx y hy hxy => ?_⟩
  subst hxy
  rw [List.mem_filter] at hx
  rw [List.mem_reverse, List.mem_filter] at hy
  simp only [decide_eq_true_eq] at hx
  exact hx.2 hy.1
end
end We
end Go.Proofs.Ytdojalflgfacgaa
