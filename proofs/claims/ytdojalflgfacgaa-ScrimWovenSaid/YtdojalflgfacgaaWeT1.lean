/- Whatever steps come to the list: as many moves at least as there are in both, less the longest row that rises. -/
import Derived.Test.YtdojalflgfacgaaWeL1
import Derived.Test.YtdojalflgfacgaaLiW1
namespace Go.Proofs.Ytdojalflgfacgaa
namespace We
def stepD (out : List Int) (s : Stp) : Option (List Int) :=
  if s.1 < 1 ∨ s.1 > 3 ∨ (s.2.1 ∈ out ↔ s.1 = 2) then none
  else if s.1 > 1 then (if s.2.2 < 0 ∨ s.2.2 > ((without out s.2.1).length : Int) then none
    else some ((without out s.2.1).take s.2.2.toNat ++ s.2.1 :: (without out s.2.1).drop s.2.2.toNat))
  else some (without out s.2.1)
def appD (o : List Int) : List Stp → Option (List Int)
  | [] => some o
  | s :: L => (stepD o s).bind fun o' => appD o' L
theorem appD_snoc (L : List Stp) (s : Stp) : ∀ o, appD o (L ++ [s]) = (appD o L).bind fun o' => stepD o' s := by
  induction L with
  | nil =>
    intro o
    show (stepD o s).bind (fun o' => some o') = stepD o s
    cases stepD o s <;> rfl
  | cons c L ih =>
    intro o
    show (stepD o c).bind (fun o' => appD o' (L ++ [s])) = ((stepD o c).bind fun o' => appD o' L).bind fun o' => stepD o' s
    cases stepD o c with
    | none => rfl
    | some o' => exact ih o'
theorem appD_app (L M : List Stp) : ∀ o, appD o (L ++ M) = (appD o L).bind fun o' => appD o' M := by
  induction L with
  | nil => intro o; rfl
  | cons c L ih =>
    intro o
    show (stepD o c).bind (fun o' => appD o' (L ++ M)) = ((stepD o c).bind fun o' => appD o' L).bind fun o' => appD o' M
    cases stepD o c with
    | none => rfl
    | some o' => exact ih o'
theorem appD_stop {L : List Stp} {o out : List Int} {k : Nat} (hk : k < L.length) (h : appD o (L.take k) = some out) (hs : stepD out L[k] = none) : appD o L = none := by
  have e : L = L.take k ++ L[k] :: L.drop (k + 1) := by rw [← List.drop_eq_getElem_cons hk, List.take_append_drop]
  rw [e, appD_app, h]
  show (stepD out L[k]).bind _ = none
  rw [hs]
  rfl
theorem appD_go {L : List Stp} {o out out' : List Int} {k : Nat} (hk : k < L.length) (h : appD o (L.take k) = some out) (hs : stepD out L[k] = some out') : appD o (L.take (k + 1)) = some out' := by
  rw [List.take_succ_eq_append_getElem hk, appD_snoc, h]
  exact hs
theorem without_len (l : List Int) (x : Int) : (without l x).length ≤ l.length := by unfold without; exact List.length_filter_le _ _
theorem stepD_len {out o : List Int} {s : Stp} (h : stepD out s = some o) : o.length ≤ out.length + 1 := by
  have hw := without_len out s.2.1
  unfold stepD at h
  split at h
  · cases h
  · split at h
    · split at h
      · cases h
      · injection h with h
        subst h
        simp
        omega
    · injection h with h
      subst h
      omega
theorem appD_len : ∀ {L : List Stp} {out o : List Int}, appD out L = some o → o.length ≤ out.length + L.length
  | [], out, o, h => by injection h with h; subst h; simp
  | s :: L, out, o, h => by
    cases hs : stepD out s with
    | none => rw [appD, hs] at h; cases h
    | some o' =>
      rw [appD, hs] at h
      have h1 := appD_len (L := L) h
      have h2 := stepD_len hs
      rw [List.length_cons]
      omega
theorem stepD_bad {out : List Int} {x y z : Int} (h : x < 1 ∨ x > 3 ∨ (y ∈ out ↔ x = 2)) : stepD out (x, y, z) = none := by
  unfold stepD
  exact if_pos h
theorem stepD_drop {out : List Int} {y z : Int} (h : y ∈ out) : stepD out (1, y, z) = some (without out y) := by
  unfold stepD
  rw [if_neg (by simp [h]), if_neg (by simp)]
theorem stepD_far {out : List Int} {x y z : Int} (hx : x = 2 ∨ x = 3) (h : ¬ (y ∈ out ↔ x = 2)) (hz : z < 0 ∨ z > ((without out y).length : Int)) : stepD out (x, y, z) = none := by
  unfold stepD
  rw [if_neg (by rintro (h1 | h1 | h1); (simp only at h1; omega); (simp only at h1; omega); exact h h1), if_pos (by simp only; omega)]
  exact if_pos hz
theorem stepD_put {out : List Int} {x y : Int} {z : Nat} (hx : x = 2 ∨ x = 3) (h : ¬ (y ∈ out ↔ x = 2)) (hz : z ≤ (without out y).length) : stepD out (x, y, (z : Int)) = some ((without out y).take z ++ y :: (without out y).drop z) := by
  unfold stepD
  rw [if_neg (by rintro (h1 | h1 | h1); (simp only at h1; omega); (simp only at h1; omega); exact h h1), if_pos (by simp only; omega)]
  rw [if_neg (by simp only; omega)]
  rfl
theorem stepD_keep {U : Int → Bool} {out o : List Int} {s : Stp} (h : stepD out s = some o) (hU : s.1 = 2 ∨ s.1 = 3 → U s.2.1 = false) : (o.filter U).Sublist (out.filter U) := by
  unfold stepD at h
  split at h
  · cases h
  · rename_i hk
    have hw : ((without out s.2.1).filter U).Sublist (out.filter U) := by
      unfold without
      exact List.Sublist.filter U List.filter_sublist
    split at h
    · split at h
      · cases h
      · injection h with h
        subst h
        have hu := hU (by omega)
        rw [List.filter_append, List.filter_cons_of_neg (by simp [hu]), ← List.filter_append, List.take_append_drop]
        exact hw
    · injection h with h
      subst h
      exact hw
theorem appD_keep {U : Int → Bool} : ∀ {L : List Stp} {out o : List Int}, appD out L = some o → (∀ t ∈ L, t.1 = 2 ∨ t.1 = 3 → U t.2.1 = false) → (o.filter U).Sublist (out.filter U)
  | [], out, o, h, _ => by
    injection h with h
    subst h
    exact List.Sublist.refl _
  | s :: L, out, o, h, hU => by
    cases hs : stepD out s with
    | none => rw [appD, hs] at h; cases h
    | some o' =>
      rw [appD, hs] at h
      exact (appD_keep (L := L) h (fun t ht => hU t (List.mem_cons_of_mem _ ht))).trans (stepD_keep hs (hU s List.mem_cons_self))
theorem nodup_ix {l : List Int} (h : l.Nodup) : l.Pairwise (fun x y => ix l x < ix l y) := by
  rw [List.pairwise_iff_getElem]
  intro i j hi hj hij
  have e1 : l[i] = at' l i := (at_eq l i hi).symm
  have e2 : l[j] = at' l j := (at_eq l j hj).symm
  rw [e1, e2, ix_at h hi, ix_at h hj]
  exact hij
theorem rise_le {a b V : List Int} (ha : a.Nodup) (hb : b.Nodup) (h1 : V.Sublist (comm a b)) (h2 : V.Sublist a) : V.length ≤ Li.top (ats (olds a b)) (comm a b).length := by
  have p1 := (nodup_ix (comm_nodup (a := a) hb)).sublist h1
  have p2 := (nodup_ix ha).sublist h2
  rw [List.pairwise_iff_getElem] at p1 p2
  have hin : ∀ k (h : k < V.length), V[k] ∈ comm a b := fun k h => h1.subset (List.getElem_mem h)
  have hL : ∀ k (h : k < V.length), ats (olds a b) (ix (comm a b) V[k]) = (ix a V[k] : Int) := fun k h => by
    rw [show ats (olds a b) (ix (comm a b) V[k]) = _ from olds_at (ix_lt (hin k h)), get_ix (hin k h)]
  have key : ∀ k (h : k < V.length), k + 1 ≤ Li.N (ats (olds a b)) (ix (comm a b) V[k]) := by
    intro k
    induction k with
    | zero => intro h; exact Li.N_pos _ _
    | succ k ih =>
      intro h
      refine Li.chain (ih (by omega)) (p1 k (k + 1) (by omega) h (by omega)) ?_
      rw [hL k (by omega), hL (k + 1) h]
      have := p2 k (k + 1) (by omega) h (by omega)
      omega
  rcases Nat.eq_zero_or_pos V.length with h0 | h0
  · omega
  · have h3 := key (V.length - 1) (by omega)
    have h4 := Li.top_ge (ats (olds a b)) (comm a b).length (ix (comm a b) (V[V.length - 1]'(by omega))) (ix_lt (hin _ (by omega)))
    omega
theorem sub_len {l m : List Int} (hl : l.Nodup) (h : ∀ x ∈ l, x ∈ m) : l.length ≤ m.length := by
  have h1 := filter_sub (b := once m) (s := l) (once_nodup m) hl (fun x hx => (once_mem _ _).2 (h x hx))
  have h2 := List.length_filter_le (fun x => decide (x ∈ l)) (once m)
  have h3 := once_len m
  omega
/-- a step that counts: a move, or an insert of what was there at first. -/
def moved (F : List Int) (t : Stp) : Bool := decide (t.1 = 3) || (decide (t.1 = 2) && decide (t.2.1 ∈ F))
def cost (F : List Int) (L : List Stp) : Nat := (L.filter (moved F)).length
theorem least {F a b : List Int} {L : List Stp} (ha : a.Nodup) (hb : b.Nodup) (haF : ∀ x ∈ a, x ∈ F) (h : appD a L = some b) : (comm a b).length ≤ cost F L + Li.top (ats (olds a b)) (comm a b).length := by
  obtain ⟨U, hU⟩ : ∃ U : Int → Bool, U = fun x => decide (x ∈ a) && !(L.any fun t => (decide (t.1 = 2) || decide (t.1 = 3)) && decide (t.2.1 = x)) := ⟨_, rfl⟩
  have h1 : (b.filter U).Sublist (a.filter U) := appD_keep h (fun t ht hk => by
    rw [hU]
    simp only [Bool.and_eq_false_iff, Bool.not_eq_false']
    right
    rw [List.any_eq_true]
    exact ⟨t, ht, by rcases hk with hk | hk <;> simp [hk]⟩)
  have h2 : (b.filter U) = (comm a b).filter U := by
    unfold comm
    rw [List.filter_filter]
    congr 1
    funext x
    rw [hU]
    simp
    exact fun h _ => h
  have h3 : (b.filter U).length ≤ Li.top (ats (olds a b)) (comm a b).length := rise_le ha hb (h2 ▸ List.filter_sublist) (h1.trans List.filter_sublist)
  have h4 := filter_not (comm a b) U
  have h5 : ((comm a b).filter (fun x => !U x)).length ≤ ((L.filter (moved F)).map (fun t => t.2.1)).length := by
    refine sub_len ((comm_nodup hb).filter _) (fun x hx => ?_)
    rw [List.mem_filter] at hx
    obtain ⟨hx1, hx2⟩ := hx
    have hxa := (comm_mem.1 hx1).2
    rw [hU] at hx2
    simp only [hxa, decide_true, Bool.true_and, Bool.not_not, List.any_eq_true] at hx2
    obtain ⟨t, ht, hk⟩ := hx2
    rw [Bool.and_eq_true] at hk
    have e : t.2.1 = x := of_decide_eq_true hk.2
    refine List.mem_map.2 ⟨t, List.mem_filter.2 ⟨ht, ?_⟩, e⟩
    unfold moved
    have h8 := hk.1
    rw [Bool.or_eq_true] at h8
    rcases h8 with h6 | h6
    · have h7 := haF x hxa
      rw [← e] at h7
      simp [of_decide_eq_true h6, h7]
    · simp [of_decide_eq_true h6]
  rw [List.length_map] at h5
  rw [h2] at h3
  unfold cost
  omega
end We
end Go.Proofs.Ytdojalflgfacgaa
