/- Plain facts on who is live, who stays and who goes, when kids are paired. -/
import Derived.Test.YtdojalflgfacgaaSwMath
import Derived.Test.YtdojalflgfacgaaMaMath
namespace Go.Proofs.Ytdojalflgfacgaa
open We Ma
namespace Sw
noncomputable def liv (old new : List Kd) (i : Nat) : Int := if pairF old new i < 0 then 100 + (i : Int) else pairF old new i
noncomputable def live (old new : List Kd) (k : Nat) : List Int := (List.range k).map (liv old new)
noncomputable def stay (old new : List Kd) : Nat → List Int
  | 0 => []
  | k + 1 => if pairF old new k < 0 then stay old new k else stay old new k ++ [pairF old new k]
section
variable {old new : List Kd}
theorem live_succ (k : Nat) : live old new (k + 1) = live old new k ++ [liv old new k] := by simp [live, List.range_succ]
theorem live_len (k : Nat) : (live old new k).length = k := by simp [live]
theorem stay_mem {x : Int} : ∀ k, (x ∈ stay old new k ↔ ∃ i, i < k ∧ x = pairF old new i ∧ 0 ≤ x)
  | 0 => by simp [stay]
  | k + 1 => by
    have ih := stay_mem (x := x) k
    unfold stay
    by_cases h : pairF old new k < 0
    · rw [if_pos h, ih]
      constructor
      · rintro ⟨i, h1, h2⟩; exact ⟨i, by omega, h2⟩
      · rintro ⟨i, h1, h2, h3⟩
        refine ⟨i, ?_, h2, h3⟩
        by_cases e : i = k
        · subst e; omega
        · omega
    · rw [if_neg h, List.mem_append, ih]
      constructor
      · rintro (⟨i, h1, h2⟩ | h1)
        · exact ⟨i, by omega, h2⟩
        · rw [List.mem_singleton.1 h1]; exact ⟨k, by omega, rfl, by omega⟩
      · rintro ⟨i, h1, h2, h3⟩
        by_cases e : i = k
        · right; rw [h2, e]; simp
        · left; exact ⟨i, by omega, h2, h3⟩
theorem stay_len : ∀ k, (stay old new k).length ≤ k
  | 0 => Nat.le_refl _
  | k + 1 => by
    have ih := stay_len k
    unfold stay
    split
    · omega
    · rw [List.length_append, List.length_singleton]; omega
theorem stay_lt {x : Int} {k : Nat} (h : x ∈ stay old new k) : 0 ≤ x ∧ x < old.length := by
  obtain ⟨i, _, h2, h3⟩ := (stay_mem k).1 h
  have := (pairF_lt old new i).2
  omega
theorem stay_nodup : ∀ k, k ≤ new.length → (stay old new k).Nodup
  | 0, _ => List.nodup_nil
  | k + 1, hk => by
    have ih := stay_nodup k (by omega)
    unfold stay
    by_cases h : pairF old new k < 0
    · rw [if_pos h]; exact ih
    · rw [if_neg h, List.nodup_append]
      refine ⟨ih, by simp, fun a ha b hb e => ?_⟩
      rw [List.mem_singleton.1 hb] at e
      obtain ⟨i, h1, h2, h3⟩ := (stay_mem k).1 ha
      have := pairF_inj (old := old) (new := new) (i := i) (i' := k) (by omega) (by omega) (by omega) (by omega)
      omega
theorem live_mem {x : Int} (ho : old.length ≤ 12) {k : Nat} : x ∈ live old new k → (x ∈ stay old new k ∧ 0 ≤ x ∧ x < 12) ∨ ∃ i, i < k ∧ x = 100 + (i : Int) := by
  intro h
  unfold live at h
  obtain ⟨i, hi, rfl⟩ := List.mem_map.1 h
  have hi' := List.mem_range.1 hi
  unfold liv
  by_cases e : pairF old new i < 0
  · rw [if_pos e]; exact .inr ⟨i, hi', rfl⟩
  · rw [if_neg e]
    have := (pairF_lt old new i).2
    exact .inl ⟨(stay_mem k).2 ⟨i, hi', rfl, by omega⟩, by omega, by omega⟩
theorem stay_live {x : Int} {k : Nat} (h : x ∈ stay old new k) : x ∈ live old new k := by
  obtain ⟨i, h1, h2, h3⟩ := (stay_mem k).1 h
  unfold live
  refine List.mem_map.2 ⟨i, List.mem_range.2 h1, ?_⟩
  unfold liv
  rw [if_neg (by omega), h2]
theorem live_stay {x : Int} (ho : old.length ≤ 12) {k : Nat} (hx : x < 100) : x ∈ live old new k ↔ x ∈ stay old new k := by
  constructor
  · intro h
    rcases live_mem ho h with h | ⟨i, _, h⟩
    · exact h.1
    · omega
  · exact stay_live
theorem live_nodup (ho : old.length ≤ 12) : ∀ k, k ≤ new.length → (live old new k).Nodup
  | 0, _ => by simp [live]
  | k + 1, hk => by
    have ih := live_nodup ho k (by omega)
    rw [live_succ, List.nodup_append]
    refine ⟨ih, by simp, fun a ha b hb e => ?_⟩
    rw [List.mem_singleton.1 hb] at e
    unfold liv at e
    have hlt := (pairF_lt old new k).2
    rcases live_mem ho ha with ⟨h1, h2, h3⟩ | ⟨i, h1, h2⟩
    · split at e
      · omega
      · obtain ⟨i, h4, h5, h6⟩ := (stay_mem k).1 h1
        have := pairF_inj (old := old) (new := new) (i := i) (i' := k) (by omega) (by omega) (by omega) (by omega)
        omega
    · split at e
      · omega
      · omega
theorem live_ok (ho : old.length ≤ 12) {k : Nat} (hk : k ≤ 12) {x : Int} (h : x ∈ live old new k) : 0 ≤ x ∧ x < 200 := by
  rcases live_mem ho h with ⟨_, h1, h2⟩ | ⟨i, h1, h2⟩ <;> omega
/-- who goes -/
theorem gone_is (ho : old.length ≤ 12) : (goneTo old new old.length).map (fun (k : Nat) => (k : Int)) = (wasN old.length).filter (fun x => decide (¬ x ∈ live old new new.length)) := by
  unfold goneTo wasN
  rw [List.filter_map]
  congr 1
  apply List.filter_congr
  intro j hj
  have hj' := List.mem_range.1 hj
  simp only [Function.comp_apply, decide_eq_decide]
  refine not_congr ?_
  rw [live_stay ho (by omega), stay_mem]
  unfold pairs
  rw [List.mem_map]
  constructor
  · rintro ⟨i, h1, h2⟩; exact ⟨i, List.mem_range.1 h1, h2.symm, by omega⟩
  · rintro ⟨i, h1, h2, _⟩; exact ⟨i, List.mem_range.2 h1, h2.symm⟩
theorem gone_mem (ho : old.length ≤ 12) {x : Int} : x ∈ (goneTo old new old.length).map (fun (k : Nat) => (k : Int)) ↔ (∃ k : Nat, k < old.length ∧ x = (k : Int)) ∧ ¬ x ∈ live old new new.length := by
  rw [gone_is ho, List.mem_filter, wasN_mem]
  simp
theorem perm_of {l m : List Int} (hl : l.Nodup) (hm : m.Nodup) (h : ∀ x, x ∈ l ↔ x ∈ m) : l.length = m.length := ((List.perm_ext_iff_of_nodup hl hm).2 h).length_eq
theorem gone_len (ho : old.length ≤ 12) : (goneTo old new old.length).length + (stay old new new.length).length = old.length := by
  have h1 : ((goneTo old new old.length).map (fun (k : Nat) => (k : Int)) ++ stay old new new.length).length = (wasN old.length).length := by
    refine perm_of ?_ (wasN_nodup _) (fun x => ?_)
    · rw [List.nodup_append]
      refine ⟨by rw [gone_is ho]; exact (wasN_nodup _).filter _, stay_nodup _ (Nat.le_refl _), fun a ha b hb e => ?_⟩
      subst e
      exact ((gone_mem ho).1 ha).2 (stay_live hb)
    · rw [List.mem_append, gone_mem ho, wasN_mem]
      constructor
      · rintro (h | h)
        · exact h.1
        · have := stay_lt h
          exact ⟨x.toNat, by omega, by omega⟩
      · rintro ⟨k, hk, rfl⟩
        by_cases e : (k : Int) ∈ live old new new.length
        · exact .inr ((live_stay ho (by omega)).1 e)
        · exact .inl ⟨⟨k, hk, rfl⟩, e⟩
  rw [List.length_append, List.length_map, wasN_len] at h1
  exact h1
theorem to_len (ho : old.length ≤ 12) : (merge (wasN old.length) (live old new new.length)).length + (stay old new new.length).length = old.length + new.length := by
  have h1 := merge_len (n := old.length) (L := live old new new.length)
  rw [← gone_is ho, List.length_map, live_len] at h1
  have h2 := gone_len (old := old) (new := new) ho
  omega
/-- old ones among those that stand there -/
theorem places_is (ho : old.length ≤ 12) : (merge (wasN old.length) (live old new new.length)).filter (fun x => decide (x < 100)) = comm (wasN old.length) (merge (wasN old.length) (live old new new.length)) := by
  unfold comm
  apply List.filter_congr
  intro x hx
  rw [decide_eq_decide]
  constructor
  · intro h
    rcases merge_mem.1 hx with h1 | h1
    · have h2 := (live_stay ho h).1 h1
      have := stay_lt h2
      exact wasN_mem.2 ⟨x.toNat, by omega, by omega⟩
    · exact h1
  · intro h
    obtain ⟨k, hk, rfl⟩ := wasN_mem.1 h
    omega
theorem olds_is (n : Nat) (to : List Int) : olds (wasN n) to = comm (wasN n) to := by
  unfold olds
  have h : ∀ x ∈ comm (wasN n) to, (ix (wasN n) x : Int) = x := fun x hx => by
    obtain ⟨k, hk, rfl⟩ := wasN_mem.1 (comm_mem.1 hx).2
    rw [wasN_ix hk]
  rw [List.map_congr_left h, List.map_id']
/-- the nearest one ahead of g -/
def nearTo (S : List Int) (g : Int) : Int := S.foldl (fun a s => if s < g ∧ s > a then s else a) (-1)
theorem near_step (S : List Int) (g s : Int) : nearTo (S ++ [s]) g = if s < g ∧ s > nearTo S g then s else nearTo S g := by unfold nearTo; rw [List.foldl_append]; rfl
def NearIs (S : List Int) (g : Int) (v : Int) : Prop := (v = -1 ∨ (v ∈ S ∧ v < g)) ∧ -1 ≤ v ∧ ∀ s ∈ S, s < g → s ≤ v
theorem near_snoc {S : List Int} {g s : Int} (h : NearIs S g (nearTo S g)) : NearIs (S ++ [s]) g (nearTo (S ++ [s]) g) := by
  obtain ⟨h1, h2, h3⟩ := h
  rw [near_step]
  by_cases h : s < g ∧ s > nearTo S g
  · rw [if_pos h]
    refine ⟨.inr ⟨by simp, h.1⟩, by omega, fun t ht htg => ?_⟩
    rcases List.mem_append.1 ht with h4 | h4
    · have := h3 t h4 htg; omega
    · rw [List.mem_singleton.1 h4]; exact Int.le_refl _
  · rw [if_neg h]
    refine ⟨h1.imp id (fun h4 => ⟨List.mem_append_left _ h4.1, h4.2⟩), h2, fun t ht htg => ?_⟩
    rcases List.mem_append.1 ht with h4 | h4
    · exact h3 t h4 htg
    · rw [List.mem_singleton.1 h4] at htg ⊢
      omega
theorem near_take (S : List Int) (g : Int) : ∀ k, k ≤ S.length → NearIs (S.take k) g (nearTo (S.take k) g)
  | 0, _ => by
    rw [List.take_zero]
    exact ⟨.inl rfl, Int.le_refl _, fun s h => by cases h⟩
  | k + 1, h => by
    rw [List.take_succ_eq_append_getElem (by omega)]
    exact near_snoc (near_take S g k (by omega))
theorem near_spec (g : Int) (S : List Int) : (nearTo S g = -1 ∨ (nearTo S g ∈ S ∧ nearTo S g < g)) ∧ -1 ≤ nearTo S g ∧ ∀ s ∈ S, s < g → s ≤ nearTo S g := by
  have h := near_take S g S.length (Nat.le_refl _)
  rw [List.take_length] at h
  exact h
/-- what 'behind' asks, of a ghost -/
theorem behind_has (ho : old.length ≤ 12) {g : Nat} (hg : g < old.length) (hm : ¬ (g : Int) ∈ live old new new.length) :
    ∃ pre gs post, merge (wasN old.length) (live old new new.length) = pre ++ gs ++ (g : Int) :: post ∧ (∀ x ∈ gs, x ∈ (goneTo old new old.length).map (fun (k : Nat) => (k : Int)) ∧ x < (g : Int)) ∧
    ((pre = [] ∧ nearTo (stay old new new.length) g < 0) ∨ ∃ p, pre = p ++ [nearTo (stay old new new.length) g] ∧ ¬ nearTo (stay old new new.length) g ∈ (goneTo old new old.length).map (fun (k : Nat) => (k : Int))) := by
  obtain ⟨pre, gs, post, h1, h2, h3⟩ := behind_is hg hm
  obtain ⟨n1, n2, n3⟩ := near_spec (g : Int) (stay old new new.length)
  refine ⟨pre, gs, post, h1, fun x hx => ?_, ?_⟩
  · obtain ⟨t, rfl, t2, t3⟩ := h2 x hx
    exact ⟨(gone_mem ho).2 ⟨⟨t, by omega, rfl⟩, t3⟩, by omega⟩
  · rcases h3 with ⟨h3, h4⟩ | ⟨p, s, h3, h4, h5, h6⟩
    · left
      refine ⟨h3, ?_⟩
      rcases n1 with h | ⟨h, hl⟩
      · omega
      · exfalso
        have h7 := stay_lt h
        refine h4 (nearTo (stay old new new.length) g).toNat (by omega) ?_
        rw [show (((nearTo (stay old new new.length) g).toNat : Nat) : Int) = nearTo (stay old new new.length) g by omega]
        exact stay_live h
    · right
      have hs : (s : Int) ∈ stay old new new.length := (live_stay ho (by omega)).1 h5
      have h7 := n3 s hs (by omega)
      have e : nearTo (stay old new new.length) g = (s : Int) := by
        rcases n1 with h | ⟨h, hl⟩
        · omega
        · have h8 := stay_lt h
          by_cases e : nearTo (stay old new new.length) g = (s : Int)
          · exact e
          · exfalso
            refine h6 (nearTo (stay old new new.length) g).toNat (by omega) (by omega) ?_
            rw [show (((nearTo (stay old new new.length) g).toNat : Nat) : Int) = nearTo (stay old new new.length) g by omega]
            exact stay_live h
      rw [e]
      exact ⟨p, h3, fun h => ((gone_mem ho).1 h).2 h5⟩
end
end Sw
end Go.Proofs.Ytdojalflgfacgaa
