/- Those that are moved back lie where they were: the shifts of a plan, done to the later snapshot. -/
import Derived.Test.YtdaohjimfgdmbaaFpB2
namespace Go.Proofs.Ytdaohjimfgdmbaa
open Go.RowKit Go.Maps Sn M
def fo (P : List Sh) (e : En) : En := P.foldl (fun e s => mv s e) e
theorem fo_id (P : List Sh) : ∀ e, (fo P e).id = e.id := by
  induction P with
  | nil => intro e; rfl
  | cons s P ih => intro e; show (fo P (mv s e)).id = _; rw [ih, mv_id]
theorem appS_map (P : List Sh) : ∀ R, appS R P = R.map (fo P) := by
  induction P with
  | nil => intro R; show R = _; rw [show fo [] = id from rfl, List.map_id]
  | cons s P ih => intro R; rw [appS_cons, ih, List.map_map]; rfl
theorem fo_none (P : List Sh) : ∀ e, (∀ s ∈ P, s.id ≠ e.id) → fo P e = e := by
  induction P with
  | nil => intro e _; rfl
  | cons s P ih =>
    intro e h
    have h1 : mv s e = e := by unfold mv; rw [if_neg (fun q => h s List.mem_cons_self q.symm)]
    show fo P (mv s e) = e
    rw [h1]
    exact ih e fun t ht => h t (List.mem_cons_of_mem _ ht)
theorem fo_one (P : List Sh) : ∀ e s, P.Pairwise (fun a b => a.id ≠ b.id) → s ∈ P → s.id = e.id → fo P e = mv s e := by
  induction P with
  | nil => intro e s _ h; cases h
  | cons t P ih =>
    intro e s hp hs he
    obtain ⟨p1, p2⟩ := List.pairwise_cons.1 hp
    rcases List.mem_cons.1 hs with q | q
    · subst q
      show fo P (mv s e) = _
      exact fo_none P _ fun t ht => by rw [mv_id]; have := p1 t ht; rw [← he]; exact fun e2 => this e2.symm
    · have h1 : mv t e = e := by unfold mv; rw [if_neg (fun e2 => p1 s q (by rw [he, e2]))]
      show fo P (mv t e) = _
      rw [h1]
      exact ih e s p2 q he
theorem stepP_id {L M : List En} {I : List Int} {k : Nat} : ∀ s ∈ stepP L M I k, s = shf L M (I.getD k 0) ∧ ¬ I.getD k 0 ∈ I.take k := by
  intro s hs
  unfold stepP at hs
  split at hs
  · cases hs
  · rename_i h
    split at hs
    · cases hs
    · rw [List.mem_singleton.1 hs]; exact ⟨rfl, h⟩
theorem planP_ids {L M : List En} {I : List Int} : ∀ k, k ≤ I.length → (∀ s ∈ planP L M I k, s = shf L M s.id ∧ s.id ∈ I.take k) ∧ (planP L M I k).Pairwise (fun a b => a.id ≠ b.id) := by
  intro k
  induction k with
  | zero => intro _; exact ⟨fun s h => (by cases h), List.Pairwise.nil⟩
  | succ k ih =>
    intro hk
    obtain ⟨h1, h2⟩ := ih (by omega)
    have ht := take_nextI I k (by omega)
    refine ⟨fun s hs => ?_, ?_⟩
    · rcases List.mem_append.1 (show s ∈ planP L M I k ++ stepP L M I k from hs) with q | q
      · obtain ⟨a, b⟩ := h1 s q
        exact ⟨a, by rw [ht]; exact List.mem_append_left _ b⟩
      · obtain ⟨a, _⟩ := stepP_id s q
        rw [a]
        exact ⟨rfl, by rw [ht]; exact List.mem_append_right _ (List.mem_singleton.2 rfl)⟩
    · show (planP L M I k ++ stepP L M I k).Pairwise _
      refine List.pairwise_append.2 ⟨h2, ?_, fun a ha b hb => ?_⟩
      · unfold stepP
        split
        · exact List.Pairwise.nil
        · split
          · exact List.Pairwise.nil
          · exact List.pairwise_singleton _ _
      · obtain ⟨q1, q2⟩ := stepP_id b hb
        intro e
        have := (h1 a ha).2
        rw [e, q1] at this
        exact q2 this
theorem planP_all {L M : List En} {I : List Int} : ∀ k, k ≤ I.length → ∀ id ∈ I.take k, ((shf L M id).dx = 0 ∧ (shf L M id).dy = 0) ∨ shf L M id ∈ planP L M I k := by
  intro k
  induction k with
  | zero => intro _ id h; simp at h
  | succ k ih =>
    intro hk id hid
    rw [take_nextI I k (by omega)] at hid
    have hmono : shf L M id ∈ planP L M I k → shf L M id ∈ planP L M I (k + 1) := fun h => List.mem_append_left _ h
    rcases List.mem_append.1 hid with q | q
    · exact (ih (by omega) id q).imp (fun h => h) hmono
    · rw [List.mem_singleton.1 q]
      by_cases h1 : I.getD k 0 ∈ I.take k
      · rw [List.mem_singleton.1 q] at hmono
        exact (ih (by omega) _ h1).imp (fun h => h) hmono
      · by_cases h2 : (shf L M (I.getD k 0)).dx = 0 ∧ (shf L M (I.getD k 0)).dy = 0
        · exact .inl h2
        · right
          show _ ∈ planP L M I k ++ stepP L M I k
          refine List.mem_append_right _ ?_
          unfold stepP
          rw [if_neg h1, if_neg h2]
          exact List.mem_singleton.2 rfl
def inB (n : Int) : Prop := -1000000000 ≤ n ∧ n ≤ 1000000000
theorem back_toS (a x : Int) (h1 : inB a) (h2 : inB x) : ad x (sb a x) = a := by
  unfold inB at h1 h2
  unfold ad sb st
  omega
theorem sb_zero (a x : Int) (h1 : inB a) (h2 : inB x) (h : sb a x = 0) : x = a := by
  unfold inB at h1 h2
  unfold sb st at h
  omega
/-- what Get finds when the plan has been done to the later snapshot. -/
theorem back_get {X Y R : List En} {J : List Int} (hr : Is En.id Y R) (id : Int) : lastAt En.id (appS R (planP X Y J J.length)) id = (lastAt En.id Y id).map (fo (planP X Y J J.length)) := by
  have hu := appS_up (planP X Y J J.length) hr.up
  have hs := Is.self hu
  rw [appS_map] at hs ⊢
  cases hl : lastAt En.id Y id with
  | none =>
    refine lastAt_none.2 fun x hx e => ?_
    obtain ⟨y, hy, rfl⟩ := List.mem_map.1 hx
    rw [fo_id] at e
    have := hr.mem.1 hy
    rw [e, hl] at this
    cases this
  | some y =>
    obtain ⟨_, he⟩ := lastAt_some hl
    have hy : y ∈ R := hr.mem.2 (by rw [he]; exact hl)
    have := hs.mem.1 (List.mem_map.2 ⟨y, hy, rfl⟩)
    rw [fo_id, he] at this
    exact this
/-- one that stayed lies where it was. -/
theorem back_at {X Y : List En} {J : List Int} {id : Int} (hid : id ∈ J) {a e : En} (ha : lastAt En.id X id = some a) (he : lastAt En.id Y id = some e) (b1 : inB a.x) (b2 : inB a.y) (b3 : inB e.x) (b4 : inB e.y) :
    (fo (planP X Y J J.length) e).x = a.x ∧ (fo (planP X Y J J.length) e).y = a.y ∧ (fo (planP X Y J J.length) e).w = e.w ∧ (fo (planP X Y J J.length) e).h = e.h := by
  obtain ⟨p1, p2⟩ := planP_ids (L := X) (M := Y) (I := J) J.length (Nat.le_refl _)
  obtain ⟨_, hei⟩ := lastAt_some he
  have hsh : shf X Y id = ⟨id, sb a.x e.x, sb a.y e.y⟩ := by unfold shf; rw [ha, he]; rfl
  by_cases hex : ∃ s ∈ planP X Y J J.length, s.id = e.id
  · obtain ⟨s, hs, hsi⟩ := hex
    rw [fo_one _ e s p2 hs hsi]
    have h1 := (p1 s hs).1
    rw [hsi, hei, hsh] at h1
    subst h1
    unfold mv
    rw [if_pos hei]
    exact ⟨back_toS _ _ b1 b3, back_toS _ _ b2 b4, rfl, rfl⟩
  · rw [fo_none _ e (fun s hs q => hex ⟨s, hs, q⟩)]
    rcases planP_all (L := X) (M := Y) (I := J) J.length (Nat.le_refl _) id (by rw [List.take_length]; exact hid) with h | h
    · rw [hsh] at h
      exact ⟨sb_zero _ _ b1 b3 h.1, sb_zero _ _ b2 b4 h.2, rfl, rfl⟩
    · exact absurd ⟨_, h, by rw [hsh]; exact hei.symm⟩ hex
end Go.Proofs.Ytdaohjimfgdmbaa
