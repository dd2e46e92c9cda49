/- The steps come to the list. -/
import Derived.Test.YtdojalflgfacgaaWeT1
namespace Go.Proofs.Ytdojalflgfacgaa
namespace We
theorem appD_drops : ∀ (l out : List Int), l.Nodup → (∀ x ∈ l, x ∈ out) → appD out (l.map fun x => ((1 : Int), x, (0 : Int))) = some (out.filter (fun x => decide (¬ x ∈ l)))
  | [], out, _, _ => by
    show some out = _
    rw [List.filter_eq_self.2 (fun x _ => by simp)]
  | c :: l, out, hn, hs => by
    obtain ⟨h1, h2⟩ := List.nodup_cons.1 hn
    have ih := appD_drops l (without out c) h2 (fun x hx => List.mem_filter.2 ⟨hs x (List.mem_cons_of_mem _ hx), by simp; exact fun e => h1 (e ▸ hx)⟩)
    show (stepD out (1, c, 0)).bind _ = _
    rw [stepD_drop (hs c List.mem_cons_self)]
    show appD (without out c) _ = _
    rw [ih]
    unfold without
    rw [List.filter_filter]
    congr 2
    funext x
    by_cases e1 : x = c <;> by_cases e2 : x ∈ l <;> simp [e1, e2]
theorem appD_some {L M : List Stp} {o o' : List Int} (h : appD o L = some o') : appD o (L ++ M) = appD o' M := by rw [appD_app, h]; rfl
theorem appD_sfx {a b : List Int} {r : List Nat} (ha : a.Nodup) (hb : b.Nodup) (hr : Rises a b r) (hsa : ∀ x ∈ stayIds a b r, x ∈ a) : ∀ j, j ≤ b.length →
    ∃ nw, appD (a.filter (fun x => decide (x ∈ b))) (sfx a b (stayIds a b r) j) = some nw ∧ Now a b (stayIds a b r) (b.length - j) nw ∧ (∀ y ∈ nw, y ∈ a ∨ y ∈ b.drop (b.length - j)) ∧ (∀ y ∈ a, y ∈ b → y ∈ nw)
  | 0, _ => ⟨_, rfl, Now.start ha, fun y hy => .inl (List.mem_filter.1 hy).1, fun y h1 h2 => List.mem_filter.2 ⟨h1, by simpa using h2⟩⟩
  | j + 1, hj => by
    obtain ⟨nw, h1, h2, h3, h4⟩ := appD_sfx ha hb hr hsa j (by omega)
    obtain ⟨p, hp⟩ : ∃ p, b.length - j = p + 1 := ⟨b.length - j - 1, by omega⟩
    have hpb : p < b.length := by omega
    have e1 : b.length - (j + 1) = p := by omega
    have e2 : b.length - 1 - j = p := by omega
    rw [hp] at h2 h3
    rw [e1]
    have hsx : sfx a b (stayIds a b r) (j + 1) = sfx a b (stayIds a b r) j ++ stepOf a b (stayIds a b r) p := by rw [← e2]; rfl
    rw [hsx, appD_some h1]
    have hlift : ∀ y ∈ nw, y ∈ a ∨ y ∈ b.drop p := fun y hy => (h3 y hy).imp_right (fun h => by rw [drop_next hpb]; exact List.mem_cons_of_mem _ h)
    by_cases hxs : at' b p ∈ stayIds a b r
    · have hxa := hsa _ hxs
      have hso : stepOf a b (stayIds a b r) p = [] := by unfold stepOf; simp only; rw [if_pos hxa, if_pos hxs]
      rw [hso]
      exact ⟨nw, rfl, h2.stay ha hb hpb hxs hxa (lim_stay hb hr hpb hxs) (lim_le hsa _), hlift, h4⟩
    · obtain ⟨_, _, k3⟩ := h2.at_is hb hpb _ rfl
      have hput := h2.put hb hpb _ rfl hxs
      have hm1 : ∀ y ∈ (without nw (at' b p)).take (cnt a b (stayIds a b r) p) ++ at' b p :: (without nw (at' b p)).drop (cnt a b (stayIds a b r) p), y ∈ a ∨ y ∈ b.drop p := by
        intro y hy
        rcases List.mem_append.1 hy with h | h
        · exact hlift y (List.mem_filter.1 (List.mem_of_mem_take h)).1
        · rcases List.mem_cons.1 h with h | h
          · right; rw [h, drop_next hpb]; exact List.mem_cons_self
          · exact hlift y (List.mem_filter.1 (List.mem_of_mem_drop h)).1
      have hm2 : ∀ y ∈ a, y ∈ b → y ∈ (without nw (at' b p)).take (cnt a b (stayIds a b r) p) ++ at' b p :: (without nw (at' b p)).drop (cnt a b (stayIds a b r) p) := by
        intro y hya hyb
        by_cases e : y = at' b p
        · rw [e]; simp
        · have h9 : y ∈ without nw (at' b p) := List.mem_filter.2 ⟨h4 y hya hyb, by simpa using e⟩
          rw [← List.take_append_drop (cnt a b (stayIds a b r) p) (without nw (at' b p))] at h9
          rcases List.mem_append.1 h9 with h | h
          · exact List.mem_append_left _ h
          · exact List.mem_append_right _ (List.mem_cons_of_mem _ h)
      by_cases hxa : at' b p ∈ a
      · have hso : stepOf a b (stayIds a b r) p = [(3, at' b p, (cnt a b (stayIds a b r) p : Int))] := by unfold stepOf; simp only; rw [if_pos hxa, if_neg hxs]
        have hxn := h4 _ hxa (at_mem hpb)
        rw [hso]
        refine ⟨_, ?_, hput, hm1, hm2⟩
        show (stepD nw _).bind _ = _
        rw [stepD_put (.inr rfl) (fun h => absurd (h.1 hxn) (by omega)) k3]
        rfl
      · have hso : stepOf a b (stayIds a b r) p = [(2, at' b p, (cnt a b (stayIds a b r) p : Int))] := by unfold stepOf; simp only; rw [if_neg hxa]
        have hxn : ¬ at' b p ∈ nw := fun h => by
          rcases h3 _ h with h | h
          · exact hxa h
          · exact not_mem_drop hb hpb h
        rw [hso]
        refine ⟨_, ?_, hput, hm1, hm2⟩
        show (stepD nw _).bind _ = _
        rw [stepD_put (.inl rfl) (fun h => hxn (h.2 rfl)) k3]
        rfl
theorem appD_steps {a b : List Int} {r : List Nat} (ha : a.Nodup) (hb : b.Nodup) (hr : Rises a b r) (hsa : ∀ x ∈ stayIds a b r, x ∈ a) : appD a (steps a b (stayIds a b r)) = some b := by
  have h1 : appD a (dropsOf a b) = some (a.filter (fun x => decide (x ∈ b))) := by
    unfold dropsOf
    rw [appD_drops _ a (ha.filter _) (fun x hx => (List.mem_filter.1 hx).1)]
    congr 1
    apply List.filter_congr
    intro x hx
    simp [hx]
  obtain ⟨nw, h2, h3, _, _⟩ := appD_sfx ha hb hr hsa b.length (Nat.le_refl _)
  rw [Nat.sub_self] at h3
  unfold steps
  rw [appD_some h1, h2, h3.fin]
/-- a number is taken out of a list without twins at its place. -/
theorem without_ix {l : List Int} (hn : l.Nodup) {x : Int} (hx : x ∈ l) : l.take (ix l x) ++ l.drop (ix l x + 1) = without l x := by
  have hl := ix_lt hx
  have e : l = l.take (ix l x) ++ x :: l.drop (ix l x + 1) := by
    have h9 := drop_next hl
    rw [get_ix hx] at h9
    rw [← h9, List.take_append_drop]
  have h1 : ¬ x ∈ l.take (ix l x) := fun h => by
    have := ((mem_take_lt hn (by omega)).1 h).2
    omega
  have h2 : ¬ x ∈ l.drop (ix l x + 1) := fun h => by
    have h9 := hn
    rw [e] at h9
    exact (List.nodup_cons.1 (List.nodup_append.1 h9).2.1).1 h
  conv => rhs; rw [e]
  rw [without_app, without_none h1]
  congr 1
  show _ = (x :: l.drop (ix l x + 1)).filter _
  rw [List.filter_cons_of_neg (by simp)]
  exact (without_none h2).symm
end We
end Go.Proofs.Ytdojalflgfacgaa
