/- Shifts done to a snapshot: what becomes of its entries, and of their cells. -/
import Derived.Test.YtdaohjimfgdmbaaFpA
import Derived.Test.YtdaohjimfgdmbaaSnW9
namespace Go.Proofs.Ytdaohjimfgdmbaa
open Go.RowKit Go.Maps Sn M
/-- what a shift does to an entry. -/
def mv (s : Sh) (e : En) : En := if e.id = s.id then ⟨e.id, ad e.x s.dx, ad e.y s.dy, e.w, e.h⟩ else e
theorem mv_id (s : Sh) (e : En) : (mv s e).id = e.id := by unfold mv; split <;> rfl
def appS (R : List En) (l : List Sh) : List En := l.foldl (fun R s => R.map (mv s)) R
theorem appS_snoc (R : List En) (l : List Sh) (s : Sh) : appS R (l ++ [s]) = (appS R l).map (mv s) := by simp [appS]
theorem map_up (s : Sh) {R : List En} (h : Up En.id R) : Up En.id (R.map (mv s)) := by
  unfold Up at h ⊢
  rw [List.pairwise_map]
  exact h.imp (fun {a b} hab => by rw [mv_id, mv_id]; exact hab)
theorem appS_cons (R : List En) (s : Sh) (l : List Sh) : appS R (s :: l) = appS (R.map (mv s)) l := rfl
theorem appS_up (l : List Sh) : ∀ {R : List En}, Up En.id R → Up En.id (appS R l) := by
  induction l with
  | nil => intro R h; exact h
  | cons s l ih => intro R h; rw [appS_cons]; exact ih (map_up s h)
theorem appS_len (l : List Sh) : ∀ (R : List En), (appS R l).length = R.length := by
  induction l with
  | nil => intro R; rfl
  | cons s l ih => intro R; rw [appS_cons, ih, List.length_map]
theorem mv_none {R : List En} {s : Sh} (h : ∀ k, k < R.length → (el R k).id ≠ s.id) : R.map (mv s) = R := by
  conv => rhs; rw [← List.map_id R]
  refine List.map_congr_left fun e he => ?_
  obtain ⟨k, hk, rfl⟩ := mem_el he
  unfold mv
  rw [if_neg (h k hk)]
  rfl
theorem mv_some {R : List En} {s : Sh} (hu : Up En.id R) {k : Nat} (hk : k < R.length) (h : (el R k).id = s.id) : R.map (mv s) = R.set k ⟨(el R k).id, ad (el R k).x s.dx, ad (el R k).y s.dy, (el R k).w, (el R k).h⟩ := by
  refine List.ext_getElem (by simp) fun j h1 h2 => ?_
  rw [List.getElem_map, List.getElem_set]
  have hj : j < R.length := by simpa using h1
  by_cases e : k = j
  · subst e
    rw [if_pos rfl, ← el_eq hk]
    unfold mv
    rw [if_pos h]
  · rw [if_neg e]
    unfold mv
    rw [if_neg]
    intro e2
    rw [← el_eq hj, ← h] at e2
    exact e (up_inj hu hk hj e2.symm)
/-- one cell of an entry written anew. -/
theorem ecs_set (R : List En) (k : Nat) (hk : k < R.length) (e : En) : ecs (R.set k e) = (ecs R).take (k * 5) ++ ec e ++ (ecs R).drop (k * 5 + 5) := by
  induction R generalizing k with
  | nil => cases hk
  | cons x R ih =>
    cases k with
    | zero => simp [ecs, ec]
    | succ k =>
      rw [List.set_cons_succ]
      have := ih k (by simpa using hk)
      show ec x ++ ecs (R.set k e) = (ec x ++ ecs R).take ((k + 1) * 5) ++ ec e ++ (ec x ++ ecs R).drop ((k + 1) * 5 + 5)
      rw [this, show (k + 1) * 5 = 5 + k * 5 by omega, List.take_append, List.take_of_length_le (l := ec x) (by rw [ec_len]; omega), ec_len, Nat.add_sub_cancel_left, show 5 + k * 5 + 5 = 5 + (k * 5 + 5) by omega, List.drop_append, List.drop_of_length_le (l := ec x) (by rw [ec_len]; omega), ec_len, Nat.add_sub_cancel_left]
      simp
theorem ecs_set_at (R : List En) (k : Nat) (hk : k < R.length) (e : En) (j : Nat) : (ecs (R.set k e))[j]? = if k * 5 ≤ j ∧ j < k * 5 + 5 then (ec e)[j - k * 5]? else (ecs R)[j]? := by
  have hl : k * 5 + 5 ≤ (ecs R).length := by rw [ecs_len]; omega
  rw [ecs_set R k hk e]
  have ht : ((ecs R).take (k * 5)).length = k * 5 := by rw [List.length_take]; omega
  rcases Nat.lt_or_ge j (k * 5) with h1 | h1
  · rw [if_neg (by omega), List.append_assoc, List.getElem?_append_left (by omega), List.getElem?_take, if_pos h1]
  · rcases Nat.lt_or_ge j (k * 5 + 5) with h2 | h2
    · rw [if_pos ⟨h1, h2⟩, List.append_assoc, List.getElem?_append_right (by omega), ht, List.getElem?_append_left (by rw [ec_len]; omega)]
    · rw [if_neg (by omega), List.getElem?_append_right (by simp [ec_len]; omega), List.getElem?_drop]
      congr 1
      simp [ec_len]
      omega
theorem AtW.below {w w' : World} {A : Option Addr} {xs : List Value} (h : AtW w A xs) (hb : Below w.heap.size w w') : AtW w' A xs := by
  refine ⟨h.1.below hb, fun b o p j u e hj => ?_⟩
  obtain ⟨b', o', e', hl, _⟩ := h.1 (fun q => by rw [q] at hj; cases hj)
  rw [e] at e'
  injection e' with e'
  injection e' with e1 _ _
  subst e1
  exact (hb.frozen (p := ⟨b, o + j, none⟩) hl).trans (h.2 b o p j u e hj)
theorem AtW.drewN {w : World} {A : Option Addr} {xs : List Value} (h : AtW w A xs) (q : Nat) : AtW (w.drewN q) A xs := ⟨h.1.drewN q, h.2⟩
/-- one cell. -/
theorem AtW.set {w : World} {b o : Nat} {xs ys : List Value} (h : AtW w (some ⟨b, o, none⟩) xs) (j : Nat) (v : Value) (hj : j < xs.length) (hy : ys = xs.set j v) : AtW (w.setCell ⟨b, o + j, none⟩ v) (some ⟨b, o, none⟩) ys := by
  subst hy
  obtain ⟨b', o', e', hl, hc⟩ := h.1 (fun q => by rw [q] at hj; cases hj)
  injection e' with e'
  injection e' with e1 e2 _
  subst e1 e2
  refine ⟨fun _ => ⟨b, o, rfl, by simpa using hl, fun i u hi => ?_⟩, fun b2 o2 p i u e hi => ?_⟩
  · rw [List.getElem?_set] at hi
    by_cases e : j = i
    · subst e
      rw [if_pos rfl, if_pos hj] at hi
      injection hi with hi
      subst hi
      exact World.cell?_setCell_same' w _ v (by rw [hc j _ (List.getElem?_eq_getElem hj)]; rfl)
    · rw [if_neg e] at hi
      rw [World.cell?_setCell_other w ⟨b, o + j, none⟩ ⟨b, o + i, none⟩ v (by intro q; injection q with _ q2 _; omega)]
      exact hc i u hi
  · rw [World.frozen?_setCell]
    rw [List.getElem?_set] at hi
    by_cases e3 : j = i
    · subst e3
      exact h.2 b2 o2 p j _ e (List.getElem?_eq_getElem hj)
    · rw [if_neg e3] at hi
      exact h.2 b2 o2 p i u e hi
theorem ecs_one_set (R : List En) (k : Nat) (hk : k < R.length) (e : En) (q : Nat) (hq : q < 5) (v : Value) (he : ec e = (ec (el R k)).set q v) : ecs (R.set k e) = (ecs R).set (k * 5 + q) v := by
  refine List.ext_getElem? fun j => ?_
  rw [ecs_set_at R k hk e j, List.getElem?_set]
  have hl : k * 5 + 5 ≤ (ecs R).length := by rw [ecs_len]; omega
  by_cases h1 : k * 5 ≤ j ∧ j < k * 5 + 5
  · rw [if_pos h1, he, List.getElem?_set]
    have e1 := ecs_at R k hk (j - k * 5) (by omega)
    rw [show k * 5 + (j - k * 5) = j by omega] at e1
    by_cases h2 : q = j - k * 5
    · rw [if_pos h2, if_pos (show k * 5 + q = j by omega), if_pos (show q < (ec (el R k)).length by rw [ec_len]; omega), if_pos (show k * 5 + q < (ecs R).length by omega)]
    · rw [if_neg h2, if_neg (by omega), e1]
  · rw [if_neg h1, if_neg (by omega)]
/-- x and y of an entry, written one after the other. -/
theorem AtW.setXY {w : World} {b o : Nat} {R : List En} (h : AtW w (some ⟨b, o, none⟩) (ecs R)) {k : Nat} (hk : k < R.length) (x y : Int) :
    AtW ((w.setCell ⟨b, o + (k * 5 + 1), none⟩ (.int .i64 x)).setCell ⟨b, o + (k * 5 + 2), none⟩ (.int .i64 y)) (some ⟨b, o, none⟩) (ecs (R.set k ⟨(el R k).id, x, y, (el R k).w, (el R k).h⟩)) := by
  have hl : k * 5 + 5 ≤ (ecs R).length := by rw [ecs_len]; omega
  have h1 := h.set (k * 5 + 1) (.int .i64 x) (by omega) (ecs_one_set R k hk ⟨(el R k).id, x, (el R k).y, (el R k).w, (el R k).h⟩ 1 (by omega) _ rfl)
  have hk2 : k < (R.set k ⟨(el R k).id, x, (el R k).y, (el R k).w, (el R k).h⟩).length := by simpa using hk
  have he : el (R.set k ⟨(el R k).id, x, (el R k).y, (el R k).w, (el R k).h⟩) k = ⟨(el R k).id, x, (el R k).y, (el R k).w, (el R k).h⟩ := by rw [el_eq hk2]; simp
  refine h1.set (k * 5 + 2) (.int .i64 y) (by rw [ecs_len, List.length_set]; omega) ?_
  have := ecs_one_set (R.set k ⟨(el R k).id, x, (el R k).y, (el R k).w, (el R k).h⟩) k hk2 ⟨(el R k).id, x, y, (el R k).w, (el R k).h⟩ 2 (by omega) (.int .i64 y) (by rw [he]; rfl)
  rw [List.set_set] at this
  exact this
theorem set_same {xs : List Value} {j : Nat} {v : Value} (h : xs[j]? = some v) : xs = xs.set j v := by
  obtain ⟨h1, h2⟩ := List.getElem?_eq_some_iff.1 h
  subst h2
  exact (List.set_getElem_self h1).symm
/-- a whole rectangle, its width and height as they were. -/
theorem AtW.setR {w : World} {b o : Nat} {R : List En} (h : AtW w (some ⟨b, o, none⟩) (ecs R)) {k : Nat} (hk : k < R.length) (x y : Int) :
    AtW ((((w.setCell ⟨b, o + k * 5 + 1, none⟩ (.int .i64 x)).setCell ⟨b, o + k * 5 + 1 + 1, none⟩ (.int .i64 y)).setCell ⟨b, o + k * 5 + 1 + 2, none⟩ (.int .i64 (el R k).w)).setCell ⟨b, o + k * 5 + 1 + 3, none⟩ (.int .i64 (el R k).h)) (some ⟨b, o, none⟩) (ecs (R.set k ⟨(el R k).id, x, y, (el R k).w, (el R k).h⟩)) := by
  have hk2 : k < (R.set k ⟨(el R k).id, x, y, (el R k).w, (el R k).h⟩).length := by simpa using hk
  have he : el (R.set k ⟨(el R k).id, x, y, (el R k).w, (el R k).h⟩) k = ⟨(el R k).id, x, y, (el R k).w, (el R k).h⟩ := by rw [el_eq hk2]; simp
  have hl : (ecs (R.set k ⟨(el R k).id, x, y, (el R k).w, (el R k).h⟩)).length = R.length * 5 := by rw [ecs_len, List.length_set]
  have h0 := h.setXY hk x y
  have h1 := h0.set (k * 5 + 3) (.int .i64 (el R k).w) (by rw [hl]; omega) (set_same (by rw [ecs_at _ k hk2 3 (by omega), he]; rfl))
  exact h1.set (k * 5 + 4) (.int .i64 (el R k).h) (by rw [hl]; omega) (set_same (by rw [ecs_at _ k hk2 4 (by omega), he]; rfl))
end Go.Proofs.Ytdaohjimfgdmbaa
