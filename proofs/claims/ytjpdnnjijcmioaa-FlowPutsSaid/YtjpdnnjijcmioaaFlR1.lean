/- The document's rows of numbers in memory: a row that grows, of rows that grow; and its Least. -/
import Derived.Test.YtjpdnnjijcmioaaFlM3
import Derived.Test.YtjpdnnjijcmioaaBlk
namespace Go.Proofs.Ytjpdnnjijcmioaa
open Go.RowKit M Fl
attribute [-go_sem] Builtin.append_
theorem least_any (x : Int) (w : World) : Calls Try.prog 55 #[.int .i64 x] w fun e w' => e = .returned (.int .i64 (ln x)) ∧ w = w' := by
  have hm : max (0 : Int) (st x) = ln x := by unfold ln clp st; omega
  go_enter Try.func55, Try.ntmps55
  go_wp2_with (go_at_call 38; refine (rsat_any _ _).mono ?_; rintro e w9 ⟨rfl, rfl⟩)
  go_ret
  exact ⟨by rw [← hm]; rfl, rfl⟩
def iz (l : List Int) : List Value := l.map fun z => .int .i64 z
theorem iz_app (a b : List Int) : iz (a ++ b) = iz a ++ iz b := by simp [iz]
theorem iz_len (a : List Int) : (iz a).length = a.length := by simp [iz]
/-- a row of slices, each owned, no two in one block. -/
structure Gr (W : World) (base N : Nat) (v : Value) (vs : Nat → Value) (xs : Nat → List Int) : Prop where
  row : W.ownsRow base 36 1 v N ((List.range N).map vs)
  each : ∀ j, j < N → W.ownsRow base 3 1 (vs j) (xs j).length (iz (xs j))
  apart : ∀ j, j < N → ∀ k, k < N → j ≠ k → ∀ b, (vs j).ownBlock = some b → (vs k).ownBlock ≠ some b
section
variable {W W' : World} {base N : Nat} {v : Value} {vs : Nat → Value} {xs : Nat → List Int}
theorem Gr.none (W : World) (base : Nat) (vs : Nat → Value) (xs : Nat → List Int) {b : Nat} (h : W.ownsRow base 36 1 (.slice (some ⟨b, 0, .none⟩) 0 0) 0 []) : Gr W base 0 (.slice (some ⟨b, 0, .none⟩) 0 0) vs xs :=
  ⟨h, fun j hj => absurd hj (Nat.not_lt_zero j), fun j hj => absurd hj (Nat.not_lt_zero j)⟩
theorem Gr.kept {row : Option Nat} (h : Gr W base N v vs xs) (hg : W.grownBy W' row) (h1 : v.ownBlock = .none ∨ v.ownBlock ≠ row) (h2 : ∀ j, j < N → (vs j).ownBlock = .none ∨ (vs j).ownBlock ≠ row) : Gr W' base N v vs xs :=
  ⟨h.row.kept hg h1, fun j hj => (h.each j hj).kept hg (h2 j hj), h.apart⟩
theorem Gr.alloc (h : Gr W base N v vs xs) (o : Obj) : Gr (W.alloc o) base N v vs xs := ⟨h.row.alloc o, fun j hj => (h.each j hj).alloc o, h.apart⟩
theorem Gr.heap (h : Gr W base N v vs xs) (hw : W'.heap = W.heap) : Gr W' base N v vs xs := ⟨own_heap h.row hw, fun j hj => own_heap (h.each j hj) hw, h.apart⟩
theorem Gr.other {b' : Nat} {e' : TypeId} {s' n' : Nat} {u : Value} {ys : List Value} (h : Gr W base N v vs xs) (hu : W.ownsRow b' e' s' u n' ys) (hg : W.grownBy W' u.ownBlock) (he1 : 36 ≠ e') (he2 : 3 ≠ e') : Gr W' base N v vs xs :=
  h.kept hg (own_ne h.row hu he1) (fun j hj => own_ne (h.each j hj) hu he2)
theorem own_low {w : World} {base : Nat} {e : TypeId} {size n : Nat} {v : Value} {xs : List Value} (h : w.ownsRow base e size v n xs) {b : Nat} (hb : b < base) : v.ownBlock = .none ∨ v.ownBlock ≠ some b := by
  refine .inr fun e => ?_
  have := own_from h b e
  omega
theorem Gr.setg (h : Gr W base N v vs xs) (b o : Nat) (u : Value) (hb : b < base) : Gr (W.setCell ⟨b, o, .none⟩ u) base N v vs xs :=
  h.kept (grown_set W ⟨b, o, .none⟩ u) (own_low h.row hb) (fun j hj => own_low (h.each j hj) hb)
theorem Gr.push {v' vn : Value} {g : Nat} (h : Gr W base N v vs xs) (hown : W'.ownsRow base 36 1 v' (N + 1) ((List.range N).map vs ++ [vn])) (hg : W.grownBy W' v.ownBlock)
    (hn : W.ownsRow base 3 1 vn 0 []) (hb : vn.ownBlock = some g) (hfar : ∀ j, j < N → (vs j).ownBlock ≠ some g) :
    Gr W' base (N + 1) v' (fun j => if j = N then vn else vs j) (fun j => if j = N then [] else xs j) := by
  refine ⟨?_, fun j hj => ?_, fun j hj k hk hne b hjb => ?_⟩
  · have e : (List.range (N + 1)).map (fun j => if j = N then vn else vs j) = (List.range N).map vs ++ [vn] := by
      rw [List.range_succ, List.map_append]
      congr 1
      · apply List.map_congr_left
        intro j hj
        have := List.mem_range.1 hj
        rw [if_neg (by omega)]
      · simp
    rw [e]
    exact hown
  · by_cases e : j = N
    · simp only [if_pos e]
      exact hn.kept hg (own_ne hn h.row (by decide))
    · simp only [if_neg e]
      have := h.each j (by omega)
      exact this.kept hg (own_ne this h.row (by decide))
  · by_cases e1 : j = N
    · subst e1
      simp only [if_true] at hjb
      rw [if_neg (fun e : k = j => hne e.symm)]
      rw [hb] at hjb
      rw [← hjb]
      exact hfar k (by omega)
    · rw [if_neg e1] at hjb
      by_cases e2 : k = N
      · rw [if_pos e2, hb]
        intro e3
        exact hfar j (by omega) (by rw [hjb, e3])
      · rw [if_neg e2]
        exact h.apart j (by omega) k (by omega) hne b hjb
theorem Gr.last {w1 : World} {v' : Value} {G f c : Nat} {x : Int} (h : Gr W base N (.slice (some ⟨G, 0, .none⟩) N c) vs xs) (hf : f < N) (hown : w1.ownsRow base 3 1 v' ((xs f).length + 1) (iz (xs f) ++ [.int .i64 x])) (hg : W.grownBy w1 (vs f).ownBlock)
    (hat : v'.ownBlock = (vs f).ownBlock ∨ v'.ownBlock = some W.heap.size) : Gr (w1.setCell ⟨G, f, .none⟩ v') base N (.slice (some ⟨G, 0, .none⟩) N c) (fun j => if j = f then v' else vs j) (fun j => if j = f then xs f ++ [x] else xs j) := by
  have hrow1 := h.row.kept hg (own_ne h.row (h.each f hf) (by decide))
  obtain ⟨h2, h3⟩ := hrow1.stored f v'
  have hrn : ∀ {u : Value} {n : Nat} {zs : List Value}, w1.ownsRow base 3 1 u n zs → u.ownBlock = .none ∨ u.ownBlock ≠ some G := fun k => own_ne k hrow1 (by decide)
  refine ⟨?_, fun j hj => ?_, fun j hj k hk hne b hb => ?_⟩
  · have e : ((List.range N).map vs).set f v' = (List.range N).map (fun j => if j = f then v' else vs j) := by
      apply List.ext_getElem?
      intro p
      rw [List.getElem?_set]
      by_cases hp : p < N
      · by_cases e2 : f = p
        · subst e2; simp [hp]
        · rw [if_neg e2]; simp [hp]; exact fun e3 => absurd e3.symm e2
      · by_cases e2 : f = p
        · omega
        · rw [if_neg e2]; simp [hp]
    rw [e] at h2
    exact h2
  · by_cases e : j = f
    · subst e
      simp only [if_true]
      have h9 : w1.ownsRow base 3 1 v' (xs j ++ [x]).length (iz (xs j ++ [x])) := by rw [List.length_append, iz_app]; exact hown
      exact h9.kept h3 (hrn h9)
    · simp only [if_neg e]
      have h9 := (h.each j hj).kept hg (by
        cases e2 : (vs j).ownBlock with
        | none => exact .inl rfl
        | some b => exact .inr (fun e3 => h.apart j hj f hf e b e2 e3.symm))
      exact h9.kept h3 (hrn h9)
  · have key : ∀ k, k < N → k ≠ f → ∀ b, v'.ownBlock = some b → (vs k).ownBlock ≠ some b := fun k hk hkf b hb e => by
      rcases hat with h5 | h5
      · exact h.apart f hf k hk (fun e2 => hkf e2.symm) b (h5 ▸ hb) e
      · rw [h5] at hb
        injection hb with hb
        have := ((h.each k hk).lt b e).2
        omega
    by_cases e1 : j = f
    · subst e1
      simp only [if_true] at hb
      rw [if_neg (fun e : k = j => hne e.symm)]
      exact key k hk (fun e => hne e.symm) b hb
    · rw [if_neg e1] at hb
      by_cases e2 : k = f
      · subst e2
        simp only [if_true]
        exact fun e3 => key j hj e1 b e3 hb
      · rw [if_neg e2]
        exact h.apart j hj k hk hne b hb
theorem Gr.congr {vs' : Nat → Value} {ys : Nat → List Int} (h : Gr W base N v vs xs) (e0 : ∀ j, j < N → vs j = vs' j) (e : ∀ j, j < N → xs j = ys j) : Gr W base N v vs' ys :=
  ⟨by
    have e1 : (List.range N).map vs = (List.range N).map vs' := List.map_congr_left fun j hj => e0 j (List.mem_range.1 hj)
    rw [← e1]; exact h.row,
  fun j hj => by rw [← e j hj, ← e0 j hj]; exact h.each j hj, fun j hj k hk hne b hb => by rw [← e0 k hk]; exact h.apart j hj k hk hne b (by rw [e0 j hj]; exact hb)⟩
end
end Go.Proofs.Ytjpdnnjijcmioaa
