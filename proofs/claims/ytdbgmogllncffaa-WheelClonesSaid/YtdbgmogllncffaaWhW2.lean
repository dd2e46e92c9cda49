/- Contract of wheel's inOrder, in the sort's words. -/
import Derived.Test.YtdbgmogllncffaaWhW1
import Derived.Deep.RegionHeld3
import Derived.Lib.Hide
namespace Go.Proofs.Ytdbgmogllncffaa
open Go.RowKit Go.Sort Wh
def tc (t : Tm) : List Value := [.int .i64 t.tok, .int .i64 t.dl, .int .i64 t.k, .int .i64 t.n]
theorem tc_len (t : Tm) : (tc t).length = 4 := rfl
theorem tc_one (t : Tm) : ∀ v ∈ tc t, v.oneCell' = true := by
  intro v hv
  simp [tc] at hv
  rcases hv with rfl | rfl | rfl | rfl <;> rfl
def cfT (x y : Tm) : Int := or2 (c3 x.dl y.dl) (c3 x.tok y.tok)
/-- w' is W behind some draws, with some blocks laid. -/
def Gr1 (W w' : World) : Prop := ∃ q os', w' = grow (W.drewN q) os'
theorem Gr1.refl (W : World) : Gr1 W W := ⟨0, #[], by rw [grow_empty]; rfl⟩
theorem Gr1.drewN {W w' : World} (h : Gr1 W w') (n : Nat) : Gr1 W (w'.drewN n) := by
  obtain ⟨q, os', rfl⟩ := h
  exact ⟨q + n, os', by rw [← World.drewN_drewN]; rfl⟩
theorem Gr1.drew {W w' : World} (h : Gr1 W w') : Gr1 W w'.drew := h.drewN 1
theorem Gr1.alloc {W w' : World} (h : Gr1 W w') (o : Obj) : Gr1 W (w'.alloc o) := by
  obtain ⟨q, os', rfl⟩ := h
  exact ⟨q, os' ++ #[o], by rw [alloc_eq_grow, grow_grow]⟩
theorem Gr1.of {w W w' : World} {os : Array Obj} (h : Gr1 W w') (hW : W = grow w os) : ∃ q os', w' = grow (w.drewN q) os' := by
  obtain ⟨q, os', rfl⟩ := h
  subst hW
  exact ⟨q, os ++ os', by show grow (grow (w.drewN q) os) os' = _; rw [grow_grow]⟩
set_option maxHeartbeats 4000000 in
set_option maxRecDepth 100000 in
theorem inOrder_g (x y : Tm) (w : World) :
    Calls Try.prog 25 #[.agg (tc x).toArray, .agg (tc y).toArray] w fun e w' => e = .returned (.int .i64 (cfT x y)) ∧ ∃ q os', w' = grow (w.drewN q) os' := by
  have mixed : Try.prog.follows .mixedOrders = true := by kernel_rfl
  obtain ⟨a, b, c, d⟩ := x
  obtain ⟨a', b', c', d'⟩ := y
  unfold cfT tc
  show Calls _ _ #[.agg #[.int .i64 a, .int .i64 b, .int .i64 c, .int .i64 d], .agg #[.int .i64 a', .int .i64 b', .int .i64 c', .int .i64 d']] _ _
  simp only
  generalize hp : c3 b b' = p
  generalize hq : c3 a a' = q
  have C1 : Hid (∀ W, Calls Try.prog 33 #[.int .i64 b, .int .i64 b'] W fun e w' => e = .returned (.int .i64 p) ∧ W = w') := fun W => by rw [← hp]; exact compare_any b b' W
  have C2 : Hid (∀ W, Calls Try.prog 33 #[.int .i64 a, .int .i64 a'] W fun e w' => e = .returned (.int .i64 q) ∧ W = w') := fun W => by rw [← hq]; exact compare_any a a' W
  clear hp hq
  generalize hr : or2 p q = r
  have C3 : Hid (∀ B o c W, W.cell? ⟨B, o, none⟩ = some (.int .i64 p) → W.cell? ⟨B, o + 1, none⟩ = some (.int .i64 q) → Calls Try.prog 32 #[.slice (some ⟨B, o, none⟩) 2 c] W fun e w' => e = .returned (.int .i64 r) ∧ W = w') := fun B o c W h0 h1 => by rw [← hr]; exact or_any p q B o c W h0 h1
  clear hr
  go_enter Try.func25, Try.ntmps25
  go_wp2_with fail
  obtain ⟨W, hW⟩ : ∃ W, W = (w.alloc (.cells #[.int .i64 a, .int .i64 b, .int .i64 c, .int .i64 d] 47)).alloc (.cells #[.int .i64 a', .int .i64 b', .int .i64 c', .int .i64 d'] 47) := ⟨_, rfl⟩
  have HWG := Lib.hid (show W = grow w (#[.cells #[.int .i64 a, .int .i64 b, .int .i64 c, .int .i64 d] 47] ++ #[.cells #[.int .i64 a', .int .i64 b', .int .i64 c', .int .i64 d'] 47]) by rw [hW, alloc_eq_grow, alloc_eq_grow, grow_grow])
  have hs : W.heap.size = w.heap.size + 2 := by rw [hW]; simp
  have f0 : W.cell? ⟨w.heap.size, 0, none⟩ = some (.int .i64 a) := by rw [hW]; simp
  have f1 : W.cell? ⟨w.heap.size, 1, none⟩ = some (.int .i64 b) := by rw [hW]; simp
  have f2 : W.cell? ⟨w.heap.size + 1, 0, none⟩ = some (.int .i64 a') := by rw [hW]; simp
  have f3 : W.cell? ⟨w.heap.size + 1, 1, none⟩ = some (.int .i64 b') := by rw [hW]; simp
  rw [← hW]
  clear hW
  have HS := Lib.hid hs
  clear hs
  generalize w.heap.size = g at *
  have S0 : Gr1 W W := Gr1.refl W
  go_region_held3 (fun w' => w'.cell? ⟨g, 0, none⟩ = some (.int .i64 a) ∧ w'.cell? ⟨g, 1, none⟩ = some (.int .i64 b) ∧ w'.cell? ⟨g + 1, 0, none⟩ = some (.int .i64 a') ∧ w'.cell? ⟨g + 1, 1, none⟩ = some (.int .i64 b') ∧ Gr1 W w')
    (first | (refine ⟨?_, ?_, ?_, ?_, ?_⟩ <;> first | assumption | (refine Gr1.drew (Gr1.alloc ?_ _); assumption) | (refine Gr1.alloc ?_ _; assumption) | (refine Gr1.drewN ?_ _; assumption) | (refine Gr1.drew ?_; assumption) | (refine Lib.cell?_alloc_some _ ?_; assumption) | (exact (S0.alloc _).drew) | go_keep) | go_keep)
    (first
    | (go_at_call 33; go_split_ands; (first | (with_reducible refine (C1.out _).mono ?_) | (with_reducible refine (C2.out _).mono ?_)); rintro e w' ⟨rfl, rfl⟩)
    | (go_at_call 32; go_split_ands; (with_reducible refine (C3.out _ _ _ _ ?_ ?_).mono ?_); (simp); (simp); rintro e w' ⟨rfl, rfl⟩)
    | go_loud (exact (0 : Nat)))
  all_goals
    go_wp2
    go_ret
    go_split_ands
    exact ⟨rfl, Gr1.of (by assumption) HWG.out⟩
end Go.Proofs.Ytdbgmogllncffaa
