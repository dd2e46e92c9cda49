/- Where a hook leads, by the document. -/
import Derived.Test.YtenolokklkklbaaPhW2
namespace Go.Proofs.Ytenolokklkklbaa
open Go.RowKit Hk
theorem ret_int' {k : IntKind} {a b : Int} (h : a = b) : Ending.returned (.int k a) = .returned (.int k b) := by rw [h]
/-- blocks laid one after the other -/
def allocs (w : World) : List Obj → World
  | [] => w
  | o :: os => allocs (w.alloc o) os
theorem allocs_below (w : World) (os : List Obj) : Below w.heap.size w (allocs w os) := by
  induction os generalizing w with
  | nil => exact Below.refl _ _
  | cons o os ih => exact (below_alloc w o).trans ((ih (w.alloc o)).mono (by simp))
theorem allocs_size (w : World) (os : List Obj) : (allocs w os).heap.size = w.heap.size + os.length := by
  induction os generalizing w with
  | nil => rfl
  | cons o os ih => show (allocs (w.alloc o) os).heap.size = _; rw [ih]; simp; omega
theorem allocs_at (w : World) (os : List Obj) (k : Nat) (o : Obj) (h : os[k]? = some o) : (allocs w os).heap[w.heap.size + k]? = some o := by
  induction os generalizing w k with
  | nil => cases h
  | cons x os ih =>
    cases k with
    | zero =>
      have hx : x = o := by simpa using h
      subst hx
      have h1 := (allocs_below (w.alloc x) os).block w.heap.size (by simp)
      show (allocs (w.alloc x) os).heap[w.heap.size + 0]? = _
      rw [Nat.add_zero, h1]
      exact heap_alloc_new w x
    | succ k =>
      have h1 := ih (w.alloc x) k (by simpa using h)
      have e : (w.alloc x).heap.size + k = w.heap.size + (k + 1) := by simp; omega
      rw [e] at h1
      exact h1
def objsT (w : World) : List Obj := [(.cells #[.int .i64 0, .int .i64 1, .int .i64 1] 3), (.cells #[.int .i64 0, .int .i64 5, .int .i64 4] 3), (.cells #[.int .i64 1, .int .i64 2, .int .i64 2] 3), (.cells #[.int .i64 2, .int .i64 3, .int .i64 3] 3), (.cells #[.int .i64 2, .int .i64 4, .int .i64 3] 3), (.cells #[.int .i64 3, .int .i64 5, .int .i64 4] 3), (.cells #[.int .i64 4, .int .i64 6, .int .i64 5] 3), (.cells #[.int .i64 5, .int .i64 7, .int .i64 6] 3), (.cells #[.int .i64 5, .int .i64 8, .int .i64 6] 3), (.cells #[.int .i64 6, .int .i64 1, .int .i64 1] 3), (.cells #[.slice (some ⟨w.heap.size, 0, none⟩) 3 3, .slice (some ⟨w.heap.size + 1, 0, none⟩) 3 3, .slice (some ⟨w.heap.size + 1 + 1, 0, none⟩) 3 3, .slice (some ⟨w.heap.size + 1 + 1 + 1, 0, none⟩) 3 3, .slice (some ⟨w.heap.size + 1 + 1 + 1 + 1, 0, none⟩) 3 3, .slice (some ⟨w.heap.size + 1 + 1 + 1 + 1 + 1, 0, none⟩) 3 3, .slice (some ⟨w.heap.size + 1 + 1 + 1 + 1 + 1 + 1, 0, none⟩) 3 3, .slice (some ⟨w.heap.size + 1 + 1 + 1 + 1 + 1 + 1 + 1, 0, none⟩) 3 3, .slice (some ⟨w.heap.size + 1 + 1 + 1 + 1 + 1 + 1 + 1 + 1, 0, none⟩) 3 3, .slice (some ⟨w.heap.size + 1 + 1 + 1 + 1 + 1 + 1 + 1 + 1 + 1, 0, none⟩) 3 3] 32)]
theorem rows_at (w : World) (k : Nat) (hk : k < 10) : ∃ A : Nat, (allocs w (objsT w)).cell? ⟨w.heap.size + 10, k, none⟩ = some (.slice (some ⟨A, 0, none⟩) 3 3) ∧
    (allocs w (objsT w)).cell? ⟨A, 0, none⟩ = some (.int .i64 (ta k)) ∧ (allocs w (objsT w)).cell? ⟨A, 1, none⟩ = some (.int .i64 (tb k)) ∧ (allocs w (objsT w)).cell? ⟨A, 2, none⟩ = some (.int .i64 (tc k)) := by
  have hb := allocs_at w (objsT w) 10 _ rfl
  have h10 : k = 0 ∨ k = 1 ∨ k = 2 ∨ k = 3 ∨ k = 4 ∨ k = 5 ∨ k = 6 ∨ k = 7 ∨ k = 8 ∨ k = 9 := by omega
  rcases h10 with rfl | rfl | rfl | rfl | rfl | rfl | rfl | rfl | rfl | rfl
  · exact ⟨w.heap.size + 0, by rw [cell_of_row _ _ 0 _ _ _ hb]; rfl, by rw [cell_of_row _ _ 0 _ _ _ (allocs_at w (objsT w) 0 _ rfl)]; rfl, by rw [cell_of_row _ _ 1 _ _ _ (allocs_at w (objsT w) 0 _ rfl)]; rfl, by rw [cell_of_row _ _ 2 _ _ _ (allocs_at w (objsT w) 0 _ rfl)]; rfl⟩
  · exact ⟨w.heap.size + 1, by rw [cell_of_row _ _ 1 _ _ _ hb]; rfl, by rw [cell_of_row _ _ 0 _ _ _ (allocs_at w (objsT w) 1 _ rfl)]; rfl, by rw [cell_of_row _ _ 1 _ _ _ (allocs_at w (objsT w) 1 _ rfl)]; rfl, by rw [cell_of_row _ _ 2 _ _ _ (allocs_at w (objsT w) 1 _ rfl)]; rfl⟩
  · exact ⟨w.heap.size + 2, by rw [cell_of_row _ _ 2 _ _ _ hb]; rfl, by rw [cell_of_row _ _ 0 _ _ _ (allocs_at w (objsT w) 2 _ rfl)]; rfl, by rw [cell_of_row _ _ 1 _ _ _ (allocs_at w (objsT w) 2 _ rfl)]; rfl, by rw [cell_of_row _ _ 2 _ _ _ (allocs_at w (objsT w) 2 _ rfl)]; rfl⟩
  · exact ⟨w.heap.size + 3, by rw [cell_of_row _ _ 3 _ _ _ hb]; rfl, by rw [cell_of_row _ _ 0 _ _ _ (allocs_at w (objsT w) 3 _ rfl)]; rfl, by rw [cell_of_row _ _ 1 _ _ _ (allocs_at w (objsT w) 3 _ rfl)]; rfl, by rw [cell_of_row _ _ 2 _ _ _ (allocs_at w (objsT w) 3 _ rfl)]; rfl⟩
  · exact ⟨w.heap.size + 4, by rw [cell_of_row _ _ 4 _ _ _ hb]; rfl, by rw [cell_of_row _ _ 0 _ _ _ (allocs_at w (objsT w) 4 _ rfl)]; rfl, by rw [cell_of_row _ _ 1 _ _ _ (allocs_at w (objsT w) 4 _ rfl)]; rfl, by rw [cell_of_row _ _ 2 _ _ _ (allocs_at w (objsT w) 4 _ rfl)]; rfl⟩
  · exact ⟨w.heap.size + 5, by rw [cell_of_row _ _ 5 _ _ _ hb]; rfl, by rw [cell_of_row _ _ 0 _ _ _ (allocs_at w (objsT w) 5 _ rfl)]; rfl, by rw [cell_of_row _ _ 1 _ _ _ (allocs_at w (objsT w) 5 _ rfl)]; rfl, by rw [cell_of_row _ _ 2 _ _ _ (allocs_at w (objsT w) 5 _ rfl)]; rfl⟩
  · exact ⟨w.heap.size + 6, by rw [cell_of_row _ _ 6 _ _ _ hb]; rfl, by rw [cell_of_row _ _ 0 _ _ _ (allocs_at w (objsT w) 6 _ rfl)]; rfl, by rw [cell_of_row _ _ 1 _ _ _ (allocs_at w (objsT w) 6 _ rfl)]; rfl, by rw [cell_of_row _ _ 2 _ _ _ (allocs_at w (objsT w) 6 _ rfl)]; rfl⟩
  · exact ⟨w.heap.size + 7, by rw [cell_of_row _ _ 7 _ _ _ hb]; rfl, by rw [cell_of_row _ _ 0 _ _ _ (allocs_at w (objsT w) 7 _ rfl)]; rfl, by rw [cell_of_row _ _ 1 _ _ _ (allocs_at w (objsT w) 7 _ rfl)]; rfl, by rw [cell_of_row _ _ 2 _ _ _ (allocs_at w (objsT w) 7 _ rfl)]; rfl⟩
  · exact ⟨w.heap.size + 8, by rw [cell_of_row _ _ 8 _ _ _ hb]; rfl, by rw [cell_of_row _ _ 0 _ _ _ (allocs_at w (objsT w) 8 _ rfl)]; rfl, by rw [cell_of_row _ _ 1 _ _ _ (allocs_at w (objsT w) 8 _ rfl)]; rfl, by rw [cell_of_row _ _ 2 _ _ _ (allocs_at w (objsT w) 8 _ rfl)]; rfl⟩
  · exact ⟨w.heap.size + 9, by rw [cell_of_row _ _ 9 _ _ _ hb]; rfl, by rw [cell_of_row _ _ 0 _ _ _ (allocs_at w (objsT w) 9 _ rfl)]; rfl, by rw [cell_of_row _ _ 1 _ _ _ (allocs_at w (objsT w) 9 _ rfl)]; rfl, by rw [cell_of_row _ _ 2 _ _ _ (allocs_at w (objsT w) 9 _ rfl)]; rfl⟩
set_option maxHeartbeats 1000000 in
set_option maxRecDepth 100000 in
theorem rnext_any (s h : Int) (w : World) : Calls Try.prog 10 #[.int .i64 s, .int .i64 h] w fun e w' => e = .returned (.int .i64 (nx s h)) ∧ Below w.heap.size w w' := by
  have HR := Lib.hid (rows_at w)
  have HB := Lib.hid (allocs_below w (objsT w))
  go_enter Try.func10, Try.ntmps10
  go_wp2
  rw [show (((((((((((w.alloc (.cells #[.int .i64 0, .int .i64 1, .int .i64 1] 3)).alloc (.cells #[.int .i64 0, .int .i64 5, .int .i64 4] 3)).alloc (.cells #[.int .i64 1, .int .i64 2, .int .i64 2] 3)).alloc (.cells #[.int .i64 2, .int .i64 3, .int .i64 3] 3)).alloc (.cells #[.int .i64 2, .int .i64 4, .int .i64 3] 3)).alloc (.cells #[.int .i64 3, .int .i64 5, .int .i64 4] 3)).alloc (.cells #[.int .i64 4, .int .i64 6, .int .i64 5] 3)).alloc (.cells #[.int .i64 5, .int .i64 7, .int .i64 6] 3)).alloc (.cells #[.int .i64 5, .int .i64 8, .int .i64 6] 3)).alloc (.cells #[.int .i64 6, .int .i64 1, .int .i64 1] 3)).alloc (.cells #[.slice (some ⟨w.heap.size, 0, none⟩) 3 3, .slice (some ⟨w.heap.size + 1, 0, none⟩) 3 3, .slice (some ⟨w.heap.size + 1 + 1, 0, none⟩) 3 3, .slice (some ⟨w.heap.size + 1 + 1 + 1, 0, none⟩) 3 3, .slice (some ⟨w.heap.size + 1 + 1 + 1 + 1, 0, none⟩) 3 3, .slice (some ⟨w.heap.size + 1 + 1 + 1 + 1 + 1, 0, none⟩) 3 3, .slice (some ⟨w.heap.size + 1 + 1 + 1 + 1 + 1 + 1, 0, none⟩) 3 3, .slice (some ⟨w.heap.size + 1 + 1 + 1 + 1 + 1 + 1 + 1, 0, none⟩) 3 3, .slice (some ⟨w.heap.size + 1 + 1 + 1 + 1 + 1 + 1 + 1 + 1, 0, none⟩) 3 3, .slice (some ⟨w.heap.size + 1 + 1 + 1 + 1 + 1 + 1 + 1 + 1 + 1, 0, none⟩) 3 3] 32)) = allocs w (objsT w) from rfl]
  generalize hB : w.heap.size + 1 + 1 + 1 + 1 + 1 + 1 + 1 + 1 + 1 + 1 = B
  have HBB := Lib.hid (show w.heap.size + 10 = B from hB)
  clear hB
  rw [HBB.out] at HR
  generalize allocs w (objsT w) = W at HR HB ⊢
  go_loopw [19] (fun i wr => ∃ k : Nat, k ≤ 10 ∧ i = .int .i64 k ∧ Hid (Miss k s h) ∧ wr = W) (fun i _ => 10 - (intOf i).toNat)
  case atStart => exact ⟨0, Nat.zero_le _, rfl, Miss.zero s h, rfl⟩
  case round =>
    obtain ⟨k, hk, rfl, hm, rfl⟩ := hrel
    by_cases hlt : k < 10
    · obtain ⟨A, c0, c1, c2, c3⟩ := HR.out k hlt
      obtain ⟨a, ha⟩ : ∃ a, a = ta k := ⟨_, rfl⟩
      obtain ⟨b, hb⟩ : ∃ a, a = tb k := ⟨_, rfl⟩
      obtain ⟨c, hc⟩ : ∃ a, a = tc k := ⟨_, rfl⟩
      rw [← ha] at c1
      rw [← hb] at c2
      rw [← hc] at c3
      have HA := Lib.hid ha
      have HBt := Lib.hid hb
      have HC := Lib.hid hc
      clear ha hb hc
      by_cases hs : a = s
      · subst hs
        by_cases hh : b = h
        · subst hh
          go_wp2
          go_ret
          exact ⟨ret_int' (by rw [nx_hit hlt hm.out HA.out.symm HBt.out.symm, HC.out]), HB.out⟩
        · have HH := Lib.hid hh
          go_wp2
          go_roundw
          case rel => exact ⟨k + 1, by omega, by go_num, Lib.hid (hm.out.next fun e => HH.out (HBt.out.trans e.2)), trivial⟩
          case measure => simp [intOf]; omega
      · have HH := Lib.hid hs
        go_wp2
        go_roundw
        case rel => exact ⟨k + 1, by omega, by go_num, Lib.hid (hm.out.next fun e => HH.out (HA.out.trans e.1)), trivial⟩
        case measure => simp [intOf]; omega
    · obtain rfl : k = 10 := by omega
      go_wp2
      go_ret
      exact ⟨ret_int' (nx_none hm.out).symm, HB.out⟩
end Go.Proofs.Ytenolokklkklbaa
