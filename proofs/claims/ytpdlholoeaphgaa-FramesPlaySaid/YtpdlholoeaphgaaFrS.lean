/- Contract of the statements' Same. -/
import Derived.Test.YtpdlholoeaphgaaFrE
import Derived.Shelf.SlSortCmp.QuietGrown
namespace Go.Proofs.Ytpdlholoeaphgaa
open Go.RowKit Go.Sort
namespace Fr
theorem gr_below {w w' : World} (h : ∃ q os', w' = grow (w.drewN q) os') : Below w.heap.size w w' := by
  obtain ⟨q, os', rfl⟩ := h
  exact ⟨rfl, rfl, rfl, by simp [grow], fun j hj => by simp [grow, Array.getElem?_append_left hj]⟩
theorem told_g (t : Tm) (w : World) :
    Calls Try.prog 34 #[.agg #[.int .i64 t.tok, .int .i64 t.dl, .int .i64 t.k, .int .i64 t.n]] w fun e w' => e = .returned (.agg #[.int .i64 t.tok, .int .i64 t.dl, .int .i64 t.k, .int .i64 t.n]) ∧ ∃ q os', w' = grow (w.drewN q) os' := by
  go_enter Try.func34, Try.ntmps34
  go_wp2
  go_returns
  exact ⟨rfl, 0, _, by rw [alloc_eq_grow, alloc_eq_grow, grow_grow]; rfl⟩
set_option maxHeartbeats 4000000 in
set_option maxRecDepth 100000 in
theorem same_any (A B : Option Addr) (n c d : Nat) (L : List Tm) (w : World) (hn : n = L.length) (hb : n ≤ 1000000) (ha : At w A (tv L)) (ha2 : At w B (tv L)) :
    Calls Try.prog 14 #[.slice A n c, .slice B n d] w fun e w' => e = .returned (.bool true) ∧ Below w.heap.size w w' := by
  have mixed : Try.prog.follows .mixedOrders = true := by kernel_rfl
  have HN := Lib.hid hn
  have HA := Lib.hid ha
  have HA2 := Lib.hid ha2
  clear hn ha ha2
  go_enter Try.func14, Try.ntmps14
  go_wp2
  go_loopw [13] (fun vk W => ∃ k : Nat, vk = .int .i64 k ∧ k ≤ n ∧ Hid (Below w.heap.size w W)) (fun vk _ => n - (intOf vk).toNat)
  case atStart => exact ⟨0, rfl, Nat.zero_le _, Lib.hid (Below.refl _ _)⟩
  case round =>
    obtain ⟨k, rfl, hk, HB⟩ := hrel
    by_cases hlt : k < n
    · have hkL : k < L.length := by have := HN.out; omega
      obtain ⟨b1, o1, rfl⟩ : ∃ b o, A = some ⟨b, o, none⟩ := by
        obtain ⟨b9, o9, e9, _⟩ := HA.out.one (k := k * 4) (tv_at L k hkL 0 (by omega))
        exact ⟨b9, o9, e9⟩
      obtain ⟨b2, o2, rfl⟩ : ∃ b o, B = some ⟨b, o, none⟩ := by
        obtain ⟨b9, o9, e9, _⟩ := HA2.out.one (k := k * 4) (tv_at L k hkL 0 (by omega))
        exact ⟨b9, o9, e9⟩
      obtain ⟨l1, x0, x1, x2, x3⟩ := act_cells (HA.out.below HB.out : At wr _ (tv L)) hkL
      obtain ⟨l2, y0, y1, y2, y3⟩ := act_cells (HA2.out.below HB.out : At wr _ (tv L)) hkL
      have x0 := fun m os => cell_grown (w := wr) l1 x0 m os
      have x1 := fun m os => cell_grown (w := wr) l1 x1 m os
      have x2 := fun m os => cell_grown (w := wr) l1 x2 m os
      have x3 := fun m os => cell_grown (w := wr) l1 x3 m os
      have y0 := fun m os => cell_grown (w := wr) l2 y0 m os
      have y1 := fun m os => cell_grown (w := wr) l2 y1 m os
      have y2 := fun m os => cell_grown (w := wr) l2 y2 m os
      have y3 := fun m os => cell_grown (w := wr) l2 y3 m os
      have d0 : (0 : Int) ≤ (k : Int) := by omega
      have d1 : (k : Int) < (n : Int) := by omega
      have CT := Lib.hid (fun W => told_g (g L k) W)
      generalize g L k = t at *
      clear hkL l1 l2
      go_wp2_with fail
      go_quiet_grown (first | (go_at_call 34; refine Calls.grown_of (CT.out _)))
      have HB2 : Hid (Below w.heap.size w (grow (wr.drewN nq) osq)) := HB.out.trans ((gr_below ⟨nq, osq, rfl⟩).mono HB.out.size)
      go_wp2
      exact ⟨⟨k + 1, rfl, by omega, HB2⟩, by simp only [intOf]; omega⟩
    · obtain rfl : k = n := by omega
      go_wp2
      go_ret
      exact ⟨rfl, HB.out⟩
end Fr
end Go.Proofs.Ytpdlholoeaphgaa
