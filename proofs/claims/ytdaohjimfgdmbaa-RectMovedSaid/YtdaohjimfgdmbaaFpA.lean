/- Contracts of the statements' same and of their fixed facts of flip. -/
import Derived.Test.YtdaohjimfgdmbaaFpL
namespace Go.Proofs.Ytdaohjimfgdmbaa
open Go.RowKit Go.Maps Sn M
theorem shcs_at (xs : List Sh) (k : Nat) (h : k < xs.length) (q : Nat) (hq : q < 3) : (shcs xs)[k * 3 + q]? = (shc xs[k])[q]? := Op.flat_at shc 3 (fun _ => rfl) xs k h q hq
theorem at_sh {w : World} {A : Option Addr} {L : List Sh} (h : At w A (shcs L)) {k : Nat} (hk : k < L.length) :
    ∃ b off, A = some ⟨b, off, none⟩ ∧ b < w.heap.size ∧ w.cell? ⟨b, off + k * 3, none⟩ = some (.int .i64 L[k].id) ∧ w.cell? ⟨b, off + k * 3 + 1, none⟩ = some (.int .i64 L[k].dx) ∧ w.cell? ⟨b, off + k * 3 + 2, none⟩ = some (.int .i64 L[k].dy) := by
  have h0 := shcs_at L k hk 0 (by omega)
  obtain ⟨b, off, e, hb, hc⟩ := h (fun e => by rw [e] at h0; cases h0)
  exact ⟨b, off, e, hb, hc _ _ h0, hc _ _ (shcs_at L k hk 1 (by omega)), hc _ _ (shcs_at L k hk 2 (by omega))⟩
set_option maxHeartbeats 4000000 in
set_option maxRecDepth 100000 in
/-- same, of two rows of the same shifts. -/
theorem same23_any (A B : Option Addr) (n c d : Nat) (L : List Sh) (w : World) (hn : n = L.length) (hb : n ≤ 1000000) (ha : At w A (shcs L)) (hb' : At w B (shcs L)) :
    Calls Try.prog 23 #[.slice A n c, .slice B n d] w fun e w' => e = .returned (.bool true) ∧ ∃ q, w' = w.drewN q := by
  have HN := Lib.hid hn
  have HA := Lib.hid ha
  have HB := Lib.hid hb'
  clear hn ha hb'
  go_enter Try.func23, Try.ntmps23
  go_wp2
  go_loopw [13] (fun i wr => ∃ k q : Nat, k ≤ n ∧ i = .int .i64 k ∧ wr = w.drewN q) (fun i _ => n - (intOf i).toNat)
  case atStart => exact ⟨0, 0, Nat.zero_le _, rfl, rfl⟩
  case round =>
    obtain ⟨k, q, hk, rfl, rfl⟩ := hrel
    by_cases hlt : k < n
    · have hk1 : k < L.length := by have := HN.out; omega
      obtain ⟨b1, o1, hA1, hb1, c0, c1, c2⟩ := at_sh (HA.out.drewN q) hk1
      obtain ⟨b2, o2, hB2, hb2', d0, d1, d2⟩ := at_sh (HB.out.drewN q) hk1
      subst hA1
      subst hB2
      generalize L[k].id = x0 at *
      generalize L[k].dx = x1 at *
      generalize L[k].dy = x2 at *
      generalize hW : w.drewN q = W at *
      have HW := Lib.hid hW
      clear hW hk1
      go_upto_region 6 with fail
      go_big_quiet (fail)
      go_wp2
      rw [← HW.out, World.drewN_drewN]
      go_roundw
      case rel => exact ⟨k + 1, _, by omega, by go_num, rfl⟩
      case measure => simp [intOf]; omega
    · obtain rfl : k = n := by omega
      go_wp2
      go_ret
      exact ⟨rfl, _, rfl⟩
theorem awake_plan : planP [⟨2, 5, 5, 0, 0⟩] [⟨2, 1, 5, 0, 0⟩] [2, 2, 3] 3 = [⟨2, 4, 0⟩] := by decide +kernel
theorem awake_left : leftV 2 4 0 1 4 = .agg #[.int .i64 2, .int .i64 3, .int .i64 0] := by
  rw [leftV_some (by omega) (by omega) (by omega)]
  rw [show pt 4 (4 - 1) 4 = 3 by decide +kernel, show pt 0 (4 - 1) 4 = 0 by decide +kernel]
set_option maxHeartbeats 4000000 in
set_option maxRecDepth 100000 in
theorem awake23_any (w : World) : Calls Try.prog 22 #[] w fun e w' => e = .returned (.bool true) ∧ Below w.heap.size w w' := by
  obtain ⟨W1, hW1⟩ : ∃ W, W = ((w.alloc (.cells #[.int .i64 2, .int .i64 5, .int .i64 5, .int .i64 0, .int .i64 0] 74)).alloc (.cells #[.int .i64 2, .int .i64 1, .int .i64 5, .int .i64 0, .int .i64 0] 74)).alloc (.cells #[.int .i64 2, .int .i64 2, .int .i64 3] 3) := ⟨_, rfl⟩
  have hB1 : Below w.heap.size w W1 := by rw [hW1]; exact ((below_alloc w _).alloc (by simp) _).alloc (by simp; omega) _
  have k1 : At W1 (some ⟨w.heap.size, 0, none⟩) (ecs [⟨2, 5, 5, 0, 0⟩]) := by rw [hW1]; exact ((at_new w _ _ _ rfl _ rfl).alloc _).alloc _
  have k2 : At W1 (some ⟨w.heap.size + 1, 0, none⟩) (ecs [⟨2, 1, 5, 0, 0⟩]) := by rw [hW1]; exact (at_new _ _ _ _ (by simp) _ rfl).alloc _
  have k3 : At W1 (some ⟨w.heap.size + 1 + 1, 0, none⟩) (([2, 2, 3] : List Int).flatMap zc) := by rw [hW1]; exact at_new _ _ _ _ (by simp) _ rfl
  have C := Lib.hid (plan_any (some ⟨w.heap.size, 0, none⟩) (some ⟨w.heap.size + 1, 0, none⟩) (some ⟨w.heap.size + 1 + 1, 0, none⟩) 1 1 1 1 3 3 [⟨2, 5, 5, 0, 0⟩] [⟨2, 1, 5, 0, 0⟩] [2, 2, 3] W1 rfl rfl rfl (by omega) (by omega) (by omega) (fun h => nomatch h) (fun h => nomatch h) k1 k2 k3 (by intro x hx; simp at hx; rcases hx with rfl | rfl <;> first | exact (rfl : (Lit.int .i64 2).wf = true) | exact (rfl : (Lit.int .i64 3).wf = true)))
  rw [awake_plan] at C
  have CL := Lib.hid (fun W => left_any 2 4 0 1 4 W (rfl : (Lit.int .i64 1).wf = true) (rfl : (Lit.int .i64 4).wf = true))
  rw [awake_left] at CL
  have HB1 := Lib.hid hB1
  have HW1 := Lib.hid hW1
  clear hB1 hW1 k1 k2 k3
  go_enter Try.func22, Try.ntmps22
  go_wp2_with fail
  rw [← HW1.out]
  refine C.out.mono ?_
  rintro e w2 ⟨v, rfl, hv, hb2⟩
  obtain ⟨A2, c2, rfl, hc2, hm2, hat2⟩ := at_of_own' hv
  obtain ⟨b, o, rfl, hbl, hc0, hc1, hc2'⟩ := at_sh hat2 (k := 0) (by decide)
  have hc0 : w2.cell? ⟨b, o, none⟩ = some (.int .i64 2) := hc0
  have hc1 : w2.cell? ⟨b, o + 1, none⟩ = some (.int .i64 4) := hc1
  have hc2' : w2.cell? ⟨b, o + 2, none⟩ = some (.int .i64 0) := hc2'
  have HB2 := Lib.hid (HB1.out.trans (hb2.mono HB1.out.size))
  have hl1 : ([⟨2, 4, 0⟩] : List Sh).length = 1 := rfl
  rw [hl1]
  clear hv hb2 hat2 hl1 hc2
  go_wp2_with (go_at_call 28; refine (CL.out _).mono ?_; rintro e9 w9 ⟨rfl, hb9⟩)
  go_ret
  exact ⟨rfl, HB2.out.trans (hb9.mono HB2.out.size)⟩
end Go.Proofs.Ytdaohjimfgdmbaa
