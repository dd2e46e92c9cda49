/- What was told of one kid, by the program: Of. -/
import Derived.Test.YtbekoockmageoaaDoorHkW9
namespace Go.Proofs.YtbekoockmageoaaDoor
open Go.RowKit Hk
attribute [-go_sem] Builtin.append_
set_option maxHeartbeats 2000000 in
set_option maxRecDepth 100000 in
theorem of_any (A : Option Addr) (n c : Nat) (L : List En) (z : Int) (s : ByteArray) (w : World) (hn : n = L.length) (hb : n ≤ 100000) (ha : At w A (ecs L)) :
    Calls Tryd.prog 18 #[.slice A n c, .int .i64 z, .string s] w fun e w' => ∃ v, e = .returned v ∧ w'.ownsRow w.heap.size 3 1 v (hooksOf L (z, s)).length (iv (hooksOf L (z, s))) ∧ Below w.heap.size w w' := by
  have HN := Lib.hid hn
  have HA := Lib.hid ha
  obtain ⟨i0, hi, hz0, hz1, hz2⟩ := info_parts infoInt
  clear hn ha
  go_enter Tryd.func18, Tryd.ntmps18
  go_wp2
  go_loopw [7, 12] (fun v i wr => ∃ k : Nat, k ≤ n ∧ i = .int .i64 k ∧ Hid (wr.ownsRow w.heap.size 3 1 v (hooksOf (L.take k) (z, s)).length (iv (hooksOf (L.take k) (z, s)))) ∧ Hid (Below w.heap.size w wr)) (fun _ i _ => n - (intOf i).toNat)
  case atStart => exact ⟨0, Nat.zero_le _, rfl, World.ownsRow_nil _ _ _ _, Below.refl _ _⟩
  case round =>
    obtain ⟨k, hk, rfl, hown, hbel⟩ := hrel
    by_cases hlt : k < n
    · have hk1 : k < L.length := by have := HN.out; omega
      obtain ⟨b1, o1, rfl, hb1, hc0, hc1, hc2, hc3⟩ := at_en HA.out hk1
      have hd0 := (below_cells hbel.out).1 b1 (o1 + k * 4) hb1
      have hd1 := (below_cells hbel.out).1 b1 (o1 + k * 4 + 1) hb1
      have hd2 := (below_cells hbel.out).1 b1 (o1 + k * 4 + 2) hb1
      have hd3 := (below_cells hbel.out).1 b1 (o1 + k * 4 + 3) hb1
      rw [hc0] at hd0
      rw [hc1] at hd1
      rw [hc2] at hd2
      rw [hc3] at hd3
      have HX := Lib.hid (hooksOf_next L k hk1 (z, s))
      unfold En.kid at HX
      generalize L[k].g = z0 at hd0 HX
      generalize L[k].n = z1 at hd1
      generalize L[k].h = z2 at hd2 HX
      generalize L[k].s = x at hd3 HX
      clear hc0 hc1 hc2 hc3
      have hlen := hooks_le (L.take k) (z, s)
      have hlen2 : (L.take k).length ≤ k := List.length_take_le _ _
      obtain ⟨q, hq⟩ : ∃ q, q = hooksOf (L.take k) (z, s) := ⟨_, rfl⟩
      rw [← hq] at hown HX hlen
      have HQ := Lib.hid hq
      clear hq
      have hql : q.length ≤ n := by omega
      clear hlen hlen2
      obtain ⟨A7, c7, rfl, hc7, hm7⟩ := own_slice hown.out
      have hsz := hbel.out.size
      have HW1 := Lib.hid (hbel.out.alloc hsz (.cells #[.int .i64 z0, .int .i64 z1, .int .i64 z2, .string x] 46))
      have HO1 := Lib.hid (hown.out.alloc (.cells #[.int .i64 z0, .int .i64 z1, .int .i64 z2, .string x] 46))
      go_wp2_with fail
      have g2 : (wr.alloc (.cells #[.int .i64 z0, .int .i64 z1, .int .i64 z2, .string x] 46)).cell? ⟨wr.heap.size, 2, none⟩ = some (.int .i64 z2) := by simp
      have g2l : wr.heap.size < (wr.alloc (.cells #[.int .i64 z0, .int .i64 z1, .int .i64 z2, .string x] 46)).heap.size := by simp
      generalize wr.alloc (.cells #[.int .i64 z0, .int .i64 z1, .int .i64 z2, .string x] 46) = W1 at g2 g2l HW1 HO1 ⊢
      generalize wr.heap.size = r at g2 g2l ⊢
      clear hd0 hd1 hd2 hd3 hown hbel
      (with_reducible refine (kidOf_any z0 z1 z2 x _).mono ?_)
      rintro e w5 ⟨rfl, hb5⟩
      have h2 := (hb5.cell (p := ⟨r, 2, none⟩) g2l).trans g2
      have HO5 := Lib.hid (own_below HO1.out hb5)
      have HW5 := Lib.hid (HW1.out.trans (hb5.mono HW1.out.size))
      clear hb5 g2 g2l
      by_cases hE : (z0, x) = (z, s)
      · have hE' : decide ((z0, x) = (z, s)) = true := by rw [decide_eq_true_iff]; exact hE
        have HXX : Hid (hooksOf (L.take (k + 1)) (z, s) = q ++ [z2]) := Lib.hid (by rw [HX.out, if_pos hE])
        rw [Prod.mk.injEq] at hE
        obtain ⟨e1, e2⟩ := hE
        clear hE' HX
        subst e1 e2
        have hs5 := HW5.out.size
        obtain ⟨v1, w1, hrun1, hown1, hgrow1, _, _⟩ := run_append_own_at (P := Tryd.prog) (w5.alloc (.cells #[.int .i64 z2] 3)) w.heap.size 26 26 3 i0 (.int .i64 0) 1 8 Tryd.underlying26 hi hz0 hz1 hz2 rfl (by decide) _ _ _ (HO5.out.alloc (.cells #[.int .i64 z2] 3)) ⟨w5.heap.size, 0, none⟩ 1 1 [.int .i64 z2] rfl (cells_new' _ _ _ _ rfl _ rfl) (fun u hu => by rw [List.mem_singleton.1 hu]; rfl) (by unfold maxLen; omega) (by omega) (by rw [size_alloc]; omega)
        have HO := Lib.hid hown1
        have HG := Lib.hid hgrow1
        clear hown1 hgrow1
        go_wp2
        go_roundw
        case rel =>
          refine ⟨k + 1, by omega, by go_num, ?_, Lib.hid ((HW5.out.alloc hs5 _).grown HG.out (by simp; omega) (fun p hp => own_from HO5.out p hp))⟩
          show World.ownsRow _ _ _ _ _ _ _
          rw [HXX.out, iv_app, List.length_append]
          exact HO.out
        case measure => simp [intOf]; omega
      · have hE' : decide ((z0, x) = (z, s)) = false := by rw [decide_eq_false_iff_not]; exact hE
        have HXX : Hid (hooksOf (L.take (k + 1)) (z, s) = q) := Lib.hid (by rw [HX.out, if_neg hE])
        have HNE := Lib.hid hE
        by_cases h1 : z0 = z
        · subst h1
          have hxs : ¬ x = s := fun h => HNE.out (by rw [h])
          have hxb := M.str_no hxs
          have hxl : ¬ x.toList = s.toList := by simpa using hxb
          have hxd : decide (x = s) = false := by rw [decide_eq_false_iff_not]; exact hxs
          clear hE hE' HX
          go_wp2
          go_roundw
          case rel =>
            refine ⟨k + 1, by omega, by go_num, ?_, HW5⟩
            show World.ownsRow _ _ _ _ _ _ _
            rw [HXX.out]
            exact HO5.out
          case measure => simp [intOf]; omega
        · clear hE hE' HX
          go_wp2
          go_roundw
          case rel =>
            refine ⟨k + 1, by omega, by go_num, ?_, HW5⟩
            show World.ownsRow _ _ _ _ _ _ _
            rw [HXX.out]
            exact HO5.out
          case measure => simp [intOf]; omega
    · obtain rfl : k = n := by omega
      have h1 := hown.out
      rw [List.take_of_length_le (by rw [HN.out]; exact Nat.le_refl _)] at h1
      have HO := Lib.hid h1
      clear h1 hown
      go_wp2
      go_ret
      exact ⟨_, rfl, HO.out, hbel.out⟩
end Go.Proofs.YtbekoockmageoaaDoor
