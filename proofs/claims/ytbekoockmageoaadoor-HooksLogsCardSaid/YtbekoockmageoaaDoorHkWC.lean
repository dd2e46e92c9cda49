/- The document's Of and Check; the statements' Numbers. -/
import Derived.Test.YtbekoockmageoaaDoorHkWA
import Derived.Test.YtbekoockmageoaaDoorHkWO
namespace Go.Proofs.YtbekoockmageoaaDoor
open Go.RowKit Hk
attribute [-go_sem] Builtin.append_
set_option maxHeartbeats 2000000 in
set_option maxRecDepth 100000 in
theorem rof_any (A : Option Addr) (n c : Nat) (L : List En) (z : Int) (s : ByteArray) (w : World) (hn : n = L.length) (hb : n ≤ 100000) (ha : At w A (ecs L)) :
    Calls Tryd.prog 19 #[.slice A n c, .int .i64 z, .string s] w fun e w' => ∃ v, e = .returned v ∧ w'.ownsRow w.heap.size 3 1 v (hooksOf L (z, s)).length (iv (hooksOf L (z, s))) ∧ Below w.heap.size w w' := by
  have HN := Lib.hid hn
  have HA := Lib.hid ha
  obtain ⟨i0, hi, hz0, hz1, hz2⟩ := info_parts infoInt
  clear hn ha
  go_enter Tryd.func19, Tryd.ntmps19
  go_wp2
  have HR0 : Hid ((w.alloc (.cells #[] 3)).ownsRow w.heap.size 3 1 (.slice (some ⟨w.heap.size, 0, none⟩) 0 0) 0 (iv (hooksOf (L.take 0) (z, s)))) := own_made w w.heap.size rfl (Nat.le_refl _)
  have HB0 : Hid (Below w.heap.size w (w.alloc (.cells #[] 3))) := below_alloc w _
  go_loopw [7, 13] (fun v i wr => ∃ k : Nat, k ≤ n ∧ i = .int .i64 k ∧ Hid (wr.ownsRow w.heap.size 3 1 v (hooksOf (L.take k) (z, s)).length (iv (hooksOf (L.take k) (z, s)))) ∧ Hid (Below w.heap.size w wr)) (fun _ i _ => n - (intOf i).toNat)
  case atStart => exact ⟨0, Nat.zero_le _, rfl, HR0, HB0⟩
  case round =>
    obtain ⟨k, hk, rfl, hown, hbel⟩ := hrel
    by_cases hlt : k < n
    · have hk1 : k < L.length := by have := HN.out; omega
      obtain ⟨b1, o1, rfl, hb1, hc0, hc1, hc2, hc3⟩ := at_en HA.out hk1
      have hd0 := (below_cells hbel.out).1 b1 (o1 + k * 4) hb1
      have hd1 := (below_cells hbel.out).1 b1 (o1 + k * 4 + 1) hb1
      have hd2 := (below_cells hbel.out).1 b1 (o1 + k * 4 + 2) hb1
      have hd3 := (below_cells hbel.out).1 b1 (o1 + k * 4 + 3) hb1
      rw [hc0] at hd0
      rw [hc1] at hd1
      rw [hc2] at hd2
      rw [hc3] at hd3
      have HX := Lib.hid (hooksOf_next L k hk1 (z, s))
      unfold En.kid at HX
      generalize L[k].g = z0 at hd0 HX
      generalize L[k].n = z1 at hd1
      generalize L[k].h = z2 at hd2 HX
      generalize L[k].s = x at hd3 HX
      clear hc0 hc1 hc2 hc3
      have hlen := hooks_le (L.take k) (z, s)
      have hlen2 : (L.take k).length ≤ k := List.length_take_le _ _
      obtain ⟨q, hq⟩ : ∃ q, q = hooksOf (L.take k) (z, s) := ⟨_, rfl⟩
      rw [← hq] at hown HX hlen
      have HQ := Lib.hid hq
      clear hq
      have hql : q.length ≤ n := by omega
      clear hlen hlen2
      obtain ⟨A7, c7, rfl, hc7, hm7⟩ := own_slice hown.out
      have hsz := hbel.out.size
      have HW1 := Lib.hid (hbel.out.alloc hsz (.cells #[.int .i64 z0, .int .i64 z1, .int .i64 z2, .string x] 45))
      have HO1 := Lib.hid (hown.out.alloc (.cells #[.int .i64 z0, .int .i64 z1, .int .i64 z2, .string x] 45))
      go_upto_region 5 with fail
      have g0 : (wr.alloc (.cells #[.int .i64 z0, .int .i64 z1, .int .i64 z2, .string x] 45)).cell? ⟨wr.heap.size, 0, none⟩ = some (.int .i64 z0) := by simp
      have g2 : (wr.alloc (.cells #[.int .i64 z0, .int .i64 z1, .int .i64 z2, .string x] 45)).cell? ⟨wr.heap.size, 2, none⟩ = some (.int .i64 z2) := by simp
      have g3 : (wr.alloc (.cells #[.int .i64 z0, .int .i64 z1, .int .i64 z2, .string x] 45)).cell? ⟨wr.heap.size, 3, none⟩ = some (.string x) := by simp
      generalize wr.alloc (.cells #[.int .i64 z0, .int .i64 z1, .int .i64 z2, .string x] 45) = w5 at g0 g2 g3 HW1 HO1 ⊢
      generalize wr.heap.size = r at g0 g2 g3 hsz ⊢
      clear hd0 hd1 hd2 hd3 hown hbel
      have HO5 := HO1
      have HW5 := HW1
      have hs5 := HW5.out.size
      by_cases h1 : z0 = z
      · subst h1
        by_cases h2 : x = s
        · subst h2
          have HXX : Hid (hooksOf (L.take (k + 1)) (z0, x) = q ++ [z2]) := Lib.hid (by rw [HX.out, if_pos rfl])
          clear HX
          obtain ⟨v1, w1, hrun1, hown1, hgrow1, _, _⟩ := run_append_own_at (P := Tryd.prog) (w5.alloc (.cells #[.int .i64 z2] 3)) w.heap.size 26 26 3 i0 (.int .i64 0) 1 8 Tryd.underlying26 hi hz0 hz1 hz2 rfl (by decide) _ _ _ (HO5.out.alloc (.cells #[.int .i64 z2] 3)) ⟨w5.heap.size, 0, none⟩ 1 1 [.int .i64 z2] rfl (cells_new' _ _ _ _ rfl _ rfl) (fun u hu => by rw [List.mem_singleton.1 hu]; rfl) (by unfold maxLen; omega) (by omega) (by rw [size_alloc]; omega)
          have HO := Lib.hid hown1
          have HG := Lib.hid hgrow1
          clear hown1 hgrow1
          go_wp2
          go_roundw
          case rel =>
            refine ⟨k + 1, by omega, by go_num, ?_, Lib.hid ((HW5.out.alloc hs5 _).grown HG.out (by simp; omega) (fun p hp => own_from HO5.out p hp))⟩
            show World.ownsRow _ _ _ _ _ _ _
            rw [HXX.out, iv_app, List.length_append]
            exact HO.out
          case measure => simp [intOf]; omega
        · have HXX : Hid (hooksOf (L.take (k + 1)) (z0, s) = q) := Lib.hid (by rw [HX.out, if_neg (fun e => h2 (congrArg Prod.snd e))])
          have hxb := M.str_no h2
          have hxl : ¬ x.toList = s.toList := by simpa using hxb
          clear HX
          go_wp2
          go_roundw
          case rel =>
            refine ⟨k + 1, by omega, by go_num, ?_, HW5⟩
            show World.ownsRow _ _ _ _ _ _ _
            rw [HXX.out]
            exact HO5.out
          case measure => simp [intOf]; omega
      · have HXX : Hid (hooksOf (L.take (k + 1)) (z, s) = q) := Lib.hid (by rw [HX.out, if_neg (fun e => h1 (congrArg Prod.fst e))])
        clear HX
        go_wp2
        go_roundw
        case rel =>
          refine ⟨k + 1, by omega, by go_num, ?_, HW5⟩
          show World.ownsRow _ _ _ _ _ _ _
          rw [HXX.out]
          exact HO5.out
        case measure => simp [intOf]; omega
    · obtain rfl : k = n := by omega
      have h1 := hown.out
      rw [List.take_of_length_le (by rw [HN.out]; exact Nat.le_refl _)] at h1
      have HO := Lib.hid h1
      clear h1 hown
      go_wp2
      go_ret
      exact ⟨_, rfl, HO.out, hbel.out⟩
set_option maxHeartbeats 2000000 in
set_option maxRecDepth 100000 in
theorem rcheck_any (A : Option Addr) (n c : Nat) (L : List En) (w : World) (hn : n = L.length) (hb : n ≤ 100000) (ha : At w A (ecs L)) :
    Calls Tryd.prog 21 #[.slice A n c] w fun e w' => e = .returned (.bool (okB L)) ∧ Below w.heap.size w w' := by
  have HN := Lib.hid hn
  have HA := Lib.hid ha
  clear hn ha
  go_enter Tryd.func21, Tryd.ntmps21
  go_wp2
  go_loopw [7] (fun i wr => ∃ k : Nat, k ≤ n ∧ i = .int .i64 k ∧ Hid (∀ j (h : j < L.length), j < k → 0 ≤ run 0 (hooksOf L L[j].kid)) ∧ Hid (Below w.heap.size w wr)) (fun i _ => n - (intOf i).toNat)
  case atStart => exact ⟨0, Nat.zero_le _, rfl, Lib.hid (fun j _ h => absurd h (Nat.not_lt_zero _)), Below.refl _ _⟩
  case round =>
    obtain ⟨k, hk, rfl, hall, hbel⟩ := hrel
    by_cases hlt : k < n
    · have hk1 : k < L.length := by have := HN.out; omega
      obtain ⟨b1, o1, rfl, hb1, hc0, hc1, hc2, hc3⟩ := at_en HA.out hk1
      have hd0 := (below_cells hbel.out).1 b1 (o1 + k * 4) hb1
      have hd1 := (below_cells hbel.out).1 b1 (o1 + k * 4 + 1) hb1
      have hd2 := (below_cells hbel.out).1 b1 (o1 + k * 4 + 2) hb1
      have hd3 := (below_cells hbel.out).1 b1 (o1 + k * 4 + 3) hb1
      rw [hc0] at hd0
      rw [hc1] at hd1
      rw [hc2] at hd2
      rw [hc3] at hd3
      have HK : Hid (L[k].kid = (L[k].g, L[k].s)) := rfl
      have HBADK : Hid (run 0 (hooksOf L L[k].kid) < 0 → okB L = false) := Lib.hid (fun h => by
        rw [Bool.eq_false_iff]
        intro h1
        have h2 := (okB_iff L).1 h1 L[k] (List.getElem_mem hk1)
        omega)
      have HNX : Hid (0 ≤ run 0 (hooksOf L L[k].kid) → ∀ j (h : j < L.length), j < k + 1 → 0 ≤ run 0 (hooksOf L L[j].kid)) := Lib.hid (fun h j hj hjk => by
        by_cases e : j = k
        · subst e; exact h
        · exact hall.out j hj (by omega))
      rw [HK.out] at HBADK HNX
      generalize L[k].g = z0 at hd0 HBADK HNX
      generalize L[k].n = z1 at hd1
      generalize L[k].h = z2 at hd2
      generalize L[k].s = x at hd3 HBADK HNX
      clear hc0 hc1 hc2 hc3 HK
      have hsz := hbel.out.size
      have HW1 := Lib.hid (hbel.out.alloc hsz (.cells #[.int .i64 z0, .int .i64 z1, .int .i64 z2, .string x] 45))
      have hlh := hooks_le L (z0, x)
      rw [← HN.out] at hlh
      go_wp2_with fail
      (with_reducible refine (rof_any _ n c L z0 x _ HN.out hb (HA.out.below HW1.out)).mono ?_)
      rintro e w6 ⟨v6, rfl, hown6, hb6⟩
      obtain ⟨A6, c6, rfl, _, _, hat6⟩ := at_of_own' hown6
      have HAT6 := Lib.hid hat6
      have HB6 := Lib.hid (HW1.out.trans (hb6.mono HW1.out.size))
      clear hown6 hat6 hb6
      go_wp2_with fail
      (with_reducible refine (rrun_any A6 _ c6 (hooksOf L (z0, x)) _ rfl (by unfold maxLen; omega) HAT6.out).mono ?_)
      rintro e w7 ⟨rfl, hb7⟩
      have HB7 := Lib.hid (HB6.out.trans (hb7.mono HB6.out.size))
      clear hb7
      generalize run 0 (hooksOf L (z0, x)) = rr at HBADK HNX ⊢
      by_cases hr : rr < 0
      · have HF := Lib.hid (HBADK.out hr)
        go_wp2
        go_ret
        exact ⟨ret_bool' HF.out.symm, HB7.out⟩
      · have HG := Lib.hid (HNX.out (by omega))
        go_wp2
        go_roundw
        case rel => exact ⟨k + 1, by omega, by go_num, HG, HB7⟩
        case measure => simp [intOf]; omega
    · obtain rfl : k = n := by omega
      have HALL : Hid (okB L = true) := Lib.hid (okB_of L (fun e he => by
        obtain ⟨j, hj, rfl⟩ := List.mem_iff_getElem.1 he
        exact hall.out j hj (by rw [HN.out]; exact hj)))
      go_wp2
      go_ret
      exact ⟨ret_bool' HALL.out.symm, hbel.out⟩
set_option maxHeartbeats 1000000 in
theorem numbersI_any (A B : Option Addr) (n c m d : Nat) (xs ys : List Int) (w : World) (hn : n = xs.length) (hm : m = ys.length) (hb : n ≤ 100000) (hb2 : m ≤ 100000) (ha : At w A (iv xs)) (hb' : At w B (iv ys)) :
    Calls Tryd.prog 17 #[.slice A n c, .slice B m d] w fun e w' => e = .returned (.bool (decide (xs = ys))) ∧ ∃ q, w' = w.drewN q := by
  have HN := Lib.hid hn
  have HM := Lib.hid hm
  have HA := Lib.hid ha
  have HB := Lib.hid hb'
  clear hn hm ha hb'
  by_cases hl : n = m
  · subst hl
    go_enter Tryd.func17, Tryd.ntmps17
    go_wp2
    go_loopw [13] (fun i wr => ∃ k q : Nat, k ≤ n ∧ i = .int .i64 k ∧ wr = w.drewN q ∧ Hid (xs.take k = ys.take k)) (fun i _ => n - (intOf i).toNat)
    case atStart => exact ⟨0, 0, Nat.zero_le _, rfl, rfl, rfl⟩
    case round =>
      obtain ⟨k, q, hk, rfl, rfl, hx⟩ := hrel
      by_cases hlt : k < n
      · have hk1 : k < xs.length := by have := HN.out; omega
        have hk2 : k < ys.length := by have := HM.out; omega
        obtain ⟨b1, o1, rfl, hb1, hc1⟩ := HA.out.one (iv_at xs k hk1)
        obtain ⟨b2, o2, rfl, hb2', hc2⟩ := HB.out.one (iv_at ys k hk2)
        obtain ⟨s, hs⟩ : ∃ s, s = ats xs k := ⟨_, rfl⟩
        obtain ⟨t, ht⟩ : ∃ t, t = ats ys k := ⟨_, rfl⟩
        rw [← hs] at hc1
        rw [← ht] at hc2
        have HS := Lib.hid hs
        have HT := Lib.hid ht
        clear hs ht
        by_cases hst : s = t
        · have HX := Lib.hid hst
          have h1 : (s == t) = true := beq_iff_eq.2 hst
          clear hst
          go_wp2
          go_quiet (fail)
          go_wp2
          go_roundw
          case rel =>
            refine ⟨k + 1, _, by omega, by go_num, rfl, ?_⟩
            show xs.take (k + 1) = ys.take (k + 1)
            rw [List.take_succ_eq_append_getElem hk1, List.take_succ_eq_append_getElem hk2, hx.out]
            have h5 := HS.out
            have h6 := HT.out
            rw [show ats xs k = xs[k] by simp [ats, hk1]] at h5
            rw [show ats ys k = ys[k] by simp [ats, hk2]] at h6
            rw [← h5, ← h6, HX.out]
          case measure => simp [intOf]; omega
        · have HX := Lib.hid hst
          have h1 : (s == t) = false := beq_eq_false_iff_ne.2 hst
          clear hst
          go_wp2
          go_quiet (fail)
          go_wp2
          go_ret
          exact ⟨ret_bool' (by rw [eq_comm, decide_eq_false_iff_not]; intro e; subst e; exact HX.out (by rw [HS.out, HT.out])), _, World.drewN_drewN _ _ _⟩
      · go_wp2
        go_ret
        exact ⟨ret_bool' (by have h1 := HN.out; have h3 := HM.out; have h2 := hx.out; rw [List.take_of_length_le (by omega), List.take_of_length_le (by omega)] at h2; simp [h2]), _, rfl⟩
  · have hd : Hid (decide (xs = ys) = false) := by show decide (xs = ys) = false; rw [decide_eq_false_iff_not]; intro e; subst e; exact hl (HN.out.trans HM.out.symm)
    have hl' : ((n : Int) == (m : Int)) = false := by rw [beq_eq_false_iff_ne]; omega
    have HL := Lib.hid hl
    clear hl
    go_enter Tryd.func17, Tryd.ntmps17
    go_wp2
    go_ret
    exact ⟨ret_bool' hd.out.symm, 0, rfl⟩
end Go.Proofs.YtbekoockmageoaaDoor
