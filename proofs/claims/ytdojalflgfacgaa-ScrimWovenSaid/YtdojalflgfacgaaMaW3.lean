/- Contracts of Numbers at any numbers, and of match's Gone, front, Front, Back. -/
import Derived.Test.YtdojalflgfacgaaMaW2
namespace Go.Proofs.Ytdojalflgfacgaa
open Go.RowKit Ma
theorem numbersI_any (A B : Option Addr) (n c m d : Nat) (xs ys : List Int) (w : World) (hn : n = xs.length) (hm : m = ys.length) (hb : n ≤ 100000) (hb2 : m ≤ 100000) (ha : At w A (iv xs)) (hb' : At w B (iv ys)) :
    Calls Try.prog 10 #[.slice A n c, .slice B m d] w fun e w' => e = .returned (.bool (decide (xs = ys))) ∧ ∃ q, w' = w.drewN q := by
  have HN := Lib.hid hn
  have HM := Lib.hid hm
  have HA := Lib.hid ha
  have HB := Lib.hid hb'
  clear hn hm ha hb'
  by_cases hl : n = m
  · subst hl
    go_enter Try.func10, Try.ntmps10
    go_wp2
    go_loopw [13] (fun i wr => ∃ k q : Nat, k ≤ n ∧ i = .int .i64 k ∧ wr = w.drewN q ∧ Hid (xs.take k = ys.take k)) (fun i _ => n - (intOf i).toNat)
    case atStart => exact ⟨0, 0, Nat.zero_le _, rfl, rfl, rfl⟩
    case round =>
      obtain ⟨k, q, hk, rfl, rfl, hx⟩ := hrel
      by_cases hlt : k < n
      · have hk1 : k < xs.length := by have := HN.out; omega
        have hk2 : k < ys.length := by have := HM.out; omega
        obtain ⟨b1, o1, rfl, hb1, hc1⟩ := HA.out.one (iv_at xs k hk1)
        obtain ⟨b2, o2, rfl, hb2', hc2⟩ := HB.out.one (iv_at ys k hk2)
        obtain ⟨s, hs⟩ : ∃ s, s = ats xs k := ⟨_, rfl⟩
        obtain ⟨t, ht⟩ : ∃ t, t = ats ys k := ⟨_, rfl⟩
        rw [← hs] at hc1
        rw [← ht] at hc2
        have HS := Lib.hid hs
        have HT := Lib.hid ht
        clear hs ht
        by_cases hst : s = t
        · have HX := Lib.hid hst
          have h1 : (s == t) = true := beq_iff_eq.2 hst
          clear hst
          go_wp2
          go_quiet (fail)
          go_wp2
          go_roundw
          case rel =>
            refine ⟨k + 1, _, by omega, by go_num, rfl, ?_⟩
            show xs.take (k + 1) = ys.take (k + 1)
            rw [List.take_succ_eq_append_getElem hk1, List.take_succ_eq_append_getElem hk2, hx.out]
            have h5 := HS.out
            have h6 := HT.out
            rw [show ats xs k = xs[k] by simp [ats, hk1]] at h5
            rw [show ats ys k = ys[k] by simp [ats, hk2]] at h6
            rw [← h5, ← h6, HX.out]
          case measure => simp [intOf]; omega
        · have HX := Lib.hid hst
          have h1 : (s == t) = false := beq_eq_false_iff_ne.2 hst
          clear hst
          go_wp2
          go_quiet (fail)
          go_wp2
          go_ret
          exact ⟨ret_bool' (by rw [eq_comm, decide_eq_false_iff_not]; intro e; subst e; exact HX.out (by rw [HS.out, HT.out])), _, World.drewN_drewN _ _ _⟩
      · go_wp2
        go_ret
        exact ⟨ret_bool' (by have h1 := HN.out; have h3 := HM.out; have h2 := hx.out; rw [List.take_of_length_le (by omega), List.take_of_length_le (by omega)] at h2; simp [h2]), _, rfl⟩
  · have hd : Hid (decide (xs = ys) = false) := by show decide (xs = ys) = false; rw [decide_eq_false_iff_not]; intro e; subst e; exact hl (HN.out.trans HM.out.symm)
    have hl' : ((n : Int) == (m : Int)) = false := by rw [beq_eq_false_iff_ne]; omega
    have HL := Lib.hid hl
    clear hl
    go_enter Try.func10, Try.ntmps10
    go_wp2
    go_ret
    exact ⟨ret_bool' hd.out.symm, 0, rfl⟩
theorem nv_iv (l : List Nat) : nv l = iv (l.map fun (k : Nat) => (k : Int)) := by simp [nv, iv]
theorem ats_pairs (old new : List Kd) (i : Nat) (h : i < new.length) : ats (pairs old new) i = pairF old new i := pairs_at old new i h
/-- which of the old ones the first k new ones have -/
def takenTo (n : Nat) (p : Nat → Int) (k : Nat) : List Value := (List.range n).map fun (j : Nat) => Value.bool (decide (∃ i, i < k ∧ p i = (j : Int)))
theorem takenTo_len (n : Nat) (p : Nat → Int) (k : Nat) : (takenTo n p k).length = n := by simp [takenTo]
theorem takenTo_get (n : Nat) (p : Nat → Int) (k j : Nat) (hj : j < n) : (takenTo n p k)[j]? = some (.bool (decide (∃ i, i < k ∧ p i = (j : Int)))) := by
  unfold takenTo
  rw [List.getElem?_map, List.getElem?_range hj]
  rfl
theorem takenTo_yes (n : Nat) (p : Nat → Int) (k a : Nat) (h : p k = (a : Int)) (ha : a < n) : (takenTo n p k).set a (.bool true) = takenTo n p (k + 1) := by
  apply List.ext_getElem?
  intro j
  by_cases hj : j < n
  · rw [takenTo_get n p (k + 1) j hj, List.getElem?_set]
    by_cases e : a = j
    · subst e
      rw [if_pos rfl, if_pos (by rw [takenTo_len]; exact ha)]
      rw [decide_eq_true (p := ∃ i, i < k + 1 ∧ p i = (a : Int)) ⟨k, by omega, h⟩]
    · rw [if_neg e, takenTo_get n p k j hj]
      congr 2
      apply decide_eq_decide.2
      constructor
      · rintro ⟨i, h3, h4⟩; exact ⟨i, by omega, h4⟩
      · rintro ⟨i, h3, h4⟩
        by_cases ei : i = k
        · subst ei; omega
        · exact ⟨i, by omega, h4⟩
  · rw [List.getElem?_eq_none (by simp [takenTo_len]; omega), List.getElem?_eq_none (by rw [takenTo_len]; omega)]
theorem takenTo_no (n : Nat) (p : Nat → Int) (k : Nat) (h : p k < 0) : takenTo n p k = takenTo n p (k + 1) := by
  unfold takenTo
  apply List.map_congr_left
  intro j _
  congr 1
  apply decide_eq_decide.2
  constructor
  · rintro ⟨i, h3, h4⟩; exact ⟨i, by omega, h4⟩
  · rintro ⟨i, h3, h4⟩
    by_cases ei : i = k
    · subst ei; omega
    · exact ⟨i, by omega, h4⟩
theorem takenTo_zero (n : Nat) (p : Nat → Int) : takenTo n p 0 = (madeCells #[.bool false] (n * 1)).toList := by
  rw [Nat.mul_one, toList_madeCells_one]
  apply List.ext_getElem
  · simp [takenTo]
  · intro j h1 h2
    simp [takenTo]
theorem takenTo_at (old new : List Kd) (j : Nat) (hj : j < old.length) : (takenTo old.length (pairF old new) new.length)[j]? = some (.bool (decide ((j : Int) ∈ pairs old new))) := by
  unfold takenTo pairs
  rw [List.getElem?_map, List.getElem?_range hj]
  simp only [Option.map_some]
  congr 2
  simp [eq_comm]
set_option maxHeartbeats 2000000 in
set_option maxRecDepth 100000 in
theorem gone_any (A B : Option Addr) (n c m d : Nat) (old new : List Kd) (w : World) (hn : n = old.length) (hm : m = new.length) (h1 : n ≤ 100000) (h2 : m ≤ 100000) (ha : At w A (kc old)) (hb : At w B (kc new)) (ho : ∀ k ∈ old, OkK k) (hw : ∀ k ∈ new, OkK k) :
    Calls Try.prog 15 #[.slice A n c, .slice B m d] w fun e w' => ∃ v, e = .returned v ∧ w'.ownsRow w.heap.size 3 1 v (goneTo old new n).length (nv (goneTo old new n)) ∧ Below w.heap.size w w' := by
  have HN := Lib.hid hn
  have HM := Lib.hid hm
  have C1 := fun W (hW : Below w.heap.size w W) => pair_any A B n c m d old new W hn hm h1 h2 (ha.below hW) (hb.below hW) ho hw
  obtain ⟨i0, hi, hz0, hz1, hz2⟩ := info_parts infoInt
  obtain ⟨b0, bi, bz0, bz1, bz2⟩ := info_parts infoBool
  obtain ⟨w2, hmk, hrow, hgm⟩ := run_makeSlice_full (P := Try.prog) w w.heap.size 52 4 b0 (.bool false) 1 Try.underlying52 bi bz0 bz1 .i64 .i64 n (by omega) (by rw [bz2]; omega) (by unfold maxLen; omega) (Nat.le_refl _)
  have HR2 := Lib.hid hrow
  have HB2 : Hid (Below w.heap.size w w2) := (Below.refl w.heap.size w).grown hgm (Nat.le_refl _) (fun q hq => nomatch hq)
  clear hn hm ha hb ho hw hrow hgm
  go_enter Try.func15, Try.ntmps15
  go_wp2_with fail
  clear hmk
  refine (C1 _ HB2.out).mono ?_
  rintro e w6 ⟨v, rfl, hown, hb6⟩
  obtain ⟨A6, c6, rfl, hc6, hm6⟩ := own_slice hown
  have HT6 := Lib.hid (At.own hown)
  have HF6 : Hid (∀ p, (Value.slice A6 m c6).ownBlock = some p → w.heap.size < p) := fun p hp => Nat.lt_of_lt_of_le ((HR2.out.lt _ rfl).2) (own_from hown p hp)
  have HR6 : Hid (w6.ownsRow w.heap.size 4 1 (.slice (some ⟨w.heap.size, 0, none⟩) n n) n (takenTo n (pairF old new) 0)) := by
    show World.ownsRow _ _ _ _ _ _ _
    rw [takenTo_zero]
    exact own_below HR2.out hb6
  have HB6 : Hid (Below w.heap.size w w6) := HB2.out.trans (hb6.mono HB2.out.size)
  clear hown hb6 HR2 HB2 C1
  go_wp2_with fail
  go_loopw [18] (fun i wr => ∃ k : Nat, k ≤ m ∧ i = .int .i64 k ∧ Hid (wr.ownsRow w.heap.size 4 1 (.slice (some ⟨w.heap.size, 0, none⟩) n n) n (takenTo n (pairF old new) k)) ∧ Hid (w6.grownBy wr (some w.heap.size))) (fun i _ => m - (intOf i).toNat)
  case atStart => exact ⟨0, Nat.zero_le _, rfl, HR6, World.grownBy.refl _ _⟩
  case round =>
    obtain ⟨k, hk, rfl, hrow, hgr⟩ := hrel
    by_cases hlt : k < m
    · have hkn : k < new.length := by have := HM.out; omega
      obtain ⟨b1, o1, rfl, hb1, hc1⟩ := HT6.out.one (iv_at (pairs old new) k (by rw [pairs_len]; exact hkn))
      rw [ats_pairs _ _ _ hkn] at hc1
      have hne : b1 ≠ w.heap.size := by have := HF6.out b1 rfl; omega
      have hd1 : wr.cell? ⟨b1, o1 + k, none⟩ = _ := hgr.out.cell hc1 (by intro e; injection e with e; exact hne e)
      obtain ⟨hl1, hl2⟩ := pairF_lt old new k
      rw [← HN.out] at hl2
      obtain ⟨P, hP⟩ : ∃ P, P = pairF old new k := ⟨_, rfl⟩
      rw [← hP] at hd1 hl1 hl2
      have HP := Lib.hid hP
      clear hP hc1
      by_cases h0 : 0 ≤ P
      · obtain ⟨a, rfl⟩ : ∃ a : Nat, P = (a : Int) := ⟨P.toNat, by omega⟩
        have hY := Lib.hid (takenTo_yes n (pairF old new) k a HP.out.symm (by omega))
        have hll : a < (takenTo n (pairF old new) k).length := by rw [takenTo_len]; omega
        obtain ⟨u0, hu0⟩ : ∃ u, wr.cell? ⟨w.heap.size, a, none⟩ = some u := ⟨_, (hrow.out.cellAt a (by omega)).trans (List.getElem?_eq_getElem hll)⟩
        have hf0 := hrow.out.frozenAt a
        clear hll
        go_wp2_with fail
        go_roundw
        case rel => exact ⟨k + 1, by omega, by go_num, by show World.ownsRow _ _ _ _ _ _ _; rw [← hY.out]; exact (hrow.out.stored _ _).1, hgr.out.trans (hrow.out.stored _ _).2⟩
        case measure => simp [intOf]; omega
      · have hX := Lib.hid (takenTo_no n (pairF old new) k (by rw [← HP.out]; omega))
        go_wp2_with fail
        go_roundw
        case rel => exact ⟨k + 1, by omega, by go_num, by show World.ownsRow _ _ _ _ _ _ _; rw [← hX.out]; exact hrow.out, hgr⟩
        case measure => simp [intOf]; omega
    · obtain rfl : k = m := by omega
      have HB7 : Hid (Below w.heap.size w wr) := HB6.out.grown hgr.out HB6.out.size (fun p hp => by injection hp with hp; omega)
      have HR7 := Lib.hid hrow.out
      clear hrow hgr HB6 HR6 HT6 HF6
      go_wp2_with fail
      go_loopw [8, 30] (fun v i wy => ∃ j : Nat, j ≤ n ∧ i = .int .i64 j ∧ Hid (wy.ownsRow w.heap.size 4 1 (.slice (some ⟨w.heap.size, 0, none⟩) n n) n (takenTo n (pairF old new) k)) ∧ Hid (wy.ownsRow w.heap.size 3 1 v (goneTo old new j).length (nv (goneTo old new j))) ∧ Hid (Below w.heap.size w wy)) (fun _ i _ => n - (intOf i).toNat)
      case atStart => exact ⟨0, Nat.zero_le _, rfl, HR7, World.ownsRow_nil _ _ _ _, HB7⟩
      case round =>
        obtain ⟨j, hj, rfl, hrow, hown, hbel⟩ := hrel
        by_cases hjn : j < n
        · have hd1 := hrow.out.cellAt j (by omega)
          have hat := takenTo_at old new j (by have := HN.out; omega)
          rw [← HN.out, ← HM.out] at hat
          rw [hat] at hd1
          have hwr := hbel.out.size
          have hgl := goneTo_le old new j
          clear hat
          by_cases hmem : ((j : Int) ∈ pairs old new)
          · have hG := Lib.hid (goneTo_no hmem)
            rw [decide_eq_true hmem] at hd1
            clear hmem
            go_wp2_with fail
            go_roundw
            case rel => exact ⟨j + 1, by omega, by go_num, hrow, by show World.ownsRow _ _ _ _ _ _ _; rw [hG.out]; exact hown.out, hbel⟩
            case measure => simp [intOf]; omega
          · have hG := Lib.hid (goneTo_yes hmem)
            rw [decide_eq_false hmem] at hd1
            clear hmem
            obtain ⟨AE, cE, rfl, hcE, hcE2⟩ := own_slice hown.out
            go_wp2_with (at_builtin; refine wpList_append_own _ rfl _ _ 22 rfl w.heap.size 3 i0 (.int .i64 0) 1 8 Try.underlying22 hi hz0 hz1 hz2 rfl (by decide) _ _ _ rfl (hown.out.alloc _) ⟨_, 0, none⟩ 1 1 [.int .i64 (j : Int)] rfl rfl (cell_one_new _ _ _) (nv_one [j]) (by unfold maxLen; omega) (by omega) (by simp; omega) ?_; intro v1 w1 hown1 hgrow1 _hnil1; have HO1 := Lib.hid hown1; have HG1 := Lib.hid hgrow1; clear hown1 hgrow1 _hnil1)
            go_roundw
            case rel => exact ⟨j + 1, by omega, by go_num, (hrow.out.alloc _).kept HG1.out (own_ne hrow.out hown.out (by decide)), by show World.ownsRow _ _ _ _ _ _ _; rw [hG.out, List.length_append, nv_app]; exact HO1.out, (hbel.out.alloc hwr _).grown HG1.out (by simp; omega) (own_from hown.out)⟩
            case measure => simp [intOf]; omega
        · obtain rfl : j = n := by omega
          go_wp2
          go_ret
          exact ⟨_, rfl, hown.out, hbel.out⟩
end Go.Proofs.Ytdojalflgfacgaa
