/- The walks of MatchOnce and MatchAll. -/
import Derived.Test.YtaojjcnghkjgfaaMaW8
namespace Go.Proofs.Ytaojjcnghkjgfaa
open Go.RowKit Ma
theorem goneTo_app (old new : List Kd) (k n : Nat) (h : k ≤ n) : ∃ t, goneTo old new n = goneTo old new k ++ t := by
  induction n with
  | zero => exact ⟨[], by rw [show k = 0 by omega]; simp⟩
  | succ n ih =>
    by_cases hk : k = n + 1
    · exact ⟨[], by rw [hk]; simp⟩
    · obtain ⟨t, ht⟩ := ih (by omega)
      by_cases hm : (n : Int) ∈ pairs old new
      · exact ⟨t, by rw [goneTo_no hm, ht]⟩
      · exact ⟨t ++ [n], by rw [goneTo_yes hm, ht]; simp⟩
set_option maxHeartbeats 8000000 in
set_option maxRecDepth 100000 in
theorem matchOnce_any (A B : Option Addr) (n c m d : Nat) (L L2 : List Kd) (w : World) (hn : n = L.length) (hm : m = L2.length) (hb : n ≤ maxLen) (hb2 : m ≤ maxLen) (ha : At w A (kc L)) (ha2 : At w B (kc L2)) (ho : ∀ k ∈ L, OkK k) (hw : ∀ k ∈ L2, OkK k) :
    Calls Try.prog 5 #[.slice A n c, .slice B m d] w fun e w' => e = .returned (.bool true) ∧ Below w.heap.size w w' := by
  have C1 := Lib.hid (fun W (hW : Below w.heap.size w W) => both_any A n c 40 L W hn hb (by omega) (ha.below hW))
  have C2 := Lib.hid (fun W (hW : Below w.heap.size w W) => both_any B m d 40 L2 W hm hb2 (by omega) (ha2.below hW))
  have OX := Lib.hid (bothK_ok L 40 ho)
  have OY := Lib.hid (bothK_ok L2 40 hw)
  have LX : Hid (min 40 n = (bothK L 40).length) := by show _ = _; rw [bothK_len, hn]
  have LY : Hid (min 40 m = (bothK L2 40).length) := by show _ = _; rw [bothK_len, hm]
  have hx1 : min 40 n ≤ 100 := by omega
  have hy1 : min 40 m ≤ 100 := by omega
  generalize bothK L 40 = X at *
  generalize bothK L2 40 = Y at *
  generalize min 40 n = N at *
  generalize min 40 m = M at *
  clear hn hm hb hb2 ha ha2 ho hw
  go_enter Try.func5, Try.ntmps5
  go_wp2_with fail
  refine (awake11_any _).mono ?_
  rintro e w1 ⟨rfl, hb1⟩
  have HB1 := Lib.hid hb1
  clear hb1
  go_wp2_with fail
  refine (C1.out _ HB1.out).mono ?_
  rintro e w2 ⟨v5, v6, rfl, ho5, ho6, hb2⟩
  obtain ⟨A5, c5, rfl, hc5, hm5⟩ := own_slice ho5
  obtain ⟨A6, c6, rfl, hc6, hm6⟩ := own_slice ho6
  have T5 := Lib.hid (At.own ho5)
  have T6 := Lib.hid (At.own ho6)
  have N6 := Lib.hid (own_addr ho6)
  have HB2 := Lib.hid (HB1.out.trans (hb2.mono HB1.out.size))
  clear ho5 ho6 hb2
  go_wp2_with fail
  refine (C2.out _ HB2.out).mono ?_
  rintro e w3 ⟨v7, v8, rfl, ho7, ho8, hb3⟩
  obtain ⟨A7, c7, rfl, hc7, hm7⟩ := own_slice ho7
  obtain ⟨A8, c8, rfl, hc8, hm8⟩ := own_slice ho8
  have U5 := Lib.hid (T5.out.below hb3)
  have U6 := Lib.hid (T6.out.below hb3)
  have U7 := Lib.hid (At.own ho7)
  have U8 := Lib.hid (At.own ho8)
  have N8 := Lib.hid (own_addr ho8)
  have HB3 := Lib.hid (HB2.out.trans (hb3.mono HB2.out.size))
  clear ho7 ho8 hb3 T5 T6 C1 C2
  obtain ⟨b0, bi, bz0, bz1, bz2⟩ := info_parts infoBool
  have D1 := Lib.hid (pair_any A5 A7 N c5 M c7 X Y w3 LX.out LY.out (by omega) (by omega) U5.out U7.out OX.out OY.out)
  have D3 := Lib.hid (fun W (hW : Below w3.heap.size w3 W) => gone_any A5 A7 N c5 M c7 X Y W LX.out LY.out (by omega) (by omega) (U5.out.below hW) (U7.out.below hW) OX.out OY.out)
  go_wp2_with fail
  refine D1.out.mono ?_
  rintro e w4 ⟨v, rfl, hown, hb4⟩
  obtain ⟨B4, e4, rfl, _, _⟩ := own_slice hown
  have P4 := Lib.hid (At.own hown)
  have HB4 := Lib.hid hb4
  have V6 := Lib.hid (U6.out.below hb4)
  have V8 := Lib.hid (U8.out.below hb4)
  clear hown hb4 D1
  obtain ⟨w5, hmk, hrow, hgm⟩ := run_makeSlice_full (P := Try.prog) w4 w4.heap.size 34 4 b0 (.bool false) 1 Try.underlying34 bi bz0 bz1 .i64 .i64 N (by omega) (by rw [bz2]; omega) (by unfold maxLen; omega) (Nat.le_refl _)
  have HR5 : Hid (w5.ownsRow w4.heap.size 4 1 (.slice (some ⟨w4.heap.size, 0, none⟩) N N) N (takenTo N (pairF X Y) 0)) := by
    show World.ownsRow _ _ _ _ _ _ _
    rw [takenTo_zero]
    exact hrow
  have HG5 : Hid (Below w4.heap.size w4 w5) := (Below.refl w4.heap.size w4).grown hgm (Nat.le_refl _) (fun q hq => nomatch hq)
  clear hrow hgm
  go_wp2_with fail
  clear hmk
  go_loopw [41] (fun i wr => ∃ k : Nat, k ≤ M ∧ i = .int .i64 k ∧ Hid (wr.ownsRow w4.heap.size 4 1 (.slice (some ⟨w4.heap.size, 0, none⟩) N N) N (takenTo N (pairF X Y) k)) ∧ Hid (Below w4.heap.size w4 wr)) (fun i _ => M - (intOf i).toNat)
  case atStart => exact ⟨0, Nat.zero_le _, rfl, HR5, HG5⟩
  case round =>
    obtain ⟨k, hk, rfl, hrow, hbel⟩ := hrel
    by_cases hlt : k < M
    · have hkn : k < Y.length := by have := LY.out; omega
      obtain ⟨b1, o1, rfl, hb1, hc1⟩ := (P4.out.below hbel.out).one (iv_at (pairs X Y) k (by rw [pairs_len]; exact hkn))
      rw [ats_pairs _ _ _ hkn] at hc1
      obtain ⟨hl1, hl2⟩ := pairF_lt X Y k
      rw [← LX.out] at hl2
      obtain ⟨P, hP⟩ : ∃ P, P = pairF X Y k := ⟨_, rfl⟩
      rw [← hP] at hc1 hl1 hl2
      have HP := Lib.hid hP
      clear hP
      by_cases h0 : 0 ≤ P
      · obtain ⟨a, rfl⟩ : ∃ a : Nat, P = (a : Int) := ⟨P.toNat, by omega⟩
        have haN : a < N := by omega
        obtain ⟨haX, hsame⟩ := pairF_same HP.out.symm
        have hY := Lib.hid (takenTo_yes N (pairF X Y) k a HP.out.symm haN)
        have hg := takenTo_get N (pairF X Y) k a haN
        rw [decide_eq_false (fun ⟨i, h1, h2⟩ => by
          have h3 := pairF_inj (old := X) (new := Y) (by omega) hkn (h2.trans HP.out) (by rw [h2]; omega)
          omega)] at hg
        have hu0 : wr.cell? ⟨w4.heap.size, a, none⟩ = some (.bool false) := (hrow.out.cellAt a (by omega)).trans hg
        have hf0 := hrow.out.frozenAt a
        obtain ⟨b2, o2, rfl, hb2, hc3, hc4⟩ := at_kid (V6.out.below hbel.out) haX
        obtain ⟨b3, o3, rfl, hb3, hc5, hc6⟩ := at_kid (V8.out.below hbel.out) hkn
        rw [hsame] at hc3 hc4
        generalize g Y k = x at *
        obtain ⟨z, s⟩ := x
        have t1 : ((a : Int) == -1) = false := beq_eq_false_iff_ne.2 (by omega)
        have t2 : decide ((a : Int) < 0) = false := decide_eq_false (by omega)
        have t3 : decide (N ≤ a) = false := decide_eq_false (by omega)
        have t4 : (z == z) = true := beq_iff_eq.2 rfl
        have t5 : (s.toList == s.toList) = true := Go.Proofs.Ytaojjcnghkjgfaa.M.str_yes rfl
        have t6 : decide ((N : Int) ≤ (a : Int)) = false := decide_eq_false (by omega)
        clear hg hsame haX
        go_wp2_with fail
        go_big_quiet (fail)
        go_wp2_with fail
        go_roundw
        case rel => exact ⟨k + 1, by omega, by go_num, by show World.ownsRow _ _ _ _ _ _ _; rw [← hY.out]; exact (own_heap (hrow.out.stored _ _).1 rfl), (below_heap hbel.out rfl rfl rfl rfl : Below w4.heap.size w4 (wr.drewN _)).grown ((own_heap hrow.out rfl : (wr.drewN _).ownsRow _ _ _ _ _ _).stored _ _).2 hbel.out.size (fun p hp => by injection hp with hp; omega)⟩
        case measure => simp [intOf]; omega
      · have hX := Lib.hid (takenTo_no N (pairF X Y) k (by rw [← HP.out]; omega))
        obtain rfl : P = -1 := by omega
        go_wp2_with fail
        go_roundw
        case rel => exact ⟨k + 1, by omega, by go_num, by show World.ownsRow _ _ _ _ _ _ _; rw [← hX.out]; exact hrow.out, hbel⟩
        case measure => simp [intOf]; omega
    · obtain rfl : k = M := by omega
      have HB7 : Hid (Below w3.heap.size w3 wr) := HB4.out.trans (hbel.out.mono HB4.out.size)
      have HR7 := Lib.hid hrow.out
      clear hrow hbel
      go_wp2_with fail
      refine (D3.out _ HB7.out).mono ?_
      rintro e w7 ⟨v, rfl, hown, hb7⟩
      obtain ⟨B7, e7, rfl, _, _⟩ := own_slice hown
      have P7 := Lib.hid (At.own hown)
      have HR8 := Lib.hid (own_below HR7.out hb7)
      have HB8 := Lib.hid (HB7.out.trans (hb7.mono HB7.out.size))
      clear hown hb7 HR7 HB7
      obtain ⟨ql, hql⟩ : ∃ ql, ql = (goneTo X Y N).length := ⟨_, rfl⟩
      have hqN : ql ≤ N := by rw [hql]; exact goneTo_le _ _ _
      rw [← hql]
      have HQL := Lib.hid hql
      clear hql
      go_wp2_with fail
      go_loop [14, 82] (fun q i => ∃ (j q' : Nat), j ≤ N ∧ i = .int .i64 j ∧ q = .int .i64 q' ∧ Hid (q' = (goneTo X Y j).length)) (fun _ i => N - (intOf i).toNat)
      case atStart => exact ⟨0, 0, Nat.zero_le _, rfl, rfl, rfl⟩
      case round =>
        obtain ⟨j, q, hj, rfl, rfl, hq⟩ := hrel
        have hqj : q ≤ j := by rw [hq.out]; exact goneTo_le _ _ _
        by_cases hjn : j < N
        · have hd1 := HR8.out.cellAt j (by omega)
          have hat := takenTo_at X Y j (by have := LX.out; omega)
          rw [← LX.out, ← LY.out] at hat
          rw [hat] at hd1
          clear hat
          by_cases hmem : ((j : Int) ∈ pairs X Y)
          · have hG := Lib.hid (goneTo_no hmem)
            rw [decide_eq_true hmem] at hd1
            clear hmem
            go_wp2_with fail
            go_round
            case rel => exact ⟨j + 1, q, by omega, by go_num, rfl, by show _ = _; rw [hG.out]; exact hq.out⟩
            case measure => simp [intOf]; omega
          · have hG := Lib.hid (goneTo_yes hmem)
            rw [decide_eq_false hmem] at hd1
            obtain ⟨t, ht⟩ := goneTo_app X Y (j + 1) N (by omega)
            rw [hG.out] at ht
            have hql2 : q < (goneTo X Y N).length := by rw [ht, hq.out]; simp <;> omega
            have hql3 : q < ql := by rw [HQL.out]; exact hql2
            have hv : (goneTo X Y N).getD q 0 = j := by rw [ht, hq.out]; simp
            obtain ⟨b4, o4, rfl, hb4, hc7⟩ := P7.out.one (nv_at (goneTo X Y N) q hql2)
            rw [hv] at hc7
            clear hmem ht hql2 hv
            go_wp2_with fail
            go_round
            case rel => exact ⟨j + 1, q + 1, by omega, by go_num, by go_num, by show _ = _; rw [hG.out, hq.out, List.length_append]; rfl⟩
            case measure => simp [intOf]; omega
        · obtain rfl : j = N := by omega
          obtain rfl : q = ql := hq.out.trans HQL.out.symm
          go_wp2_with fail
          go_ret
          exact ⟨ret_bool' (by simp), HB3.out.trans (HB8.out.mono HB3.out.size)⟩
end Go.Proofs.Ytaojjcnghkjgfaa
