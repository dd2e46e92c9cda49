/- Contract of FlowPuts. -/
import Derived.Test.YtjpdnnjijcmioaaFlR3
import Derived.Test.YtjpdnnjijcmioaaFlOpen
import Derived.BigQuiet
import Derived.Deep.RegionHeld3
import Derived.Deep.DeepCutAuto
namespace Go.Proofs.Ytjpdnnjijcmioaa
open Go.RowKit M Fl
attribute [-go_sem] Builtin.append_
theorem below_more {a w : World} (h : Below a.heap.size a w) (o : Obj) : Below a.heap.size a (w.alloc o) := h.alloc h.size o
theorem cell_far {w : World} {b o b' o' : Nat} {u v : Value} (h : w.cell? ⟨b', o', none⟩ = some v) (hne : b' ≠ b) : (w.setCell ⟨b, o, none⟩ u).cell? ⟨b', o', none⟩ = some v :=
  (grown_set w ⟨b, o, none⟩ u).cell h (fun e => by injection e with e; exact hne e)
theorem below_set2 {a w : World} (h : Below a.heap.size a w) (u v : Value) : Below a.heap.size a ((w.setCell ⟨a.heap.size, 0, none⟩ u).setCell ⟨a.heap.size, 1, none⟩ v) :=
  below_setg (below_setg h _ 0 u (Nat.le_refl _) h.size) _ 1 v (Nat.le_refl _) (by rw [setCell_size']; exact h.size)
theorem bgK_same {kind kd : Int} (width cols : Int) (h : (kind = 0 ∨ kind = 1) ∧ kd = kind ∨ (¬ kind = 0 ∧ ¬ kind = 1) ∧ kd = 2) : bgK kd width cols = bgK kind width cols := by
  rcases h with ⟨_, rfl⟩ | ⟨⟨h0, h1⟩, rfl⟩
  · rfl
  · rw [bgK2 width cols h0 h1, bgK2 width cols (by decide) (by decide)]
theorem bxK_same {kind kd : Int} (width : Int) (L : List Bx) (h : (kind = 0 ∨ kind = 1) ∧ kd = kind ∨ (¬ kind = 0 ∧ ¬ kind = 1) ∧ kd = 2) : bxK kd width L = bxK kind width L := by
  rcases h with ⟨_, rfl⟩ | ⟨⟨h0, h1⟩, rfl⟩
  · rfl
  · rw [bxK2 width L h0 h1, bxK2 width L (by decide) (by decide)]
theorem cc_take (L : List Bx) (k : Nat) : cc (L.take k) = (cc L).take (k * 2) := by
  induction L generalizing k with
  | nil => simp [cc]
  | cons b L ih =>
    cases k with
    | zero => rfl
    | succ k =>
      have e : (k + 1) * 2 = k * 2 + 1 + 1 := by omega
      rw [e]
      show _ :: _ :: cc (L.take k) = _ :: _ :: (cc L).take (k * 2)
      rw [ih]
set_option maxHeartbeats 8000000 in
set_option maxRecDepth 100000 in
theorem FlowPuts_any (kind width cols gap : Int) (A : Option Addr) (n c : Nat) (L : List Bx) (w : World) (hbx : BoxesIn w A n c L) :
    Calls Try.prog 8 #[.agg #[.int .i64 kind, .int .i64 width, .int .i64 cols, .int .i64 gap, .slice A n c]] w fun e w' => e = .returned (.bool true) ∧ Below w.heap.size w w' := by
  obtain ⟨hn, hnc, hcm, ha⟩ := hbx
  have HN := Lib.hid hn
  have HA := Lib.hid ha
  have HM := Lib.hid (show n ≤ maxLen by omega)
  have hcm' : n ≤ 9223372036854775807 := by unfold maxLen at hcm; omega
  clear hn ha hcm
  go_enter Try.func8, Try.ntmps8
  go_wp2_with (go_at_call 33; refine (awake14_any _).mono ?_; rintro e w1 ⟨rfl, hb1⟩; have K1 := Lib.hid ((Blk.new w _ _).below hb1); have B1 := Lib.hid ((below_alloc w _).trans (hb1.mono (by rw [size_alloc]; omega))); clear hb1; obtain ⟨⟨d0, d1, d2, d3, d4⟩, u0, u1, u2, u3, u4⟩ := K1.out.five)
  refine (put_any kind width cols gap A n c L _ HN.out HM.out (HA.out.below B1.out)).mono ?_
  rintro e w2 ⟨v2, rfl, hown2, hb2⟩
  have hML : min n 40 = (L.take 40).length := by rw [List.length_take, HN.out]; omega
  obtain ⟨M, hM⟩ : ∃ M, M = min n 40 := ⟨_, rfl⟩
  rw [← hM] at hown2 hML ⊢
  have hM40 : M ≤ 40 := by omega
  have hMn : M ≤ n := by omega
  have HMQ := Lib.hid hM
  obtain ⟨A2, c2, rfl, hc2, hm2⟩ := own_slice hown2
  have K2 := Lib.hid (K1.out.below hb2)
  have B2 : Hid (Below w.heap.size w w2) := B1.out.trans (hb2.mono B1.out.size)
  have P2 := Lib.hid (At.own hown2)
  have HGW := Lib.hid K1.out.lt
  have HML := Lib.hid hML
  have CFK := Lib.hid (fun (kd : Int) (hk : (kind = 0 ∨ kind = 1) ∧ kd = kind ∨ (¬ kind = 0 ∧ ¬ kind = 1) ∧ kd = 2) (W : World) (hW : Below w.heap.size w W) => (by
    have h9 := flow_any kd width cols gap A M c (L.take 40) W (by omega) HML.out (by omega) ((HA.out.take (40 * 2) |> fun h => (by
      have e9 : cc (L.take 40) = (cc L).take (40 * 2) := cc_take L 40
      rw [e9]; exact h : At w A (cc (L.take 40)))).below hW)
    rw [bgK_same width cols hk, bxK_same width _ hk] at h9
    exact h9 : Calls Try.prog 35 #[.int .i64 kd, .int .i64 width, .int .i64 cols, .int .i64 gap, .slice A M c] W fun e w' => ∃ v, e = .returned (.tuple #[v, .agg #[.int .i64 (run (ln gap) (bgK kind width cols) (bxK kind width (L.take 40)) M).2.2.1, .int .i64 (run (ln gap) (bgK kind width cols) (bxK kind width (L.take 40)) M).2.2.2]]) ∧ w'.ownsRow W.heap.size 72 2 v M (cc (pts (ln gap) (bgK kind width cols) (bxK kind width (L.take 40)) M)) ∧ Below W.heap.size W w'))
  have hPL : (pts (ln gap) (bgK kind width cols) (bxK kind width (L.take 40)) M).length = M := pts_len _ _ _ _
  generalize pts (ln gap) (bgK kind width cols) (bxK kind width (L.take 40)) M = PP at *
  generalize (run (ln gap) (bgK kind width cols) (bxK kind width (L.take 40)) M).2.2.1 = WW at *
  generalize (run (ln gap) (bgK kind width cols) (bxK kind width (L.take 40)) M).2.2.2 = HH at *
  have HPL := Lib.hid hPL
  clear hb2 hown2 hML hM hPL d0 d1 d2 d3 d4 u0 u1 u2 u3 u4
  have hmin : min (n : Int) 40 = ((M : Nat) : Int) := by have := HMQ.out; omega
  have HMIN := Lib.hid hmin
  clear hmin
  obtain ⟨⟨d0, d1, d2, d3, d4⟩, _⟩ := (K2.out.alloc (.cells #[.int .i64 WW, .int .i64 HH] 64)).five
  by_cases hk0 : kind = 0
  · have kb0 : (kind == 0) = true := by rw [beq_iff_eq]; exact hk0
    have CF0 := Lib.hid (CFK.out (kind) (.inl ⟨.inl hk0, rfl⟩))
    clear hk0
    clear CFK
    go_upto_region 7 with fail
    obtain ⟨U, hU⟩ : ∃ U, U = w2.alloc (.cells #[.int .i64 WW, .int .i64 HH] 64) := ⟨_, rfl⟩
    rw [← hU]
    generalize hgs : w2.heap.size = gs at *
    generalize hg : w.heap.size = g at *
    have KU := Lib.hid (show Blk U g _ _ by rw [hU]; exact K2.out.alloc _)
    have SU := Lib.hid (show Blk U gs _ _ by rw [hU]; exact Blk.new' w2 64 #[.int .i64 WW, .int .i64 HH] gs hgs)
    have PU := Lib.hid (show At U A2 (cc PP) by rw [hU]; exact P2.out.alloc _)
    have BU : Hid (Below g w U) := by show Below _ _ _; rw [hU]; exact B2.out.alloc (by have := B2.out.size; omega) _
    have CF := Lib.hid (fun W (hW : Below U.heap.size U W) => CF0.out W (BU.out.trans (hW.mono (by have := BU.out.size; omega))))
    have HG := Lib.hid hg
    clear hU hgs hg CF0 K2 P2 B2 d0 d1 d2 d3 d4
    have k0 : g < U.heap.size := KU.out.lt
    obtain ⟨⟨_, f1, f2, f3, f4⟩, _⟩ := KU.out.five
    have hmin := HMIN.out
    have hMc : M ≤ c := by omega
    go_cut [6, 7] (fun a b wx => ∃ (A5 : Option Addr) (c5 gw : Nat), a = .slice A5 M c5 ∧ b = .pointer (some ⟨gw, 0, none⟩) ∧ Hid (At wx A5 (cc PP)) ∧ Hid (Blk wx gw 68 #[.int .i64 WW, .int .i64 HH]) ∧ Hid (Below U.heap.size U wx) ∧ M ≤ c5)
    case first =>
      have HBB := Below.refl U.heap.size U
      have hgU : g ≠ U.heap.size := by omega
      go_region_held3 (fun w' => w'.cell? ⟨g, 1, none⟩ = some (.int .i64 width) ∧ w'.cell? ⟨g, 2, none⟩ = some (.int .i64 cols) ∧ w'.cell? ⟨g, 3, none⟩ = some (.int .i64 gap) ∧ w'.cell? ⟨g, 4, none⟩ = some (.slice A n c) ∧ Below U.heap.size U w') (first | (refine ⟨?_, ?_, ?_, ?_, ?_⟩ <;> first | assumption | (refine below_more ?_ _; assumption) | (refine Lib.cell?_alloc_some _ ?_; assumption) | (refine cell_far (cell_far ?_ hgU) hgU; assumption) | (refine below_set2 ?_ _ _; assumption) | exact Below_drew HBB | exact Below_drew (below_more HBB _) | exact below_heap HBB rfl rfl rfl rfl) | go_keep | exact below_heap HBB rfl rfl rfl rfl) (first | (go_at_call 35; go_split_ands; (with_reducible refine (CF.out _ ?_).mono ?_); (assumption); rintro e9 w5 ⟨v5, rfl, ho5, hb5⟩; obtain ⟨A5, c5, rfl, hcc5, _, hat5⟩ := at_of_own' ho5; have HAT5 := Lib.hid hat5; have HO5 := Lib.hid ho5; clear hat5 ho5; have B5 : Below U.heap.size U w5 := below_join (by assumption) hb5; have HB5 := Lib.hid B5; have r1 := (B5.cell (p := ⟨g, 1, none⟩) k0).trans f1; have r2 := (B5.cell (p := ⟨g, 2, none⟩) k0).trans f2; have r3 := (B5.cell (p := ⟨g, 3, none⟩) k0).trans f3; have r4 := (B5.cell (p := ⟨g, 4, none⟩) k0).trans f4; (first | (have hz9 : Blk w5 U.heap.size 68 #[.int .i64 0, .int .i64 0] := (by refine Blk.belowB ?_ hb5 ?_; exact Blk.new U 68 #[.int .i64 0, .int .i64 0]; simp); obtain ⟨⟨z0, z1⟩, y0, y1⟩ := hz9.two; have HZ9 := Lib.hid hz9; clear hz9) | skip)))
      all_goals (go_split_ands; go_wp2_with fail; go_meet; first
        | exact ⟨A5, c5, w5.heap.size, rfl, rfl, HAT5.out.alloc _, Blk.new _ _ _, HB5.out.alloc HB5.out.size _, hcc5⟩
        | exact ⟨A5, c5, U.heap.size, rfl, rfl, At.own (own_other (own_other HO5.out _ 0 _ (by simp)) _ 1 _ (by simp)), (HZ9.out.set 0 _).set 1 _, below_set2 HB5.out _ _, hcc5⟩
        | go_loud (exact (0 : Nat)))
    case' rest =>
      obtain ⟨A5, c5, gw, rfl, rfl, HP5, HW5, HB5, hc5⟩ := hcut
      have SX := Lib.hid (SU.out.below HB5.out)
      have PX := Lib.hid (PU.out.below HB5.out)
      have BX : Hid (Below g w wc) := BU.out.trans (HB5.out.mono (by have := BU.out.size; have := HG.out; omega))
      obtain ⟨⟨x0, x1⟩, _⟩ := SX.out.two
      obtain ⟨⟨y0, y1⟩, _⟩ := HW5.out.two
      have e1 : (WW == WW) = true := by simp
      have e2 : (HH == HH) = true := by simp
      go_wp2_with fail
      go_loopw [56] (fun i wr => ∃ (k q : Nat), k ≤ M ∧ i = .int .i64 k ∧ wr = wc.drewN q) (fun i _ => M - (intOf i).toNat)
      case atStart => exact ⟨0, 0, Nat.zero_le _, rfl, rfl⟩
      case round =>
        obtain ⟨k, q, hk, rfl, rfl⟩ := hrel
        by_cases hlt : k < M
        · have hkP : k < PP.length := by have := HPL.out; omega
          obtain ⟨b3, o3, rfl, _, p0, p1⟩ := at_box PX.out hkP
          obtain ⟨b4, o4, rfl, _, p2, p3⟩ := at_box HP5.out hkP
          generalize PP.getD k (0, 0) = pk at *
          obtain ⟨px, py⟩ := pk
          simp only at p0 p1 p2 p3
          have e3 : (px == px) = true := by simp
          have e4 : (py == py) = true := by simp
          have hkc2 : k < c2 := by omega
          have hkc5 : k < c5 := by omega
          go_wp2_with fail
          go_big_quiet (fail)
          go_wp2_with fail
          go_roundw
          case rel => exact ⟨k + 1, _, by omega, by go_num, rfl⟩
          case measure => simp [intOf]; omega
        · obtain rfl : k = M := by omega
          go_wp2_with fail
          go_ret
          exact ⟨rfl, by rw [HG.out]; exact drewN_below' BX.out _⟩
  · by_cases hk1 : kind = 1
    · have kb0 : (kind == 0) = false := by rw [beq_eq_false_iff_ne]; exact hk0
      have kb1 : (kind == 1) = true := by rw [beq_iff_eq]; exact hk1
      have CF0 := Lib.hid (CFK.out (kind) (.inl ⟨.inr hk1, rfl⟩))
      clear hk0 hk1
      clear CFK
      go_upto_region 7 with fail
      obtain ⟨U, hU⟩ : ∃ U, U = w2.alloc (.cells #[.int .i64 WW, .int .i64 HH] 64) := ⟨_, rfl⟩
      rw [← hU]
      generalize hgs : w2.heap.size = gs at *
      generalize hg : w.heap.size = g at *
      have KU := Lib.hid (show Blk U g _ _ by rw [hU]; exact K2.out.alloc _)
      have SU := Lib.hid (show Blk U gs _ _ by rw [hU]; exact Blk.new' w2 64 #[.int .i64 WW, .int .i64 HH] gs hgs)
      have PU := Lib.hid (show At U A2 (cc PP) by rw [hU]; exact P2.out.alloc _)
      have BU : Hid (Below g w U) := by show Below _ _ _; rw [hU]; exact B2.out.alloc (by have := B2.out.size; omega) _
      have CF := Lib.hid (fun W (hW : Below U.heap.size U W) => CF0.out W (BU.out.trans (hW.mono (by have := BU.out.size; omega))))
      have HG := Lib.hid hg
      clear hU hgs hg CF0 K2 P2 B2 d0 d1 d2 d3 d4
      have k0 : g < U.heap.size := KU.out.lt
      obtain ⟨⟨_, f1, f2, f3, f4⟩, _⟩ := KU.out.five
      have hmin := HMIN.out
      have hMc : M ≤ c := by omega
      go_cut [6, 7] (fun a b wx => ∃ (A5 : Option Addr) (c5 gw : Nat), a = .slice A5 M c5 ∧ b = .pointer (some ⟨gw, 0, none⟩) ∧ Hid (At wx A5 (cc PP)) ∧ Hid (Blk wx gw 68 #[.int .i64 WW, .int .i64 HH]) ∧ Hid (Below U.heap.size U wx) ∧ M ≤ c5)
      case first =>
        have HBB := Below.refl U.heap.size U
        have hgU : g ≠ U.heap.size := by omega
        go_region_held3 (fun w' => w'.cell? ⟨g, 1, none⟩ = some (.int .i64 width) ∧ w'.cell? ⟨g, 2, none⟩ = some (.int .i64 cols) ∧ w'.cell? ⟨g, 3, none⟩ = some (.int .i64 gap) ∧ w'.cell? ⟨g, 4, none⟩ = some (.slice A n c) ∧ Below U.heap.size U w') (first | (refine ⟨?_, ?_, ?_, ?_, ?_⟩ <;> first | assumption | (refine below_more ?_ _; assumption) | (refine Lib.cell?_alloc_some _ ?_; assumption) | (refine cell_far (cell_far ?_ hgU) hgU; assumption) | (refine below_set2 ?_ _ _; assumption) | exact Below_drew HBB | exact Below_drew (below_more HBB _) | exact below_heap HBB rfl rfl rfl rfl) | go_keep | exact below_heap HBB rfl rfl rfl rfl) (first | (go_at_call 35; go_split_ands; (with_reducible refine (CF.out _ ?_).mono ?_); (assumption); rintro e9 w5 ⟨v5, rfl, ho5, hb5⟩; obtain ⟨A5, c5, rfl, hcc5, _, hat5⟩ := at_of_own' ho5; have HAT5 := Lib.hid hat5; have HO5 := Lib.hid ho5; clear hat5 ho5; have B5 : Below U.heap.size U w5 := below_join (by assumption) hb5; have HB5 := Lib.hid B5; have r1 := (B5.cell (p := ⟨g, 1, none⟩) k0).trans f1; have r2 := (B5.cell (p := ⟨g, 2, none⟩) k0).trans f2; have r3 := (B5.cell (p := ⟨g, 3, none⟩) k0).trans f3; have r4 := (B5.cell (p := ⟨g, 4, none⟩) k0).trans f4; (first | (have hz9 : Blk w5 U.heap.size 68 #[.int .i64 0, .int .i64 0] := (by refine Blk.belowB ?_ hb5 ?_; exact Blk.new U 68 #[.int .i64 0, .int .i64 0]; simp); obtain ⟨⟨z0, z1⟩, y0, y1⟩ := hz9.two; have HZ9 := Lib.hid hz9; clear hz9) | skip)))
        all_goals (go_split_ands; go_wp2_with fail; go_meet; first
          | exact ⟨A5, c5, w5.heap.size, rfl, rfl, HAT5.out.alloc _, Blk.new _ _ _, HB5.out.alloc HB5.out.size _, hcc5⟩
          | exact ⟨A5, c5, U.heap.size, rfl, rfl, At.own (own_other (own_other HO5.out _ 0 _ (by simp)) _ 1 _ (by simp)), (HZ9.out.set 0 _).set 1 _, below_set2 HB5.out _ _, hcc5⟩
          | go_loud (exact (0 : Nat)))
      case' rest =>
        obtain ⟨A5, c5, gw, rfl, rfl, HP5, HW5, HB5, hc5⟩ := hcut
        have SX := Lib.hid (SU.out.below HB5.out)
        have PX := Lib.hid (PU.out.below HB5.out)
        have BX : Hid (Below g w wc) := BU.out.trans (HB5.out.mono (by have := BU.out.size; have := HG.out; omega))
        obtain ⟨⟨x0, x1⟩, _⟩ := SX.out.two
        obtain ⟨⟨y0, y1⟩, _⟩ := HW5.out.two
        have e1 : (WW == WW) = true := by simp
        have e2 : (HH == HH) = true := by simp
        go_wp2_with fail
        go_loopw [56] (fun i wr => ∃ (k q : Nat), k ≤ M ∧ i = .int .i64 k ∧ wr = wc.drewN q) (fun i _ => M - (intOf i).toNat)
        case atStart => exact ⟨0, 0, Nat.zero_le _, rfl, rfl⟩
        case round =>
          obtain ⟨k, q, hk, rfl, rfl⟩ := hrel
          by_cases hlt : k < M
          · have hkP : k < PP.length := by have := HPL.out; omega
            obtain ⟨b3, o3, rfl, _, p0, p1⟩ := at_box PX.out hkP
            obtain ⟨b4, o4, rfl, _, p2, p3⟩ := at_box HP5.out hkP
            generalize PP.getD k (0, 0) = pk at *
            obtain ⟨px, py⟩ := pk
            simp only at p0 p1 p2 p3
            have e3 : (px == px) = true := by simp
            have e4 : (py == py) = true := by simp
            have hkc2 : k < c2 := by omega
            have hkc5 : k < c5 := by omega
            go_wp2_with fail
            go_big_quiet (fail)
            go_wp2_with fail
            go_roundw
            case rel => exact ⟨k + 1, _, by omega, by go_num, rfl⟩
            case measure => simp [intOf]; omega
          · obtain rfl : k = M := by omega
            go_wp2_with fail
            go_ret
            exact ⟨rfl, by rw [HG.out]; exact drewN_below' BX.out _⟩
    · have kb0 : (kind == 0) = false := by rw [beq_eq_false_iff_ne]; exact hk0
      have kb1 : (kind == 1) = false := by rw [beq_eq_false_iff_ne]; exact hk1
      have CF0 := Lib.hid (CFK.out (2) (.inr ⟨⟨hk0, hk1⟩, rfl⟩))
      clear hk0 hk1
      clear CFK
      go_upto_region 7 with fail
      obtain ⟨U, hU⟩ : ∃ U, U = w2.alloc (.cells #[.int .i64 WW, .int .i64 HH] 64) := ⟨_, rfl⟩
      rw [← hU]
      generalize hgs : w2.heap.size = gs at *
      generalize hg : w.heap.size = g at *
      have KU := Lib.hid (show Blk U g _ _ by rw [hU]; exact K2.out.alloc _)
      have SU := Lib.hid (show Blk U gs _ _ by rw [hU]; exact Blk.new' w2 64 #[.int .i64 WW, .int .i64 HH] gs hgs)
      have PU := Lib.hid (show At U A2 (cc PP) by rw [hU]; exact P2.out.alloc _)
      have BU : Hid (Below g w U) := by show Below _ _ _; rw [hU]; exact B2.out.alloc (by have := B2.out.size; omega) _
      have CF := Lib.hid (fun W (hW : Below U.heap.size U W) => CF0.out W (BU.out.trans (hW.mono (by have := BU.out.size; omega))))
      have HG := Lib.hid hg
      clear hU hgs hg CF0 K2 P2 B2 d0 d1 d2 d3 d4
      have k0 : g < U.heap.size := KU.out.lt
      obtain ⟨⟨_, f1, f2, f3, f4⟩, _⟩ := KU.out.five
      have hmin := HMIN.out
      have hMc : M ≤ c := by omega
      go_cut [6, 7] (fun a b wx => ∃ (A5 : Option Addr) (c5 gw : Nat), a = .slice A5 M c5 ∧ b = .pointer (some ⟨gw, 0, none⟩) ∧ Hid (At wx A5 (cc PP)) ∧ Hid (Blk wx gw 68 #[.int .i64 WW, .int .i64 HH]) ∧ Hid (Below U.heap.size U wx) ∧ M ≤ c5)
      case first =>
        have HBB := Below.refl U.heap.size U
        have hgU : g ≠ U.heap.size := by omega
        go_region_held3 (fun w' => w'.cell? ⟨g, 1, none⟩ = some (.int .i64 width) ∧ w'.cell? ⟨g, 2, none⟩ = some (.int .i64 cols) ∧ w'.cell? ⟨g, 3, none⟩ = some (.int .i64 gap) ∧ w'.cell? ⟨g, 4, none⟩ = some (.slice A n c) ∧ Below U.heap.size U w') (first | (refine ⟨?_, ?_, ?_, ?_, ?_⟩ <;> first | assumption | (refine below_more ?_ _; assumption) | (refine Lib.cell?_alloc_some _ ?_; assumption) | (refine cell_far (cell_far ?_ hgU) hgU; assumption) | (refine below_set2 ?_ _ _; assumption) | exact Below_drew HBB | exact Below_drew (below_more HBB _) | exact below_heap HBB rfl rfl rfl rfl) | go_keep | exact below_heap HBB rfl rfl rfl rfl) (first | (go_at_call 35; go_split_ands; (with_reducible refine (CF.out _ ?_).mono ?_); (assumption); rintro e9 w5 ⟨v5, rfl, ho5, hb5⟩; obtain ⟨A5, c5, rfl, hcc5, _, hat5⟩ := at_of_own' ho5; have HAT5 := Lib.hid hat5; have HO5 := Lib.hid ho5; clear hat5 ho5; have B5 : Below U.heap.size U w5 := below_join (by assumption) hb5; have HB5 := Lib.hid B5; have r1 := (B5.cell (p := ⟨g, 1, none⟩) k0).trans f1; have r2 := (B5.cell (p := ⟨g, 2, none⟩) k0).trans f2; have r3 := (B5.cell (p := ⟨g, 3, none⟩) k0).trans f3; have r4 := (B5.cell (p := ⟨g, 4, none⟩) k0).trans f4; (first | (have hz9 : Blk w5 U.heap.size 68 #[.int .i64 0, .int .i64 0] := (by refine Blk.belowB ?_ hb5 ?_; exact Blk.new U 68 #[.int .i64 0, .int .i64 0]; simp); obtain ⟨⟨z0, z1⟩, y0, y1⟩ := hz9.two; have HZ9 := Lib.hid hz9; clear hz9) | skip)))
        all_goals (go_split_ands; go_wp2_with fail; go_meet; first
          | exact ⟨A5, c5, w5.heap.size, rfl, rfl, HAT5.out.alloc _, Blk.new _ _ _, HB5.out.alloc HB5.out.size _, hcc5⟩
          | exact ⟨A5, c5, U.heap.size, rfl, rfl, At.own (own_other (own_other HO5.out _ 0 _ (by simp)) _ 1 _ (by simp)), (HZ9.out.set 0 _).set 1 _, below_set2 HB5.out _ _, hcc5⟩
          | go_loud (exact (0 : Nat)))
      case' rest =>
        obtain ⟨A5, c5, gw, rfl, rfl, HP5, HW5, HB5, hc5⟩ := hcut
        have SX := Lib.hid (SU.out.below HB5.out)
        have PX := Lib.hid (PU.out.below HB5.out)
        have BX : Hid (Below g w wc) := BU.out.trans (HB5.out.mono (by have := BU.out.size; have := HG.out; omega))
        obtain ⟨⟨x0, x1⟩, _⟩ := SX.out.two
        obtain ⟨⟨y0, y1⟩, _⟩ := HW5.out.two
        have e1 : (WW == WW) = true := by simp
        have e2 : (HH == HH) = true := by simp
        go_wp2_with fail
        go_loopw [56] (fun i wr => ∃ (k q : Nat), k ≤ M ∧ i = .int .i64 k ∧ wr = wc.drewN q) (fun i _ => M - (intOf i).toNat)
        case atStart => exact ⟨0, 0, Nat.zero_le _, rfl, rfl⟩
        case round =>
          obtain ⟨k, q, hk, rfl, rfl⟩ := hrel
          by_cases hlt : k < M
          · have hkP : k < PP.length := by have := HPL.out; omega
            obtain ⟨b3, o3, rfl, _, p0, p1⟩ := at_box PX.out hkP
            obtain ⟨b4, o4, rfl, _, p2, p3⟩ := at_box HP5.out hkP
            generalize PP.getD k (0, 0) = pk at *
            obtain ⟨px, py⟩ := pk
            simp only at p0 p1 p2 p3
            have e3 : (px == px) = true := by simp
            have e4 : (py == py) = true := by simp
            have hkc2 : k < c2 := by omega
            have hkc5 : k < c5 := by omega
            go_wp2_with fail
            go_big_quiet (fail)
            go_wp2_with fail
            go_roundw
            case rel => exact ⟨k + 1, _, by omega, by go_num, rfl⟩
            case measure => simp [intOf]; omega
          · obtain rfl : k = M := by omega
            go_wp2_with fail
            go_ret
            exact ⟨rfl, by rw [HG.out]; exact drewN_below' BX.out _⟩
end Go.Proofs.Ytjpdnnjijcmioaa
