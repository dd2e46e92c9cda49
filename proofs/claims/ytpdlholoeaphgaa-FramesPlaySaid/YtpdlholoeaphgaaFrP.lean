/- Contract of FramesPlay. -/
import Derived.Test.YtpdlholoeaphgaaFrAd
namespace Go.Proofs.Ytpdlholoeaphgaa
open Go.RowKit
namespace Fr
set_option maxHeartbeats 8000000 in
set_option maxRecDepth 100000 in
theorem framesPlay_any (most : Int) (A : Option Addr) (n c : Nat) (L : List Tm) (w : World) (hL : ActsIn w A n c L) :
    Calls Try.prog 3 #[.int .i64 most, .slice A n c] w fun e w' => e = .returned (.bool true) ∧ Below w.heap.size w w' := by
  have mixed : Try.prog.follows .mixedOrders = true := by kernel_rfl
  obtain ⟨hn, hnc, hcm, hat, hok, _⟩ := hL
  have CA := Lib.hid (awake_any w)
  have HN := Lib.hid hn
  have HAT := Lib.hid hat
  have HOK := Lib.hid hok
  clear hn hat hok
  go_enter Try.func3, Try.ntmps3
  go_wp2_with fail
  refine CA.out.mono ?_
  rintro e w1 ⟨rfl, hb1⟩
  have CN := Lib.hid (fnew_any most w1)
  have HB1 := Lib.hid hb1
  clear hb1 CA
  obtain ⟨ms, hms⟩ : ∃ ms, ms = clp most 1 65536 := ⟨_, rfl⟩
  rw [← hms] at CN
  have hm1 : 1 ≤ ms ∧ ms ≤ 65536 := by rw [hms]; unfold clp; omega
  go_wp2_with fail
  refine CN.out.mono ?_
  rintro e w2 ⟨rfl, hw2, hb2, hlt2⟩
  have CR := Lib.hid (rnew_any most w2)
  rw [← hms] at CR
  have HW2 := Lib.hid hw2
  have HB2 := Lib.hid hb2
  have HLT2 := Lib.hid hlt2
  clear hw2 hb2 hlt2 CN hms
  go_wp2_with fail
  refine CR.out.mono ?_
  rintro e w3 ⟨rfl, hb3⟩
  obtain ⟨U, hU⟩ : ∃ U, U = w3.alloc (.cells #[.int .i64 ms, .int .i64 0, .slice none 0 0] 28) := ⟨_, rfl⟩
  obtain ⟨gw, hgw⟩ : ∃ gw, gw = w.heap.size := ⟨_, rfl⟩
  obtain ⟨b, hb⟩ : ∃ b, b = w1.heap.size := ⟨_, rfl⟩
  obtain ⟨gx, hgx⟩ : ∃ gx, gx = w3.heap.size := ⟨_, rfl⟩
  have hs1 := HB1.out.size
  have hs2 := HB2.out.size
  have hs3 := hb3.size
  have hl2 := HLT2.out
  have hbU : Below w2.heap.size w2 U := hb3.trans ((hU ▸ below_alloc w3 _ : Below w3.heap.size w3 U).mono hs3)
  have hnew : ∀ q, Bad b (.slice none 0 0) (.slice none 0 0) q → q = b := fun q hq => by
    rcases hq with h9 | h9 | h9
    · exact h9
    · cases h9
    · cases h9
  have HD0 : Hid (Dk w U gw b (.slice none 0 0) (.slice none 0 0) 0 ms [] none 0 0 []) := by
    refine ⟨by rw [hb]; exact HW2.out.below hbU, fun q hq => by rw [hnew q hq]; omega, by rw [hgw]; exact (HB1.out.trans (HB2.out.mono hs1)).trans (hbU.mono (by omega)), by have := hbU.size; omega, At.nil _ _, fun b' o p e => (by cases e), fun b' o p e => (by cases e), rfl, Nat.le_refl _, fun _ => ⟨rfl, rfl⟩, .inl rfl, fun x hx => (by cases hx), fun i j _ h => (by simp at h), Int.le_refl _, hm1.1, hm1.2, by have := hm1.1; show (0 : Int) ≤ ms; omega⟩
  have HX0 : Hid (Blk U gx 28 #[.int .i64 ms, .int .i64 0, .slice none 0 0]) := by rw [hgx, hU]; exact Blk.new _ _ _
  have HNB : Hid (¬ Bad b (.slice none 0 0) (.slice none 0 0) gx) := fun e => by have := hnew _ e; omega
  have HGX : Hid (gw ≤ gx) := by show _ ≤ _; omega
  have HG := Lib.hid hgw
  have HU := Lib.hid hU
  clear hU hbU hgw hs1 hs2 hs3 hl2 hb3 hnew HLT2 HB2 HW2 CR HB1
  go_upto_region 4 with fail
  rw [← HU.out, ← hb, ← hgx]
  clear HU hb hgx
  go_wp2_with fail
  go_loopw [7] (fun vi W => ∃ (i : Nat) (last : Int) (A' : Option Addr) (n' c' : Nat) (rv mv : Value) (xs M : List Wt), vi = .int .i64 i ∧ i ≤ 80 ∧ last ≤ (i : Int) ∧ Hid (Dk w W gw b rv mv last ms xs A' n' c' M) ∧ Hid (Blk W gx 28 #[.int .i64 ms, .int .i64 last, .slice A' n' c']) ∧ Hid (¬ Bad b rv mv gx)) (fun vi _ => 80 - (intOf vi).toNat)
  case atStart => exact ⟨0, 0, none, 0, 0, _, _, [], [], rfl, by omega, Int.le_refl _, HD0, HX0, HNB⟩
  case round =>
    clear HD0 HX0 HNB
    obtain ⟨i, last, A1, n1, c1, rv, mv, xs, M, rfl, hi80, hli, HD, HX, HNB⟩ := hrel
    by_cases hin : i < n
    · by_cases hi8 : i < 80
      · have d1 : (i : Int) < (n : Int) := by omega
        have d2 : (i : Int) < 80 := by omega
        have d0 : (0 : Int) ≤ (i : Int) := by omega
        have hiL : i < L.length := by have := HN.out; omega
        obtain ⟨ba, oa, rfl⟩ : ∃ ba oa, A = some ⟨ba, oa, none⟩ := by
          obtain ⟨b9, o9, e9, _⟩ := HAT.out.one (k := i * 4) (tv_at L i hiL 0 (by omega))
          exact ⟨b9, o9, e9⟩
        obtain ⟨hba, k0, k1, k2, k3⟩ := act_cells HAT.out hiL
        have hbg : ba < gw := by have := HG.out; omega
        have bc := fun o => HD.out.bel.cell (p := ⟨ba, o, none⟩) hbg
        have f0 := (bc _).trans k0
        have f1 := (bc _).trans k1
        have f2 := (bc _).trans k2
        have f3 := (bc _).trans k3
        have HO := Lib.hid (HOK.out (g L i) (List.mem_of_getElem? (g_at hiL)))
        have g0 : wr.cell? ⟨gx, 0, none⟩ = some (.int .i64 ms) := HX.out.cell 0 rfl
        have g1 : wr.cell? ⟨gx, 1, none⟩ = some (.int .i64 last) := HX.out.cell 1 rfl
        have g2 : wr.cell? ⟨gx, 2, none⟩ = some (.slice A1 n1 c1) := HX.out.cell 2 rfl
        have hgxl : gx < wr.heap.size := HX.out.lt
        have hbal : ba < wr.heap.size := by have := HD.out.sz; omega
        have hnba : ¬ Bad b rv mv ba := fun e => by have := HD.out.new _ e; omega
        have HNBA := Lib.hid hnba
        have HBLT := Lib.hid (HD.out.qm.bad_lt)
        have C9 : Hid (∀ W', Below wr.heap.size wr W' → Calls Try.prog 12 #[.pointer (some ⟨b, 0, none⟩), .agg #[.int .i64 ms, .int .i64 last, .slice A1 n1 c1], .agg #[.int .i64 (g L i).tok, .int .i64 (g L i).dl, .int .i64 (g L i).k, .int .i64 (g L i).n]] W' fun e Z => ∃ last' A' n' c' rv' mv' xs' L', e = .returned (.tuple #[.agg #[.int .i64 ms, .int .i64 last', .slice A' n' c'], .bool true]) ∧ Dk w Z gw b rv' mv' last' ms xs' A' n' c' L' ∧ Way1 W' Z b rv mv rv' mv' ∧ last' ≤ last + 1) := fun W' hW => do_any w W' gw b rv mv last ms xs M A1 n1 c1 (g L i) (HD.out.below hW) (by omega)
        clear k0 k1 k2 k3 hba bc hiL hbg hnba HO
        generalize g L i = t at *
        go_upto_region 9 with fail
        go_cut [8, 9] (fun py pok wx => ∃ (gy : Nat) (last' : Int) (A' : Option Addr) (n' c' : Nat) (rv' mv' : Value) (xs' L' : List Wt), py = .pointer (some ⟨gy, 0, none⟩) ∧ pok = .bool true ∧ Hid (Dk w wx gw b rv' mv' last' ms xs' A' n' c' L') ∧ Hid (Blk wx gy 28 #[.int .i64 ms, .int .i64 last', .slice A' n' c']) ∧ Hid (Blk wx gx 28 #[.int .i64 ms, .int .i64 last, .slice A1 n1 c1]) ∧ Hid (¬ Bad b rv' mv' gx) ∧ gy ≠ gx ∧ last' ≤ last + 1)
        case first =>
          have HBB : Beside (Bad b rv mv) wr wr := Beside.refl _ _
          have HBD : Beside (Bad b rv mv) wr wr.drew := (Beside.refl _ wr).drewN 1
          have g0d : wr.drew.cell? ⟨gx, 0, none⟩ = some (.int .i64 ms) := g0
          have g1d : wr.drew.cell? ⟨gx, 1, none⟩ = some (.int .i64 last) := g1
          have g2d : wr.drew.cell? ⟨gx, 2, none⟩ = some (.slice A1 n1 c1) := g2
          have nxr : gx ≠ wr.heap.size := Nat.ne_of_lt hgxl
          have nba : ba ≠ wr.heap.size := Nat.ne_of_lt hbal
          have hrr : Bad b rv mv wr.heap.size ∨ wr.heap.size ≤ wr.heap.size := .inr (Nat.le_refl _)
          go_region_with (go_at_call 12; (with_reducible refine (C9.out _ ?_).mono ?_); (first | exact below_drew1 wr | exact Below_drew (below_alloc wr _) | exact (below_drew1 wr).alloc (Nat.le_refl _) _); rintro e w5 ⟨last5, A5, n5, c5, rv5, mv5, xs5, M5, rfl, hd5, hw5, hl5⟩; have BE5 : Beside (Bad b rv mv) wr w5 := (by refine Beside.trans ?_ hw5.1; first | exact HBD | exact (HBB.alloc _).drewN 1); have z0 := (cell_of BE5 (o := 0) HNB.out hgxl).trans g0; have z1 := (cell_of BE5 (o := 1) HNB.out hgxl).trans g1; have z2 := (cell_of BE5 (o := 2) HNB.out hgxl).trans g2; have z3 := (cell_of BE5 (o := oa + i * 4) HNBA.out hbal).trans f0; have z4 := (cell_of BE5 (o := oa + i * 4 + 1) HNBA.out hbal).trans f1; have z5 := (cell_of BE5 (o := oa + i * 4 + 2) HNBA.out hbal).trans f2; have z6 := (cell_of BE5 (o := oa + i * 4 + 3) HNBA.out hbal).trans f3; (first | (have hz9 : Hid (Blk w5 wr.heap.size 28 #[.int .i64 0, .int .i64 0, .slice none 0 0]) := blk_of hw5.1 (q := wr.heap.size) (fun e => Nat.lt_irrefl _ (HBLT.out _ e)) (Blk.new wr 28 #[.int .i64 0, .int .i64 0, .slice none 0 0]); have s0 : w5.cell? ⟨wr.heap.size, 0, none⟩ = some (.int .i64 0) := hz9.out.cell 0 rfl; have s1 : w5.cell? ⟨wr.heap.size, 1, none⟩ = some (.int .i64 0) := hz9.out.cell 1 rfl; have s2 : w5.cell? ⟨wr.heap.size, 2, none⟩ = some (.slice none 0 0) := hz9.out.cell 2 rfl; have sf0 : w5.frozen? ⟨wr.heap.size, 0, none⟩ = false := hz9.out.frozen 0; have sf1 : w5.frozen? ⟨wr.heap.size, 1, none⟩ = false := hz9.out.frozen 1; have sf2 : w5.frozen? ⟨wr.heap.size, 2, none⟩ = false := hz9.out.frozen 2) | skip); have HZX : Hid (Blk w5 gx 28 #[.int .i64 ms, .int .i64 last, .slice A1 n1 c1]) := blk_of BE5 HNB.out HX.out; have HNB5 : Hid (¬ Bad b rv5 mv5 gx) := (fun e => (hw5.2 gx e).elim HNB.out (fun h9 => Nat.lt_irrefl gx (Nat.lt_of_lt_of_le hgxl (Nat.le_trans (by first | exact Nat.le_refl _ | simp) h9)))); have HS5 : Hid (wr.heap.size ≤ w5.heap.size) := BE5.size; have HD5 := Lib.hid hd5; have HW5 := Lib.hid hw5; have HBE5 := Lib.hid BE5; clear hd5 hw5)
          all_goals (go_wp2_with fail; go_meet; first
            | exact ⟨w5.heap.size, last5, A5, n5, c5, rv5, mv5, xs5, M5, rfl, rfl, Lib.hid (HD5.out.below (below_alloc w5 _)), Lib.hid (Blk.new w5 _ _), Lib.hid (HZX.out.alloc _), HNB5, (fun e => Nat.lt_irrefl gx (Nat.lt_of_lt_of_le hgxl (e ▸ HS5.out))), hl5⟩
            | exact ⟨wr.heap.size, last5, A5, n5, c5, rv5, mv5, xs5, M5, rfl, rfl, Lib.hid (HD5.out.put2 (beside_set3 (Beside.refl (fun x => x = wr.heap.size) w5) (.inl rfl) _ _ _) (HD5.out.free hz9.out) (HD5.out.ne hz9.out) (Nat.le_trans HD.out.sz (Nat.le_refl _))), Lib.hid (blk_set3 hz9.out _ _ _), Lib.hid (blk_other3 HZX.out (Nat.ne_of_lt hgxl) _ _ _), HNB5, (fun e => Nat.lt_irrefl gx (e ▸ hgxl)), hl5⟩)
        case' rest =>
          obtain ⟨gy, last5, A5, n5, c5, rv5, mv5, xs5, M5, rfl, rfl, HD5, HY5, HX5, HNB5, hgy, hl5⟩ := hcut
          have y0 : wc.cell? ⟨gy, 0, none⟩ = some (.int .i64 ms) := HY5.out.cell 0 rfl
          have y1 : wc.cell? ⟨gy, 1, none⟩ = some (.int .i64 last5) := HY5.out.cell 1 rfl
          have y2 : wc.cell? ⟨gy, 2, none⟩ = some (.slice A5 n5 c5) := HY5.out.cell 2 rfl
          have x0 : wc.cell? ⟨gx, 0, none⟩ = some (.int .i64 ms) := HX5.out.cell 0 rfl
          have x1 : wc.cell? ⟨gx, 1, none⟩ = some (.int .i64 last) := HX5.out.cell 1 rfl
          have x2 : wc.cell? ⟨gx, 2, none⟩ = some (.slice A1 n1 c1) := HX5.out.cell 2 rfl
          have xf0 : wc.frozen? ⟨gx, 0, none⟩ = false := HX5.out.frozen 0
          have xf1 : wc.frozen? ⟨gx, 1, none⟩ = false := HX5.out.frozen 1
          have xf2 : wc.frozen? ⟨gx, 2, none⟩ = false := HX5.out.frozen 2
          obtain ⟨V, hV⟩ : ∃ V, V = set3 wc gx (.int .i64 ms) (.int .i64 last5) (.slice A5 n5 c5) := ⟨_, rfl⟩
          have DV : Hid (Dk w V gw b rv5 mv5 last5 ms xs5 A5 n5 c5 M5) := HD5.out.put2 (by rw [hV]; exact beside_set3 (Beside.refl (fun x => x = gx) wc) (.inl rfl) _ _ _) HNB5.out (HD5.out.ne HX5.out) HGX.out
          have BV : Hid (Blk V gx 28 #[.int .i64 ms, .int .i64 last5, .slice A5 n5 c5]) := by rw [hV]; exact blk_set3 HX5.out _ _ _
          unfold set3 at hV
          have HV := Lib.hid hV
          have hn5 : xs5.length + M5.length = n5 := DV.out.len.symm
          have h56 : n5 ≤ 1000000 := by have := DV.out.few; have := DV.out.m2; omega
          have CLen : Hid (∀ W', Below V.heap.size V W' → Calls Try.prog 13 #[.pointer (some ⟨b, 0, none⟩)] W' fun e w'' => e = .returned (.int .i64 (n5 : Nat)) ∧ w'' = W') := fun W' hW => by have h9 := (DV.out.qm.below hW).len (o := 0) rfl; rw [hn5] at h9; exact h9
          have CList : Hid (∀ W', Below V.heap.size V W' → Calls Try.prog 15 #[.pointer (some ⟨b, 0, none⟩)] W' fun e w'' => ∃ A6 c6, e = .returned (.slice A6 n5 c6) ∧ At w'' A6 (tv (doc xs5 M5)) ∧ Below W'.heap.size W' w'') := fun W' hW => by rw [← hn5]; exact list_any b rv5 mv5 last5 ms xs5 M5 W' (DV.out.qm.below hW)
          have CS : Hid (∀ A6 c6 W', Below V.heap.size V W' → At W' A6 (tv (doc xs5 M5)) → Calls Try.prog 14 #[.slice A6 n5 c6, .slice A5 n5 c5] W' fun e w'' => e = .returned (.bool true) ∧ Below W'.heap.size W' w'') := fun A6 c6 W' hW ha => same_any A6 A5 n5 c6 c5 (doc xs5 M5) W' (by rw [doc_len]; exact DV.out.len) h56 ha (DV.out.lies.below hW)
          have v2 : V.cell? ⟨gx, 2, none⟩ = some (.slice A5 n5 c5) := BV.out.cell 2 rfl
          have hgxV : gx < V.heap.size := BV.out.lt
          clear hV hn5 h56 HD5 HY5 HX5 HX HD C9 f0 f1 f2 f3 g0 g1 g2
          go_upto_region 11 with fail
          rw [← HV.out]
          clear HV y0 y1 y2 x0 x1 x2 xf0 xf1 xf2
          have HBV := Below.refl V.heap.size V
          have HBVd := below_drew1 V
          change Code.wp _ _ _ _ V
          go_region_held3 (fun w' => w'.cell? ⟨gx, 2, none⟩ = some (.slice A5 n5 c5) ∧ Below V.heap.size V w') (first | (refine ⟨?_, ?_⟩ <;> first | assumption | go_keep) | go_keep)
            (first
            | (go_at_call 13; go_split_ands; (with_reducible refine (CLen.out _ ?_).mono ?_); (first | assumption | exact HBVd); rintro e w6 ⟨rfl, rfl⟩)
            | (go_at_call 15; go_split_ands; (with_reducible refine (CList.out _ ?_).mono ?_); (first | assumption | exact HBVd); rintro e w7 ⟨A6, c6, rfl, ha6, hb7⟩; have HAT6 := Lib.hid ha6; have B7 : Below V.heap.size V w7 := (by refine below_join ?_ hb7; first | assumption | exact HBVd); have v7 := (B7.cell (p := ⟨gx, 2, none⟩) hgxV).trans v2; clear ha6 hb7)
            | (go_at_call 14; go_split_ands; (with_reducible refine (CS.out _ _ _ ?_ HAT6.out).mono ?_); (first | assumption | exact HBVd); rintro e w8 ⟨rfl, hb8⟩; have B8 : Below V.heap.size V w8 := (by refine below_join ?_ hb8; assumption); have v8 := (B8.cell (p := ⟨gx, 2, none⟩) hgxV).trans v2; have HB8 := Lib.hid B8; clear hb8))
          all_goals
            go_split_ands
            go_wp2
            exact ⟨⟨i + 1, last5, A5, n5, c5, rv5, mv5, xs5, M5, rfl, by omega, by omega, Lib.hid (DV.out.below HB8.out), Lib.hid (BV.out.below HB8.out), HNB5⟩, by simp only [intOf]; omega⟩
      · have d1 : (i : Int) < (n : Int) := by omega
        have d2 : ¬ ((i : Int) < 80) := by omega
        go_wp2
        go_ret
        exact ⟨rfl, by rw [← HG.out]; exact HD.out.bel⟩
    · have d1 : ¬ ((i : Int) < (n : Int)) := by omega
      go_wp2
      go_ret
      exact ⟨rfl, by rw [← HG.out]; exact HD.out.bel⟩
end Fr
end Go.Proofs.Ytpdlholoeaphgaa
