/- Contract of FramesClones. (By gen_c2.py.) -/
import Derived.Test.YtpdlholoeaphgaaFrAd
namespace Go.Proofs.Ytpdlholoeaphgaa
open Go.RowKit
namespace Fr
theorem le_drew_alloc (w : World) (o : Obj) : w.heap.size ≤ (w.alloc o).drew.heap.size := by
  show w.heap.size ≤ (w.alloc o).heap.size
  simp
theorem qcl_any (b : Nat) (rv mv : Value) (last most : Int) (xs M : List Wt) (w : World) (h : Qm w b 78 [] [] rv mv last most xs M) :
    Calls Try.prog 19 #[.pointer (some ⟨b, 0, none⟩)] w fun e w' => ∃ b2 rv2 mv2, e = .returned (.pointer (some ⟨b2, 0, none⟩)) ∧ Qm w' b2 78 [] [] rv2 mv2 last most xs M ∧ (∀ q, Bad b2 rv2 mv2 q → w.heap.size ≤ q) ∧ Below w.heap.size w w' :=
  (qclone_any b 0 78 [] [] rv mv last most xs M w h rfl).mono (by rintro e w' ⟨r1', r2', rfl, h1, h2, h3, _⟩; exact ⟨_, r1', r2', rfl, h1, h3, h2⟩)
set_option maxHeartbeats 8000000 in
set_option maxRecDepth 100000 in
theorem framesClones_any (Aa : Option Addr) (na ca : Nat) (La : List Tm) (Ab : Option Addr) (nb cb : Nat) (Lb : List Tm) (w : World) (hA : ActsIn w Aa na ca La) (hB : ActsIn w Ab nb cb Lb) :
    Calls Try.prog 5 #[.slice Aa na ca, .slice Ab nb cb] w fun e w' => e = .returned (.bool true) ∧ Below w.heap.size w w' := by
  have mixed : Try.prog.follows .mixedOrders = true := by kernel_rfl
  obtain ⟨hna, _, _, hata, hoka, _⟩ := hA
  obtain ⟨hnb, _, _, hatb, hokb, _⟩ := hB
  have CA := Lib.hid (awake_any w)
  have HNA := Lib.hid hna
  have HATA := Lib.hid hata
  have HOKA := Lib.hid hoka
  have HNBB := Lib.hid hnb
  have HATB := Lib.hid hatb
  have HOKB := Lib.hid hokb
  clear hna hata hoka hnb hatb hokb
  go_enter Try.func5, Try.ntmps5
  go_wp2_with fail
  refine CA.out.mono ?_
  rintro e w1 ⟨rfl, hb1⟩
  have CN := Lib.hid (fnew_any 50 w1)
  have HB1 := Lib.hid hb1
  clear hb1 CA
  rw [show clp 50 1 65536 = 50 by decide] at CN
  go_wp2_with fail
  refine CN.out.mono ?_
  rintro e w2 ⟨rfl, hw2, hb2, hlt2⟩
  have CR := Lib.hid (rnew_any 50 w2)
  rw [show clp 50 1 65536 = 50 by decide] at CR
  have HW2 := Lib.hid hw2
  have HB2 := Lib.hid hb2
  have HLT2 := Lib.hid hlt2
  clear hw2 hb2 hlt2 CN
  go_wp2_with fail
  refine CR.out.mono ?_
  rintro e w3 ⟨rfl, hb3⟩
  obtain ⟨U, hU⟩ : ∃ U, U = w3.alloc (.cells #[.int .i64 50, .int .i64 0, .slice none 0 0] 28) := ⟨_, rfl⟩
  obtain ⟨gw, hgw⟩ : ∃ gw, gw = w.heap.size := ⟨_, rfl⟩
  obtain ⟨b, hb⟩ : ∃ b, b = w1.heap.size := ⟨_, rfl⟩
  obtain ⟨gx, hgx⟩ : ∃ gx, gx = w3.heap.size := ⟨_, rfl⟩
  have hs1 := HB1.out.size
  have hs2 := HB2.out.size
  have hs3 := hb3.size
  have hl2 := HLT2.out
  have hbU : Below w2.heap.size w2 U := hb3.trans ((hU ▸ below_alloc w3 _ : Below w3.heap.size w3 U).mono hs3)
  have hnew : ∀ q, Bad b (.slice none 0 0) (.slice none 0 0) q → q = b := fun q hq => by
    rcases hq with h9 | h9 | h9
    · exact h9
    · cases h9
    · cases h9
  have HD0 : Hid (Dk w U gw b (.slice none 0 0) (.slice none 0 0) 0 50 [] none 0 0 []) := by
    refine ⟨by rw [hb]; exact HW2.out.below hbU, fun q hq => by rw [hnew q hq]; omega, by rw [hgw]; exact (HB1.out.trans (HB2.out.mono hs1)).trans (hbU.mono (by omega)), by have := hbU.size; omega, At.nil _ _, fun b' o p e => (by cases e), fun b' o p e => (by cases e), rfl, Nat.le_refl _, fun _ => ⟨rfl, rfl⟩, .inl rfl, fun x hx => (by cases hx), fun i j _ h => (by simp at h), Int.le_refl _, by omega, by omega, by omega⟩
  have HX0 : Hid (Blk U gx 28 #[.int .i64 50, .int .i64 0, .slice none 0 0]) := by rw [hgx, hU]; exact Blk.new _ _ _
  have HGX : Hid (gw ≤ gx) := by show _ ≤ _; omega
  have HG := Lib.hid hgw
  have HU := Lib.hid hU
  clear hU hbU hgw hs1 hs2 hs3 hl2 hb3 hnew HLT2 HB2 HW2 CR HB1
  go_upto_region 4 with fail
  rw [← HU.out, ← hb, ← hgx]
  clear HU hb hgx
  go_wp2_with fail
  go_loopw [7, 8] (fun _ vi W => ∃ (i : Nat) (last : Int) (A' : Option Addr) (n' c' : Nat) (rv mv : Value) (xs M : List Wt), vi = .int .i64 i ∧ i ≤ 30 ∧ last ≤ (i : Int) + 0 ∧ Hid (Dk w W gw b rv mv last 50 xs A' n' c' M) ∧ Hid (Blk W gx 28 #[.int .i64 50, .int .i64 last, .slice A' n' c'])) (fun _ vi _ => 30 - (intOf vi).toNat)
  case atStart => exact ⟨0, 0, none, 0, 0, _, _, [], [], rfl, by omega, by omega, HD0, HX0⟩
  case round =>
    clear HD0 HX0
    obtain ⟨i, last, A1', n1', c1', rv, mv, xs, M, rfl, hi80, hli, HD, HX⟩ := hrel
    by_cases hin : i < na
    · by_cases hi8 : i < 30
      · have d1 : (i : Int) < (na : Int) := by omega
        have d2 : (i : Int) < 30 := by omega
        have d0 : (0 : Int) ≤ (i : Int) := by omega
        have hiL : i < La.length := by have := HNA.out; omega
        obtain ⟨ba, oa, rfl⟩ : ∃ ba oa, Aa = some ⟨ba, oa, none⟩ := by
          obtain ⟨b9, o9, e9, _⟩ := HATA.out.one (k := i * 4) (tv_at La i hiL 0 (by omega))
          exact ⟨b9, o9, e9⟩
        obtain ⟨hba, k0, k1, k2, k3⟩ := act_cells HATA.out hiL
        have hbg : ba < gw := by have := HG.out; omega
        have bc := fun o => HD.out.bel.cell (p := ⟨ba, o, none⟩) hbg
        have f0 := (bc _).trans k0
        have f1 := (bc _).trans k1
        have f2 := (bc _).trans k2
        have f3 := (bc _).trans k3
        have HO := Lib.hid (HOKA.out (g La i) (List.mem_of_getElem? (g_at hiL)))
        have g0 : wr.cell? ⟨gx, 0, none⟩ = some (.int .i64 50) := HX.out.cell 0 rfl
        have g1 : wr.cell? ⟨gx, 1, none⟩ = some (.int .i64 last) := HX.out.cell 1 rfl
        have g2 : wr.cell? ⟨gx, 2, none⟩ = some (.slice A1' n1' c1') := HX.out.cell 2 rfl
        have hgxl : gx < wr.heap.size := HX.out.lt
        have hbal : ba < wr.heap.size := by have := HD.out.sz; omega
        have hnba : ¬ Bad b rv mv ba := fun e => by have := HD.out.new _ e; omega
        have HNBA := Lib.hid hnba
        have HNB : Hid (¬ Bad b rv mv gx) := HD.out.free HX.out
        have C9 : Hid (∀ W', Below wr.heap.size wr W' → Calls Try.prog 12 #[.pointer (some ⟨b, 0, none⟩), .agg #[.int .i64 50, .int .i64 last, .slice A1' n1' c1'], .agg #[.int .i64 (g La i).tok, .int .i64 (g La i).dl, .int .i64 (g La i).k, .int .i64 (g La i).n]] W' fun e Z => ∃ last' A' n' c' rv' mv' xs' L', e = .returned (.tuple #[.agg #[.int .i64 50, .int .i64 last', .slice A' n' c'], .bool true]) ∧ Dk w Z gw b rv' mv' last' 50 xs' A' n' c' L' ∧ Way1 W' Z b rv mv rv' mv' ∧ last' ≤ last + 1) := fun W' hW => do_any w W' gw b rv mv last 50 xs M A1' n1' c1' (g La i) (HD.out.below hW) (by omega)
        clear k0 k1 k2 k3 hba bc hiL hbg hnba HO
        generalize g La i = t at *
        have HBB : Beside (Bad b rv mv) wr wr := Beside.refl _ _
        have HBD : Beside (Bad b rv mv) wr wr.drew := (Beside.refl _ wr).drewN 1
        have g0d : wr.drew.cell? ⟨gx, 0, none⟩ = some (.int .i64 50) := g0
        have g1d : wr.drew.cell? ⟨gx, 1, none⟩ = some (.int .i64 last) := g1
        have g2d : wr.drew.cell? ⟨gx, 2, none⟩ = some (.slice A1' n1' c1') := g2
        have f0d : wr.drew.cell? ⟨ba, oa + i * 4, none⟩ = some (.int .i64 t.tok) := f0
        have f1d : wr.drew.cell? ⟨ba, oa + i * 4 + 1, none⟩ = some (.int .i64 t.dl) := f1
        have f2d : wr.drew.cell? ⟨ba, oa + i * 4 + 2, none⟩ = some (.int .i64 t.k) := f2
        have f3d : wr.drew.cell? ⟨ba, oa + i * 4 + 3, none⟩ = some (.int .i64 t.n) := f3
        go_upto_region 10 with fail
        go_region_with (go_at_call 12; (with_reducible refine (C9.out _ ?_).mono ?_); (exact below_drew1 wr); rintro e w5 ⟨last5, A5, n5, c5, rv5, mv5, xs5, M5, rfl, hd5, hw5, hl5⟩; have BE5 : Beside (Bad b rv mv) wr w5 := HBD.trans hw5.1; have HZX : Hid (Blk w5 gx 28 #[.int .i64 50, .int .i64 last, .slice A1' n1' c1']) := blk_of BE5 HNB.out HX.out; have z0 : w5.cell? ⟨gx, 0, none⟩ = some (.int .i64 50) := HZX.out.cell 0 rfl; have z1 : w5.cell? ⟨gx, 1, none⟩ = some (.int .i64 last) := HZX.out.cell 1 rfl; have z2 : w5.cell? ⟨gx, 2, none⟩ = some (.slice A1' n1' c1') := HZX.out.cell 2 rfl; have zf0 : w5.frozen? ⟨gx, 0, none⟩ = false := HZX.out.frozen 0; have zf1 : w5.frozen? ⟨gx, 1, none⟩ = false := HZX.out.frozen 1; have zf2 : w5.frozen? ⟨gx, 2, none⟩ = false := HZX.out.frozen 2; have HD5 := Lib.hid hd5; have HW5 := Lib.hid hw5; have HBE5 := Lib.hid BE5; clear hd5 hw5 BE5)
        all_goals
          obtain ⟨Z, hZ⟩ : ∃ Z, Z = set3 w5 gx (.int .i64 50) (.int .i64 last5) (.slice A5 n5 c5) := ⟨_, rfl⟩
          have hbs : Beside (fun x => x = gx) w5 Z := by rw [hZ]; exact beside_set3 (Beside.refl (fun x => x = gx) w5) (.inl rfl) _ _ _
          have DV : Hid (Dk w Z gw b rv5 mv5 last5 50 xs5 A5 n5 c5 M5) := HD5.out.put2 hbs (HD5.out.free HZX.out) (HD5.out.ne HZX.out) HGX.out
          have BV : Hid (Blk Z gx 28 #[.int .i64 50, .int .i64 last5, .slice A5 n5 c5]) := by rw [hZ]; exact blk_set3 HZX.out _ _ _
          unfold set3 at hZ
          have HZ := Lib.hid hZ
          clear hZ hbs C9
          go_wp2_with fail
          rw [← HZ.out]
          exact ⟨⟨i + 1, last5, A5, n5, c5, rv5, mv5, xs5, M5, rfl, by omega, by omega, DV, BV⟩, by simp only [intOf]; omega⟩
      · have d1 : (i : Int) < (na : Int) := by omega
        have d2 : ¬ ((i : Int) < 30) := by omega
        have g0 : wr.cell? ⟨gx, 0, none⟩ = some (.int .i64 50) := HX.out.cell 0 rfl
        have g1 : wr.cell? ⟨gx, 1, none⟩ = some (.int .i64 last) := HX.out.cell 1 rfl
        have g2 : wr.cell? ⟨gx, 2, none⟩ = some (.slice A1' n1' c1') := HX.out.cell 2 rfl
        have g0d : wr.drew.cell? ⟨gx, 0, none⟩ = some (.int .i64 50) := g0
        have g1d : wr.drew.cell? ⟨gx, 1, none⟩ = some (.int .i64 last) := g1
        have g2d : wr.drew.cell? ⟨gx, 2, none⟩ = some (.slice A1' n1' c1') := g2
        have hgxl : gx < wr.heap.size := HX.out.lt
        have CC : Hid (∀ W', Below wr.heap.size wr W' → Calls Try.prog 19 #[.pointer (some ⟨b, 0, none⟩)] W' fun e w' => ∃ b2 rv2 mv2, e = .returned (.pointer (some ⟨b2, 0, none⟩)) ∧ Qm w' b2 78 [] [] rv2 mv2 last 50 xs M ∧ (∀ q, Bad b2 rv2 mv2 q → W'.heap.size ≤ q) ∧ Below W'.heap.size W' w') := fun W' hW => qcl_any b rv mv last 50 xs M W' (HD.out.qm.below hW)
        go_upto_region 13 with fail
        go_cut [9, 10] (fun pc py wx => ∃ (b2 gy : Nat) (rv2 mv2 : Value), pc = .pointer (some ⟨b2, 0, none⟩) ∧ py = .pointer (some ⟨gy, 0, none⟩) ∧ Hid (Qm wx b2 78 [] [] rv2 mv2 last 50 xs M) ∧ Hid (∀ q, Bad b2 rv2 mv2 q → wr.heap.size ≤ q) ∧ Hid (Blk wx gy 28 #[.int .i64 50, .int .i64 last, .slice A1' n1' c1']) ∧ Hid (Below wr.heap.size wr wx) ∧ wr.heap.size ≤ gy)
        case first =>
          go_region_with (go_at_call 19; (with_reducible refine (CC.out _ ?_).mono ?_); (first | exact below_drew1 wr | exact Below_drew (below_alloc wr _)); rintro e w5 ⟨b5, rv5, mv5, rfl, hw5, hf5, hb5⟩; have B5 : Below wr.heap.size wr w5 := (by refine below_join ?_ hb5; first | exact below_drew1 wr | exact Below_drew (below_alloc wr _)); have hgx5 : gx < w5.heap.size := Nat.lt_of_lt_of_le hgxl B5.size; have hgx6 : gx ≠ w5.heap.size := Nat.ne_of_lt hgx5; have z0 := (B5.cell (p := ⟨gx, 0, none⟩) hgxl).trans g0; have z1 := (B5.cell (p := ⟨gx, 1, none⟩) hgxl).trans g1; have z2 := (B5.cell (p := ⟨gx, 2, none⟩) hgxl).trans g2; (first | (have hz9 : Hid (Blk w5 wr.heap.size 28 #[.int .i64 0, .int .i64 0, .slice none 0 0]) := (Blk.new wr 28 #[.int .i64 0, .int .i64 0, .slice none 0 0]).drew.below hb5; have s0 : w5.cell? ⟨wr.heap.size, 0, none⟩ = some (.int .i64 0) := hz9.out.cell 0 rfl; have s1 : w5.cell? ⟨wr.heap.size, 1, none⟩ = some (.int .i64 0) := hz9.out.cell 1 rfl; have s2 : w5.cell? ⟨wr.heap.size, 2, none⟩ = some (.slice none 0 0) := hz9.out.cell 2 rfl; have sf0 : w5.frozen? ⟨wr.heap.size, 0, none⟩ = false := hz9.out.frozen 0; have sf1 : w5.frozen? ⟨wr.heap.size, 1, none⟩ = false := hz9.out.frozen 1; have sf2 : w5.frozen? ⟨wr.heap.size, 2, none⟩ = false := hz9.out.frozen 2) | skip); (first | (have hz8 : Hid (Blk w5 wr.heap.size 28 #[.int .i64 50, .int .i64 last, .slice A1' n1' c1']) := (Blk.new wr 28 #[.int .i64 50, .int .i64 last, .slice A1' n1' c1']).drew.below hb5) | skip); (first | (have HF5 : Hid (∀ q, Bad b5 rv5 mv5 q → wr.heap.size ≤ q) := hf5) | (have HF5 : Hid (∀ q, Bad b5 rv5 mv5 q → wr.heap.size ≤ q) := fun q hq => Nat.le_trans (le_drew_alloc wr _) (hf5 q hq))); have HW5 := Lib.hid hw5; have HB5 := Lib.hid B5; clear hw5 hf5 hb5 B5)
          all_goals (go_wp2_with fail; go_meet; first
            | exact ⟨b5, w5.heap.size, rv5, mv5, rfl, rfl, Lib.hid (HW5.out.below (below_alloc w5 _)), HF5, Lib.hid (Blk.new w5 _ _), Lib.hid (HB5.out.alloc HB5.out.size _), HB5.out.size⟩
            | exact ⟨b5, wr.heap.size, rv5, mv5, rfl, rfl, HW5, HF5, hz8, HB5, Nat.le_refl _⟩
            | exact ⟨b5, wr.heap.size, rv5, mv5, rfl, rfl, Lib.hid (HW5.out.beside (beside_set3 (Beside.refl (fun x => x = wr.heap.size) w5) (.inl rfl) _ _ _) (fun q hq e => Fr.Qm.free HW5.out hz9.out (e ▸ hq))), HF5, Lib.hid (blk_set3 hz9.out _ _ _), Lib.hid ((beside_set3 (Beside.refl (fun x => x = wr.heap.size) w5) (.inl rfl) _ _ _).below HB5.out HB5.out.size (fun q hq => Nat.le_of_eq hq.symm)), Nat.le_refl _⟩
            | go_loud (exact (0 : Nat)))
        case' rest =>
          obtain ⟨b2, gy, rv2, mv2, rfl, rfl, HW2, HF0, HY0, HB0, hgy⟩ := hcut
          obtain ⟨V, hVV⟩ : ∃ V, V = wr := ⟨_, rfl⟩
          obtain ⟨gs, hgs⟩ : ∃ gs, gs = wr.heap.size := ⟨_, rfl⟩
          have HGYS : Hid (gs ≤ gy) := by rw [hgs]; exact hgy
          have HGY : Hid (gw ≤ gy) := Nat.le_trans HD.out.sz hgy
          have HGS : Hid (gs ≤ V.heap.size) := by rw [hgs, hVV]; exact Nat.le_refl _
          have DY0 : Hid (Dk w wc gw b2 rv2 mv2 last 50 xs A1' n1' c1' M) := by
            have h9 := HD.out.below HB0.out
            exact ⟨HW2.out, fun q hq => Nat.le_trans HD.out.sz (HF0.out q hq), h9.bel, h9.sz, h9.lies, fun b' o p e h8 => by have := HD.out.old b' o p e; have := HF0.out b' h8; omega, h9.old, h9.len, h9.cap, h9.nil, h9.form, h9.tok, h9.asc, h9.lo, h9.m1, h9.m2, h9.few⟩
          have HBV0 : Hid (Below gs V wc) := by rw [hgs, hVV]; exact HB0.out
          have DVV : Hid (Dk w V gw b rv mv last 50 xs A1' n1' c1' M) := by rw [hVV]; exact HD.out
          have BXV : Hid (Blk V gx 28 #[.int .i64 50, .int .i64 last, .slice A1' n1' c1']) := by rw [hVV]; exact HX.out
          have HSV : Hid (gs = V.heap.size) := by rw [hgs, hVV]; rfl
          rw [← hgs] at HF0
          obtain ⟨last1, hlast1⟩ : ∃ x, x = last := ⟨_, rfl⟩
          obtain ⟨A1, hA1⟩ : ∃ x, x = A1' := ⟨_, rfl⟩
          obtain ⟨n1, hn1⟩ : ∃ x, x = n1' := ⟨_, rfl⟩
          obtain ⟨c1, hc1⟩ : ∃ x, x = c1' := ⟨_, rfl⟩
          obtain ⟨xs1, hxs1⟩ : ∃ x, x = xs := ⟨_, rfl⟩
          obtain ⟨M1, hM1⟩ : ∃ x, x = M := ⟨_, rfl⟩
          rw [← hlast1, ← hA1, ← hn1, ← hc1, ← hxs1, ← hM1] at DY0 DVV
          rw [← hlast1, ← hA1, ← hn1, ← hc1] at HY0 BXV
          have hli1 : last1 ≤ 30 := by omega
          clear HD HX HW2 HB0 CC g0 g1 g2 g0d g1d g2d hgxl hVV hgs hgy hlast1 hA1 hn1 hc1 hxs1 hM1 hli
          obtain ⟨rv1, hrv1⟩ : ∃ x, x = rv := ⟨_, rfl⟩
          obtain ⟨mv1, hmv1⟩ : ∃ x, x = mv := ⟨_, rfl⟩
          rw [← hrv1, ← hmv1] at DVV
          clear hrv1 hmv1
          go_wp2_with fail
          go_loopw [7, 11] (fun _ vi W => ∃ (i : Nat) (last : Int) (A' : Option Addr) (n' c' : Nat) (rv mv : Value) (xs M : List Wt), vi = .int .i64 i ∧ i ≤ 30 ∧ last ≤ (i : Int) + 30 ∧ Hid (Dk w W gw b2 rv mv last 50 xs A' n' c' M) ∧ Hid (Blk W gy 28 #[.int .i64 50, .int .i64 last, .slice A' n' c']) ∧ Hid (∀ q, Bad b2 rv mv q → gs ≤ q) ∧ Hid (Below gs V W)) (fun _ vi _ => 30 - (intOf vi).toNat)
          case atStart => exact ⟨0, last1, A1, n1, c1, _, _, xs1, M1, rfl, by omega, by omega, DY0, HY0, HF0, HBV0⟩
          case round =>
            clear DY0 HY0 HF0 HBV0
            obtain ⟨i, last, A1', n1', c1', rv, mv, xs, M, rfl, hi80, hli, HD, HX, HF, HBV⟩ := hrel
            by_cases hin : i < nb
            · by_cases hi8 : i < 30
              · have d1 : (i : Int) < (nb : Int) := by omega
                have d2 : (i : Int) < 30 := by omega
                have d0 : (0 : Int) ≤ (i : Int) := by omega
                have hiL : i < Lb.length := by have := HNBB.out; omega
                obtain ⟨ba, oa, rfl⟩ : ∃ ba oa, Ab = some ⟨ba, oa, none⟩ := by
                  obtain ⟨b9, o9, e9, _⟩ := HATB.out.one (k := i * 4) (tv_at Lb i hiL 0 (by omega))
                  exact ⟨b9, o9, e9⟩
                obtain ⟨hba, k0, k1, k2, k3⟩ := act_cells HATB.out hiL
                have hbg : ba < gw := by have := HG.out; omega
                have bc := fun o => HD.out.bel.cell (p := ⟨ba, o, none⟩) hbg
                have f0 := (bc _).trans k0
                have f1 := (bc _).trans k1
                have f2 := (bc _).trans k2
                have f3 := (bc _).trans k3
                have HO := Lib.hid (HOKB.out (g Lb i) (List.mem_of_getElem? (g_at hiL)))
                have g0 : wr.cell? ⟨gy, 0, none⟩ = some (.int .i64 50) := HX.out.cell 0 rfl
                have g1 : wr.cell? ⟨gy, 1, none⟩ = some (.int .i64 last) := HX.out.cell 1 rfl
                have g2 : wr.cell? ⟨gy, 2, none⟩ = some (.slice A1' n1' c1') := HX.out.cell 2 rfl
                have hgxl : gy < wr.heap.size := HX.out.lt
                have hbal : ba < wr.heap.size := by have := HD.out.sz; omega
                have hnba : ¬ Bad b2 rv mv ba := fun e => by have := HD.out.new _ e; omega
                have HNBA := Lib.hid hnba
                have HNB : Hid (¬ Bad b2 rv mv gy) := HD.out.free HX.out
                have C9 : Hid (∀ W', Below wr.heap.size wr W' → Calls Try.prog 12 #[.pointer (some ⟨b2, 0, none⟩), .agg #[.int .i64 50, .int .i64 last, .slice A1' n1' c1'], .agg #[.int .i64 (g Lb i).tok, .int .i64 (g Lb i).dl, .int .i64 (g Lb i).k, .int .i64 (g Lb i).n]] W' fun e Z => ∃ last' A' n' c' rv' mv' xs' L', e = .returned (.tuple #[.agg #[.int .i64 50, .int .i64 last', .slice A' n' c'], .bool true]) ∧ Dk w Z gw b2 rv' mv' last' 50 xs' A' n' c' L' ∧ Way1 W' Z b2 rv mv rv' mv' ∧ last' ≤ last + 1) := fun W' hW => do_any w W' gw b2 rv mv last 50 xs M A1' n1' c1' (g Lb i) (HD.out.below hW) (by omega)
                clear k0 k1 k2 k3 hba bc hiL hbg hnba HO
                generalize g Lb i = t at *
                have HBB : Beside (Bad b2 rv mv) wr wr := Beside.refl _ _
                have HBD : Beside (Bad b2 rv mv) wr wr.drew := (Beside.refl _ wr).drewN 1
                have g0d : wr.drew.cell? ⟨gy, 0, none⟩ = some (.int .i64 50) := g0
                have g1d : wr.drew.cell? ⟨gy, 1, none⟩ = some (.int .i64 last) := g1
                have g2d : wr.drew.cell? ⟨gy, 2, none⟩ = some (.slice A1' n1' c1') := g2
                have f0d : wr.drew.cell? ⟨ba, oa + i * 4, none⟩ = some (.int .i64 t.tok) := f0
                have f1d : wr.drew.cell? ⟨ba, oa + i * 4 + 1, none⟩ = some (.int .i64 t.dl) := f1
                have f2d : wr.drew.cell? ⟨ba, oa + i * 4 + 2, none⟩ = some (.int .i64 t.k) := f2
                have f3d : wr.drew.cell? ⟨ba, oa + i * 4 + 3, none⟩ = some (.int .i64 t.n) := f3
                go_upto_region 19 with fail
                go_region_with (go_at_call 12; (with_reducible refine (C9.out _ ?_).mono ?_); (exact below_drew1 wr); rintro e w5 ⟨last5, A5, n5, c5, rv5, mv5, xs5, M5, rfl, hd5, hw5, hl5⟩; have BE5 : Beside (Bad b2 rv mv) wr w5 := HBD.trans hw5.1; have HZX : Hid (Blk w5 gy 28 #[.int .i64 50, .int .i64 last, .slice A1' n1' c1']) := blk_of BE5 HNB.out HX.out; have z0 : w5.cell? ⟨gy, 0, none⟩ = some (.int .i64 50) := HZX.out.cell 0 rfl; have z1 : w5.cell? ⟨gy, 1, none⟩ = some (.int .i64 last) := HZX.out.cell 1 rfl; have z2 : w5.cell? ⟨gy, 2, none⟩ = some (.slice A1' n1' c1') := HZX.out.cell 2 rfl; have zf0 : w5.frozen? ⟨gy, 0, none⟩ = false := HZX.out.frozen 0; have zf1 : w5.frozen? ⟨gy, 1, none⟩ = false := HZX.out.frozen 1; have zf2 : w5.frozen? ⟨gy, 2, none⟩ = false := HZX.out.frozen 2; have HD5 := Lib.hid hd5; have HW5 := Lib.hid hw5; have HBE5 := Lib.hid BE5; clear hd5 hw5 BE5)
                all_goals
                  obtain ⟨Z, hZ⟩ : ∃ Z, Z = set3 w5 gy (.int .i64 50) (.int .i64 last5) (.slice A5 n5 c5) := ⟨_, rfl⟩
                  have hbs : Beside (fun x => x = gy) w5 Z := by rw [hZ]; exact beside_set3 (Beside.refl (fun x => x = gy) w5) (.inl rfl) _ _ _
                  have DV : Hid (Dk w Z gw b2 rv5 mv5 last5 50 xs5 A5 n5 c5 M5) := HD5.out.put2 hbs (HD5.out.free HZX.out) (HD5.out.ne HZX.out) HGY.out
                  have BV : Hid (Blk Z gy 28 #[.int .i64 50, .int .i64 last5, .slice A5 n5 c5]) := by rw [hZ]; exact blk_set3 HZX.out _ _ _
                  have hsw : gs ≤ wr.heap.size := Nat.le_trans HGS.out HBV.out.size
                  have FV : Hid (∀ q, Bad b2 rv5 mv5 q → gs ≤ q) := fun q hq => by
                    rcases HW5.out.2 q hq with h9 | h9
                    · exact HF.out q h9
                    · exact Nat.le_trans hsw h9
                  have BVV : Hid (Below gs V Z) := hbs.below (HBE5.out.below HBV.out hsw HF.out) (Nat.le_trans hsw HBE5.out.size) (fun q hq => by rw [hq]; exact HGYS.out)
                  unfold set3 at hZ
                  have HZ := Lib.hid hZ
                  clear hZ hbs C9
                  go_wp2_with fail
                  rw [← HZ.out]
                  exact ⟨⟨i + 1, last5, A5, n5, c5, rv5, mv5, xs5, M5, rfl, by omega, by omega, DV, BV, FV, BVV⟩, by simp only [intOf]; omega⟩
              · have d1 : (i : Int) < (nb : Int) := by omega
                have d2 : ¬ ((i : Int) < 30) := by omega
                obtain ⟨Q, hQ⟩ : ∃ Q, Q = wr := ⟨_, rfl⟩
                have hbQ : Below V.heap.size V Q := by rw [hQ, ← HSV.out]; exact HBV.out
                have D1 : Hid (Dk w Q gw b rv1 mv1 last1 50 xs1 A1 n1 c1 M1) := DVV.out.below hbQ
                have X1 := BXV.out.below hbQ
                have D2 : Hid (Dk w Q gw b2 rv mv last 50 xs A1' n1' c1' M) := by rw [hQ]; exact HD.out
                have Y1 : Blk Q gy 28 #[.int .i64 50, .int .i64 last, .slice A1' n1' c1'] := by rw [hQ]; exact HX.out
                have CL1 : Hid (∀ W', Below Q.heap.size Q W' → Calls Try.prog 15 #[.pointer (some ⟨b, 0, none⟩)] W' fun e w'' => ∃ A6 c6, e = .returned (.slice A6 n1 c6) ∧ At w'' A6 (tv (doc xs1 M1)) ∧ Below W'.heap.size W' w'') := fun W' hW => by rw [D1.out.len]; exact list_any b rv1 mv1 last1 50 xs1 M1 W' (D1.out.qm.below hW)
                have CL2 : Hid (∀ W', Below Q.heap.size Q W' → Calls Try.prog 15 #[.pointer (some ⟨b2, 0, none⟩)] W' fun e w'' => ∃ A6 c6, e = .returned (.slice A6 n1' c6) ∧ At w'' A6 (tv (doc xs M)) ∧ Below W'.heap.size W' w'') := fun W' hW => by rw [D2.out.len]; exact list_any b2 rv mv last 50 xs M W' (D2.out.qm.below hW)
                have h56 : n1 ≤ 1000000 := by have := D1.out.few; omega
                have h57 : n1' ≤ 1000000 := by have := D2.out.few; omega
                have CS1 : Hid (∀ A6 c6 W', Below Q.heap.size Q W' → At W' A6 (tv (doc xs1 M1)) → Calls Try.prog 14 #[.slice A6 n1 c6, .slice A1 n1 c1] W' fun e w'' => e = .returned (.bool true) ∧ Below W'.heap.size W' w'') := fun A6 c6 W' hW ha => same_any A6 A1 n1 c6 c1 (doc xs1 M1) W' (by rw [doc_len]; exact D1.out.len) h56 ha (D1.out.lies.below hW)
                have CS2 : Hid (∀ A6 c6 W', Below Q.heap.size Q W' → At W' A6 (tv (doc xs M)) → Calls Try.prog 14 #[.slice A6 n1' c6, .slice A1' n1' c1'] W' fun e w'' => e = .returned (.bool true) ∧ Below W'.heap.size W' w'') := fun A6 c6 W' hW ha => same_any A6 A1' n1' c6 c1' (doc xs M) W' (by rw [doc_len]; exact D2.out.len) h57 ha (D2.out.lies.below hW)
                have v1 : Q.cell? ⟨gx, 2, none⟩ = some (.slice A1 n1 c1) := X1.cell 2 rfl
                have v2 : Q.cell? ⟨gy, 2, none⟩ = some (.slice A1' n1' c1') := Y1.cell 2 rfl
                have hgxQ : gx < Q.heap.size := X1.lt
                have hgyQ : gy < Q.heap.size := Y1.lt
                have HQB : Hid (Below gw w Q) := D1.out.bel
                have HQS : Hid (gw ≤ Q.heap.size) := D1.out.sz
                have HQ := Lib.hid hQ
                clear hQ hbQ X1 Y1 h56 h57 HD HX HF HBV
                go_upto_region 22 with fail
                rw [← HQ.out]
                clear HQ
                have HBQ := Below.refl Q.heap.size Q
                have HBQd := below_drew1 Q
                change Code.wp _ _ _ _ Q
                go_region_held3 (fun w' => w'.cell? ⟨gx, 2, none⟩ = some (.slice A1 n1 c1) ∧ w'.cell? ⟨gy, 2, none⟩ = some (.slice A1' n1' c1') ∧ Below Q.heap.size Q w') (first | (refine ⟨?_, ?_, ?_⟩ <;> first | assumption | go_keep) | go_keep)
                  (first
                  | (go_at_call 15; go_split_ands; (with_reducible refine (CL1.out _ ?_).mono ?_); (first | assumption | exact HBQd); rintro e w6 ⟨A6, c6, rfl, ha6, hb6⟩; have HAT6 := Lib.hid ha6; have B6 : Below Q.heap.size Q w6 := (by refine below_join ?_ hb6; first | assumption | exact HBQd); have p6 := (B6.cell (p := ⟨gx, 2, none⟩) hgxQ).trans v1; have q6 := (B6.cell (p := ⟨gy, 2, none⟩) hgyQ).trans v2; clear ha6 hb6)
                  | (go_at_call 14; go_split_ands; (with_reducible refine (CS1.out _ _ _ ?_ HAT6.out).mono ?_); (first | assumption | exact HBQd); rintro e w7 ⟨rfl, hb7⟩; have B7 : Below Q.heap.size Q w7 := (by refine below_join ?_ hb7; assumption); have p7 := (B7.cell (p := ⟨gx, 2, none⟩) hgxQ).trans v1; have q7 := (B7.cell (p := ⟨gy, 2, none⟩) hgyQ).trans v2; clear hb7)
                  | (go_at_call 15; go_split_ands; (with_reducible refine (CL2.out _ ?_).mono ?_); (first | assumption | exact HBQd); rintro e w8 ⟨A8, c8, rfl, ha8, hb8⟩; have HAT8 := Lib.hid ha8; have B8 : Below Q.heap.size Q w8 := (by refine below_join ?_ hb8; first | assumption | exact HBQd); have p8 := (B8.cell (p := ⟨gx, 2, none⟩) hgxQ).trans v1; have q8 := (B8.cell (p := ⟨gy, 2, none⟩) hgyQ).trans v2; clear ha8 hb8)
                  | (go_at_call 14; go_split_ands; (with_reducible refine (CS2.out _ _ _ ?_ HAT8.out).mono ?_); (first | assumption | exact HBQd); rintro e w9 ⟨rfl, hb9⟩; have B9 : Below Q.heap.size Q w9 := (by refine below_join ?_ hb9; assumption); have p9 := (B9.cell (p := ⟨gx, 2, none⟩) hgxQ).trans v1; have q9 := (B9.cell (p := ⟨gy, 2, none⟩) hgyQ).trans v2; have HB9 := Lib.hid B9; clear hb9))
                all_goals
                  go_split_ands
                  go_wp2
                  go_ret
                  exact ⟨rfl, by rw [← HG.out]; exact HQB.out.trans (HB9.out.mono HQS.out)⟩
            · have d1 : ¬ ((i : Int) < (nb : Int)) := by omega
              obtain ⟨Q, hQ⟩ : ∃ Q, Q = wr := ⟨_, rfl⟩
              have hbQ : Below V.heap.size V Q := by rw [hQ, ← HSV.out]; exact HBV.out
              have D1 : Hid (Dk w Q gw b rv1 mv1 last1 50 xs1 A1 n1 c1 M1) := DVV.out.below hbQ
              have X1 := BXV.out.below hbQ
              have D2 : Hid (Dk w Q gw b2 rv mv last 50 xs A1' n1' c1' M) := by rw [hQ]; exact HD.out
              have Y1 : Blk Q gy 28 #[.int .i64 50, .int .i64 last, .slice A1' n1' c1'] := by rw [hQ]; exact HX.out
              have CL1 : Hid (∀ W', Below Q.heap.size Q W' → Calls Try.prog 15 #[.pointer (some ⟨b, 0, none⟩)] W' fun e w'' => ∃ A6 c6, e = .returned (.slice A6 n1 c6) ∧ At w'' A6 (tv (doc xs1 M1)) ∧ Below W'.heap.size W' w'') := fun W' hW => by rw [D1.out.len]; exact list_any b rv1 mv1 last1 50 xs1 M1 W' (D1.out.qm.below hW)
              have CL2 : Hid (∀ W', Below Q.heap.size Q W' → Calls Try.prog 15 #[.pointer (some ⟨b2, 0, none⟩)] W' fun e w'' => ∃ A6 c6, e = .returned (.slice A6 n1' c6) ∧ At w'' A6 (tv (doc xs M)) ∧ Below W'.heap.size W' w'') := fun W' hW => by rw [D2.out.len]; exact list_any b2 rv mv last 50 xs M W' (D2.out.qm.below hW)
              have h56 : n1 ≤ 1000000 := by have := D1.out.few; omega
              have h57 : n1' ≤ 1000000 := by have := D2.out.few; omega
              have CS1 : Hid (∀ A6 c6 W', Below Q.heap.size Q W' → At W' A6 (tv (doc xs1 M1)) → Calls Try.prog 14 #[.slice A6 n1 c6, .slice A1 n1 c1] W' fun e w'' => e = .returned (.bool true) ∧ Below W'.heap.size W' w'') := fun A6 c6 W' hW ha => same_any A6 A1 n1 c6 c1 (doc xs1 M1) W' (by rw [doc_len]; exact D1.out.len) h56 ha (D1.out.lies.below hW)
              have CS2 : Hid (∀ A6 c6 W', Below Q.heap.size Q W' → At W' A6 (tv (doc xs M)) → Calls Try.prog 14 #[.slice A6 n1' c6, .slice A1' n1' c1'] W' fun e w'' => e = .returned (.bool true) ∧ Below W'.heap.size W' w'') := fun A6 c6 W' hW ha => same_any A6 A1' n1' c6 c1' (doc xs M) W' (by rw [doc_len]; exact D2.out.len) h57 ha (D2.out.lies.below hW)
              have v1 : Q.cell? ⟨gx, 2, none⟩ = some (.slice A1 n1 c1) := X1.cell 2 rfl
              have v2 : Q.cell? ⟨gy, 2, none⟩ = some (.slice A1' n1' c1') := Y1.cell 2 rfl
              have hgxQ : gx < Q.heap.size := X1.lt
              have hgyQ : gy < Q.heap.size := Y1.lt
              have HQB : Hid (Below gw w Q) := D1.out.bel
              have HQS : Hid (gw ≤ Q.heap.size) := D1.out.sz
              have HQ := Lib.hid hQ
              clear hQ hbQ X1 Y1 h56 h57 HD HX HF HBV
              go_upto_region 22 with fail
              rw [← HQ.out]
              clear HQ
              have HBQ := Below.refl Q.heap.size Q
              have HBQd := below_drew1 Q
              change Code.wp _ _ _ _ Q
              go_region_held3 (fun w' => w'.cell? ⟨gx, 2, none⟩ = some (.slice A1 n1 c1) ∧ w'.cell? ⟨gy, 2, none⟩ = some (.slice A1' n1' c1') ∧ Below Q.heap.size Q w') (first | (refine ⟨?_, ?_, ?_⟩ <;> first | assumption | go_keep) | go_keep)
                (first
                | (go_at_call 15; go_split_ands; (with_reducible refine (CL1.out _ ?_).mono ?_); (first | assumption | exact HBQd); rintro e w6 ⟨A6, c6, rfl, ha6, hb6⟩; have HAT6 := Lib.hid ha6; have B6 : Below Q.heap.size Q w6 := (by refine below_join ?_ hb6; first | assumption | exact HBQd); have p6 := (B6.cell (p := ⟨gx, 2, none⟩) hgxQ).trans v1; have q6 := (B6.cell (p := ⟨gy, 2, none⟩) hgyQ).trans v2; clear ha6 hb6)
                | (go_at_call 14; go_split_ands; (with_reducible refine (CS1.out _ _ _ ?_ HAT6.out).mono ?_); (first | assumption | exact HBQd); rintro e w7 ⟨rfl, hb7⟩; have B7 : Below Q.heap.size Q w7 := (by refine below_join ?_ hb7; assumption); have p7 := (B7.cell (p := ⟨gx, 2, none⟩) hgxQ).trans v1; have q7 := (B7.cell (p := ⟨gy, 2, none⟩) hgyQ).trans v2; clear hb7)
                | (go_at_call 15; go_split_ands; (with_reducible refine (CL2.out _ ?_).mono ?_); (first | assumption | exact HBQd); rintro e w8 ⟨A8, c8, rfl, ha8, hb8⟩; have HAT8 := Lib.hid ha8; have B8 : Below Q.heap.size Q w8 := (by refine below_join ?_ hb8; first | assumption | exact HBQd); have p8 := (B8.cell (p := ⟨gx, 2, none⟩) hgxQ).trans v1; have q8 := (B8.cell (p := ⟨gy, 2, none⟩) hgyQ).trans v2; clear ha8 hb8)
                | (go_at_call 14; go_split_ands; (with_reducible refine (CS2.out _ _ _ ?_ HAT8.out).mono ?_); (first | assumption | exact HBQd); rintro e w9 ⟨rfl, hb9⟩; have B9 : Below Q.heap.size Q w9 := (by refine below_join ?_ hb9; assumption); have p9 := (B9.cell (p := ⟨gx, 2, none⟩) hgxQ).trans v1; have q9 := (B9.cell (p := ⟨gy, 2, none⟩) hgyQ).trans v2; have HB9 := Lib.hid B9; clear hb9))
              all_goals
                go_split_ands
                go_wp2
                go_ret
                exact ⟨rfl, by rw [← HG.out]; exact HQB.out.trans (HB9.out.mono HQS.out)⟩
    · have d1 : ¬ ((i : Int) < (na : Int)) := by omega
      have g0 : wr.cell? ⟨gx, 0, none⟩ = some (.int .i64 50) := HX.out.cell 0 rfl
      have g1 : wr.cell? ⟨gx, 1, none⟩ = some (.int .i64 last) := HX.out.cell 1 rfl
      have g2 : wr.cell? ⟨gx, 2, none⟩ = some (.slice A1' n1' c1') := HX.out.cell 2 rfl
      have g0d : wr.drew.cell? ⟨gx, 0, none⟩ = some (.int .i64 50) := g0
      have g1d : wr.drew.cell? ⟨gx, 1, none⟩ = some (.int .i64 last) := g1
      have g2d : wr.drew.cell? ⟨gx, 2, none⟩ = some (.slice A1' n1' c1') := g2
      have hgxl : gx < wr.heap.size := HX.out.lt
      have CC : Hid (∀ W', Below wr.heap.size wr W' → Calls Try.prog 19 #[.pointer (some ⟨b, 0, none⟩)] W' fun e w' => ∃ b2 rv2 mv2, e = .returned (.pointer (some ⟨b2, 0, none⟩)) ∧ Qm w' b2 78 [] [] rv2 mv2 last 50 xs M ∧ (∀ q, Bad b2 rv2 mv2 q → W'.heap.size ≤ q) ∧ Below W'.heap.size W' w') := fun W' hW => qcl_any b rv mv last 50 xs M W' (HD.out.qm.below hW)
      go_upto_region 13 with fail
      go_cut [9, 10] (fun pc py wx => ∃ (b2 gy : Nat) (rv2 mv2 : Value), pc = .pointer (some ⟨b2, 0, none⟩) ∧ py = .pointer (some ⟨gy, 0, none⟩) ∧ Hid (Qm wx b2 78 [] [] rv2 mv2 last 50 xs M) ∧ Hid (∀ q, Bad b2 rv2 mv2 q → wr.heap.size ≤ q) ∧ Hid (Blk wx gy 28 #[.int .i64 50, .int .i64 last, .slice A1' n1' c1']) ∧ Hid (Below wr.heap.size wr wx) ∧ wr.heap.size ≤ gy)
      case first =>
        go_region_with (go_at_call 19; (with_reducible refine (CC.out _ ?_).mono ?_); (first | exact below_drew1 wr | exact Below_drew (below_alloc wr _)); rintro e w5 ⟨b5, rv5, mv5, rfl, hw5, hf5, hb5⟩; have B5 : Below wr.heap.size wr w5 := (by refine below_join ?_ hb5; first | exact below_drew1 wr | exact Below_drew (below_alloc wr _)); have hgx5 : gx < w5.heap.size := Nat.lt_of_lt_of_le hgxl B5.size; have hgx6 : gx ≠ w5.heap.size := Nat.ne_of_lt hgx5; have z0 := (B5.cell (p := ⟨gx, 0, none⟩) hgxl).trans g0; have z1 := (B5.cell (p := ⟨gx, 1, none⟩) hgxl).trans g1; have z2 := (B5.cell (p := ⟨gx, 2, none⟩) hgxl).trans g2; (first | (have hz9 : Hid (Blk w5 wr.heap.size 28 #[.int .i64 0, .int .i64 0, .slice none 0 0]) := (Blk.new wr 28 #[.int .i64 0, .int .i64 0, .slice none 0 0]).drew.below hb5; have s0 : w5.cell? ⟨wr.heap.size, 0, none⟩ = some (.int .i64 0) := hz9.out.cell 0 rfl; have s1 : w5.cell? ⟨wr.heap.size, 1, none⟩ = some (.int .i64 0) := hz9.out.cell 1 rfl; have s2 : w5.cell? ⟨wr.heap.size, 2, none⟩ = some (.slice none 0 0) := hz9.out.cell 2 rfl; have sf0 : w5.frozen? ⟨wr.heap.size, 0, none⟩ = false := hz9.out.frozen 0; have sf1 : w5.frozen? ⟨wr.heap.size, 1, none⟩ = false := hz9.out.frozen 1; have sf2 : w5.frozen? ⟨wr.heap.size, 2, none⟩ = false := hz9.out.frozen 2) | skip); (first | (have hz8 : Hid (Blk w5 wr.heap.size 28 #[.int .i64 50, .int .i64 last, .slice A1' n1' c1']) := (Blk.new wr 28 #[.int .i64 50, .int .i64 last, .slice A1' n1' c1']).drew.below hb5) | skip); (first | (have HF5 : Hid (∀ q, Bad b5 rv5 mv5 q → wr.heap.size ≤ q) := hf5) | (have HF5 : Hid (∀ q, Bad b5 rv5 mv5 q → wr.heap.size ≤ q) := fun q hq => Nat.le_trans (le_drew_alloc wr _) (hf5 q hq))); have HW5 := Lib.hid hw5; have HB5 := Lib.hid B5; clear hw5 hf5 hb5 B5)
        all_goals (go_wp2_with fail; go_meet; first
          | exact ⟨b5, w5.heap.size, rv5, mv5, rfl, rfl, Lib.hid (HW5.out.below (below_alloc w5 _)), HF5, Lib.hid (Blk.new w5 _ _), Lib.hid (HB5.out.alloc HB5.out.size _), HB5.out.size⟩
          | exact ⟨b5, wr.heap.size, rv5, mv5, rfl, rfl, HW5, HF5, hz8, HB5, Nat.le_refl _⟩
          | exact ⟨b5, wr.heap.size, rv5, mv5, rfl, rfl, Lib.hid (HW5.out.beside (beside_set3 (Beside.refl (fun x => x = wr.heap.size) w5) (.inl rfl) _ _ _) (fun q hq e => Fr.Qm.free HW5.out hz9.out (e ▸ hq))), HF5, Lib.hid (blk_set3 hz9.out _ _ _), Lib.hid ((beside_set3 (Beside.refl (fun x => x = wr.heap.size) w5) (.inl rfl) _ _ _).below HB5.out HB5.out.size (fun q hq => Nat.le_of_eq hq.symm)), Nat.le_refl _⟩
          | go_loud (exact (0 : Nat)))
      case' rest =>
        obtain ⟨b2, gy, rv2, mv2, rfl, rfl, HW2, HF0, HY0, HB0, hgy⟩ := hcut
        obtain ⟨V, hVV⟩ : ∃ V, V = wr := ⟨_, rfl⟩
        obtain ⟨gs, hgs⟩ : ∃ gs, gs = wr.heap.size := ⟨_, rfl⟩
        have HGYS : Hid (gs ≤ gy) := by rw [hgs]; exact hgy
        have HGY : Hid (gw ≤ gy) := Nat.le_trans HD.out.sz hgy
        have HGS : Hid (gs ≤ V.heap.size) := by rw [hgs, hVV]; exact Nat.le_refl _
        have DY0 : Hid (Dk w wc gw b2 rv2 mv2 last 50 xs A1' n1' c1' M) := by
          have h9 := HD.out.below HB0.out
          exact ⟨HW2.out, fun q hq => Nat.le_trans HD.out.sz (HF0.out q hq), h9.bel, h9.sz, h9.lies, fun b' o p e h8 => by have := HD.out.old b' o p e; have := HF0.out b' h8; omega, h9.old, h9.len, h9.cap, h9.nil, h9.form, h9.tok, h9.asc, h9.lo, h9.m1, h9.m2, h9.few⟩
        have HBV0 : Hid (Below gs V wc) := by rw [hgs, hVV]; exact HB0.out
        have DVV : Hid (Dk w V gw b rv mv last 50 xs A1' n1' c1' M) := by rw [hVV]; exact HD.out
        have BXV : Hid (Blk V gx 28 #[.int .i64 50, .int .i64 last, .slice A1' n1' c1']) := by rw [hVV]; exact HX.out
        have HSV : Hid (gs = V.heap.size) := by rw [hgs, hVV]; rfl
        rw [← hgs] at HF0
        obtain ⟨last1, hlast1⟩ : ∃ x, x = last := ⟨_, rfl⟩
        obtain ⟨A1, hA1⟩ : ∃ x, x = A1' := ⟨_, rfl⟩
        obtain ⟨n1, hn1⟩ : ∃ x, x = n1' := ⟨_, rfl⟩
        obtain ⟨c1, hc1⟩ : ∃ x, x = c1' := ⟨_, rfl⟩
        obtain ⟨xs1, hxs1⟩ : ∃ x, x = xs := ⟨_, rfl⟩
        obtain ⟨M1, hM1⟩ : ∃ x, x = M := ⟨_, rfl⟩
        rw [← hlast1, ← hA1, ← hn1, ← hc1, ← hxs1, ← hM1] at DY0 DVV
        rw [← hlast1, ← hA1, ← hn1, ← hc1] at HY0 BXV
        have hli1 : last1 ≤ 30 := by omega
        clear HD HX HW2 HB0 CC g0 g1 g2 g0d g1d g2d hgxl hVV hgs hgy hlast1 hA1 hn1 hc1 hxs1 hM1 hli
        obtain ⟨rv1, hrv1⟩ : ∃ x, x = rv := ⟨_, rfl⟩
        obtain ⟨mv1, hmv1⟩ : ∃ x, x = mv := ⟨_, rfl⟩
        rw [← hrv1, ← hmv1] at DVV
        clear hrv1 hmv1
        go_wp2_with fail
        go_loopw [7, 11] (fun _ vi W => ∃ (i : Nat) (last : Int) (A' : Option Addr) (n' c' : Nat) (rv mv : Value) (xs M : List Wt), vi = .int .i64 i ∧ i ≤ 30 ∧ last ≤ (i : Int) + 30 ∧ Hid (Dk w W gw b2 rv mv last 50 xs A' n' c' M) ∧ Hid (Blk W gy 28 #[.int .i64 50, .int .i64 last, .slice A' n' c']) ∧ Hid (∀ q, Bad b2 rv mv q → gs ≤ q) ∧ Hid (Below gs V W)) (fun _ vi _ => 30 - (intOf vi).toNat)
        case atStart => exact ⟨0, last1, A1, n1, c1, _, _, xs1, M1, rfl, by omega, by omega, DY0, HY0, HF0, HBV0⟩
        case round =>
          clear DY0 HY0 HF0 HBV0
          obtain ⟨i, last, A1', n1', c1', rv, mv, xs, M, rfl, hi80, hli, HD, HX, HF, HBV⟩ := hrel
          by_cases hin : i < nb
          · by_cases hi8 : i < 30
            · have d1 : (i : Int) < (nb : Int) := by omega
              have d2 : (i : Int) < 30 := by omega
              have d0 : (0 : Int) ≤ (i : Int) := by omega
              have hiL : i < Lb.length := by have := HNBB.out; omega
              obtain ⟨ba, oa, rfl⟩ : ∃ ba oa, Ab = some ⟨ba, oa, none⟩ := by
                obtain ⟨b9, o9, e9, _⟩ := HATB.out.one (k := i * 4) (tv_at Lb i hiL 0 (by omega))
                exact ⟨b9, o9, e9⟩
              obtain ⟨hba, k0, k1, k2, k3⟩ := act_cells HATB.out hiL
              have hbg : ba < gw := by have := HG.out; omega
              have bc := fun o => HD.out.bel.cell (p := ⟨ba, o, none⟩) hbg
              have f0 := (bc _).trans k0
              have f1 := (bc _).trans k1
              have f2 := (bc _).trans k2
              have f3 := (bc _).trans k3
              have HO := Lib.hid (HOKB.out (g Lb i) (List.mem_of_getElem? (g_at hiL)))
              have g0 : wr.cell? ⟨gy, 0, none⟩ = some (.int .i64 50) := HX.out.cell 0 rfl
              have g1 : wr.cell? ⟨gy, 1, none⟩ = some (.int .i64 last) := HX.out.cell 1 rfl
              have g2 : wr.cell? ⟨gy, 2, none⟩ = some (.slice A1' n1' c1') := HX.out.cell 2 rfl
              have hgxl : gy < wr.heap.size := HX.out.lt
              have hbal : ba < wr.heap.size := by have := HD.out.sz; omega
              have hnba : ¬ Bad b2 rv mv ba := fun e => by have := HD.out.new _ e; omega
              have HNBA := Lib.hid hnba
              have HNB : Hid (¬ Bad b2 rv mv gy) := HD.out.free HX.out
              have C9 : Hid (∀ W', Below wr.heap.size wr W' → Calls Try.prog 12 #[.pointer (some ⟨b2, 0, none⟩), .agg #[.int .i64 50, .int .i64 last, .slice A1' n1' c1'], .agg #[.int .i64 (g Lb i).tok, .int .i64 (g Lb i).dl, .int .i64 (g Lb i).k, .int .i64 (g Lb i).n]] W' fun e Z => ∃ last' A' n' c' rv' mv' xs' L', e = .returned (.tuple #[.agg #[.int .i64 50, .int .i64 last', .slice A' n' c'], .bool true]) ∧ Dk w Z gw b2 rv' mv' last' 50 xs' A' n' c' L' ∧ Way1 W' Z b2 rv mv rv' mv' ∧ last' ≤ last + 1) := fun W' hW => do_any w W' gw b2 rv mv last 50 xs M A1' n1' c1' (g Lb i) (HD.out.below hW) (by omega)
              clear k0 k1 k2 k3 hba bc hiL hbg hnba HO
              generalize g Lb i = t at *
              have HBB : Beside (Bad b2 rv mv) wr wr := Beside.refl _ _
              have HBD : Beside (Bad b2 rv mv) wr wr.drew := (Beside.refl _ wr).drewN 1
              have g0d : wr.drew.cell? ⟨gy, 0, none⟩ = some (.int .i64 50) := g0
              have g1d : wr.drew.cell? ⟨gy, 1, none⟩ = some (.int .i64 last) := g1
              have g2d : wr.drew.cell? ⟨gy, 2, none⟩ = some (.slice A1' n1' c1') := g2
              have f0d : wr.drew.cell? ⟨ba, oa + i * 4, none⟩ = some (.int .i64 t.tok) := f0
              have f1d : wr.drew.cell? ⟨ba, oa + i * 4 + 1, none⟩ = some (.int .i64 t.dl) := f1
              have f2d : wr.drew.cell? ⟨ba, oa + i * 4 + 2, none⟩ = some (.int .i64 t.k) := f2
              have f3d : wr.drew.cell? ⟨ba, oa + i * 4 + 3, none⟩ = some (.int .i64 t.n) := f3
              go_upto_region 19 with fail
              go_region_with (go_at_call 12; (with_reducible refine (C9.out _ ?_).mono ?_); (exact below_drew1 wr); rintro e w5 ⟨last5, A5, n5, c5, rv5, mv5, xs5, M5, rfl, hd5, hw5, hl5⟩; have BE5 : Beside (Bad b2 rv mv) wr w5 := HBD.trans hw5.1; have HZX : Hid (Blk w5 gy 28 #[.int .i64 50, .int .i64 last, .slice A1' n1' c1']) := blk_of BE5 HNB.out HX.out; have z0 : w5.cell? ⟨gy, 0, none⟩ = some (.int .i64 50) := HZX.out.cell 0 rfl; have z1 : w5.cell? ⟨gy, 1, none⟩ = some (.int .i64 last) := HZX.out.cell 1 rfl; have z2 : w5.cell? ⟨gy, 2, none⟩ = some (.slice A1' n1' c1') := HZX.out.cell 2 rfl; have zf0 : w5.frozen? ⟨gy, 0, none⟩ = false := HZX.out.frozen 0; have zf1 : w5.frozen? ⟨gy, 1, none⟩ = false := HZX.out.frozen 1; have zf2 : w5.frozen? ⟨gy, 2, none⟩ = false := HZX.out.frozen 2; have HD5 := Lib.hid hd5; have HW5 := Lib.hid hw5; have HBE5 := Lib.hid BE5; clear hd5 hw5 BE5)
              all_goals
                obtain ⟨Z, hZ⟩ : ∃ Z, Z = set3 w5 gy (.int .i64 50) (.int .i64 last5) (.slice A5 n5 c5) := ⟨_, rfl⟩
                have hbs : Beside (fun x => x = gy) w5 Z := by rw [hZ]; exact beside_set3 (Beside.refl (fun x => x = gy) w5) (.inl rfl) _ _ _
                have DV : Hid (Dk w Z gw b2 rv5 mv5 last5 50 xs5 A5 n5 c5 M5) := HD5.out.put2 hbs (HD5.out.free HZX.out) (HD5.out.ne HZX.out) HGY.out
                have BV : Hid (Blk Z gy 28 #[.int .i64 50, .int .i64 last5, .slice A5 n5 c5]) := by rw [hZ]; exact blk_set3 HZX.out _ _ _
                have hsw : gs ≤ wr.heap.size := Nat.le_trans HGS.out HBV.out.size
                have FV : Hid (∀ q, Bad b2 rv5 mv5 q → gs ≤ q) := fun q hq => by
                  rcases HW5.out.2 q hq with h9 | h9
                  · exact HF.out q h9
                  · exact Nat.le_trans hsw h9
                have BVV : Hid (Below gs V Z) := hbs.below (HBE5.out.below HBV.out hsw HF.out) (Nat.le_trans hsw HBE5.out.size) (fun q hq => by rw [hq]; exact HGYS.out)
                unfold set3 at hZ
                have HZ := Lib.hid hZ
                clear hZ hbs C9
                go_wp2_with fail
                rw [← HZ.out]
                exact ⟨⟨i + 1, last5, A5, n5, c5, rv5, mv5, xs5, M5, rfl, by omega, by omega, DV, BV, FV, BVV⟩, by simp only [intOf]; omega⟩
            · have d1 : (i : Int) < (nb : Int) := by omega
              have d2 : ¬ ((i : Int) < 30) := by omega
              obtain ⟨Q, hQ⟩ : ∃ Q, Q = wr := ⟨_, rfl⟩
              have hbQ : Below V.heap.size V Q := by rw [hQ, ← HSV.out]; exact HBV.out
              have D1 : Hid (Dk w Q gw b rv1 mv1 last1 50 xs1 A1 n1 c1 M1) := DVV.out.below hbQ
              have X1 := BXV.out.below hbQ
              have D2 : Hid (Dk w Q gw b2 rv mv last 50 xs A1' n1' c1' M) := by rw [hQ]; exact HD.out
              have Y1 : Blk Q gy 28 #[.int .i64 50, .int .i64 last, .slice A1' n1' c1'] := by rw [hQ]; exact HX.out
              have CL1 : Hid (∀ W', Below Q.heap.size Q W' → Calls Try.prog 15 #[.pointer (some ⟨b, 0, none⟩)] W' fun e w'' => ∃ A6 c6, e = .returned (.slice A6 n1 c6) ∧ At w'' A6 (tv (doc xs1 M1)) ∧ Below W'.heap.size W' w'') := fun W' hW => by rw [D1.out.len]; exact list_any b rv1 mv1 last1 50 xs1 M1 W' (D1.out.qm.below hW)
              have CL2 : Hid (∀ W', Below Q.heap.size Q W' → Calls Try.prog 15 #[.pointer (some ⟨b2, 0, none⟩)] W' fun e w'' => ∃ A6 c6, e = .returned (.slice A6 n1' c6) ∧ At w'' A6 (tv (doc xs M)) ∧ Below W'.heap.size W' w'') := fun W' hW => by rw [D2.out.len]; exact list_any b2 rv mv last 50 xs M W' (D2.out.qm.below hW)
              have h56 : n1 ≤ 1000000 := by have := D1.out.few; omega
              have h57 : n1' ≤ 1000000 := by have := D2.out.few; omega
              have CS1 : Hid (∀ A6 c6 W', Below Q.heap.size Q W' → At W' A6 (tv (doc xs1 M1)) → Calls Try.prog 14 #[.slice A6 n1 c6, .slice A1 n1 c1] W' fun e w'' => e = .returned (.bool true) ∧ Below W'.heap.size W' w'') := fun A6 c6 W' hW ha => same_any A6 A1 n1 c6 c1 (doc xs1 M1) W' (by rw [doc_len]; exact D1.out.len) h56 ha (D1.out.lies.below hW)
              have CS2 : Hid (∀ A6 c6 W', Below Q.heap.size Q W' → At W' A6 (tv (doc xs M)) → Calls Try.prog 14 #[.slice A6 n1' c6, .slice A1' n1' c1'] W' fun e w'' => e = .returned (.bool true) ∧ Below W'.heap.size W' w'') := fun A6 c6 W' hW ha => same_any A6 A1' n1' c6 c1' (doc xs M) W' (by rw [doc_len]; exact D2.out.len) h57 ha (D2.out.lies.below hW)
              have v1 : Q.cell? ⟨gx, 2, none⟩ = some (.slice A1 n1 c1) := X1.cell 2 rfl
              have v2 : Q.cell? ⟨gy, 2, none⟩ = some (.slice A1' n1' c1') := Y1.cell 2 rfl
              have hgxQ : gx < Q.heap.size := X1.lt
              have hgyQ : gy < Q.heap.size := Y1.lt
              have HQB : Hid (Below gw w Q) := D1.out.bel
              have HQS : Hid (gw ≤ Q.heap.size) := D1.out.sz
              have HQ := Lib.hid hQ
              clear hQ hbQ X1 Y1 h56 h57 HD HX HF HBV
              go_upto_region 22 with fail
              rw [← HQ.out]
              clear HQ
              have HBQ := Below.refl Q.heap.size Q
              have HBQd := below_drew1 Q
              change Code.wp _ _ _ _ Q
              go_region_held3 (fun w' => w'.cell? ⟨gx, 2, none⟩ = some (.slice A1 n1 c1) ∧ w'.cell? ⟨gy, 2, none⟩ = some (.slice A1' n1' c1') ∧ Below Q.heap.size Q w') (first | (refine ⟨?_, ?_, ?_⟩ <;> first | assumption | go_keep) | go_keep)
                (first
                | (go_at_call 15; go_split_ands; (with_reducible refine (CL1.out _ ?_).mono ?_); (first | assumption | exact HBQd); rintro e w6 ⟨A6, c6, rfl, ha6, hb6⟩; have HAT6 := Lib.hid ha6; have B6 : Below Q.heap.size Q w6 := (by refine below_join ?_ hb6; first | assumption | exact HBQd); have p6 := (B6.cell (p := ⟨gx, 2, none⟩) hgxQ).trans v1; have q6 := (B6.cell (p := ⟨gy, 2, none⟩) hgyQ).trans v2; clear ha6 hb6)
                | (go_at_call 14; go_split_ands; (with_reducible refine (CS1.out _ _ _ ?_ HAT6.out).mono ?_); (first | assumption | exact HBQd); rintro e w7 ⟨rfl, hb7⟩; have B7 : Below Q.heap.size Q w7 := (by refine below_join ?_ hb7; assumption); have p7 := (B7.cell (p := ⟨gx, 2, none⟩) hgxQ).trans v1; have q7 := (B7.cell (p := ⟨gy, 2, none⟩) hgyQ).trans v2; clear hb7)
                | (go_at_call 15; go_split_ands; (with_reducible refine (CL2.out _ ?_).mono ?_); (first | assumption | exact HBQd); rintro e w8 ⟨A8, c8, rfl, ha8, hb8⟩; have HAT8 := Lib.hid ha8; have B8 : Below Q.heap.size Q w8 := (by refine below_join ?_ hb8; first | assumption | exact HBQd); have p8 := (B8.cell (p := ⟨gx, 2, none⟩) hgxQ).trans v1; have q8 := (B8.cell (p := ⟨gy, 2, none⟩) hgyQ).trans v2; clear ha8 hb8)
                | (go_at_call 14; go_split_ands; (with_reducible refine (CS2.out _ _ _ ?_ HAT8.out).mono ?_); (first | assumption | exact HBQd); rintro e w9 ⟨rfl, hb9⟩; have B9 : Below Q.heap.size Q w9 := (by refine below_join ?_ hb9; assumption); have p9 := (B9.cell (p := ⟨gx, 2, none⟩) hgxQ).trans v1; have q9 := (B9.cell (p := ⟨gy, 2, none⟩) hgyQ).trans v2; have HB9 := Lib.hid B9; clear hb9))
              all_goals
                go_split_ands
                go_wp2
                go_ret
                exact ⟨rfl, by rw [← HG.out]; exact HQB.out.trans (HB9.out.mono HQS.out)⟩
          · have d1 : ¬ ((i : Int) < (nb : Int)) := by omega
            obtain ⟨Q, hQ⟩ : ∃ Q, Q = wr := ⟨_, rfl⟩
            have hbQ : Below V.heap.size V Q := by rw [hQ, ← HSV.out]; exact HBV.out
            have D1 : Hid (Dk w Q gw b rv1 mv1 last1 50 xs1 A1 n1 c1 M1) := DVV.out.below hbQ
            have X1 := BXV.out.below hbQ
            have D2 : Hid (Dk w Q gw b2 rv mv last 50 xs A1' n1' c1' M) := by rw [hQ]; exact HD.out
            have Y1 : Blk Q gy 28 #[.int .i64 50, .int .i64 last, .slice A1' n1' c1'] := by rw [hQ]; exact HX.out
            have CL1 : Hid (∀ W', Below Q.heap.size Q W' → Calls Try.prog 15 #[.pointer (some ⟨b, 0, none⟩)] W' fun e w'' => ∃ A6 c6, e = .returned (.slice A6 n1 c6) ∧ At w'' A6 (tv (doc xs1 M1)) ∧ Below W'.heap.size W' w'') := fun W' hW => by rw [D1.out.len]; exact list_any b rv1 mv1 last1 50 xs1 M1 W' (D1.out.qm.below hW)
            have CL2 : Hid (∀ W', Below Q.heap.size Q W' → Calls Try.prog 15 #[.pointer (some ⟨b2, 0, none⟩)] W' fun e w'' => ∃ A6 c6, e = .returned (.slice A6 n1' c6) ∧ At w'' A6 (tv (doc xs M)) ∧ Below W'.heap.size W' w'') := fun W' hW => by rw [D2.out.len]; exact list_any b2 rv mv last 50 xs M W' (D2.out.qm.below hW)
            have h56 : n1 ≤ 1000000 := by have := D1.out.few; omega
            have h57 : n1' ≤ 1000000 := by have := D2.out.few; omega
            have CS1 : Hid (∀ A6 c6 W', Below Q.heap.size Q W' → At W' A6 (tv (doc xs1 M1)) → Calls Try.prog 14 #[.slice A6 n1 c6, .slice A1 n1 c1] W' fun e w'' => e = .returned (.bool true) ∧ Below W'.heap.size W' w'') := fun A6 c6 W' hW ha => same_any A6 A1 n1 c6 c1 (doc xs1 M1) W' (by rw [doc_len]; exact D1.out.len) h56 ha (D1.out.lies.below hW)
            have CS2 : Hid (∀ A6 c6 W', Below Q.heap.size Q W' → At W' A6 (tv (doc xs M)) → Calls Try.prog 14 #[.slice A6 n1' c6, .slice A1' n1' c1'] W' fun e w'' => e = .returned (.bool true) ∧ Below W'.heap.size W' w'') := fun A6 c6 W' hW ha => same_any A6 A1' n1' c6 c1' (doc xs M) W' (by rw [doc_len]; exact D2.out.len) h57 ha (D2.out.lies.below hW)
            have v1 : Q.cell? ⟨gx, 2, none⟩ = some (.slice A1 n1 c1) := X1.cell 2 rfl
            have v2 : Q.cell? ⟨gy, 2, none⟩ = some (.slice A1' n1' c1') := Y1.cell 2 rfl
            have hgxQ : gx < Q.heap.size := X1.lt
            have hgyQ : gy < Q.heap.size := Y1.lt
            have HQB : Hid (Below gw w Q) := D1.out.bel
            have HQS : Hid (gw ≤ Q.heap.size) := D1.out.sz
            have HQ := Lib.hid hQ
            clear hQ hbQ X1 Y1 h56 h57 HD HX HF HBV
            go_upto_region 22 with fail
            rw [← HQ.out]
            clear HQ
            have HBQ := Below.refl Q.heap.size Q
            have HBQd := below_drew1 Q
            change Code.wp _ _ _ _ Q
            go_region_held3 (fun w' => w'.cell? ⟨gx, 2, none⟩ = some (.slice A1 n1 c1) ∧ w'.cell? ⟨gy, 2, none⟩ = some (.slice A1' n1' c1') ∧ Below Q.heap.size Q w') (first | (refine ⟨?_, ?_, ?_⟩ <;> first | assumption | go_keep) | go_keep)
              (first
              | (go_at_call 15; go_split_ands; (with_reducible refine (CL1.out _ ?_).mono ?_); (first | assumption | exact HBQd); rintro e w6 ⟨A6, c6, rfl, ha6, hb6⟩; have HAT6 := Lib.hid ha6; have B6 : Below Q.heap.size Q w6 := (by refine below_join ?_ hb6; first | assumption | exact HBQd); have p6 := (B6.cell (p := ⟨gx, 2, none⟩) hgxQ).trans v1; have q6 := (B6.cell (p := ⟨gy, 2, none⟩) hgyQ).trans v2; clear ha6 hb6)
              | (go_at_call 14; go_split_ands; (with_reducible refine (CS1.out _ _ _ ?_ HAT6.out).mono ?_); (first | assumption | exact HBQd); rintro e w7 ⟨rfl, hb7⟩; have B7 : Below Q.heap.size Q w7 := (by refine below_join ?_ hb7; assumption); have p7 := (B7.cell (p := ⟨gx, 2, none⟩) hgxQ).trans v1; have q7 := (B7.cell (p := ⟨gy, 2, none⟩) hgyQ).trans v2; clear hb7)
              | (go_at_call 15; go_split_ands; (with_reducible refine (CL2.out _ ?_).mono ?_); (first | assumption | exact HBQd); rintro e w8 ⟨A8, c8, rfl, ha8, hb8⟩; have HAT8 := Lib.hid ha8; have B8 : Below Q.heap.size Q w8 := (by refine below_join ?_ hb8; first | assumption | exact HBQd); have p8 := (B8.cell (p := ⟨gx, 2, none⟩) hgxQ).trans v1; have q8 := (B8.cell (p := ⟨gy, 2, none⟩) hgyQ).trans v2; clear ha8 hb8)
              | (go_at_call 14; go_split_ands; (with_reducible refine (CS2.out _ _ _ ?_ HAT8.out).mono ?_); (first | assumption | exact HBQd); rintro e w9 ⟨rfl, hb9⟩; have B9 : Below Q.heap.size Q w9 := (by refine below_join ?_ hb9; assumption); have p9 := (B9.cell (p := ⟨gx, 2, none⟩) hgxQ).trans v1; have q9 := (B9.cell (p := ⟨gy, 2, none⟩) hgyQ).trans v2; have HB9 := Lib.hid B9; clear hb9))
            all_goals
              go_split_ands
              go_wp2
              go_ret
              exact ⟨rfl, by rw [← HG.out]; exact HQB.out.trans (HB9.out.mono HQS.out)⟩
end Fr
end Go.Proofs.Ytpdlholoeaphgaa
