/- Contract of the statements' do, at a cancel and at a frame. -/
import Derived.Test.YtpdlholoeaphgaaFrM
import Derived.Test.YtpdlholoeaphgaaFrS
import Derived.Deep.RegionWith
import Derived.Deep.DeepCutAuto
namespace Go.Proofs.Ytpdlholoeaphgaa
open Go.RowKit
namespace Fr
theorem fk_new {w W w5 : World} {gw b : Nat} {r1 r2 r1' r2' : Value} {last last' most : Int} {a1 a2 a1' a2' : List Wt} {A A6 : Option Addr} {n c c6 : Nat} (hD : Fk w W gw b r1 r2 last most a1 a2 A n c) (hw : Way W w5 b r1 r2 r1' r2') (hq : Qm w5 b 78 [] [] r1' r2' last' most a1' a2') (hA : At w5 A6 (tv (doc a1' a2')))
    (hsep : ∀ b' o p, A6 = some ⟨b', o, p⟩ → p = none ∧ b' < w5.heap.size ∧ ¬ Qb b r1' r2' b') (hcap : a1'.length + a2'.length ≤ c6) (hnil : A6 = none → a1'.length + a2'.length = 0 ∧ c6 = 0) (htok : ∀ x ∈ a1' ++ a2', 1 ≤ x.tok ∧ x.tok ≤ last') (hasc : Asc (a1' ++ a2')) (hlo : 0 ≤ last') (hfew : ((a1'.length + a2'.length : Nat) : Int) ≤ most) :
    Fk w w5 gw b r1' r2' last' most a1' a2' A6 (a1'.length + a2'.length) c6 :=
  ⟨hq, fun q h => by rcases hw.2 q h with h9 | h9; exact hD.new q h9; exact Nat.le_trans hD.sz h9, hw.1.below hD.bel hD.sz (fun q h => hD.new q h), Nat.le_trans hD.sz hw.1.size, hA, fun b' o p e => (hsep b' o p e).2.2, fun b' o p e => (hsep b' o p e).2.1, rfl, hcap, hnil, by
    cases A6 with
    | none => exact .inl rfl
    | some ad =>
      obtain ⟨b', o, p⟩ := ad
      exact .inr ⟨b', o, by rw [(hsep b' o p rfl).1]⟩, htok, hasc, hlo, hD.m1, hD.m2, hfew⟩
theorem Way.put {W w5 Z : World} {b r : Nat} {r1 r2 r1' r2' : Value} (h : Way W w5 b r1 r2 r1' r2') (hb : Beside (fun x => x = r) w5 Z) (hr : W.heap.size ≤ r) : Way W Z b r1 r2 r1' r2' :=
  ⟨⟨hb.os.trans h.1.os, hb.tape.trans h.1.tape, hb.output.trans h.1.output, Nat.le_trans h.1.size hb.size, fun g hg hn => (hb.block g (Nat.lt_of_lt_of_le hg h.1.size) (fun e => by omega)).trans (h.1.block g hg hn)⟩, h.2⟩
set_option maxHeartbeats 4000000 in
set_option maxRecDepth 100000 in
theorem do_can (w W : World) (gw b : Nat) (r1 r2 : Value) (last most : Int) (a1 a2 : List Wt) (A : Option Addr) (n c : Nat) (a : Tm) (hD : Fk w W gw b r1 r2 last most a1 a2 A n c) (hk : a.tok = 1) :
    Calls Try.prog 12 #[.pointer (some ⟨b, 0, none⟩), rv16 most last A n c, tmv a] W fun e Z => ∃ A' c' r1' r2', e = .returned (.tuple #[rv16 most last A' ((keep a.dl a1).length + (keep a.dl a2).length) c', .bool true]) ∧ Fk w Z gw b r1' r2' last most (keep a.dl a1) (keep a.dl a2) A' ((keep a.dl a1).length + (keep a.dl a2).length) c' ∧ Way W Z b r1 r2 r1' r2' := by
  have mixed : Try.prog.follows .mixedOrders = true := by kernel_rfl
  unfold rv16 tmv
  obtain ⟨hb, hs, h0, h1, h2⟩ := do0_facts W most last A n c a
  obtain ⟨V, hV⟩ : ∃ V, V = do0 W most last A n c a := ⟨_, rfl⟩
  rw [← hV] at hb hs h0 h1 h2
  have hDV := hD.below hb
  have hblt := hD.qm.bad_lt
  have p0 : V.cell? ⟨W.heap.size + 1, 0, none⟩ = some (.int .i64 a.tok) := h1.cell 0 rfl
  have p1 : V.cell? ⟨W.heap.size + 1, 1, none⟩ = some (.int .i64 a.dl) := h1.cell 1 rfl
  have p2 : V.cell? ⟨W.heap.size + 1, 2, none⟩ = some (.int .i64 a.k) := h1.cell 2 rfl
  have p3 : V.cell? ⟨W.heap.size + 1, 3, none⟩ = some (.int .i64 a.n) := h1.cell 3 rfl
  have s0 : V.cell? ⟨W.heap.size, 0, none⟩ = some (.int .i64 most) := h0.cell 0 rfl
  have s1 : V.cell? ⟨W.heap.size, 1, none⟩ = some (.int .i64 last) := h0.cell 1 rfl
  have s2 : V.cell? ⟨W.heap.size, 2, none⟩ = some (.slice A n c) := h0.cell 2 rfl
  have hkb : (a.tok == 1) = true := beq_iff_eq.2 hk
  have hkb0 : (a.tok == 0) = false := by rw [hk]; rfl
  clear hk
  obtain ⟨hs1, hs2, hs12⟩ := asc_app hD.asc
  have h12 : ∀ x ∈ a1, ∀ y ∈ a2, x.tok ≠ y.tok := fun x hx y hy e => by have := hs12 x hx y hy; omega
  have hn9 : n ≤ 100000 := by have := hD.few; have := hD.m2; omega
  obtain ⟨bv, hbv⟩ : ∃ bv, bv = decide (∃ x ∈ a1 ++ a2, x.tok = a.dl) := ⟨_, rfl⟩
  have hbv2 : decide ((flt a.dl (doc a1 a2)).length < n) = bv := by
    rw [hbv]
    apply decide_eq_decide.2
    rw [← keep_lt, flt_doc, doc_len, keep_app, List.length_append, List.length_append, hD.len]
  have C2 := rcancel_any most last a.dl A n c (doc a1 a2) V (by rw [doc_len]; exact hD.len) hn9 hDV.lies
  rw [hbv2, flt_doc, doc_len] at C2
  have C2 := Lib.hid C2
  have HN := Lib.hid hD.len
  have CF := Lib.hid (fun U (hU : Below V.heap.size V U) => fcancel_any b 0 78 [] [] r1 r2 last most a.dl a1 a2 U (hDV.qm.below hU) rfl (by decide) hs1 hs2 h12)
  have HBV := Lib.hid hbv
  have HD := Lib.hid hD
  have HDV := Lib.hid hDV
  have HBL := Lib.hid hblt
  have H0 := Lib.hid h0
  have H1 := Lib.hid h1
  have H2 := Lib.hid h2
  have HB := Lib.hid hb
  have HS := Lib.hid hs
  unfold do0 at hV
  have HV := Lib.hid hV
  clear hV hb hs h0 h1 h2 hDV hblt hD hs1 hs2 hs12 h12 hn9 hbv hbv2
  unfold rv16 at C2
  generalize hM : (keep a.dl a1).length + (keep a.dl a2).length = M at *
  have HM := Lib.hid hM
  clear hM
  go_enter Try.func12, Try.ntmps12
  go_upto_region 1 with fail
  rw [← HV.out]
  go_wp2_with fail
  refine C2.out.mono ?_
  rintro e w2 ⟨A6, c6, rfl, hc6, hm6, hat6, hnil6, hnew6, hb2⟩
  obtain ⟨U, hU⟩ : ∃ U, U = w2.alloc (.cells #[.int .i64 most, .int .i64 last, .slice A6 M c6] 28) := ⟨_, rfl⟩
  have hb2U : Below w2.heap.size w2 U := hU ▸ below_alloc w2 _
  have hbU : Below V.heap.size V U := Fr.below_join hb2 hb2U
  have uX : Blk U w2.heap.size 28 #[.int .i64 most, .int .i64 last, .slice A6 M c6] := by rw [hU]; exact Blk.new _ _ _
  have u1 := H1.out.below hbU
  have u2 := H2.out.below hbU
  have hs2 := hb2.size
  have hsV := HS.out
  have C5 := Lib.hid (CF.out U.drew (Fr.below_join hbU (Fr.below_drew1 U)))
  have x0 : U.cell? ⟨w2.heap.size, 0, none⟩ = some (.int .i64 most) := uX.cell 0 rfl
  have x1 : U.cell? ⟨w2.heap.size, 1, none⟩ = some (.int .i64 last) := uX.cell 1 rfl
  have x2 : U.cell? ⟨w2.heap.size, 2, none⟩ = some (.slice A6 M c6) := uX.cell 2 rfl
  have y1 : U.cell? ⟨W.heap.size + 1, 1, none⟩ = some (.int .i64 a.dl) := u1.cell 1 rfl
  have x0d : U.drew.cell? ⟨w2.heap.size, 0, none⟩ = some (.int .i64 most) := uX.cell 0 rfl
  have x1d : U.drew.cell? ⟨w2.heap.size, 1, none⟩ = some (.int .i64 last) := uX.cell 1 rfl
  have x2d : U.drew.cell? ⟨w2.heap.size, 2, none⟩ = some (.slice A6 M c6) := uX.cell 2 rfl
  have y1d : U.drew.cell? ⟨W.heap.size + 1, 1, none⟩ = some (.int .i64 a.dl) := u1.cell 1 rfl
  have nb : ∀ q, W.heap.size ≤ q → ¬ Qb b r1 r2 q := fun q hq e => by have := HBL.out q e; omega
  have FC : Hid (∀ W', Beside (Qb b r1 r2) U.drew W' → Blk W' w2.heap.size 28 #[.int .i64 most, .int .i64 last, .slice A6 M c6] ∧ Blk W' (W.heap.size + 1 + 1) 28 #[.int .i64 0, .int .i64 0, .slice none 0 0]) := fun W' hW => ⟨(hW.block _ (show w2.heap.size < U.drew.heap.size from uX.lt) (nb _ (by omega))).trans uX, (hW.block _ (show W.heap.size + 1 + 1 < U.drew.heap.size from u2.lt) (nb _ (by omega))).trans u2⟩
  have XX : Hid (∀ w5 Z r1' r2', Beside (fun x => x = W.heap.size + 1 + 1) w5 Z → Qm w5 b 78 [] [] r1' r2' last most (keep a.dl a1) (keep a.dl a2) → Beside (Qb b r1 r2) U.drew w5 → r1'.ownBlock = r1.ownBlock → r2'.ownBlock = r2.ownBlock → Fk w Z gw b r1' r2' last most (keep a.dl a1) (keep a.dl a2) A6 M c6 ∧ Way W Z b r1 r2 r1' r2') := by
    intro w5 Z r1' r2' hbZ hq hb5 e1 e2
    have hqb : ∀ q, Qb b r1' r2' q ↔ Qb b r1 r2 q := fun q => by unfold Qb; rw [e1, e2]
    have hWU : Below W.heap.size W U.drew := HB.out.trans ((Fr.below_join hbU (Fr.below_drew1 U)).mono HB.out.size)
    have hway : Way W w5 b r1 r2 r1' r2' := ⟨(Beside.ofBelow hWU).trans hb5, fun q h => .inl ((hqb q).1 h)⟩
    have hlies : At w5 A6 (tv (doc (keep a.dl a1) (keep a.dl a2))) := hb5.at ((hat6.below hb2U).drewN 1) (fun b' o p e => nb _ (by have := (hnew6 b' o p e).1; omega))
    have hF := fk_new (c6 := c6) HD.out hway hq hlies (fun b' o p e => ⟨(hnew6 b' o p e).2.1, Nat.lt_of_lt_of_le (hnew6 b' o p e).2.2 (Nat.le_trans hb2U.size hb5.size), fun h => nb _ (by have := (hnew6 b' o p e).1; omega) ((hqb _).1 h)⟩) (by rw [HM.out]; exact hc6) (by rw [HM.out]; exact hnil6) (fun x hx => HD.out.tok x (by rw [← keep_app] at hx; exact keep_mem hx)) (by rw [← keep_app]; exact asc_keep2 HD.out.asc _) HD.out.lo (by have h8 := HD.out.few; have h7 := keep_len a.dl a1; have h6 := keep_len a.dl a2; have h5 := HN.out; omega)
    rw [HM.out] at hF
    exact ⟨hF.put hbZ (fun e => nb _ (by omega) ((hqb _).1 e)) (fun _ b' o p e => by have := (hnew6 b' o p e).1; omega) (by have := HD.out.sz; omega), hway.put hbZ (by omega)⟩
  have HU := Lib.hid hU
  clear hU hb2U hbU uX u1 u2 hs2 hsV nb hat6 hnil6 hnew6 hb2 hc6 hm6 C2 CF hkb hkb0 p0 p1 p2 p3 s0 s1 s2
  go_upto_region 8 with fail
  rw [← HU.out]
  change Code.wp _ _ _ _ U
  go_region_with (go_at_call 17; (with_reducible refine C5.out.mono ?_); rintro e w5 ⟨r1', r2', rfl, hq5, hb5, e15, e25⟩; rw [← HBV.out]; obtain ⟨zX, zR⟩ := FC.out w5 hb5; have zx0 : w5.cell? ⟨w2.heap.size, 0, none⟩ = some (.int .i64 most) := zX.cell 0 rfl; have zx1 : w5.cell? ⟨w2.heap.size, 1, none⟩ = some (.int .i64 last) := zX.cell 1 rfl; have zx2 : w5.cell? ⟨w2.heap.size, 2, none⟩ = some (.slice A6 M c6) := zX.cell 2 rfl; have zr0 : w5.cell? ⟨W.heap.size + 1 + 1, 0, none⟩ = some (.int .i64 0) := zR.cell 0 rfl; have zf0 : w5.frozen? ⟨W.heap.size + 1 + 1, 0, none⟩ = false := zR.frozen 0; have zr1 : w5.cell? ⟨W.heap.size + 1 + 1, 1, none⟩ = some (.int .i64 0) := zR.cell 1 rfl; have zf1 : w5.frozen? ⟨W.heap.size + 1 + 1, 1, none⟩ = false := zR.frozen 1; have zr2 : w5.cell? ⟨W.heap.size + 1 + 1, 2, none⟩ = some (.slice none 0 0) := zR.cell 2 rfl; have zf2 : w5.frozen? ⟨W.heap.size + 1 + 1, 2, none⟩ = false := zR.frozen 2; have HZB := Lib.hid zR; have HQ5 := Lib.hid hq5; have HB5 := Lib.hid hb5; have HE15 := Lib.hid e15; have HE25 := Lib.hid e25; clear zX zR hq5 hb5 e15 e25)
  all_goals
    go_wp2
    obtain ⟨Z, hZ⟩ : ∃ Z, Z = set3 w5 (W.heap.size + 1 + 1) (.int .i64 most) (.int .i64 last) (.slice A6 M c6) := ⟨_, rfl⟩
    have HR1 := Lib.hid (blk_set3 HZB.out (.int .i64 most) (.int .i64 last) (.slice A6 M c6))
    rw [← hZ] at HR1
    have hbZ : Beside (fun x => x = W.heap.size + 1 + 1) w5 Z := by rw [hZ]; exact beside_set3 (Beside.refl (fun x => x = W.heap.size + 1 + 1) w5) (.inl rfl) _ _ _
    have HE := Lib.hid (XX.out w5 Z r1' r2' hbZ HQ5.out HB5.out HE15.out HE25.out)
    unfold set3 at hZ
    rw [← hZ]
    try simp only [Exit.inBlock, Exit.then]
    refine bodyPost_ret (results_mid_tmp rfl _ _ (W.heap.size + 1 + 1) 0 [.int .i64 most, .int .i64 last, .slice A6 M c6] _ rfl (blk_range HR1.out) Try.underlying28 rfl (by kernel_rfl)) rfl ?_
    exact ⟨A6, c6, r1', r2', (by first | rfl | simp), HE.out.1, HE.out.2⟩
set_option maxHeartbeats 4000000 in
set_option maxRecDepth 100000 in
theorem do_frm (w W : World) (gw b : Nat) (r1 r2 : Value) (last most : Int) (a1 a2 : List Wt) (A : Option Addr) (n c : Nat) (a : Tm) (hD : Fk w W gw b r1 r2 last most a1 a2 A n c) (hk0 : a.tok ≠ 0) (hk : a.tok ≠ 1) :
    Calls Try.prog 12 #[.pointer (some ⟨b, 0, none⟩), rv16 most last A n c, tmv a] W fun e Z => ∃ A' c' r1' r2', e = .returned (.tuple #[rv16 most last A' (a2.length + ([] : List Wt).length) c', .bool true]) ∧ Fk w Z gw b r1' r2' last most a2 [] A' (a2.length + ([] : List Wt).length) c' ∧ Way W Z b r1 r2 r1' r2' := by
  have mixed : Try.prog.follows .mixedOrders = true := by kernel_rfl
  unfold rv16 tmv
  obtain ⟨hb, hs, h0, h1, h2⟩ := do0_facts W most last A n c a
  obtain ⟨V, hV⟩ : ∃ V, V = do0 W most last A n c a := ⟨_, rfl⟩
  rw [← hV] at hb hs h0 h1 h2
  have hDV := hD.below hb
  have hblt := hD.qm.bad_lt
  have p0 : V.cell? ⟨W.heap.size + 1, 0, none⟩ = some (.int .i64 a.tok) := h1.cell 0 rfl
  have p1 : V.cell? ⟨W.heap.size + 1, 1, none⟩ = some (.int .i64 a.dl) := h1.cell 1 rfl
  have p2 : V.cell? ⟨W.heap.size + 1, 2, none⟩ = some (.int .i64 a.k) := h1.cell 2 rfl
  have p3 : V.cell? ⟨W.heap.size + 1, 3, none⟩ = some (.int .i64 a.n) := h1.cell 3 rfl
  have s0 : V.cell? ⟨W.heap.size, 0, none⟩ = some (.int .i64 most) := h0.cell 0 rfl
  have s1 : V.cell? ⟨W.heap.size, 1, none⟩ = some (.int .i64 last) := h0.cell 1 rfl
  have s2 : V.cell? ⟨W.heap.size, 2, none⟩ = some (.slice A n c) := h0.cell 2 rfl
  have hkb : (a.tok == 1) = false := by simpa using hk
  have hkb0 : (a.tok == 0) = false := by simpa using hk0
  clear hk hk0
  obtain ⟨hs1, hs2, hs12⟩ := asc_app hD.asc
  have hn9 : n ≤ 100000 := by have := hD.few; have := hD.m2; omega
  have C2 := rframe_any most last A n c (doc a1 a2) V (by rw [doc_len]; exact hD.len) hn9 hDV.lies (doc_dl a1 a2)
  rw [lefts_doc, dues_doc, doc_len, show (lift 0 a1).length = a1.length by simp [lift]] at C2
  have C2 := Lib.hid C2
  have HN := Lib.hid hD.len
  have hr1o := hD.qm.row1
  obtain ⟨A1, c1, hr1, _, _⟩ := own_slice hr1o
  have CF := Lib.hid (fun U (hU : Below V.heap.size V U) => fframe_any b 0 78 [] [] r1 r2 last most a1 a2 U (hDV.qm.below hU) rfl (by decide))
  have hrb := Fr.row_ne_blk hD.qm.row1 hD.qm.blk (by decide)
  have HR1 := Lib.hid hr1
  have HRB := Lib.hid hrb
  have HS2 := Lib.hid hs2
  rw [hr1] at CF
  have h16 : a1.length ≤ 1000000 := by have := hD.qm.few; omega
  have HD := Lib.hid hD
  have HDV := Lib.hid hDV
  have HBL := Lib.hid hblt
  have H0 := Lib.hid h0
  have H1 := Lib.hid h1
  have H2 := Lib.hid h2
  have HB := Lib.hid hb
  have HS := Lib.hid hs
  unfold do0 at hV
  have HV := Lib.hid hV
  clear hV hb hs h0 h1 h2 hDV hblt hD hs1 hs2 hs12 hn9 hr1o hrb hr1
  unfold rv16 at C2
  generalize hM : a2.length + ([] : List Wt).length = M at *
  have HM := Lib.hid hM
  clear hM
  generalize hN1 : a1.length = N1 at *
  have HN1 := Lib.hid hN1
  clear hN1
  go_enter Try.func12, Try.ntmps12
  go_upto_region 1 with fail
  rw [← HV.out]
  go_wp2_with fail
  refine C2.out.mono ?_
  rintro e w2 ⟨A6, c6, A7, c7, rfl, hc6, hm6, hat6, hnil6, hnew6, hc7, hm7, hat7, hnew7, hb2⟩
  obtain ⟨U, hU⟩ : ∃ U, U = w2.alloc (.cells #[.int .i64 most, .int .i64 last, .slice A6 M c6] 28) := ⟨_, rfl⟩
  have hb2U : Below w2.heap.size w2 U := hU ▸ below_alloc w2 _
  have hbU : Below V.heap.size V U := Fr.below_join hb2 hb2U
  have uX : Blk U w2.heap.size 28 #[.int .i64 most, .int .i64 last, .slice A6 M c6] := by rw [hU]; exact Blk.new _ _ _
  have u2 := H2.out.below hbU
  have hs2 := hb2.size
  have hsV := HS.out
  have C5 := Lib.hid (CF.out U.drew (Fr.below_join hbU (Fr.below_drew1 U)))
  have x0 : U.cell? ⟨w2.heap.size, 0, none⟩ = some (.int .i64 most) := uX.cell 0 rfl
  have x1 : U.cell? ⟨w2.heap.size, 1, none⟩ = some (.int .i64 last) := uX.cell 1 rfl
  have x2 : U.cell? ⟨w2.heap.size, 2, none⟩ = some (.slice A6 M c6) := uX.cell 2 rfl
  have x0d : U.drew.cell? ⟨w2.heap.size, 0, none⟩ = some (.int .i64 most) := uX.cell 0 rfl
  have x1d : U.drew.cell? ⟨w2.heap.size, 1, none⟩ = some (.int .i64 last) := uX.cell 1 rfl
  have x2d : U.drew.cell? ⟨w2.heap.size, 2, none⟩ = some (.slice A6 M c6) := uX.cell 2 rfl
  have nb : ∀ q, W.heap.size ≤ q → ¬ Qb b r1 r2 q := fun q hq e => by have := HBL.out q e; omega
  have hbb : b < W.heap.size := HBL.out b (.inl rfl)
  have FC : Hid (∀ W', Beside (fun g => g = b) U.drew W' → Blk W' w2.heap.size 28 #[.int .i64 most, .int .i64 last, .slice A6 M c6] ∧ Blk W' (W.heap.size + 1 + 1) 28 #[.int .i64 0, .int .i64 0, .slice none 0 0]) := fun W' hW => ⟨(hW.block _ (show w2.heap.size < U.drew.heap.size from uX.lt) (by omega)).trans uX, (hW.block _ (show W.heap.size + 1 + 1 < U.drew.heap.size from u2.lt) (by omega)).trans u2⟩
  have hW1U : Below W.heap.size W U.drew := HB.out.trans ((Fr.below_join hbU (Fr.below_drew1 U)).mono HB.out.size)
  have SA : Hid (∀ W', Beside (fun g => g = b) U.drew W' → At W' A1 (tv (lift 0 a1)) ∧ At W' A7 (tv (lift 0 a1))) := by
    intro W' hW
    have ho := hW.keepsOwn (own_below HD.out.qm.row1 hW1U) (fun q hq e => HRB.out (by rw [hq, e]))
    rw [HR1.out, HN1.out] at ho
    refine ⟨by rw [tv_lift]; exact At.own ho, fun hx => ?_⟩
    have hat7b := (hat7.below hb2U).drewN 1
    obtain ⟨b2, o2, e2, hb2', hc2'⟩ := hat7b hx
    have hneb : b2 ≠ b := fun e => by
      have h9 := hnew7 b2 o2 none e2
      omega
    exact ⟨b2, o2, e2, Nat.lt_of_lt_of_le hb2' hW.size, fun j u hu => (World.cell?_of_block (w := U.drew) (hW.block b2 hb2' hneb)).trans (hc2' j u hu)⟩
  have XX : Hid (∀ w5 w6 Z, Beside (fun x => x = W.heap.size + 1 + 1) w6 Z → Below w5.heap.size w5 w6 → Qm w5 b 78 [] [] r2 (.slice none 0 0) last most a2 [] → Beside (fun g => g = b) U.drew w5 → Fk w Z gw b r2 (.slice none 0 0) last most a2 [] A6 M c6 ∧ Way W Z b r1 r2 r2 (.slice none 0 0)) := by
    intro w5 w6 Z hbZ h56 hq hb5
    have hqb : ∀ q, Qb b r2 (.slice none 0 0) q → Qb b r1 r2 q := fun q h => by
      rcases h with h | h | h
      · exact .inl h
      · exact .inr (.inr h)
      · cases h
    have hway : Way W w6 b r1 r2 r2 (.slice none 0 0) := ⟨((Beside.ofBelow hW1U).trans (hb5.mono (fun g hg => .inl hg))).trans (.ofBelow h56), fun q h => .inl (hqb q h)⟩
    have hlies : At w6 A6 (tv (doc a2 [])) := (hb5.at ((hat6.below hb2U).drewN 1) (fun b' o p e => by have := (hnew6 b' o p e).1; omega)).below h56
    have hF := fk_new (c6 := c6) HD.out hway (hq.below h56) hlies (fun b' o p e => ⟨(hnew6 b' o p e).2.1, Nat.lt_of_lt_of_le (hnew6 b' o p e).2.2 (Nat.le_trans hb2U.size (Nat.le_trans hb5.size h56.size)), fun h => nb _ (by have := (hnew6 b' o p e).1; omega) (hqb _ h)⟩) (by rw [HM.out]; exact hc6) (by rw [HM.out]; exact hnil6) (fun x hx => HD.out.tok x (List.mem_append_right _ (by simpa using hx))) (by rw [List.append_nil]; exact HS2.out) HD.out.lo (by have h8 := HD.out.few; have h5 := HN.out; simp only [List.length_nil]; omega)
    rw [HM.out] at hF
    exact ⟨hF.put hbZ (fun e => nb _ (by omega) (hqb _ e)) (fun _ b' o p e => by have := (hnew6 b' o p e).1; omega) (by have := HD.out.sz; omega), hway.put hbZ (by omega)⟩
  have HU := Lib.hid hU
  clear hU hb2U hbU uX u2 hs2 hsV nb hbb hat6 hat7 hnil6 hnew6 hnew7 hb2 hc6 hm6 hc7 hm7 C2 CF hkb hkb0 p0 p1 p2 p3 s0 s1 s2 hW1U
  go_upto_region 10 with fail
  rw [← HU.out]
  change Code.wp _ _ _ _ U
  go_region_with (first
    | (go_at_call 18; (with_reducible refine C5.out.mono ?_); rintro e w5 ⟨rfl, hq5, hb5⟩; have HQ5 := Lib.hid hq5; have HB5 := Lib.hid hb5; obtain ⟨t1, t2⟩ := SA.out w5 hb5; obtain ⟨zX, zR⟩ := FC.out w5 hb5; have zx0 : w5.cell? ⟨w2.heap.size, 0, none⟩ = some (.int .i64 most) := zX.cell 0 rfl; have zx1 : w5.cell? ⟨w2.heap.size, 1, none⟩ = some (.int .i64 last) := zX.cell 1 rfl; have zx2 : w5.cell? ⟨w2.heap.size, 2, none⟩ = some (.slice A6 M c6) := zX.cell 2 rfl; have CS := Lib.hid (same_any A1 A7 N1 c1 c7 (lift 0 a1) w5 (by rw [← HN1.out]; simp [lift]) h16 t1 t2); have HZX := Lib.hid zX; have HZR := Lib.hid zR; clear hq5 hb5 t1 t2 zX zR)
    | (go_at_call 14; (with_reducible refine CS.out.mono ?_); rintro e w6 ⟨rfl, hb6⟩; have zX6 := HZX.out.below hb6; have zR6 := HZR.out.below hb6; have vx0 : w6.cell? ⟨w2.heap.size, 0, none⟩ = some (.int .i64 most) := zX6.cell 0 rfl; have vx1 : w6.cell? ⟨w2.heap.size, 1, none⟩ = some (.int .i64 last) := zX6.cell 1 rfl; have vx2 : w6.cell? ⟨w2.heap.size, 2, none⟩ = some (.slice A6 M c6) := zX6.cell 2 rfl; have zr0 : w6.cell? ⟨W.heap.size + 1 + 1, 0, none⟩ = some (.int .i64 0) := zR6.cell 0 rfl; have zf0 : w6.frozen? ⟨W.heap.size + 1 + 1, 0, none⟩ = false := zR6.frozen 0; have zr1 : w6.cell? ⟨W.heap.size + 1 + 1, 1, none⟩ = some (.int .i64 0) := zR6.cell 1 rfl; have zf1 : w6.frozen? ⟨W.heap.size + 1 + 1, 1, none⟩ = false := zR6.frozen 1; have zr2 : w6.cell? ⟨W.heap.size + 1 + 1, 2, none⟩ = some (.slice none 0 0) := zR6.cell 2 rfl; have zf2 : w6.frozen? ⟨W.heap.size + 1 + 1, 2, none⟩ = false := zR6.frozen 2; have HZB := Lib.hid zR6; have HB6 := Lib.hid hb6; clear zX6 zR6 hb6))
  all_goals
    go_wp2
    obtain ⟨Z, hZ⟩ : ∃ Z, Z = set3 w6 (W.heap.size + 1 + 1) (.int .i64 most) (.int .i64 last) (.slice A6 M c6) := ⟨_, rfl⟩
    have HR1 := Lib.hid (blk_set3 HZB.out (.int .i64 most) (.int .i64 last) (.slice A6 M c6))
    rw [← hZ] at HR1
    have hbZ : Beside (fun x => x = W.heap.size + 1 + 1) w6 Z := by rw [hZ]; exact beside_set3 (Beside.refl (fun x => x = W.heap.size + 1 + 1) w6) (.inl rfl) _ _ _
    have HE := Lib.hid (XX.out w5 w6 Z hbZ HB6.out HQ5.out HB5.out)
    unfold set3 at hZ
    rw [← hZ]
    try simp only [Exit.inBlock, Exit.then]
    refine bodyPost_ret (results_mid_tmp rfl _ _ (W.heap.size + 1 + 1) 0 [.int .i64 most, .int .i64 last, .slice A6 M c6] _ rfl (blk_range HR1.out) Try.underlying28 rfl (by kernel_rfl)) rfl ?_
    exact ⟨A6, c6, r2, .slice none 0 0, rfl, HE.out.1, HE.out.2⟩
end Fr
end Go.Proofs.Ytpdlholoeaphgaa
