/- Contract of the statements' do, at a due. (By gen_do3.py.) -/
import Derived.Test.YtdbgmogllncffaaWhD3
namespace Go.Proofs.Ytdbgmogllncffaa
open Go.RowKit Go.Sort Wh
set_option maxHeartbeats 8000000 in
set_option maxRecDepth 100000 in
theorem do_dyes (w W : World) (gw b : Nat) (rv mv : Value) (last most : Int) (xs : List Tm) (A : Option Addr) (n c : Nat) (L : List Tm) (a : Tm) (hD : Dk w W gw b rv mv last most xs A n c L) (hk0 : a.tok ≠ 0) (hk : a.tok ≠ 1) (k : Nat) (hk1 : xs.length = k + 1) (hdl : (g xs 0).dl ≤ a.dl) :
    Calls Try.prog 9 #[.pointer (some ⟨b, 0, none⟩), rv16 most last A n c, tmv a] W fun e Z => ∃ A' n' c' rv' mv' xs' L', e = .returned (.tuple #[rv16 most last A' n' c', .bool true]) ∧ Dk w Z gw b rv' mv' last most xs' A' n' c' L' ∧ Way1 W Z b rv mv rv' mv' := by
  have mixed : Try.prog.follows .mixedOrders = true := by kernel_rfl
  unfold rv16 tmv
  obtain ⟨hb, hs, h0, h1, h2⟩ := do0_facts W most last A n c a
  obtain ⟨V, hV⟩ : ∃ V, V = do0 W most last A n c a := ⟨_, rfl⟩
  rw [← hV] at hb hs h0 h1 h2
  have hDV := hD.below hb
  have hblt := bad_lt hD.wl.pl
  have a0 : V.cell? ⟨W.heap.size + 1, 0, none⟩ = some (.int .i64 a.tok) := h1.cell 0 rfl
  have a1 : V.cell? ⟨W.heap.size + 1, 1, none⟩ = some (.int .i64 a.dl) := h1.cell 1 rfl
  have a2 : V.cell? ⟨W.heap.size + 1, 2, none⟩ = some (.int .i64 a.k) := h1.cell 2 rfl
  have a3 : V.cell? ⟨W.heap.size + 1, 3, none⟩ = some (.int .i64 a.n) := h1.cell 3 rfl
  have C := Lib.hid (due_yes b k rv mv last most a.dl xs V hDV.wl hk1 hdl)
  have hgL : g L 0 = g xs 0 := srt_head hD.so hD.pm hD.wl.heap (by omega)
  have HGL := Lib.hid hgL
  have HDL := Lib.hid hdl
  have HK1 := Lib.hid hk1
  clear hgL hdl hk1
  have hkb : (a.tok == 1) = false := by simpa using hk
  have hkb0 : (a.tok == 0) = false := by simpa using hk0
  clear hk hk0
  have HD := Lib.hid hD
  have HDV := Lib.hid hDV
  have HBL := Lib.hid hblt
  have H0 := Lib.hid h0
  have H1 := Lib.hid h1
  have H2 := Lib.hid h2
  have HB := Lib.hid hb
  have HS := Lib.hid hs
  unfold do0 at hV
  have HV := Lib.hid hV
  clear hV hb hs h0 h1 h2 hDV hblt hD
  unfold tmv at C
  go_enter Try.func9, Try.ntmps9
  go_upto_region 1 with fail
  rw [← HV.out]
  go_wp2_with fail
  refine C.out.mono ?_
  rintro e w1 ⟨rfl, rv1, xs1, hw1, hp1, hb1, hf1⟩
  have nb : ∀ q, W.heap.size ≤ q → ¬ Bad b rv mv q := fun q hq e => by have := HBL.out q e; omega
  have k0 : Blk w1 W.heap.size _ _ := hb1.blk (q := W.heap.size) (nb W.heap.size (by omega)) H0.out
  have k1 : Blk w1 (W.heap.size + 1) _ _ := hb1.blk (q := W.heap.size + 1) (nb (W.heap.size + 1) (by omega)) H1.out
  have k2 : Blk w1 (W.heap.size + 1 + 1) _ _ := hb1.blk (q := W.heap.size + 1 + 1) (nb (W.heap.size + 1 + 1) (by omega)) H2.out
  have lies1 : At w1 A (tv L) := hb1.at HDV.out.lies (fun b' o p e => HDV.out.sep b' o p e)
  have BE1 : Beside (Bad b rv mv) W w1 := (Beside.ofBelow HB.out).trans hb1
  have FR1 : Fresh W.heap.size rv mv rv1 mv := ⟨fun q hq => by rcases hf1.1 q hq with h9 | h9; exact .inl h9; exact .inr (Nat.le_trans HB.out.size h9), fun q hq => .inl hq⟩
  have HW1 := Lib.hid hw1
  have HP1 := Lib.hid hp1
  have hsz1 := hb1.size
  have HSZ1 : Hid (V.heap.size ≤ w1.heap.size) := hb1.size
  have hsV := HS.out
  have HBE := Lib.hid BE1
  have HFR := Lib.hid FR1
  obtain ⟨U1, hU1⟩ : ∃ U1, U1 = w1.alloc (.cells #[.int .i64 (g xs 0).tok, .int .i64 (g xs 0).dl, .int .i64 (g xs 0).k, .int .i64 (g xs 0).n] 47) := ⟨_, rfl⟩
  have hbU1 : Below w1.heap.size w1 U1 := hU1 ▸ below_alloc w1 _
  have j0 := k0.below hbU1
  have j1 := k1.below hbU1
  have j2 := k2.below hbU1
  have jt : Blk U1 w1.heap.size 47 #[.int .i64 (g xs 0).tok, .int .i64 (g xs 0).dl, .int .i64 (g xs 0).k, .int .i64 (g xs 0).n] := by rw [hU1]; exact Blk.new _ _ _
  have hsU1 : U1.heap.size = w1.heap.size + 1 := by rw [hU1]; simp
  have liesU := lies1.below hbU1
  have m0 : U1.cell? ⟨W.heap.size, 0, none⟩ = some (.int .i64 most) := j0.cell 0 rfl
  have m1 : U1.cell? ⟨W.heap.size, 1, none⟩ = some (.int .i64 last) := j0.cell 1 rfl
  have m2 : U1.cell? ⟨W.heap.size, 2, none⟩ = some (.slice A n c) := j0.cell 2 rfl
  have q0 : U1.cell? ⟨W.heap.size + 1, 0, none⟩ = some (.int .i64 a.tok) := j1.cell 0 rfl
  have q1 : U1.cell? ⟨W.heap.size + 1, 1, none⟩ = some (.int .i64 a.dl) := j1.cell 1 rfl
  have q2 : U1.cell? ⟨W.heap.size + 1, 2, none⟩ = some (.int .i64 a.k) := j1.cell 2 rfl
  have q3 : U1.cell? ⟨W.heap.size + 1, 3, none⟩ = some (.int .i64 a.n) := j1.cell 3 rfl
  have C2 := Lib.hid (rdue_yes most last a.dl A n c L U1 HD.out.len HD.out.cap liesU (by have := HD.out.pm.length_eq; have := HD.out.len; have := HK1.out; omega) (by rw [HGL.out]; exact HDL.out))
  rw [HGL.out] at C2
  have HU1 := Lib.hid hU1
  have HBU1 := Lib.hid hbU1
  have J2 := Lib.hid j2
  have JT := Lib.hid jt
  have HLI := Lib.hid liesU
  have HSU1 := Lib.hid hsU1
  clear hU1 hbU1 j0 j1 j2 jt k0 k1 k2 lies1 liesU BE1 FR1 hsU1 C hb1 hsz1 hsV hw1 hp1 nb
  unfold rv16 tmv at C2
  go_upto_region 10 with fail
  rw [← HU1.out]
  go_wp2_with fail
  refine C2.out.mono ?_
  rintro e w2 ⟨A1, rfl, p1, p2, p3, hb2⟩
  obtain ⟨n1, hn1⟩ : ∃ n1, n1 = n - 1 := ⟨_, rfl⟩
  obtain ⟨c1, hc1⟩ : ∃ c1, c1 = c - 1 := ⟨_, rfl⟩
  rw [← hn1, ← hc1]
  obtain ⟨U, hU⟩ : ∃ U, U = (w2.alloc (.cells #[.int .i64 most, .int .i64 last, .slice A1 n1 c1] 28)).alloc (.cells #[.int .i64 (g xs 0).tok, .int .i64 (g xs 0).dl, .int .i64 (g xs 0).k, .int .i64 (g xs 0).n] 63) := ⟨_, rfl⟩
  have hb2U : Below w2.heap.size w2 U := by rw [hU]; exact (below_alloc w2 _).alloc (by simp) _
  have hbU : Below U1.heap.size U1 U := hb2.trans (hb2U.mono hb2.size)
  have uX : Blk U w2.heap.size 28 #[.int .i64 most, .int .i64 last, .slice A1 n1 c1] := by rw [hU]; exact (Blk.new w2 _ _).alloc _
  have uR : Blk U (w2.heap.size + 1) 63 #[.int .i64 (g xs 0).tok, .int .i64 (g xs 0).dl, .int .i64 (g xs 0).k, .int .i64 (g xs 0).n] := by rw [hU]; exact Blk.new' (w2.alloc (.cells #[.int .i64 most, .int .i64 last, .slice A1 n1 c1] 28)) _ _ _ (by simp)
  have uT := JT.out.below hbU
  have u2 := J2.out.below hbU
  have hsz2 := hb2.size
  have hsU1 := HSU1.out
  have hsV := HS.out
  have hsz1 : V.heap.size ≤ w1.heap.size := HSZ1.out
  have hnr1 : ¬ (w2.heap.size = W.heap.size + 1 + 1) := by omega
  have hnr2 : ¬ (W.heap.size + 1 + 1 = w2.heap.size) := by omega
  have hnr3 : ¬ (w2.heap.size + 1 = W.heap.size + 1 + 1) := by omega
  have hnr4 : ¬ (W.heap.size + 1 + 1 = w2.heap.size + 1) := by omega
  have FC : Hid (∀ W', Below U.heap.size U W' → Blk W' w2.heap.size 28 #[.int .i64 most, .int .i64 last, .slice A1 n1 c1] ∧ Blk W' (w2.heap.size + 1) 63 #[.int .i64 (g xs 0).tok, .int .i64 (g xs 0).dl, .int .i64 (g xs 0).k, .int .i64 (g xs 0).n] ∧ Blk W' w1.heap.size 47 #[.int .i64 (g xs 0).tok, .int .i64 (g xs 0).dl, .int .i64 (g xs 0).k, .int .i64 (g xs 0).n] ∧ Blk W' (W.heap.size + 1 + 1) 28 #[.int .i64 0, .int .i64 0, .slice none 0 0]) := fun W' hW => ⟨uX.below hW, uR.below hW, uT.below hW, u2.below hW⟩
  have x0 : U.cell? ⟨w2.heap.size, 0, none⟩ = some (.int .i64 most) := uX.cell 0 rfl
  have x1 : U.cell? ⟨w2.heap.size, 1, none⟩ = some (.int .i64 last) := uX.cell 1 rfl
  have x2 : U.cell? ⟨w2.heap.size, 2, none⟩ = some (.slice A1 n1 c1) := uX.cell 2 rfl
  have y0 : U.cell? ⟨w2.heap.size + 1, 0, none⟩ = some (.int .i64 (g xs 0).tok) := uR.cell 0 rfl
  have y1 : U.cell? ⟨w2.heap.size + 1, 1, none⟩ = some (.int .i64 (g xs 0).dl) := uR.cell 1 rfl
  have y2 : U.cell? ⟨w2.heap.size + 1, 2, none⟩ = some (.int .i64 (g xs 0).k) := uR.cell 2 rfl
  have y3 : U.cell? ⟨w2.heap.size + 1, 3, none⟩ = some (.int .i64 (g xs 0).n) := uR.cell 3 rfl
  have t0 : U.cell? ⟨w1.heap.size, 0, none⟩ = some (.int .i64 (g xs 0).tok) := uT.cell 0 rfl
  have t1 : U.cell? ⟨w1.heap.size, 1, none⟩ = some (.int .i64 (g xs 0).dl) := uT.cell 1 rfl
  have t2 : U.cell? ⟨w1.heap.size, 2, none⟩ = some (.int .i64 (g xs 0).k) := uT.cell 2 rfl
  have t3 : U.cell? ⟨w1.heap.size, 3, none⟩ = some (.int .i64 (g xs 0).n) := uT.cell 3 rfl
  have r0 : U.cell? ⟨W.heap.size + 1 + 1, 0, none⟩ = some (.int .i64 0) := u2.cell 0 rfl
  have rf0 : U.frozen? ⟨W.heap.size + 1 + 1, 0, none⟩ = false := u2.frozen 0
  have r1 : U.cell? ⟨W.heap.size + 1 + 1, 1, none⟩ = some (.int .i64 0) := u2.cell 1 rfl
  have rf1 : U.frozen? ⟨W.heap.size + 1 + 1, 1, none⟩ = false := u2.frozen 1
  have r2 : U.cell? ⟨W.heap.size + 1 + 1, 2, none⟩ = some (.slice none 0 0) := u2.cell 2 rfl
  have rf2 : U.frozen? ⟨W.heap.size + 1 + 1, 2, none⟩ = false := u2.frozen 2
  have x0d : U.drew.cell? ⟨w2.heap.size, 0, none⟩ = some (.int .i64 most) := uX.cell 0 rfl
  have x1d : U.drew.cell? ⟨w2.heap.size, 1, none⟩ = some (.int .i64 last) := uX.cell 1 rfl
  have x2d : U.drew.cell? ⟨w2.heap.size, 2, none⟩ = some (.slice A1 n1 c1) := uX.cell 2 rfl
  have y0d : U.drew.cell? ⟨w2.heap.size + 1, 0, none⟩ = some (.int .i64 (g xs 0).tok) := uR.cell 0 rfl
  have y1d : U.drew.cell? ⟨w2.heap.size + 1, 1, none⟩ = some (.int .i64 (g xs 0).dl) := uR.cell 1 rfl
  have y2d : U.drew.cell? ⟨w2.heap.size + 1, 2, none⟩ = some (.int .i64 (g xs 0).k) := uR.cell 2 rfl
  have y3d : U.drew.cell? ⟨w2.heap.size + 1, 3, none⟩ = some (.int .i64 (g xs 0).n) := uR.cell 3 rfl
  have t0d : U.drew.cell? ⟨w1.heap.size, 0, none⟩ = some (.int .i64 (g xs 0).tok) := uT.cell 0 rfl
  have t1d : U.drew.cell? ⟨w1.heap.size, 1, none⟩ = some (.int .i64 (g xs 0).dl) := uT.cell 1 rfl
  have t2d : U.drew.cell? ⟨w1.heap.size, 2, none⟩ = some (.int .i64 (g xs 0).k) := uT.cell 2 rfl
  have t3d : U.drew.cell? ⟨w1.heap.size, 3, none⟩ = some (.int .i64 (g xs 0).n) := uT.cell 3 rfl
  have r0d : U.drew.cell? ⟨W.heap.size + 1 + 1, 0, none⟩ = some (.int .i64 0) := u2.cell 0 rfl
  have rf0d : U.drew.frozen? ⟨W.heap.size + 1 + 1, 0, none⟩ = false := u2.frozen 0
  have r1d : U.drew.cell? ⟨W.heap.size + 1 + 1, 1, none⟩ = some (.int .i64 0) := u2.cell 1 rfl
  have rf1d : U.drew.frozen? ⟨W.heap.size + 1 + 1, 1, none⟩ = false := u2.frozen 1
  have r2d : U.drew.cell? ⟨W.heap.size + 1 + 1, 2, none⟩ = some (.slice none 0 0) := u2.cell 2 rfl
  have rf2d : U.drew.frozen? ⟨W.heap.size + 1 + 1, 2, none⟩ = false := u2.frozen 2
  have XX : Hid (∀ w5 Z : World, Beside (fun x => x = W.heap.size + 1 + 1) w5 Z → Below U.heap.size U w5 → ∃ rv' mv' xs' L', Dk w Z gw b rv' mv' last most xs' A1 n1 c1 L' ∧ Way1 W Z b rv mv rv' mv') := by
    intro w5 Z hbZ hb5
    have h15 : Below w1.heap.size w1 w5 := (HBU1.out.trans (hbU.mono HBU1.out.size)).trans (hb5.mono (by have := HBU1.out.size; have := hbU.size; omega))
    have hU5 : U.heap.size ≤ w5.heap.size := hb5.size
    have h2U : w2.heap.size ≤ U.heap.size := hb2U.size
    have hW5 : Beside (Bad b rv mv) W w5 := HBE.out.trans (.ofBelow h15)
    have hr : ¬ Bad b rv1 mv (W.heap.size + 1 + 1) := fun e => by
      rcases bad_fresh hf1 _ e with h9 | h9
      · have := HBL.out _ h9; omega
      · omega
    have hbad : ∀ q, Bad b rv1 mv q → q < W.heap.size ∨ V.heap.size ≤ q := fun q hq => by
      rcases bad_fresh hf1 q hq with h9 | h9
      · exact .inl (HBL.out q h9)
      · exact .inr h9
    have hold : ∀ b' o p, A1 = some ⟨b', o, p⟩ → b' < W.heap.size ∧ ¬ Bad b rv mv b' ∧ p = none := fun b' o p e => by
      obtain ⟨⟨o2, e2⟩, e3⟩ := p3 b' o p e
      exact ⟨HD.out.old b' o2 none e2, HD.out.sep b' o2 none e2, e3⟩
    have hlen := HD.out.len
    have hpl := HD.out.pm.length_eq
    have hk1 := HK1.out
    have hL : L = g xs 0 :: L.drop 1 := by
      rw [← HGL.out]
      cases hL : L with
      | nil => rw [hL] at hpl; simp at hpl; omega
      | cons y ys => rfl
    have hpm : (L.drop 1).Perm xs1 := by
      have h9 := HD.out.pm.trans HP1.out
      rw [hL] at h9
      simpa using h9.cons_inv
    have hsz : gw ≤ W.heap.size := HD.out.sz
    have hll : n1 = (L.drop 1).length := by rw [List.length_drop]; omega
    have hd5 : Dk w w5 gw b rv1 mv last most xs1 A1 n1 c1 (L.drop 1) := by
      refine ⟨HW1.out.below h15, fun q hq => by rcases bad_fresh HFR.out q hq with h9 | h9; exact HD.out.new q h9; omega, hW5.below HD.out.bel hsz HD.out.new, by omega, hpm, ?_, (p1.below (hbU.trans (hb5.mono hbU.size)) : At w5 A1 (tv (L.drop 1))), fun b' o p e h8 => ?_, fun b' o p e => by have := (hold b' o p e).1; omega, hll, by have := HD.out.cap; omega, fun e => by have := p2 e; omega, ?_, fun x hx => HD.out.tok x (List.mem_of_mem_drop hx), HD.out.lo, HD.out.m1, HD.out.m2, by have := HD.out.few; omega⟩
      · have h9 := HD.out.so
        rw [hL] at h9
        exact (List.pairwise_cons.1 h9).2
      · obtain ⟨h7, h6, _⟩ := hold b' o p e
        rcases bad_fresh hf1 b' h8 with h9 | h9
        · exact h6 h9
        · omega
      · cases hA : A1 with
        | none => exact .inl rfl
        | some ad =>
          obtain ⟨b', o', p'⟩ := ad
          have := (hold b' o' p' hA).2.2
          subst this
          exact .inr ⟨b', o', rfl⟩
    refine ⟨rv1, mv, xs1, _, hd5.put hbZ hr (fun b' o p e => by have := (hold b' o p e).1; omega) (by omega), hW5.over hbZ (fun q hq => .inr (by rw [hq]; omega)), HFR.out⟩
  have HU := Lib.hid hU
  have HBEL := Lib.hid hbU
  clear hU hb2U hbU uX uR uT u2 hsz2 hsU1 hsV hsz1 hb2 C2 hkb hkb0 p1 p2 p3 hf1 hn1 hc1
  have CT := Lib.hid (told_any (g xs 0) U.drew)
  unfold tmv at CT
  have BD : Hid (Below U.heap.size U U.drew) := below_drew1 U
  go_upto_region 11 with fail
  rw [← HU.out]
  change Code.wp _ _ _ _ U
  go_region_with (go_at_call 21; refine CT.out.mono ?_; rintro e w5 ⟨rfl, hb5⟩; have HB5 := Lib.hid (BD.out.trans hb5); obtain ⟨zX, zR, _, z2⟩ := FC.out w5 HB5.out; have zx0 : w5.cell? ⟨w2.heap.size, 0, none⟩ = some (.int .i64 most) := zX.cell 0 rfl; have zx1 : w5.cell? ⟨w2.heap.size, 1, none⟩ = some (.int .i64 last) := zX.cell 1 rfl; have zx2 : w5.cell? ⟨w2.heap.size, 2, none⟩ = some (.slice A1 n1 c1) := zX.cell 2 rfl; have zy0 : w5.cell? ⟨w2.heap.size + 1, 0, none⟩ = some (.int .i64 (g xs 0).tok) := zR.cell 0 rfl; have zy1 : w5.cell? ⟨w2.heap.size + 1, 1, none⟩ = some (.int .i64 (g xs 0).dl) := zR.cell 1 rfl; have zy2 : w5.cell? ⟨w2.heap.size + 1, 2, none⟩ = some (.int .i64 (g xs 0).k) := zR.cell 2 rfl; have zy3 : w5.cell? ⟨w2.heap.size + 1, 3, none⟩ = some (.int .i64 (g xs 0).n) := zR.cell 3 rfl; have zr0 : w5.cell? ⟨W.heap.size + 1 + 1, 0, none⟩ = some (.int .i64 0) := z2.cell 0 rfl; have zf0 : w5.frozen? ⟨W.heap.size + 1 + 1, 0, none⟩ = false := z2.frozen 0; have zr1 : w5.cell? ⟨W.heap.size + 1 + 1, 1, none⟩ = some (.int .i64 0) := z2.cell 1 rfl; have zf1 : w5.frozen? ⟨W.heap.size + 1 + 1, 1, none⟩ = false := z2.frozen 1; have zr2 : w5.cell? ⟨W.heap.size + 1 + 1, 2, none⟩ = some (.slice none 0 0) := z2.cell 2 rfl; have zf2 : w5.frozen? ⟨W.heap.size + 1 + 1, 2, none⟩ = false := z2.frozen 2; have HZB := Lib.hid z2; clear zX zR z2 hb5)
  all_goals
    go_wp2
    obtain ⟨Z, hZ⟩ : ∃ Z, Z = set3 w5 (W.heap.size + 1 + 1) (.int .i64 most) (.int .i64 last) (.slice A1 n1 c1) := ⟨_, rfl⟩
    have HR1 := Lib.hid (blk_set3 HZB.out (.int .i64 most) (.int .i64 last) (.slice A1 n1 c1))
    rw [← hZ] at HR1
    have hbZ : Beside (fun x => x = W.heap.size + 1 + 1) w5 Z := by rw [hZ]; exact beside_set3 (Beside.refl (fun x => x = W.heap.size + 1 + 1) w5) (.inl rfl) _ _ _
    have HE := Lib.hid (XX.out w5 Z hbZ HB5.out)
    unfold set3 at hZ
    rw [← hZ]
    try simp only [Exit.inBlock, Exit.then]
    refine bodyPost_ret (results_mid_tmp rfl _ _ (W.heap.size + 1 + 1) 0 [.int .i64 most, .int .i64 last, .slice A1 n1 c1] _ rfl (blk_range HR1.out) Try.underlying28 rfl (by kernel_rfl)) rfl ?_
    obtain ⟨rv', mv', xs', L', e1, e2⟩ := HE.out
    exact ⟨A1, n1, c1, rv', mv', xs', L', rfl, e1, e2⟩
end Go.Proofs.Ytdbgmogllncffaa
