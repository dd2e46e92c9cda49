/- Contract of the statements' do: a call of both wheels. (By gen_do.py.) -/
import Derived.Test.YtdbgmogllncffaaWhDk
import Derived.Test.YtdbgmogllncffaaWhE
import Derived.Deep.RegionWith
import Derived.Deep.DeepCutAuto
namespace Go.Proofs.Ytdbgmogllncffaa
open Go.RowKit Go.Sort Wh
def do0 (W : World) (most last : Int) (A : Option Addr) (n c : Nat) (a : Tm) : World := ((W.alloc (.cells #[.int .i64 most, .int .i64 last, .slice A n c] 28)).alloc (.cells #[.int .i64 a.tok, .int .i64 a.dl, .int .i64 a.k, .int .i64 a.n] 35)).alloc (.cells #[.int .i64 0, .int .i64 0, .slice none 0 0] 28)
theorem do0_facts (W : World) (most last : Int) (A : Option Addr) (n c : Nat) (a : Tm) : Below W.heap.size W (do0 W most last A n c a) ∧ (do0 W most last A n c a).heap.size = W.heap.size + 1 + 1 + 1 ∧ Blk (do0 W most last A n c a) W.heap.size 28 #[.int .i64 most, .int .i64 last, .slice A n c] ∧ Blk (do0 W most last A n c a) (W.heap.size + 1) 35 #[.int .i64 a.tok, .int .i64 a.dl, .int .i64 a.k, .int .i64 a.n] ∧ Blk (do0 W most last A n c a) (W.heap.size + 1 + 1) 28 #[.int .i64 0, .int .i64 0, .slice none 0 0] := by
  unfold do0
  refine ⟨?_, by simp, ((Blk.new W _ _).alloc _).alloc _, ?_, ?_⟩
  · exact beside_none ((((Beside.refl (fun _ => False) W).alloc _).alloc _).alloc _)
  · exact (Blk.new' (W.alloc (.cells #[.int .i64 most, .int .i64 last, .slice A n c] 28)) _ _ _ (by simp)).alloc _
  · exact Blk.new' ((W.alloc (.cells #[.int .i64 most, .int .i64 last, .slice A n c] 28)).alloc (.cells #[.int .i64 a.tok, .int .i64 a.dl, .int .i64 a.k, .int .i64 a.n] 35)) _ _ _ (by simp)
theorem Dk.below {w W Z : World} {gw b : Nat} {rv mv : Value} {last most : Int} {xs : List Tm} {A : Option Addr} {n c : Nat} {L : List Tm} (h : Dk w W gw b rv mv last most xs A n c L) (hb : Below W.heap.size W Z) : Dk w Z gw b rv mv last most xs A n c L :=
  ⟨h.wl.below hb, h.new, h.bel.trans (hb.mono h.sz), Nat.le_trans h.sz hb.size, h.pm, h.so, h.lies.below hb, h.sep, fun b' o p e => Nat.lt_of_lt_of_le (h.old b' o p e) hb.size, h.len, h.cap, h.nil, h.form, h.tok, h.lo, h.m1, h.m2, h.few⟩
theorem Dk.put {w W Z : World} {gw b r : Nat} {rv mv : Value} {last most : Int} {xs : List Tm} {A : Option Addr} {n c : Nat} {L : List Tm} (h : Dk w W gw b rv mv last most xs A n c L) (hb : Beside (fun x => x = r) W Z) (h1 : ¬ Bad b rv mv r) (h2 : ∀ b' o p, A = some ⟨b', o, p⟩ → b' ≠ r) (hg : gw ≤ r) : Dk w Z gw b rv mv last most xs A n c L :=
  ⟨h.wl.beside hb (fun q hq e => h1 (by rw [← e]; exact hq)), h.new, hb.below h.bel h.sz (fun q hq => by rw [hq]; exact hg), Nat.le_trans h.sz hb.size, h.pm, h.so, hb.at h.lies (fun b' o p e => h2 b' o p e), h.sep, fun b' o p e => Nat.lt_of_lt_of_le (h.old b' o p e) hb.size, h.len, h.cap, h.nil, h.form, h.tok, h.lo, h.m1, h.m2, h.few⟩
set_option maxHeartbeats 4000000 in
set_option maxRecDepth 100000 in
theorem do_full (w W : World) (gw b : Nat) (rv mv : Value) (last most : Int) (xs : List Tm) (A : Option Addr) (n c : Nat) (L : List Tm) (a : Tm) (hD : Dk w W gw b rv mv last most xs A n c L) (hk : a.tok = 0) (hf : most ≤ (xs.length : Int)) :
    Calls Try.prog 9 #[.pointer (some ⟨b, 0, none⟩), rv16 most last A n c, tmv a] W fun e Z => e = .returned (.tuple #[rv16 most last A n c, .bool true]) ∧ Dk w Z gw b rv mv last most xs A n c L ∧ Below W.heap.size W Z := by
  unfold rv16 tmv
  obtain ⟨hb, hs, h0, h1, h2⟩ := do0_facts W most last A n c a
  obtain ⟨V, hV⟩ : ∃ V, V = do0 W most last A n c a := ⟨_, rfl⟩
  rw [← hV] at hb hs h0 h1 h2
  have hDV := hD.below hb
  have hblt := bad_lt hD.wl.pl
  have a0 : V.cell? ⟨W.heap.size + 1, 0, none⟩ = some (.int .i64 a.tok) := h1.cell 0 rfl
  have a1 : V.cell? ⟨W.heap.size + 1, 1, none⟩ = some (.int .i64 a.dl) := h1.cell 1 rfl
  have a2 : V.cell? ⟨W.heap.size + 1, 2, none⟩ = some (.int .i64 a.k) := h1.cell 2 rfl
  have a3 : V.cell? ⟨W.heap.size + 1, 3, none⟩ = some (.int .i64 a.n) := h1.cell 3 rfl
  have C := Lib.hid (add_full b rv mv last most a.dl a.k a.n xs V hDV.wl hD.m1 hf)
  have hlen : (n : Int) = most := by have h9 := hD.few; have h8 := hD.pm.length_eq; have h7 := hD.len; omega
  have hkb : (a.tok == 0) = true := beq_iff_eq.2 hk
  clear hk
  have HD := Lib.hid hD
  have HDV := Lib.hid hDV
  have HBL := Lib.hid hblt
  have H0 := Lib.hid h0
  have H1 := Lib.hid h1
  have H2 := Lib.hid h2
  have HB := Lib.hid hb
  have HS := Lib.hid hs
  unfold do0 at hV
  have HV := Lib.hid hV
  have HLEN := Lib.hid hlen
  clear hV hb hs h0 h1 h2 hDV hblt hD hlen
  go_enter Try.func9, Try.ntmps9
  go_upto_region 1 with fail
  rw [← HV.out]
  go_wp2_with fail
  refine C.out.mono ?_
  rintro e w1 ⟨rfl, hb1⟩
  have D1 := Lib.hid (HDV.out.below hb1)
  have k0 := H0.out.below hb1
  have k1 := H1.out.below hb1
  have k2 := H2.out.below hb1
  have hsz1 := hb1.size
  have B1 : Hid (Below W.heap.size W w1) := HB.out.trans (hb1.mono HB.out.size)
  have C2 := Lib.hid (radd_full most last a.dl a.k a.n A n c w1 HLEN.out)
  have m0 : w1.cell? ⟨W.heap.size, 0, none⟩ = some (.int .i64 most) := k0.cell 0 rfl
  have m1 : w1.cell? ⟨W.heap.size, 1, none⟩ = some (.int .i64 last) := k0.cell 1 rfl
  have m2 : w1.cell? ⟨W.heap.size, 2, none⟩ = some (.slice A n c) := k0.cell 2 rfl
  have q0 : w1.cell? ⟨W.heap.size + 1, 0, none⟩ = some (.int .i64 a.tok) := k1.cell 0 rfl
  have q1 : w1.cell? ⟨W.heap.size + 1, 1, none⟩ = some (.int .i64 a.dl) := k1.cell 1 rfl
  have q2 : w1.cell? ⟨W.heap.size + 1, 2, none⟩ = some (.int .i64 a.k) := k1.cell 2 rfl
  have q3 : w1.cell? ⟨W.heap.size + 1, 3, none⟩ = some (.int .i64 a.n) := k1.cell 3 rfl
  have K2 := Lib.hid k2
  clear k0 k1 k2 hb1 C HDV H0 H1 H2
  unfold rv16 at C2
  go_wp2_with fail
  refine C2.out.mono ?_
  rintro e w2 ⟨rfl, hb2⟩
  obtain ⟨U, hU⟩ : ∃ U, U = w2.alloc (.cells #[.int .i64 most, .int .i64 last, .slice A n c] 28) := ⟨_, rfl⟩
  have hbU : Below w1.heap.size w1 U := hb2.trans ((hU ▸ below_alloc w2 _ : Below w2.heap.size w2 U).mono hb2.size)
  have u2 : Blk U (W.heap.size + 1 + 1) 28 #[.int .i64 0, .int .i64 0, .slice none 0 0] := K2.out.below hbU
  have uN : Blk U w2.heap.size 28 #[.int .i64 most, .int .i64 last, .slice A n c] := by rw [hU]; exact Blk.new _ _ _
  have hsz2 := hb2.size
  have hk2 := K2.out.lt
  have n0 : U.cell? ⟨w2.heap.size, 0, none⟩ = some (.int .i64 most) := uN.cell 0 rfl
  have n1 : U.cell? ⟨w2.heap.size, 1, none⟩ = some (.int .i64 last) := uN.cell 1 rfl
  have n2 : U.cell? ⟨w2.heap.size, 2, none⟩ = some (.slice A n c) := uN.cell 2 rfl
  have r0 : U.cell? ⟨W.heap.size + 1 + 1, 0, none⟩ = some (.int .i64 0) := u2.cell 0 rfl
  have rf0 : U.frozen? ⟨W.heap.size + 1 + 1, 0, none⟩ = false := u2.frozen 0
  have r1 : U.cell? ⟨W.heap.size + 1 + 1, 1, none⟩ = some (.int .i64 0) := u2.cell 1 rfl
  have rf1 : U.frozen? ⟨W.heap.size + 1 + 1, 1, none⟩ = false := u2.frozen 1
  have r2 : U.cell? ⟨W.heap.size + 1 + 1, 2, none⟩ = some (.slice none 0 0) := u2.cell 2 rfl
  have rf2 : U.frozen? ⟨W.heap.size + 1 + 1, 2, none⟩ = false := u2.frozen 2
  obtain ⟨Z, hZ⟩ : ∃ Z, Z = set3 U (W.heap.size + 1 + 1) (.int .i64 most) (.int .i64 last) (.slice A n c) := ⟨_, rfl⟩
  have HR1 : Hid (Blk Z (W.heap.size + 1 + 1) 28 #[.int .i64 most, .int .i64 last, .slice A n c]) := by rw [hZ]; exact blk_set3 u2 _ _ _
  have hbZ : Beside (fun x => x = W.heap.size + 1 + 1) U Z := by rw [hZ]; exact beside_set3 (Beside.refl (fun x => x = W.heap.size + 1 + 1) U) (.inl rfl) _ _ _
  have HE : Hid (Dk w Z gw b rv mv last most xs A n c L ∧ Below W.heap.size W Z) := by
    refine ⟨(D1.out.below hbU).put hbZ (fun e => by have := HBL.out _ e; omega) (fun b' o p e => by have := HD.out.old b' o p e; omega) (by have := HD.out.sz; omega), ?_⟩
    exact hbZ.below (B1.out.trans (hbU.mono (by have := B1.out.size; omega))) (by have := B1.out.size; have := hbU.size; omega) (fun q hq => by rw [hq]; omega)
  unfold set3 at hZ
  have HU := Lib.hid hU
  have HZ := Lib.hid hZ
  have hnr1 : ¬ (w2.heap.size = W.heap.size + 1 + 1) := by omega
  have hnr2 : ¬ (W.heap.size + 1 + 1 = w2.heap.size) := by omega
  clear hU hZ hbU u2 uN hbZ hb2 hsz1 hsz2 hk2 C2 D1 B1
  go_upto_region 5 with fail
  rw [← HU.out]
  go_wp2
  rw [← HZ.out]
  try simp only [Exit.inBlock, Exit.then]
  refine bodyPost_ret (results_mid_tmp rfl _ _ (W.heap.size + 1 + 1) 0 [.int .i64 most, .int .i64 last, .slice A n c] _ rfl (blk_range HR1.out) Try.underlying28 rfl (by kernel_rfl)) rfl ?_
  exact ⟨rfl, HE.out.1, HE.out.2⟩
set_option maxHeartbeats 4000000 in
set_option maxRecDepth 100000 in
theorem do_ok (w W : World) (gw b : Nat) (rv mv : Value) (last most : Int) (xs : List Tm) (A : Option Addr) (n c : Nat) (L : List Tm) (a : Tm) (hD : Dk w W gw b rv mv last most xs A n c L) (hk : a.tok = 0) (hf : (xs.length : Int) < most) (hl1 : last ≤ 1000000) :
    Calls Try.prog 9 #[.pointer (some ⟨b, 0, none⟩), rv16 most last A n c, tmv a] W fun e Z => ∃ A' n' c' rv' mv' xs' L', e = .returned (.tuple #[rv16 most (last + 1) A' n' c', .bool true]) ∧ Dk w Z gw b rv' mv' (last + 1) most xs' A' n' c' L' ∧ Way1 W Z b rv mv rv' mv' := by
  unfold rv16 tmv
  obtain ⟨hb, hs, h0, h1, h2⟩ := do0_facts W most last A n c a
  obtain ⟨V, hV⟩ : ∃ V, V = do0 W most last A n c a := ⟨_, rfl⟩
  rw [← hV] at hb hs h0 h1 h2
  have hDV := hD.below hb
  have hblt := bad_lt hD.wl.pl
  have a0 : V.cell? ⟨W.heap.size + 1, 0, none⟩ = some (.int .i64 a.tok) := h1.cell 0 rfl
  have a1 : V.cell? ⟨W.heap.size + 1, 1, none⟩ = some (.int .i64 a.dl) := h1.cell 1 rfl
  have a2 : V.cell? ⟨W.heap.size + 1, 2, none⟩ = some (.int .i64 a.k) := h1.cell 2 rfl
  have a3 : V.cell? ⟨W.heap.size + 1, 3, none⟩ = some (.int .i64 a.n) := h1.cell 3 rfl
  have htk : ∀ x ∈ xs, x.tok ≤ last := fun x hx => hD.tok x (hD.pm.mem_iff.2 hx)
  have C := Lib.hid (add_ok b rv mv last most a.dl a.k a.n xs V hDV.wl hD.m1 hD.m2 hf hD.lo (by omega) htk)
  have hlen : (n : Int) ≠ most := by have h8 := hD.pm.length_eq; have h7 := hD.len; omega
  have hkb : (a.tok == 0) = true := beq_iff_eq.2 hk
  clear hk
  have HD := Lib.hid hD
  have HDV := Lib.hid hDV
  have HBL := Lib.hid hblt
  have H0 := Lib.hid h0
  have H1 := Lib.hid h1
  have H2 := Lib.hid h2
  have HB := Lib.hid hb
  have HS := Lib.hid hs
  unfold do0 at hV
  have HV := Lib.hid hV
  have HLEN := Lib.hid hlen
  clear hV hb hs h0 h1 h2 hDV hblt hD hlen htk
  go_enter Try.func9, Try.ntmps9
  go_upto_region 1 with fail
  rw [← HV.out]
  go_wp2_with fail
  refine C.out.mono ?_
  rintro e w1 ⟨rfl, rv1, mv1, xs1, hw1, hp1, hb1, hf1⟩
  have nb : ∀ q, W.heap.size ≤ q → ¬ Bad b rv mv q := fun q hq e => by have := HBL.out q e; omega
  have k0 : Blk w1 W.heap.size _ _ := (hb1.block _ H0.out.lt (nb _ (by omega))).trans H0.out
  have k1 : Blk w1 (W.heap.size + 1) _ _ := (hb1.block _ H1.out.lt (nb _ (by omega))).trans H1.out
  have k2 : Blk w1 (W.heap.size + 1 + 1) _ _ := (hb1.block _ H2.out.lt (nb _ (by omega))).trans H2.out
  have hsz1 := hb1.size
  have lies1 : At w1 A (tv L) := hb1.at HDV.out.lies (fun b' o p e => HDV.out.sep b' o p e)
  have BE1 : Beside (Bad b rv mv) W w1 := (Beside.ofBelow HB.out).trans hb1
  have FR1 : Fresh W.heap.size rv mv rv1 mv1 := ⟨fun q hq => by rcases hf1.1 q hq with h9 | h9; exact .inl h9; exact .inr (Nat.le_trans HB.out.size h9), fun q hq => by rcases hf1.2 q hq with h9 | h9; exact .inl h9; exact .inr (Nat.le_trans HB.out.size h9)⟩
  have HW1 := Lib.hid hw1
  have HP1 := Lib.hid hp1
  have HBE := Lib.hid BE1
  have HFR := Lib.hid FR1
  have HF1 := Lib.hid hf1
  have C2 : Hid (∃ Q : World → Option Addr → Nat → Prop, (∀ W' A' c', Q W' A' c' → ∃ k, k ≤ n ∧ (∀ j, j < k → (g L j).dl ≤ clp a.dl 0 1099511627776) ∧ (k < n → clp a.dl 0 1099511627776 < (g L k).dl) ∧ At W' A' (tv (L.take k ++ [⟨last + 1, clp a.dl 0 1099511627776, a.k, a.n⟩] ++ L.drop k)) ∧ n + 1 ≤ c' ∧ c' ≤ maxLen ∧ A' ≠ none ∧ (∀ b' o p, A' = some ⟨b', o, p⟩ → w1.heap.size ≤ b' ∧ p = none) ∧ Below w1.heap.size w1 W') ∧ Calls Try.prog 18 #[.agg #[.int .i64 most, .int .i64 last, .slice A n c], .int .i64 a.dl, .agg #[.int .i64 a.k, .int .i64 a.n]] w1 fun e W' => ∃ A' c', e = .returned (.tuple #[.agg #[.int .i64 most, .int .i64 (last + 1), .slice A' (n + 1) c'], .int .i64 (last + 1), .int .i64 0]) ∧ Q W' A' c') := by
    have hlo := HD.out.lo
    have hle := HD.out.len
    have hn6 : n ≤ 65536 := by have := HD.out.few; have := HD.out.m2; omega
    refine ⟨_, fun W' A' c' h => h, ?_⟩
    rcases HD.out.form with hA | ⟨b9, o9, hA⟩
    · obtain ⟨hn0, hc0⟩ := HD.out.nil hA
      have hL : L = [] := List.eq_nil_of_length_eq_zero (by omega)
      have hne := HLEN.out
      subst hA hn0 hc0 hL
      refine (radd_nil most last a.dl a.k a.n _ w1 rfl hlo (by omega) (by simpa using hne)).mono ?_
      rintro e W' ⟨A', c', rfl, h1, h2, h3, h4, h5, h6⟩
      exact ⟨A', c', rfl, 0, Nat.le_refl _, (fun j hj => absurd hj (Nat.not_lt_zero _)), (fun hj => absurd hj (Nat.not_lt_zero _)), by simpa using h1, h2, h3, h4, h5, h6⟩
    · subst hA
      refine (radd_some most last a.dl a.k a.n _ b9 o9 n c L w1 rfl hlo (by omega) HLEN.out hle HD.out.cap hn6 lies1).mono ?_
      rintro e W' ⟨A', c', k, rfl, h1, h2, h3, h4, h5, h6, h7, h8, h9⟩
      exact ⟨A', c', rfl, k, h1, h2, h3, h4, h5, h6, h7, h8, h9⟩
  obtain ⟨Q, hQ, C2⟩ := C2.out
  have HQ := Lib.hid hQ
  have C2 := Lib.hid C2
  have m0 : w1.cell? ⟨W.heap.size, 0, none⟩ = some (.int .i64 most) := k0.cell 0 rfl
  have m1 : w1.cell? ⟨W.heap.size, 1, none⟩ = some (.int .i64 last) := k0.cell 1 rfl
  have m2 : w1.cell? ⟨W.heap.size, 2, none⟩ = some (.slice A n c) := k0.cell 2 rfl
  have q0 : w1.cell? ⟨W.heap.size + 1, 0, none⟩ = some (.int .i64 a.tok) := k1.cell 0 rfl
  have q1 : w1.cell? ⟨W.heap.size + 1, 1, none⟩ = some (.int .i64 a.dl) := k1.cell 1 rfl
  have q2 : w1.cell? ⟨W.heap.size + 1, 2, none⟩ = some (.int .i64 a.k) := k1.cell 2 rfl
  have q3 : w1.cell? ⟨W.heap.size + 1, 3, none⟩ = some (.int .i64 a.n) := k1.cell 3 rfl
  have K2 := Lib.hid k2
  clear k0 k1 k2 hb1 hw1 hp1 hf1 BE1 FR1 lies1 nb C HDV H0 H1 H2 hQ
  go_wp2_with fail
  refine C2.out.mono ?_
  rintro e w2 ⟨A2, c2, rfl, hq2⟩
  obtain ⟨kk, p1, p2, p3, p4, p5, p6, p7, p8, hb2⟩ := HQ.out _ _ _ hq2
  obtain ⟨U, hU⟩ : ∃ U, U = w2.alloc (.cells #[.int .i64 most, .int .i64 (last + 1), .slice A2 (n + 1) c2] 28) := ⟨_, rfl⟩
  have hbU : Below w1.heap.size w1 U := hb2.trans ((hU ▸ below_alloc w2 _ : Below w2.heap.size w2 U).mono hb2.size)
  have u2 : Blk U (W.heap.size + 1 + 1) 28 #[.int .i64 0, .int .i64 0, .slice none 0 0] := K2.out.below hbU
  have uN : Blk U w2.heap.size 28 #[.int .i64 most, .int .i64 (last + 1), .slice A2 (n + 1) c2] := by rw [hU]; exact Blk.new _ _ _
  have hsz2 := hb2.size
  have hk2 := K2.out.lt
  have n0 : U.cell? ⟨w2.heap.size, 0, none⟩ = some (.int .i64 most) := uN.cell 0 rfl
  have n1 : U.cell? ⟨w2.heap.size, 1, none⟩ = some (.int .i64 (last + 1)) := uN.cell 1 rfl
  have n2 : U.cell? ⟨w2.heap.size, 2, none⟩ = some (.slice A2 (n + 1) c2) := uN.cell 2 rfl
  have r0 : U.cell? ⟨W.heap.size + 1 + 1, 0, none⟩ = some (.int .i64 0) := u2.cell 0 rfl
  have rf0 : U.frozen? ⟨W.heap.size + 1 + 1, 0, none⟩ = false := u2.frozen 0
  have r1 : U.cell? ⟨W.heap.size + 1 + 1, 1, none⟩ = some (.int .i64 0) := u2.cell 1 rfl
  have rf1 : U.frozen? ⟨W.heap.size + 1 + 1, 1, none⟩ = false := u2.frozen 1
  have r2 : U.cell? ⟨W.heap.size + 1 + 1, 2, none⟩ = some (.slice none 0 0) := u2.cell 2 rfl
  have rf2 : U.frozen? ⟨W.heap.size + 1 + 1, 2, none⟩ = false := u2.frozen 2
  obtain ⟨Z, hZ⟩ : ∃ Z, Z = set3 U (W.heap.size + 1 + 1) (.int .i64 most) (.int .i64 (last + 1)) (.slice A2 (n + 1) c2) := ⟨_, rfl⟩
  have HR1 : Hid (Blk Z (W.heap.size + 1 + 1) 28 #[.int .i64 most, .int .i64 (last + 1), .slice A2 (n + 1) c2]) := by rw [hZ]; exact blk_set3 u2 _ _ _
  have hbZ : Beside (fun x => x = W.heap.size + 1 + 1) U Z := by rw [hZ]; exact beside_set3 (Beside.refl (fun x => x = W.heap.size + 1 + 1) U) (.inl rfl) _ _ _
  have HE : Hid (∃ rv' mv' xs' L', Dk w Z gw b rv' mv' (last + 1) most xs' A2 (n + 1) c2 L' ∧ Way1 W Z b rv mv rv' mv') := by
    obtain ⟨d, hd⟩ : ∃ d, d = clp a.dl 0 1099511627776 := ⟨_, rfl⟩
    have hp1 := HP1.out
    rw [← hd] at p2 p3 p4 hp1
    have hlenL := HD.out.len
    have hpm : (L.take kk ++ [(⟨last + 1, d, a.k, a.n⟩ : Tm)] ++ L.drop kk).Perm xs1 := (ins_perm L _ kk).trans ((HD.out.pm.append_right _).trans hp1.symm)
    have hll : (L.take kk ++ [(⟨last + 1, d, a.k, a.n⟩ : Tm)] ++ L.drop kk).length = n + 1 := by rw [(ins_perm L _ kk).length_eq]; simp [hlenL]
    have hnew : ∀ q, Bad b rv1 mv1 q → gw ≤ q := fun q hq => by rcases bad_fresh HFR.out q hq with h9 | h9; exact HD.out.new q h9; have := HD.out.sz; omega
    have hr : ¬ Bad b rv1 mv1 (W.heap.size + 1 + 1) := fun e => by
      rcases bad_fresh HF1.out _ e with h9 | h9
      · have := HBL.out _ h9; omega
      · have := HS.out; omega
    have hA2 : ∀ b' o p, A2 = some ⟨b', o, p⟩ → w1.heap.size ≤ b' := by
      intro b' o p e
      exact (p8 b' o p e).1
    have hlt2 : ∀ b' o p, A2 = some ⟨b', o, p⟩ → b' < w2.heap.size := by
      intro b' o p e
      obtain ⟨b3, o3, e3, hb3, _⟩ := p4 (fun e9 => by have := tv_len (L.take kk ++ [(⟨last + 1, d, a.k, a.n⟩ : Tm)] ++ L.drop kk); rw [e9, hll] at this; simp at this)
      rw [e] at e3
      injection e3 with e3
      injection e3 with e3
      omega
    have hDU : Dk w U gw b rv1 mv1 (last + 1) most xs1 A2 (n + 1) c2 (L.take kk ++ [(⟨last + 1, d, a.k, a.n⟩ : Tm)] ++ L.drop kk) := by
      have hbw1 : Below gw w w1 := HBE.out.below HD.out.bel HD.out.sz HD.out.new
      have hsg : gw ≤ w1.heap.size := Nat.le_trans HD.out.sz HBE.out.size
      refine ⟨HW1.out.below hbU, hnew, hbw1.trans (hbU.mono hsg), Nat.le_trans hsg hbU.size, hpm, srt_ins HD.out.so (by omega) p2 (fun h => p3 (by omega)) (fun x hx => by have := HD.out.tok x hx; show x.tok < last + 1; omega), p4.below (hU ▸ below_alloc w2 _), ?_, fun b' o p e => by have := hlt2 b' o p e; rw [hU]; simp; omega, hll.symm, p5, fun e => absurd e p7, ?_, ?_, ?_, HD.out.m1, HD.out.m2, (by have h8 := HD.out.pm.length_eq; omega)⟩
      · intro b' o p e e9
        have h8 := hA2 b' o p e
        have h7 := bad_lt HW1.out.pl b' e9
        omega
      · cases hA : A2 with
        | none => exact absurd hA p7
        | some ad =>
          obtain ⟨b', o', p'⟩ := ad
          have := (p8 b' o' p' hA).2
          subst this
          exact .inr ⟨b', o', rfl⟩
      · intro x hx
        rcases List.mem_append.1 ((ins_perm L _ kk).mem_iff.1 hx) with h9 | h9
        · have := HD.out.tok x h9; omega
        · rw [List.mem_singleton.1 h9]; exact Int.le_refl _
      · have := HD.out.lo; omega
    refine ⟨rv1, mv1, xs1, _, hDU.put hbZ hr (fun b' o p e => by have := hA2 b' o p e; omega) (by have := HD.out.sz; omega), ?_, HFR.out⟩
    exact (HBE.out.trans (.ofBelow hbU)).over hbZ (fun q hq => .inr (by rw [hq]; omega))
  unfold set3 at hZ
  have HU := Lib.hid hU
  have HZ := Lib.hid hZ
  have hnr1 : ¬ (w2.heap.size = W.heap.size + 1 + 1) := by omega
  have hnr2 : ¬ (W.heap.size + 1 + 1 = w2.heap.size) := by omega
  clear hU hZ hbU u2 uN hbZ hb2 hsz1 hsz2 hk2 C2 hq2 p1 p2 p3 p4 p5 p6 p7 p8
  go_upto_region 5 with fail
  rw [← HU.out]
  go_wp2
  rw [← HZ.out]
  try simp only [Exit.inBlock, Exit.then]
  refine bodyPost_ret (results_mid_tmp rfl _ _ (W.heap.size + 1 + 1) 0 [.int .i64 most, .int .i64 (last + 1), .slice A2 (n + 1) c2] _ rfl (blk_range HR1.out) Try.underlying28 rfl (by kernel_rfl)) rfl ?_
  obtain ⟨rv', mv', xs', L', e1, e2⟩ := HE.out
  exact ⟨A2, n + 1, c2, rv', mv', xs', L', rfl, e1, e2⟩
end Go.Proofs.Ytdbgmogllncffaa
