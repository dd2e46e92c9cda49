/- Contract of the statements' do, at a cancel. (By gen_do2.py.) -/
import Derived.Test.YtdbgmogllncffaaWhD1
namespace Go.Proofs.Ytdbgmogllncffaa
open Go.RowKit Go.Sort Wh
theorem Beside.cell {bad : Nat → Prop} {a b : World} (h : Beside bad a b) {q o : Nat} (hb : ¬ bad q) (hl : q < a.heap.size) : b.cell? ⟨q, o, none⟩ = a.cell? ⟨q, o, none⟩ := World.cell?_of_block (h.block q hl hb)
theorem Beside.blk {bad : Nat → Prop} {a b : World} (h : Beside bad a b) {q : Nat} {t : TypeId} {cs : Array Value} (hb : ¬ bad q) (hk : Blk a q t cs) : Blk b q t cs := (h.block q hk.lt hb).trans hk
set_option maxHeartbeats 8000000 in
set_option maxRecDepth 100000 in
theorem do_can (w W : World) (gw b : Nat) (rv mv : Value) (last most : Int) (xs : List Tm) (A : Option Addr) (n c : Nat) (L : List Tm) (a : Tm) (hD : Dk w W gw b rv mv last most xs A n c L) (hk : a.tok = 1) (i : Nat) (hi : i < xs.length) (hit : (g xs i).tok = a.dl) :
    Calls Try.prog 9 #[.pointer (some ⟨b, 0, none⟩), rv16 most last A n c, tmv a] W fun e Z => ∃ A' n' c' rv' mv' xs' L', e = .returned (.tuple #[rv16 most last A' n' c', .bool true]) ∧ Dk w Z gw b rv' mv' last most xs' A' n' c' L' ∧ Way1 W Z b rv mv rv' mv' := by
  have mixed : Try.prog.follows .mixedOrders = true := by kernel_rfl
  unfold rv16 tmv
  obtain ⟨hb, hs, h0, h1, h2⟩ := do0_facts W most last A n c a
  obtain ⟨V, hV⟩ : ∃ V, V = do0 W most last A n c a := ⟨_, rfl⟩
  rw [← hV] at hb hs h0 h1 h2
  have hDV := hD.below hb
  have hblt := bad_lt hD.wl.pl
  have a0 : V.cell? ⟨W.heap.size + 1, 0, none⟩ = some (.int .i64 a.tok) := h1.cell 0 rfl
  have a1 : V.cell? ⟨W.heap.size + 1, 1, none⟩ = some (.int .i64 a.dl) := h1.cell 1 rfl
  have a2 : V.cell? ⟨W.heap.size + 1, 2, none⟩ = some (.int .i64 a.k) := h1.cell 2 rfl
  have a3 : V.cell? ⟨W.heap.size + 1, 3, none⟩ = some (.int .i64 a.n) := h1.cell 3 rfl
  have hn6 : n ≤ 100000 := by have := hD.few; have := hD.m2; omega
  have C := Lib.hid (rcancel_any most last a.dl A n c L V hD.len hn6 hDV.lies)
  have hkb : (a.tok == 1) = true := beq_iff_eq.2 hk
  have hkb0 : (a.tok == 0) = false := by rw [hk]; rfl
  have htm : g xs i ∈ xs := List.mem_of_getElem? (g_at hi)
  have hlt : (flt a.dl L).length < n := by
    rw [hD.len, ← hit]
    have h1 := hD.pm.mem_iff.2 htm
    refine Nat.lt_of_le_of_ne (flt_le _ _) (fun e => ?_)
    have h2 := List.length_filter_eq_length_iff.1 e _ h1
    simp at h2
  have hltb : decide ((flt a.dl L).length < n) = true := by simpa using hlt
  rw [hltb] at C
  clear hk hlt hltb
  have HD := Lib.hid hD
  have HDV := Lib.hid hDV
  have HBL := Lib.hid hblt
  have H0 := Lib.hid h0
  have H1 := Lib.hid h1
  have H2 := Lib.hid h2
  have HB := Lib.hid hb
  have HS := Lib.hid hs
  have b0 : V.cell? ⟨W.heap.size, 0, none⟩ = some (.int .i64 most) := h0.cell 0 rfl
  have b1 : V.cell? ⟨W.heap.size, 1, none⟩ = some (.int .i64 last) := h0.cell 1 rfl
  have b2 : V.cell? ⟨W.heap.size, 2, none⟩ = some (.slice A n c) := h0.cell 2 rfl
  unfold do0 at hV
  have HV := Lib.hid hV
  clear hV hb hs h0 h1 h2 hDV hblt hD hn6
  unfold rv16 at C
  go_enter Try.func9, Try.ntmps9
  go_upto_region 1 with fail
  rw [← HV.out]
  go_wp2_with fail
  refine C.out.mono ?_
  rintro e w1 ⟨A1, c1, rfl, p1, p2, p3, p4, p5, hb1⟩
  obtain ⟨L1, hL1⟩ : ∃ L1, L1 = flt a.dl L := ⟨_, rfl⟩
  rw [← hL1] at p1 p3 p4 ⊢
  obtain ⟨U, hU⟩ : ∃ U, U = w1.alloc (.cells #[.int .i64 most, .int .i64 last, .slice A1 L1.length c1] 28) := ⟨_, rfl⟩
  have hbU : Below V.heap.size V U := hb1.trans ((hU ▸ below_alloc w1 _ : Below w1.heap.size w1 U).mono hb1.size)
  have uN : Blk U w1.heap.size 28 #[.int .i64 most, .int .i64 last, .slice A1 L1.length c1] := by rw [hU]; exact Blk.new _ _ _
  have u1 := H1.out.below hbU
  have u2 := H2.out.below hbU
  have hsz1 := hb1.size
  have hsV := HS.out
  have DU : Dk w U.drew gw b rv mv last most xs A n c L := by
    have h9 := HDV.out.below hbU
    exact h9.below ⟨rfl, rfl, rfl, Nat.le_refl _, fun _ _ => rfl⟩
  have hd1 : U.drew.cell? ⟨W.heap.size + 1, 1, none⟩ = some (.int .i64 a.dl) := u1.cell 1 rfl
  have hd1' : U.cell? ⟨W.heap.size + 1, 1, none⟩ = some (.int .i64 a.dl) := u1.cell 1 rfl
  have LIES : Hid (At U.drew A1 (tv L1)) := (p3.below (hU ▸ below_alloc w1 _) : At U A1 (tv L1))
  have HNW : Hid (∀ b' o p, A1 = some ⟨b', o, p⟩ → V.heap.size ≤ b' ∧ p = none ∧ b' < w1.heap.size) := p5
  have HLTA : Hid (∀ b' o p, A1 = some ⟨b', o, p⟩ → b' < U.heap.size) := by
    intro b' o p e
    have := (p5 b' o p e).2.2
    rw [hU]; simp; omega
  have CC := Lib.hid (cancel_yes b i rv mv last most a.dl xs U.drew DU.wl hi hit)
  have NB : Hid (∀ q, W.heap.size ≤ q → ¬ (Bad b rv mv) q) := fun q hq e => by have := HBL.out q e; omega
  have hwU : w1.heap.size < U.heap.size := uN.lt
  have FC : Hid (∀ W', Beside (Bad b rv mv) U.drew W' → (W'.cell? ⟨w1.heap.size, 0, none⟩ = some (.int .i64 most) ∧ W'.cell? ⟨w1.heap.size, 1, none⟩ = some (.int .i64 last) ∧ W'.cell? ⟨w1.heap.size, 2, none⟩ = some (.slice A1 L1.length c1)) ∧ Blk W' (W.heap.size + 1 + 1) 28 #[.int .i64 0, .int .i64 0, .slice none 0 0]) := by
    intro W' hW
    have e0 : Blk W' w1.heap.size 28 #[.int .i64 most, .int .i64 last, .slice A1 L1.length c1] := hW.blk (q := w1.heap.size) (NB.out w1.heap.size (by omega)) uN.drew
    exact ⟨⟨e0.cell 0 rfl, e0.cell 1 rfl, e0.cell 2 rfl⟩, hW.blk (q := W.heap.size + 1 + 1) (NB.out (W.heap.size + 1 + 1) (by omega)) u2.drew⟩
  have m0 : U.drew.cell? ⟨w1.heap.size, 0, none⟩ = some (.int .i64 most) := uN.cell 0 rfl
  have m1 : U.drew.cell? ⟨w1.heap.size, 1, none⟩ = some (.int .i64 last) := uN.cell 1 rfl
  have m2 : U.drew.cell? ⟨w1.heap.size, 2, none⟩ = some (.slice A1 L1.length c1) := uN.cell 2 rfl
  have m0' : U.cell? ⟨w1.heap.size, 0, none⟩ = some (.int .i64 most) := uN.cell 0 rfl
  have m1' : U.cell? ⟨w1.heap.size, 1, none⟩ = some (.int .i64 last) := uN.cell 1 rfl
  have m2' : U.cell? ⟨w1.heap.size, 2, none⟩ = some (.slice A1 L1.length c1) := uN.cell 2 rfl
  have hnr1 : ¬ (w1.heap.size = W.heap.size + 1 + 1) := by omega
  have hnr2 : ¬ (W.heap.size + 1 + 1 = w1.heap.size) := by omega
  have HDU := Lib.hid DU
  have HHU := Lib.hid hU
  have HBU := Lib.hid hbU
  have HP1 := Lib.hid p1
  have HP4 := Lib.hid p4
  have HL1 := Lib.hid hL1
  clear uN u1 u2 DU hU hbU p1 p2 p3 p4 p5 hb1 hsz1 hsV hwU hL1 C hkb hkb0
  have XX : Hid (∀ w5 Z : World, Beside (fun x => x = W.heap.size + 1 + 1) w5 Z → ∀ rv5 xs5, Wl w5 b rv5 mv last most xs5 → xs.Perm (g xs i :: xs5) → Beside (Bad b rv mv) U.drew w5 → Fresh U.drew.heap.size rv mv rv5 mv → ∃ rv' xs', Dk w Z gw b rv' mv last most xs' A1 L1.length c1 L1 ∧ Way1 W Z b rv mv rv' mv) := by
    intro w5 Z hbZ rv5 xs5 hw5 hp5 hb5 hf5
    have hsV := HS.out
    have hVU : V.heap.size ≤ U.heap.size := HBU.out.size
    have hU5 : U.heap.size ≤ w5.heap.size := hb5.size
    have hWU : Beside (Bad b rv mv) W U.drew := ((Beside.ofBelow HB.out).trans (.ofBelow HBU.out)).drewN 1
    have hW5 : Beside (Bad b rv mv) W w5 := hWU.trans hb5
    have hfr : Fresh W.heap.size rv mv rv5 mv := ⟨fun q hq => by rcases hf5.1 q hq with h9 | h9; exact .inl h9; have h8 : U.heap.size ≤ q := h9; exact .inr (by omega), fun q hq => .inl hq⟩
    have hr : ¬ Bad b rv5 mv (W.heap.size + 1 + 1) := fun e => by
      rcases bad_fresh hf5 _ e with h9 | h9
      · have := HBL.out _ h9; omega
      · have h8 : U.heap.size ≤ W.heap.size + 1 + 1 := h9; omega
    have hbad5 : ∀ q, Bad b rv5 mv q → q < W.heap.size ∨ U.heap.size ≤ q := fun q hq => by
      rcases bad_fresh hf5 q hq with h9 | h9
      · exact .inl (HBL.out q h9)
      · exact .inr h9
    have hpm : L1.Perm xs5 := by
      rw [HL1.out, ← hit]
      exact flt_perm HD.out.pm hp5 (others HD.out.wl.pl.nodup hp5)
    have hsz : gw ≤ W.heap.size := HD.out.sz
    have hd5 : Dk w w5 gw b rv5 mv last most xs5 A1 L1.length c1 L1 := by
      refine ⟨hw5, fun q hq => by rcases bad_fresh hfr q hq with h9 | h9; exact HD.out.new q h9; omega, hW5.below HD.out.bel hsz HD.out.new, by omega, hpm, by rw [HL1.out]; exact flt_srt HD.out.so _, hb5.at LIES.out (fun b' o p e => by have h9 := (HNW.out b' o p e).1; exact fun h8 => by have := HBL.out _ h8; omega), ?_, ?_, rfl, HP1.out, HP4.out, ?_, fun x hx => HD.out.tok x (by rw [HL1.out] at hx; exact (List.mem_filter.1 hx).1), HD.out.lo, HD.out.m1, HD.out.m2, ?_⟩
      · intro b' o p e h8
        have h9 := (HNW.out b' o p e).1
        have h7 := HLTA.out b' o p e
        rcases hbad5 b' h8 with h6 | h6 <;> omega
      · intro b' o p e
        have h7 := HLTA.out b' o p e
        omega
      · cases hA : A1 with
        | none => exact .inl rfl
        | some ad =>
          obtain ⟨b', o', p'⟩ := ad
          have := (HNW.out b' o' p' hA).2.1
          subst this
          exact .inr ⟨b', o', rfl⟩
      · have h9 := HD.out.few; have h8 := flt_le a.dl L; have h7 := HD.out.len; rw [← HL1.out] at h8; omega
    refine ⟨rv5, xs5, hd5.put hbZ hr (fun b' o p e => by have h9 := (HNW.out b' o p e).1; omega) (by omega), hW5.over hbZ (fun q hq => .inr (by rw [hq]; omega)), hfr⟩
  have XX := XX.out
  have HXX := Lib.hid XX
  clear XX
  go_upto_region 8 with fail
  rw [← HHU.out]
  change Code.wp _ _ _ _ U
  go_region_with (go_at_call 13; refine CC.out.mono ?_; rintro e w5 ⟨rfl, rv5, xs5, hw5, hp5, hb5, hf5⟩; obtain ⟨hzc, hzb⟩ := FC.out w5 hb5; obtain ⟨z0, z1, z2⟩ := hzc; have r0 : w5.cell? ⟨W.heap.size + 1 + 1, 0, none⟩ = some (.int .i64 0) := hzb.cell 0 rfl; have r1 : w5.cell? ⟨W.heap.size + 1 + 1, 1, none⟩ = some (.int .i64 0) := hzb.cell 1 rfl; have r2 : w5.cell? ⟨W.heap.size + 1 + 1, 2, none⟩ = some (.slice none 0 0) := hzb.cell 2 rfl; have rf0 : w5.frozen? ⟨W.heap.size + 1 + 1, 0, none⟩ = false := hzb.frozen 0; have rf1 : w5.frozen? ⟨W.heap.size + 1 + 1, 1, none⟩ = false := hzb.frozen 1; have rf2 : w5.frozen? ⟨W.heap.size + 1 + 1, 2, none⟩ = false := hzb.frozen 2; have HZB := Lib.hid hzb; clear hzb; have HW5 := Lib.hid hw5; have HP5 := Lib.hid hp5; have HB5 := Lib.hid hb5; have HF5 := Lib.hid hf5; clear hw5 hp5 hb5 hf5)
  all_goals
    go_wp2
    obtain ⟨Z, hZ⟩ : ∃ Z, Z = set3 w5 (W.heap.size + 1 + 1) (.int .i64 most) (.int .i64 last) (.slice A1 L1.length c1) := ⟨_, rfl⟩
    have HR1 := Lib.hid (blk_set3 HZB.out (.int .i64 most) (.int .i64 last) (.slice A1 L1.length c1))
    rw [← hZ] at HR1
    have hbZ : Beside (fun x => x = W.heap.size + 1 + 1) w5 Z := by rw [hZ]; exact beside_set3 (Beside.refl (fun x => x = W.heap.size + 1 + 1) w5) (.inl rfl) _ _ _
    have HE := Lib.hid (HXX.out w5 Z hbZ rv5 xs5 HW5.out HP5.out HB5.out HF5.out)
    unfold set3 at hZ
    rw [← hZ]
    try simp only [Exit.inBlock, Exit.then]
    refine bodyPost_ret (results_mid_tmp rfl _ _ (W.heap.size + 1 + 1) 0 [.int .i64 most, .int .i64 last, .slice A1 L1.length c1] _ rfl (blk_range HR1.out) Try.underlying28 rfl (by kernel_rfl)) rfl ?_
    obtain ⟨rv', xs', e1, e2⟩ := HE.out
    exact ⟨A1, L1.length, c1, rv', mv, xs', L1, rfl, e1, e2⟩
set_option maxHeartbeats 8000000 in
set_option maxRecDepth 100000 in
theorem do_cno (w W : World) (gw b : Nat) (rv mv : Value) (last most : Int) (xs : List Tm) (A : Option Addr) (n c : Nat) (L : List Tm) (a : Tm) (hD : Dk w W gw b rv mv last most xs A n c L) (hk : a.tok = 1) (hok : OkI a.dl) (hno : ∀ x ∈ xs, x.tok ≠ a.dl) :
    Calls Try.prog 9 #[.pointer (some ⟨b, 0, none⟩), rv16 most last A n c, tmv a] W fun e Z => ∃ A' n' c' rv' mv' xs' L', e = .returned (.tuple #[rv16 most last A' n' c', .bool true]) ∧ Dk w Z gw b rv' mv' last most xs' A' n' c' L' ∧ Way1 W Z b rv mv rv' mv' := by
  have mixed : Try.prog.follows .mixedOrders = true := by kernel_rfl
  unfold rv16 tmv
  obtain ⟨hb, hs, h0, h1, h2⟩ := do0_facts W most last A n c a
  obtain ⟨V, hV⟩ : ∃ V, V = do0 W most last A n c a := ⟨_, rfl⟩
  rw [← hV] at hb hs h0 h1 h2
  have hDV := hD.below hb
  have hblt := bad_lt hD.wl.pl
  have a0 : V.cell? ⟨W.heap.size + 1, 0, none⟩ = some (.int .i64 a.tok) := h1.cell 0 rfl
  have a1 : V.cell? ⟨W.heap.size + 1, 1, none⟩ = some (.int .i64 a.dl) := h1.cell 1 rfl
  have a2 : V.cell? ⟨W.heap.size + 1, 2, none⟩ = some (.int .i64 a.k) := h1.cell 2 rfl
  have a3 : V.cell? ⟨W.heap.size + 1, 3, none⟩ = some (.int .i64 a.n) := h1.cell 3 rfl
  have hn6 : n ≤ 100000 := by have := hD.few; have := hD.m2; omega
  have C := Lib.hid (rcancel_any most last a.dl A n c L V hD.len hn6 hDV.lies)
  have hkb : (a.tok == 1) = true := beq_iff_eq.2 hk
  have hkb0 : (a.tok == 0) = false := by rw [hk]; rfl
  have hfl : flt a.dl L = L := flt_self (fun x hx => hno x (hD.pm.mem_iff.1 hx))
  have HFL := Lib.hid hfl
  have hlt : ¬ ((flt a.dl L).length < n) := by rw [hfl, hD.len]; omega
  have hltb : decide ((flt a.dl L).length < n) = false := by simpa using hlt
  rw [hltb] at C
  clear hk hlt hltb
  have HD := Lib.hid hD
  have HDV := Lib.hid hDV
  have HBL := Lib.hid hblt
  have H0 := Lib.hid h0
  have H1 := Lib.hid h1
  have H2 := Lib.hid h2
  have HB := Lib.hid hb
  have HS := Lib.hid hs
  have b0 : V.cell? ⟨W.heap.size, 0, none⟩ = some (.int .i64 most) := h0.cell 0 rfl
  have b1 : V.cell? ⟨W.heap.size, 1, none⟩ = some (.int .i64 last) := h0.cell 1 rfl
  have b2 : V.cell? ⟨W.heap.size, 2, none⟩ = some (.slice A n c) := h0.cell 2 rfl
  unfold do0 at hV
  have HV := Lib.hid hV
  clear hV hb hs h0 h1 h2 hDV hblt hD hn6
  unfold rv16 at C
  go_enter Try.func9, Try.ntmps9
  go_upto_region 1 with fail
  rw [← HV.out]
  go_wp2_with fail
  refine C.out.mono ?_
  rintro e w1 ⟨A1, c1, rfl, p1, p2, p3, p4, p5, hb1⟩
  obtain ⟨L1, hL1⟩ : ∃ L1, L1 = flt a.dl L := ⟨_, rfl⟩
  rw [← hL1] at p1 p3 p4 ⊢
  obtain ⟨U, hU⟩ : ∃ U, U = w1.alloc (.cells #[.int .i64 most, .int .i64 last, .slice A1 L1.length c1] 28) := ⟨_, rfl⟩
  have hbU : Below V.heap.size V U := hb1.trans ((hU ▸ below_alloc w1 _ : Below w1.heap.size w1 U).mono hb1.size)
  have uN : Blk U w1.heap.size 28 #[.int .i64 most, .int .i64 last, .slice A1 L1.length c1] := by rw [hU]; exact Blk.new _ _ _
  have u1 := H1.out.below hbU
  have u2 := H2.out.below hbU
  have hsz1 := hb1.size
  have hsV := HS.out
  have DU : Dk w U.drew gw b rv mv last most xs A n c L := by
    have h9 := HDV.out.below hbU
    exact h9.below ⟨rfl, rfl, rfl, Nat.le_refl _, fun _ _ => rfl⟩
  have hd1 : U.drew.cell? ⟨W.heap.size + 1, 1, none⟩ = some (.int .i64 a.dl) := u1.cell 1 rfl
  have hd1' : U.cell? ⟨W.heap.size + 1, 1, none⟩ = some (.int .i64 a.dl) := u1.cell 1 rfl
  have LIES : Hid (At U.drew A1 (tv L1)) := (p3.below (hU ▸ below_alloc w1 _) : At U A1 (tv L1))
  have HNW : Hid (∀ b' o p, A1 = some ⟨b', o, p⟩ → V.heap.size ≤ b' ∧ p = none ∧ b' < w1.heap.size) := p5
  have HLTA : Hid (∀ b' o p, A1 = some ⟨b', o, p⟩ → b' < U.heap.size) := by
    intro b' o p e
    have := (p5 b' o p e).2.2
    rw [hU]; simp; omega
  have CC := Lib.hid (cancel_no b rv mv last most a.dl xs U.drew DU.wl hok hno)
  have NB : Hid (∀ q, W.heap.size ≤ q → ¬ (fun _ => False) q) := fun q hq e => e
  have hwU : w1.heap.size < U.heap.size := uN.lt
  have FC : Hid (∀ W', Beside (fun _ => False) U.drew W' → (W'.cell? ⟨w1.heap.size, 0, none⟩ = some (.int .i64 most) ∧ W'.cell? ⟨w1.heap.size, 1, none⟩ = some (.int .i64 last) ∧ W'.cell? ⟨w1.heap.size, 2, none⟩ = some (.slice A1 L1.length c1)) ∧ Blk W' (W.heap.size + 1 + 1) 28 #[.int .i64 0, .int .i64 0, .slice none 0 0]) := by
    intro W' hW
    have e0 : Blk W' w1.heap.size 28 #[.int .i64 most, .int .i64 last, .slice A1 L1.length c1] := hW.blk (q := w1.heap.size) (NB.out w1.heap.size (by omega)) uN.drew
    exact ⟨⟨e0.cell 0 rfl, e0.cell 1 rfl, e0.cell 2 rfl⟩, hW.blk (q := W.heap.size + 1 + 1) (NB.out (W.heap.size + 1 + 1) (by omega)) u2.drew⟩
  have m0 : U.drew.cell? ⟨w1.heap.size, 0, none⟩ = some (.int .i64 most) := uN.cell 0 rfl
  have m1 : U.drew.cell? ⟨w1.heap.size, 1, none⟩ = some (.int .i64 last) := uN.cell 1 rfl
  have m2 : U.drew.cell? ⟨w1.heap.size, 2, none⟩ = some (.slice A1 L1.length c1) := uN.cell 2 rfl
  have m0' : U.cell? ⟨w1.heap.size, 0, none⟩ = some (.int .i64 most) := uN.cell 0 rfl
  have m1' : U.cell? ⟨w1.heap.size, 1, none⟩ = some (.int .i64 last) := uN.cell 1 rfl
  have m2' : U.cell? ⟨w1.heap.size, 2, none⟩ = some (.slice A1 L1.length c1) := uN.cell 2 rfl
  have hnr1 : ¬ (w1.heap.size = W.heap.size + 1 + 1) := by omega
  have hnr2 : ¬ (W.heap.size + 1 + 1 = w1.heap.size) := by omega
  have HDU := Lib.hid DU
  have HHU := Lib.hid hU
  have HBU := Lib.hid hbU
  have HP1 := Lib.hid p1
  have HP4 := Lib.hid p4
  have HL1 := Lib.hid hL1
  clear uN u1 u2 DU hU hbU p1 p2 p3 p4 p5 hb1 hsz1 hsV hwU hL1 C hkb hkb0
  have XX : Hid (∀ w5 Z : World, Beside (fun x => x = W.heap.size + 1 + 1) w5 Z → Below U.drew.heap.size U.drew w5 → ∃ rv' xs', Dk w Z gw b rv' mv last most xs' A1 L1.length c1 L1 ∧ Way1 W Z b rv mv rv' mv) := by
    intro w5 Z hbZ hb5
    have hsV := HS.out
    have hVU : V.heap.size ≤ U.heap.size := HBU.out.size
    have hU5 : U.heap.size ≤ w5.heap.size := hb5.size
    have hWU : Beside (Bad b rv mv) W U.drew := ((Beside.ofBelow HB.out).trans (.ofBelow HBU.out)).drewN 1
    have hW5 : Beside (Bad b rv mv) W w5 := hWU.trans (.ofBelow hb5)
    have hr : ¬ Bad b rv mv (W.heap.size + 1 + 1) := fun e => by have := HBL.out _ e; omega
    have hLL : L1 = L := HL1.out.trans HFL.out
    have hsz : gw ≤ W.heap.size := HD.out.sz
    have h5 := HDU.out.below hb5
    have hd5 : Dk w w5 gw b rv mv last most xs A1 L1.length c1 L1 := by
      refine ⟨h5.wl, h5.new, h5.bel, h5.sz, by rw [hLL]; exact h5.pm, by rw [hLL]; exact h5.so, LIES.out.below hb5, ?_, ?_, rfl, HP1.out, HP4.out, ?_, by rw [hLL]; exact h5.tok, h5.lo, h5.m1, h5.m2, by have h9 := h5.few; have h7 := h5.len; rw [hLL]; omega⟩
      · intro b' o p e h8
        have h9 := (HNW.out b' o p e).1
        have := HBL.out _ h8
        omega
      · intro b' o p e
        have h7 := HLTA.out b' o p e
        omega
      · cases hA : A1 with
        | none => exact .inl rfl
        | some ad =>
          obtain ⟨b', o', p'⟩ := ad
          have := (HNW.out b' o' p' hA).2.1
          subst this
          exact .inr ⟨b', o', rfl⟩
    refine ⟨rv, xs, hd5.put hbZ hr (fun b' o p e => by have h9 := (HNW.out b' o p e).1; omega) (by omega), hW5.over hbZ (fun q hq => .inr (by rw [hq]; omega)), ⟨fun q hq => .inl hq, fun q hq => .inl hq⟩⟩
  have XX := XX.out
  have HXX := Lib.hid XX
  clear XX
  go_upto_region 8 with fail
  rw [← HHU.out]
  change Code.wp _ _ _ _ U
  go_region_with (go_at_call 13; refine CC.out.mono ?_; rintro e w5 ⟨rfl, hb5⟩; obtain ⟨hzc, hzb⟩ := FC.out w5 (Beside.ofBelow hb5); obtain ⟨z0, z1, z2⟩ := hzc; have r0 : w5.cell? ⟨W.heap.size + 1 + 1, 0, none⟩ = some (.int .i64 0) := hzb.cell 0 rfl; have r1 : w5.cell? ⟨W.heap.size + 1 + 1, 1, none⟩ = some (.int .i64 0) := hzb.cell 1 rfl; have r2 : w5.cell? ⟨W.heap.size + 1 + 1, 2, none⟩ = some (.slice none 0 0) := hzb.cell 2 rfl; have rf0 : w5.frozen? ⟨W.heap.size + 1 + 1, 0, none⟩ = false := hzb.frozen 0; have rf1 : w5.frozen? ⟨W.heap.size + 1 + 1, 1, none⟩ = false := hzb.frozen 1; have rf2 : w5.frozen? ⟨W.heap.size + 1 + 1, 2, none⟩ = false := hzb.frozen 2; have HZB := Lib.hid hzb; clear hzb; have HB5 := Lib.hid hb5; clear hb5)
  all_goals
    go_wp2
    obtain ⟨Z, hZ⟩ : ∃ Z, Z = set3 w5 (W.heap.size + 1 + 1) (.int .i64 most) (.int .i64 last) (.slice A1 L1.length c1) := ⟨_, rfl⟩
    have HR1 := Lib.hid (blk_set3 HZB.out (.int .i64 most) (.int .i64 last) (.slice A1 L1.length c1))
    rw [← hZ] at HR1
    have hbZ : Beside (fun x => x = W.heap.size + 1 + 1) w5 Z := by rw [hZ]; exact beside_set3 (Beside.refl (fun x => x = W.heap.size + 1 + 1) w5) (.inl rfl) _ _ _
    have HE := Lib.hid (HXX.out w5 Z hbZ HB5.out)
    unfold set3 at hZ
    rw [← hZ]
    try simp only [Exit.inBlock, Exit.then]
    refine bodyPost_ret (results_mid_tmp rfl _ _ (W.heap.size + 1 + 1) 0 [.int .i64 most, .int .i64 last, .slice A1 L1.length c1] _ rfl (blk_range HR1.out) Try.underlying28 rfl (by kernel_rfl)) rfl ?_
    obtain ⟨rv', xs', e1, e2⟩ := HE.out
    exact ⟨A1, L1.length, c1, rv', mv, xs', L1, rfl, e1, e2⟩
end Go.Proofs.Ytdbgmogllncffaa
