/- Contract of the statements' do, at an ask. -/
import Derived.Test.YtpdlholoeaphgaaFrD2
import Derived.Test.YtpdlholoeaphgaaFrR3
namespace Go.Proofs.Ytpdlholoeaphgaa
open Go.RowKit
namespace Fr
set_option maxHeartbeats 4000000 in
set_option maxRecDepth 100000 in
theorem do_full (w W : World) (gw b : Nat) (r1 r2 : Value) (last most : Int) (a1 a2 : List Wt) (A : Option Addr) (n c : Nat) (a : Tm) (hD : Fk w W gw b r1 r2 last most a1 a2 A n c) (hk : a.tok = 0) (hf : most ≤ ((a1.length + a2.length : Nat) : Int)) :
    Calls Try.prog 12 #[.pointer (some ⟨b, 0, none⟩), rv16 most last A n c, tmv a] W fun e Z => e = .returned (.tuple #[rv16 most last A n c, .bool true]) ∧ Fk w Z gw b r1 r2 last most a1 a2 A n c ∧ Way W Z b r1 r2 r1 r2 := by
  have mixed : Try.prog.follows .mixedOrders = true := by kernel_rfl
  unfold rv16 tmv
  obtain ⟨hb, hs, h0, h1, h2⟩ := do0_facts W most last A n c a
  obtain ⟨V, hV⟩ : ∃ V, V = do0 W most last A n c a := ⟨_, rfl⟩
  rw [← hV] at hb hs h0 h1 h2
  have hDV := hD.below hb
  have hblt := hD.qm.bad_lt
  have p0 : V.cell? ⟨W.heap.size + 1, 0, none⟩ = some (.int .i64 a.tok) := h1.cell 0 rfl
  have p1 : V.cell? ⟨W.heap.size + 1, 1, none⟩ = some (.int .i64 a.dl) := h1.cell 1 rfl
  have p2 : V.cell? ⟨W.heap.size + 1, 2, none⟩ = some (.int .i64 a.k) := h1.cell 2 rfl
  have p3 : V.cell? ⟨W.heap.size + 1, 3, none⟩ = some (.int .i64 a.n) := h1.cell 3 rfl
  have s0 : V.cell? ⟨W.heap.size, 0, none⟩ = some (.int .i64 most) := h0.cell 0 rfl
  have s1 : V.cell? ⟨W.heap.size, 1, none⟩ = some (.int .i64 last) := h0.cell 1 rfl
  have s2 : V.cell? ⟨W.heap.size, 2, none⟩ = some (.slice A n c) := h0.cell 2 rfl
  have C := Lib.hid (fask_full b 0 78 [] [] r1 r2 last most a.k a.n a1 a2 V hDV.qm rfl hD.m1 hf)
  have hlen : (n : Int) = most := by have h9 := hD.few; have h7 := hD.len; omega
  have hkb : (a.tok == 0) = true := beq_iff_eq.2 hk
  clear hk
  have HN := Lib.hid hD.len
  have hn6 : n ≤ 65536 := by have := hD.few; have := hD.m2; omega
  have HN6 := Lib.hid hn6
  have HLO := Lib.hid hD.lo
  have HLEN := Lib.hid hlen
  have HD := Lib.hid hD
  have HDV := Lib.hid hDV
  have HBL := Lib.hid hblt
  have H0 := Lib.hid h0
  have H1 := Lib.hid h1
  have H2 := Lib.hid h2
  have HB := Lib.hid hb
  have HS := Lib.hid hs
  unfold do0 at hV
  have HV := Lib.hid hV
  clear hV hb hs h0 h1 h2 hDV hblt hD hlen hn6
  go_enter Try.func12, Try.ntmps12
  go_upto_region 1 with fail
  rw [← HV.out]
  go_wp2_with fail
  refine C.out.mono ?_
  rintro e w1 ⟨rfl, hb1⟩
  have hbs1 : Beside (Qb b r1 r2) V w1 := Beside.ofBelow hb1
  have HB1 := Lib.hid hb1
  have nb : ∀ q, W.heap.size ≤ q → ¬ Qb b r1 r2 q := fun q hq e => by have := HBL.out q e; omega
  have hsV := HS.out
  have k0 : Blk w1 W.heap.size _ _ := (hbs1.block _ H0.out.lt (nb _ (by omega))).trans H0.out
  have k1 : Blk w1 (W.heap.size + 1) _ _ := (hbs1.block _ H1.out.lt (nb _ (by omega))).trans H1.out
  have k2 : Blk w1 (W.heap.size + 1 + 1) _ _ := (hbs1.block _ H2.out.lt (nb _ (by omega))).trans H2.out
  have hlies1 : At w1 A (tv (doc a1 a2)) := hbs1.at HDV.out.lies (fun b' o p e => HDV.out.sep b' o p e)
  have hsz1 := hbs1.size
  have C2 := Lib.hid (rask_full most last a.k a.n A n c w1 HLEN.out)
  have m0 : w1.cell? ⟨W.heap.size, 0, none⟩ = some (.int .i64 most) := k0.cell 0 rfl
  have m1 : w1.cell? ⟨W.heap.size, 1, none⟩ = some (.int .i64 last) := k0.cell 1 rfl
  have m2 : w1.cell? ⟨W.heap.size, 2, none⟩ = some (.slice A n c) := k0.cell 2 rfl
  have q2 : w1.cell? ⟨W.heap.size + 1, 2, none⟩ = some (.int .i64 a.k) := k1.cell 2 rfl
  have q3 : w1.cell? ⟨W.heap.size + 1, 3, none⟩ = some (.int .i64 a.n) := k1.cell 3 rfl
  have K2 := Lib.hid k2
  have HL1 := Lib.hid hlies1
  have HBS1 := Lib.hid hbs1
  clear k0 k1 k2 C H0 H1 H2 nb hlies1 hbs1 hb1
  unfold rv16 at C2
  go_wp2_with fail
  refine C2.out.mono ?_
  rintro e w2 ⟨rfl, hb2⟩
  obtain ⟨U, hU⟩ : ∃ U, U = w2.alloc (.cells #[.int .i64 most, .int .i64 last, .slice A n c] 28) := ⟨_, rfl⟩
  have hb2U : Below w2.heap.size w2 U := hU ▸ below_alloc w2 _
  have hbU : Below w1.heap.size w1 U := Fr.below_join hb2 hb2U
  have u2 : Blk U (W.heap.size + 1 + 1) 28 #[.int .i64 0, .int .i64 0, .slice none 0 0] := K2.out.below hbU
  have uN : Blk U w2.heap.size 28 #[.int .i64 most, .int .i64 last, .slice A n c] := by rw [hU]; exact Blk.new _ _ _
  have hsz2 := hb2.size
  have hk2 := K2.out.lt
  have n0 : U.cell? ⟨w2.heap.size, 0, none⟩ = some (.int .i64 most) := uN.cell 0 rfl
  have n1 : U.cell? ⟨w2.heap.size, 1, none⟩ = some (.int .i64 last) := uN.cell 1 rfl
  have n2 : U.cell? ⟨w2.heap.size, 2, none⟩ = some (.slice A n c) := uN.cell 2 rfl
  have r0 : U.cell? ⟨W.heap.size + 1 + 1, 0, none⟩ = some (.int .i64 0) := u2.cell 0 rfl
  have rf0 : U.frozen? ⟨W.heap.size + 1 + 1, 0, none⟩ = false := u2.frozen 0
  have r1c : U.cell? ⟨W.heap.size + 1 + 1, 1, none⟩ = some (.int .i64 0) := u2.cell 1 rfl
  have rf1 : U.frozen? ⟨W.heap.size + 1 + 1, 1, none⟩ = false := u2.frozen 1
  have r2c : U.cell? ⟨W.heap.size + 1 + 1, 2, none⟩ = some (.slice none 0 0) := u2.cell 2 rfl
  have rf2 : U.frozen? ⟨W.heap.size + 1 + 1, 2, none⟩ = false := u2.frozen 2
  obtain ⟨Z, hZ⟩ : ∃ Z, Z = set3 U (W.heap.size + 1 + 1) (.int .i64 most) (.int .i64 last) (.slice A n c) := ⟨_, rfl⟩
  have HR1 : Hid (Blk Z (W.heap.size + 1 + 1) 28 #[.int .i64 most, .int .i64 last, .slice A n c]) := by rw [hZ]; exact blk_set3 u2 _ _ _
  have hbZ : Beside (fun x => x = W.heap.size + 1 + 1) U Z := by rw [hZ]; exact beside_set3 (Beside.refl (fun x => x = W.heap.size + 1 + 1) U) (.inl rfl) _ _ _
  have nb : ∀ q, W.heap.size ≤ q → ¬ Qb b r1 r2 q := fun q hq e => by have := HBL.out q e; omega
  have hWU : Beside (Qb b r1 r2) W U := (Beside.ofBelow HB.out).trans (HBS1.out.trans (.ofBelow hbU))
  have HE : Hid (Fk w Z gw b r1 r2 last most a1 a2 A n c ∧ Way W Z b r1 r2 r1 r2) := by
    have hWUb : Below W.heap.size W U := (HB.out.trans ((Fr.below_join HB1.out hbU).mono HB.out.size))
    refine ⟨(HD.out.below hWUb).put hbZ (nb _ (by omega)) (fun _ b' o p e => by have := HD.out.old b' o p e; omega) (by have := HD.out.sz; omega), Way.put ⟨hWU, fun q h => .inl h⟩ hbZ (by omega)⟩
  unfold set3 at hZ
  have HU := Lib.hid hU
  have HZ := Lib.hid hZ
  have hnr1 : ¬ (w2.heap.size = W.heap.size + 1 + 1) := by omega
  have hnr2 : ¬ (W.heap.size + 1 + 1 = w2.heap.size) := by omega
  clear hU hZ hbU hb2U u2 uN hbZ hb2 hsz1 hsz2 hk2 C2 nb hWU hsV HB1
  go_upto_region 5 with fail
  rw [← HU.out]
  go_wp2
  rw [← HZ.out]
  try simp only [Exit.inBlock, Exit.then]
  refine bodyPost_ret (results_mid_tmp rfl _ _ (W.heap.size + 1 + 1) 0 [.int .i64 most, .int .i64 last, .slice A n c] _ rfl (blk_range HR1.out) Try.underlying28 rfl (by kernel_rfl)) rfl ?_
  exact ⟨rfl, HE.out.1, HE.out.2⟩
set_option maxHeartbeats 4000000 in
set_option maxRecDepth 100000 in
theorem do_ok (w W : World) (gw b : Nat) (r1 r2 : Value) (last most : Int) (a1 a2 : List Wt) (A : Option Addr) (n c : Nat) (a : Tm) (hD : Fk w W gw b r1 r2 last most a1 a2 A n c) (hk : a.tok = 0) (hf : ((a1.length + a2.length : Nat) : Int) < most) (hl1 : last ≤ 1000000) :
    Calls Try.prog 12 #[.pointer (some ⟨b, 0, none⟩), rv16 most last A n c, tmv a] W fun e Z => ∃ A' c' r2', e = .returned (.tuple #[rv16 most (last + 1) A' (a1.length + (a2 ++ [(⟨last + 1, a.k, a.n⟩ : Wt)]).length) c', .bool true]) ∧ Fk w Z gw b r1 r2' (last + 1) most a1 (a2 ++ [⟨last + 1, a.k, a.n⟩]) A' (a1.length + (a2 ++ [(⟨last + 1, a.k, a.n⟩ : Wt)]).length) c' ∧ Way W Z b r1 r2 r1 r2' := by
  have mixed : Try.prog.follows .mixedOrders = true := by kernel_rfl
  unfold rv16 tmv
  obtain ⟨hb, hs, h0, h1, h2⟩ := do0_facts W most last A n c a
  obtain ⟨V, hV⟩ : ∃ V, V = do0 W most last A n c a := ⟨_, rfl⟩
  rw [← hV] at hb hs h0 h1 h2
  have hDV := hD.below hb
  have hblt := hD.qm.bad_lt
  have p0 : V.cell? ⟨W.heap.size + 1, 0, none⟩ = some (.int .i64 a.tok) := h1.cell 0 rfl
  have p1 : V.cell? ⟨W.heap.size + 1, 1, none⟩ = some (.int .i64 a.dl) := h1.cell 1 rfl
  have p2 : V.cell? ⟨W.heap.size + 1, 2, none⟩ = some (.int .i64 a.k) := h1.cell 2 rfl
  have p3 : V.cell? ⟨W.heap.size + 1, 3, none⟩ = some (.int .i64 a.n) := h1.cell 3 rfl
  have s0 : V.cell? ⟨W.heap.size, 0, none⟩ = some (.int .i64 most) := h0.cell 0 rfl
  have s1 : V.cell? ⟨W.heap.size, 1, none⟩ = some (.int .i64 last) := h0.cell 1 rfl
  have s2 : V.cell? ⟨W.heap.size, 2, none⟩ = some (.slice A n c) := h0.cell 2 rfl
  have C := Lib.hid (fask_ok b 0 78 [] [] r1 r2 last most a.k a.n a1 a2 V hDV.qm rfl (by decide) hD.m1 hD.m2 hf hD.lo (by omega))
  have hlen : (n : Int) ≠ most := by have h7 := hD.len; omega
  have HF := Lib.hid hf
  have hkb : (a.tok == 0) = true := beq_iff_eq.2 hk
  clear hk
  have HN := Lib.hid hD.len
  have hn6 : n ≤ 65536 := by have := hD.few; have := hD.m2; omega
  have HN6 := Lib.hid hn6
  have HLO := Lib.hid hD.lo
  have HLEN := Lib.hid hlen
  have HD := Lib.hid hD
  have HDV := Lib.hid hDV
  have HBL := Lib.hid hblt
  have H0 := Lib.hid h0
  have H1 := Lib.hid h1
  have H2 := Lib.hid h2
  have HB := Lib.hid hb
  have HS := Lib.hid hs
  unfold do0 at hV
  have HV := Lib.hid hV
  clear hV hb hs h0 h1 h2 hDV hblt hD hlen hn6
  go_enter Try.func12, Try.ntmps12
  go_upto_region 1 with fail
  rw [← HV.out]
  go_wp2_with fail
  refine C.out.mono ?_
  rintro e w1 ⟨rfl, r2', hq1, hbs1, hfr1⟩
  have nb : ∀ q, W.heap.size ≤ q → ¬ Qb b r1 r2 q := fun q hq e => by have := HBL.out q e; omega
  have hsV := HS.out
  have k0 : Blk w1 W.heap.size _ _ := (hbs1.block _ H0.out.lt (nb _ (by omega))).trans H0.out
  have k1 : Blk w1 (W.heap.size + 1) _ _ := (hbs1.block _ H1.out.lt (nb _ (by omega))).trans H1.out
  have k2 : Blk w1 (W.heap.size + 1 + 1) _ _ := (hbs1.block _ H2.out.lt (nb _ (by omega))).trans H2.out
  have hlies1 : At w1 A (tv (doc a1 a2)) := hbs1.at HDV.out.lies (fun b' o p e => HDV.out.sep b' o p e)
  have hsz1 := hbs1.size
  have C2 := Lib.hid (rask_ok most last a.k a.n A n c (doc a1 a2) w1 HLEN.out (by rw [doc_len]; exact HN.out) HN6.out hlies1 HDV.out.nil HLO.out (by omega))
  have m0 : w1.cell? ⟨W.heap.size, 0, none⟩ = some (.int .i64 most) := k0.cell 0 rfl
  have m1 : w1.cell? ⟨W.heap.size, 1, none⟩ = some (.int .i64 last) := k0.cell 1 rfl
  have m2 : w1.cell? ⟨W.heap.size, 2, none⟩ = some (.slice A n c) := k0.cell 2 rfl
  have q2 : w1.cell? ⟨W.heap.size + 1, 2, none⟩ = some (.int .i64 a.k) := k1.cell 2 rfl
  have q3 : w1.cell? ⟨W.heap.size + 1, 3, none⟩ = some (.int .i64 a.n) := k1.cell 3 rfl
  have K2 := Lib.hid k2
  have HL1 := Lib.hid hlies1
  have HBS1 := Lib.hid hbs1
  have HQ1 := Lib.hid hq1
  have HFR1 := Lib.hid hfr1
  clear k0 k1 k2 C H0 H1 H2 nb hlies1 hbs1 hq1 hfr1
  unfold rv16 at C2
  go_wp2_with fail
  refine C2.out.mono ?_
  rintro e w2 ⟨A6, c6, rfl, hat6, hc6, hm6, hnn6, hnew6, hb2⟩
  obtain ⟨U, hU⟩ : ∃ U, U = w2.alloc (.cells #[.int .i64 most, .int .i64 (last + 1), .slice A6 (n + 1) c6] 28) := ⟨_, rfl⟩
  have hb2U : Below w2.heap.size w2 U := hU ▸ below_alloc w2 _
  have hbU : Below w1.heap.size w1 U := Fr.below_join hb2 hb2U
  have u2 : Blk U (W.heap.size + 1 + 1) 28 #[.int .i64 0, .int .i64 0, .slice none 0 0] := K2.out.below hbU
  have uN : Blk U w2.heap.size 28 #[.int .i64 most, .int .i64 (last + 1), .slice A6 (n + 1) c6] := by rw [hU]; exact Blk.new _ _ _
  have hsz2 := hb2.size
  have hk2 := K2.out.lt
  have n0 : U.cell? ⟨w2.heap.size, 0, none⟩ = some (.int .i64 most) := uN.cell 0 rfl
  have n1 : U.cell? ⟨w2.heap.size, 1, none⟩ = some (.int .i64 (last + 1)) := uN.cell 1 rfl
  have n2 : U.cell? ⟨w2.heap.size, 2, none⟩ = some (.slice A6 (n + 1) c6) := uN.cell 2 rfl
  have r0 : U.cell? ⟨W.heap.size + 1 + 1, 0, none⟩ = some (.int .i64 0) := u2.cell 0 rfl
  have rf0 : U.frozen? ⟨W.heap.size + 1 + 1, 0, none⟩ = false := u2.frozen 0
  have r1c : U.cell? ⟨W.heap.size + 1 + 1, 1, none⟩ = some (.int .i64 0) := u2.cell 1 rfl
  have rf1 : U.frozen? ⟨W.heap.size + 1 + 1, 1, none⟩ = false := u2.frozen 1
  have r2c : U.cell? ⟨W.heap.size + 1 + 1, 2, none⟩ = some (.slice none 0 0) := u2.cell 2 rfl
  have rf2 : U.frozen? ⟨W.heap.size + 1 + 1, 2, none⟩ = false := u2.frozen 2
  obtain ⟨Z, hZ⟩ : ∃ Z, Z = set3 U (W.heap.size + 1 + 1) (.int .i64 most) (.int .i64 (last + 1)) (.slice A6 (n + 1) c6) := ⟨_, rfl⟩
  have HR1 : Hid (Blk Z (W.heap.size + 1 + 1) 28 #[.int .i64 most, .int .i64 (last + 1), .slice A6 (n + 1) c6]) := by rw [hZ]; exact blk_set3 u2 _ _ _
  have hbZ : Beside (fun x => x = W.heap.size + 1 + 1) U Z := by rw [hZ]; exact beside_set3 (Beside.refl (fun x => x = W.heap.size + 1 + 1) U) (.inl rfl) _ _ _
  have nb : ∀ q, W.heap.size ≤ q → ¬ Qb b r1 r2 q := fun q hq e => by have := HBL.out q e; omega
  have hWU : Beside (Qb b r1 r2) W U := (Beside.ofBelow HB.out).trans (HBS1.out.trans (.ofBelow hbU))
  have HE : Hid (Fk w Z gw b r1 r2' (last + 1) most a1 (a2 ++ [⟨last + 1, a.k, a.n⟩]) A6 (a1.length + (a2 ++ [(⟨last + 1, a.k, a.n⟩ : Wt)]).length) c6 ∧ Way W Z b r1 r2 r1 r2') := by
    have hqb : ∀ q, Qb b r1 r2' q → Qb b r1 r2 q ∨ (V.heap.size ≤ q ∧ q < w1.heap.size) := fun q h => by
      have hlt := HQ1.out.bad_lt q h
      rcases h with h | h | h
      · exact .inl (.inl h)
      · exact .inl (.inr (.inl h))
      · rcases HFR1.out q h with h9 | h9
        · exact .inl (.inr (.inr h9))
        · exact .inr ⟨h9, hlt⟩
    have hway : Way W U b r1 r2 r1 r2' := ⟨hWU, fun q h => by rcases hqb q h with h9 | h9; exact .inl h9; exact .inr (by omega)⟩
    have hno : ∀ b' o p, A6 = some ⟨b', o, p⟩ → ¬ Qb b r1 r2' b' := fun b' o p e h => by
      have h1 := (hnew6 b' o p e).1
      rcases hqb _ h with h9 | h9
      · exact nb _ (by omega) h9
      · omega
    have hl9 : a1.length + (a2 ++ [(⟨last + 1, a.k, a.n⟩ : Wt)]).length = n + 1 := by rw [List.length_append, List.length_singleton]; have := HN.out; omega
    have htk : ∀ x ∈ a1 ++ (a2 ++ [(⟨last + 1, a.k, a.n⟩ : Wt)]), 1 ≤ x.tok ∧ x.tok ≤ last + 1 := fun x hx => by
      have hlo := HLO.out
      rw [← List.append_assoc] at hx
      rcases List.mem_append.1 hx with h | h
      · have := HD.out.tok x h; omega
      · rw [List.mem_singleton.1 h]; show 1 ≤ last + 1 ∧ last + 1 ≤ last + 1; omega
    have hF := fk_new (c6 := c6) HD.out hway (HQ1.out.below hbU) (by rw [doc_ask]; exact hat6.below hb2U) (fun b' o p e => ⟨(hnew6 b' o p e).2.1, Nat.lt_of_lt_of_le (hnew6 b' o p e).2.2 hb2U.size, hno b' o p e⟩) (by rw [hl9]; exact hc6) (fun e => absurd e hnn6) htk (by rw [← List.append_assoc]; exact asc_snoc HD.out.asc (fun x hx => by have := HD.out.tok x hx; show x.tok < last + 1; omega)) (by have := HLO.out; omega) (by rw [hl9]; have := HF.out; have := HN.out; omega)
    exact ⟨hF.put hbZ (fun e => by rcases hqb _ e with h9 | h9; exact nb _ (by omega) h9; omega) (fun _ b' o p e => by have := (hnew6 b' o p e).1; omega) (by have := HD.out.sz; omega), hway.put hbZ (by omega)⟩
  unfold set3 at hZ
  have HU := Lib.hid hU
  have HZ := Lib.hid hZ
  have hnr1 : ¬ (w2.heap.size = W.heap.size + 1 + 1) := by omega
  have hnr2 : ¬ (W.heap.size + 1 + 1 = w2.heap.size) := by omega
  clear hU hZ hbU hb2U u2 uN hbZ hb2 hsz1 hsz2 hk2 C2 nb hWU hsV hat6 hc6 hm6 hnn6 hnew6
  go_upto_region 5 with fail
  rw [← HU.out]
  go_wp2
  rw [← HZ.out]
  try simp only [Exit.inBlock, Exit.then]
  refine bodyPost_ret (results_mid_tmp rfl _ _ (W.heap.size + 1 + 1) 0 [.int .i64 most, .int .i64 (last + 1), .slice A6 (n + 1) c6] _ rfl (blk_range HR1.out) Try.underlying28 rfl (by kernel_rfl)) rfl ?_
  have hl9 : a1.length + (a2 ++ [(⟨last + 1, a.k, a.n⟩ : Wt)]).length = n + 1 := by rw [List.length_append, List.length_singleton]; have := HN.out; omega
  refine ⟨A6, c6, r2', ?_, HE.out.1, HE.out.2⟩
  rw [hl9]
  rfl
end Fr
end Go.Proofs.Ytpdlholoeaphgaa
