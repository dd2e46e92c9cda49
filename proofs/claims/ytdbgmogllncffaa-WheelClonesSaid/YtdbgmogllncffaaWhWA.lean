/- Contracts of wheel's Cancel and Due. -/
import Derived.Test.YtdbgmogllncffaaWhW9
import Derived.Deep.MidRow
namespace Go.Proofs.Ytdbgmogllncffaa
open Go.RowKit Go.Sort Wh Go.Maps
theorem zeroI (w : World) : (zeroValue 3).run Try.prog w = .ok (.int .i64 0) w := by kernel_rfl
theorem Pl.look {w : World} {b : Nat} {rv mv : Value} {last most : Int} {xs : List Tm} (h : Pl w b rv mv last most xs) {tok : Int} (ht : OkI tok) (hn : ∀ x ∈ xs, x.tok ≠ tok) :
    (Instr.lookup 54 mv (.int .i64 tok) true).run Try.prog w = .ok (.tuple #[.int .i64 0, .bool false]) w := by
  rcases h.map with ⟨rfl, _⟩ | ⟨m, f, rfl, h1, h2⟩
  · have := Maps.look_nil (w := w) true (intWay (P := Try.prog) Try.underlying3).keyed Try.underlying54 (zeroI w) ((intWay (P := Try.prog) Try.underlying3).reads tok ht)
    simpa using this
  · have := h1.look_ok (intWay Try.underlying3) Try.underlying54 zeroI tok ht
    rw [place_none h2 ht hn] at this
    exact this
theorem Pl.found {w : World} {b : Nat} {rv mv : Value} {last most : Int} {xs : List Tm} (h : Pl w b rv mv last most xs) {i : Nat} (hi : i < xs.length) :
    (Instr.lookup 54 mv (.int .i64 (g xs i).tok) true).run Try.prog w = .ok (.tuple #[.int .i64 (i : Nat), .bool true]) w := by
  rcases h.map with ⟨_, h0⟩ | ⟨m, f, rfl, h1, h2⟩
  · rw [h0] at hi; exact absurd hi (Nat.not_lt_zero _)
  · have := h1.look_ok (intWay Try.underlying3) Try.underlying54 zeroI (g xs i).tok (h.tok _ (List.mem_of_getElem? (g_at hi)))
    rw [h2.1 i _ (g_at hi)] at this
    exact this
theorem cancel_no (b : Nat) (rv mv : Value) (last most tok : Int) (xs : List Tm) (w : World) (h : Wl w b rv mv last most xs) (ht : OkI tok) (hn : ∀ x ∈ xs, x.tok ≠ tok) :
    Calls Try.prog 13 #[.pointer (some ⟨b, 0, none⟩), .int .i64 tok] w fun e w' => e = .returned (.bool false) ∧ Below w.heap.size w w' := by
  have hl := h.pl.look ht hn
  have f1 : w.cell? ⟨b, 1, none⟩ = some mv := h.pl.blk.cell 1 rfl
  obtain ⟨p, rfl⟩ : ∃ p, mv = .map p := by
    rcases h.pl.map with ⟨rfl, _⟩ | ⟨m, f, rfl, _⟩ <;> exact ⟨_, rfl⟩
  clear h
  go_enter Try.func13, Try.ntmps13
  go_wp2
  go_ret
  exact ⟨rfl, Below.refl _ _⟩
set_option maxHeartbeats 2000000 in
theorem cancel_yes (b i : Nat) (rv mv : Value) (last most tok : Int) (xs : List Tm) (w : World) (h : Wl w b rv mv last most xs) (hi : i < xs.length) (ht : (g xs i).tok = tok) :
    Calls Try.prog 13 #[.pointer (some ⟨b, 0, none⟩), .int .i64 tok] w fun e w' => e = .returned (.bool true) ∧ ∃ rv' xs', Wl w' b rv' mv last most xs' ∧ xs.Perm (g xs i :: xs') ∧ Beside (Bad b rv mv) w w' ∧ Fresh w.heap.size rv mv rv' mv := by
  have hl := h.pl.found hi
  rw [ht] at hl
  have f1 : w.cell? ⟨b, 1, none⟩ = some mv := h.pl.blk.cell 1 rfl
  have C := Lib.hid (hremove_any b (xs.length - 1) i rv mv last most xs w h (by omega) hi)
  obtain ⟨p, rfl⟩ : ∃ p, mv = .map p := by
    rcases h.pl.map with ⟨rfl, _⟩ | ⟨m, f, rfl, _⟩ <;> exact ⟨_, rfl⟩
  clear h ht
  go_enter Try.func13, Try.ntmps13
  go_wp2_with fail
  refine C.out.mono ?_
  rintro e w1 ⟨⟨v, rfl⟩, hr⟩
  have HR := Lib.hid hr
  clear hr
  go_wp2
  go_ret
  exact ⟨rfl, HR.out⟩
theorem bad_lt {w : World} {b : Nat} {rv mv : Value} {last most : Int} {xs : List Tm} (h : Pl w b rv mv last most xs) : ∀ g, Bad b rv mv g → g < w.heap.size := by
  intro g hg
  rcases hg with rfl | hg | rfl
  · exact h.blk.lt
  · rcases h.row.2 with ⟨rfl, _⟩ | ⟨g', c, cur, rfl, _, hh, _⟩
    · cases hg
    · injection hg with hg
      subst hg
      exact Blk.lt hh
  · rcases h.map with ⟨h1, _⟩ | ⟨m, f, h1, h2, _⟩
    · cases h1
    · injection h1 with h1
      injection h1 with h1
      subst h1
      exact h2.lt
theorem Wl.beside {bad : Nat → Prop} {w w' : World} {b : Nat} {rv mv : Value} {last most : Int} {xs : List Tm} (h : Wl w b rv mv last most xs) (hb : Beside bad w w') (hd : ∀ g, Bad b rv mv g → ¬ bad g) : Wl w' b rv mv last most xs := ⟨h.pl.beside hb hd, h.heap⟩
theorem results_mid_tmp {P : Program} {fn : Func} {u p : Tmp} {ty : TypeId} (h : fn.results = #[.cell p ty, .tmp u]) (tmps : Array Value) (w : World) (b o : Nat) (cs : List Value) (d : TypeDesc)
    (hp : tmps.getD p undef = .pointer (some ⟨b, o, none⟩)) (hc : w.rangeAt b o cs) (hu : P.underlying ty = some d) (hd : d.isRow = true) (hi : (P.info? ty).map (·.size) = some cs.length) :
    (results fn tmps).run P w = .ok (.tuple #[.agg cs.toArray, tmps.getD u undef]) w := by
  have hp' : tmps[p]?.getD undef = .pointer (some ⟨b, o, none⟩) := by simpa using hp
  simp [results, h, hp', asAddr, run_loadVar_mid w b o ty cs d hc hu hd hi]
theorem blk_range {w : World} {b : Nat} {t : TypeId} {cs : Array Value} (h : Blk w b t cs) : w.rangeAt b 0 cs.toList := by
  intro j u hu
  rw [Nat.zero_add]
  exact h.cell j (by simpa using hu)
def set4 (w : World) (g : Nat) (c0 c1 c2 c3 : Value) : World := (((w.setCell ⟨g, 0, none⟩ c0).setCell ⟨g, 1, none⟩ c1).setCell ⟨g, 2, none⟩ c2).setCell ⟨g, 3, none⟩ c3
theorem blk_set4 {w : World} {g : Nat} {t : TypeId} {a0 a1 a2 a3 : Value} (h : Blk w g t #[a0, a1, a2, a3]) (c0 c1 c2 c3 : Value) : Blk (set4 w g c0 c1 c2 c3) g t #[c0, c1, c2, c3] := (((h.set 0 c0).set 1 c1).set 2 c2).set 3 c3
def tm0 : Value := .agg #[.int .i64 0, .int .i64 0, .int .i64 0, .int .i64 0]
set_option maxHeartbeats 4000000 in
set_option maxRecDepth 100000 in
theorem due_no (b : Nat) (rv mv : Value) (last most now : Int) (xs : List Tm) (w : World) (h : Wl w b rv mv last most xs) (hn : xs = [] ∨ now < (g xs 0).dl) :
    Calls Try.prog 15 #[.pointer (some ⟨b, 0, none⟩), .int .i64 now] w fun e w' => e = .returned (.tuple #[tm0, .bool false]) ∧ Below w.heap.size w w' := by
  obtain ⟨V0, hV0⟩ : ∃ V0, V0 = w.alloc (.cells #[.int .i64 0, .int .i64 0, .int .i64 0, .int .i64 0] 47) := ⟨_, rfl⟩
  have hbe : Below w.heap.size w V0 := hV0 ▸ below_alloc _ _
  have hp := h.pl.below hbe
  have hZ : Blk V0 w.heap.size 47 #[.int .i64 0, .int .i64 0, .int .i64 0, .int .i64 0] := hV0 ▸ Blk.new _ _ _
  have C := Lib.hid (wlen_wl hp)
  have z0 : V0.cell? ⟨w.heap.size, 0, none⟩ = some (.int .i64 0) := hZ.cell 0 rfl
  have z1 : V0.cell? ⟨w.heap.size, 1, none⟩ = some (.int .i64 0) := hZ.cell 1 rfl
  have z2 : V0.cell? ⟨w.heap.size, 2, none⟩ = some (.int .i64 0) := hZ.cell 2 rfl
  have z3 : V0.cell? ⟨w.heap.size, 3, none⟩ = some (.int .i64 0) := hZ.cell 3 rfl
  have y0 : V0.frozen? ⟨w.heap.size, 0, none⟩ = false := hZ.frozen 0
  have y1 : V0.frozen? ⟨w.heap.size, 1, none⟩ = false := hZ.frozen 1
  have y2 : V0.frozen? ⟨w.heap.size, 2, none⟩ = false := hZ.frozen 2
  have y3 : V0.frozen? ⟨w.heap.size, 3, none⟩ = false := hZ.frozen 3
  have HV0 := Lib.hid hV0
  have HBE := Lib.hid hbe
  have HZS := Lib.hid (fun c0 c1 c2 c3 : Value => blk_set4 hZ c0 c1 c2 c3)
  have HEND : Hid (∀ c0 c1 c2 c3 : Value, Below w.heap.size w (set4 V0 w.heap.size c0 c1 c2 c3)) := fun c0 c1 c2 c3 =>
    Beside.below (bad := fun x => x = w.heap.size) ((((Beside.refl (fun x => x = w.heap.size) V0).set (.inl rfl) 0 c0).set (.inl rfl) 1 c1).set (.inl rfl) 2 c2 |>.set (.inl rfl) 3 c3) hbe hbe.size (fun g hg => by omega)
  unfold tm0
  rcases Nat.eq_zero_or_pos xs.length with h0 | h0
  · rw [h0, show ((0 : Nat) : Int) = 0 from rfl] at C
    clear h hp hbe hV0 hZ hn
    go_enter Try.func15, Try.ntmps15
    go_upto_region 1 with fail
    rw [← HV0.out]
    go_wp2_with fail
    refine C.out.mono ?_
    rintro e w1 ⟨rfl, rfl⟩
    go_wp2
    obtain ⟨Z, hZ⟩ : ∃ Z, Z = set4 w1 w.heap.size (.int .i64 0) (.int .i64 0) (.int .i64 0) (.int .i64 0) := ⟨_, rfl⟩
    have hE := HEND.out (.int .i64 0) (.int .i64 0) (.int .i64 0) (.int .i64 0)
    have hB := HZS.out (.int .i64 0) (.int .i64 0) (.int .i64 0) (.int .i64 0)
    rw [← hZ] at hE hB
    unfold set4 at hZ
    rw [← hZ]
    clear hZ z0 z1 z2 z3 y0 y1 y2 y3
    have HE := Lib.hid hE
    clear hE
    try simp only [Exit.inBlock, Exit.then]
    refine bodyPost_ret (results_mid_tmp rfl _ _ w.heap.size 0 [.int .i64 0, .int .i64 0, .int .i64 0, .int .i64 0] _ rfl (blk_range hB) Try.underlying47 rfl (by kernel_rfl)) rfl ?_
    exact ⟨rfl, HE.out⟩
  · obtain ⟨g0, c, hrv, _, hg0, hc1, hc2⟩ := own_head hp.row h0
    subst hrv
    have hd : now < (g xs 0).dl := by
      rcases hn with h1 | h1
      · rw [h1] at h0; simp at h0
      · exact h1
    have f0 : V0.cell? ⟨b, 0, none⟩ = some (.slice (some ⟨g0, 0, none⟩) xs.length c) := hp.blk.cell 0 rfl
    have x1 : V0.cell? ⟨g0, 1, none⟩ = some (.int .i64 (g xs 0).dl) := by
      have := row_cell hp.row 0 h0 1 (by omega)
      exact this
    have e1 : (0 : Int) < (xs.length : Int) := by omega
    have e2 : ¬ ((xs.length : Int) = 0) := by omega
    clear h hp hbe hV0 hZ hn
    generalize (g xs 0).dl = dd at *
    generalize xs.length = N at *
    go_enter Try.func15, Try.ntmps15
    go_upto_region 1 with fail
    rw [← HV0.out]
    go_wp2_with fail
    refine C.out.mono ?_
    rintro e w1 ⟨rfl, rfl⟩
    go_wp2
    obtain ⟨Z, hZ⟩ : ∃ Z, Z = set4 w1 w.heap.size (.int .i64 0) (.int .i64 0) (.int .i64 0) (.int .i64 0) := ⟨_, rfl⟩
    have hE := HEND.out (.int .i64 0) (.int .i64 0) (.int .i64 0) (.int .i64 0)
    have hB := HZS.out (.int .i64 0) (.int .i64 0) (.int .i64 0) (.int .i64 0)
    rw [← hZ] at hE hB
    unfold set4 at hZ
    rw [← hZ]
    clear hZ z0 z1 z2 z3 y0 y1 y2 y3
    have HE := Lib.hid hE
    clear hE
    try simp only [Exit.inBlock, Exit.then]
    refine bodyPost_ret (results_mid_tmp rfl _ _ w.heap.size 0 [.int .i64 0, .int .i64 0, .int .i64 0, .int .i64 0] _ rfl (blk_range hB) Try.underlying47 rfl (by kernel_rfl)) rfl ?_
    exact ⟨rfl, HE.out⟩
set_option maxHeartbeats 4000000 in
set_option maxRecDepth 100000 in
theorem due_yes (b k : Nat) (rv mv : Value) (last most now : Int) (xs : List Tm) (w : World) (h : Wl w b rv mv last most xs) (hk : xs.length = k + 1) (hd : (g xs 0).dl ≤ now) :
    Calls Try.prog 15 #[.pointer (some ⟨b, 0, none⟩), .int .i64 now] w fun e w' => e = .returned (.tuple #[tmv (g xs 0), .bool true]) ∧ ∃ rv' xs', Wl w' b rv' mv last most xs' ∧ xs.Perm (g xs 0 :: xs') ∧ Beside (Bad b rv mv) w w' ∧ Fresh w.heap.size rv mv rv' mv := by
  have has := assert_tm
  have hblt := Lib.hid (bad_lt h.pl)
  obtain ⟨V0, hV0⟩ : ∃ V0, V0 = w.alloc (.cells #[.int .i64 0, .int .i64 0, .int .i64 0, .int .i64 0] 47) := ⟨_, rfl⟩
  have hbe : Below w.heap.size w V0 := hV0 ▸ below_alloc _ _
  have hs0 : V0.heap.size = w.heap.size + 1 := by rw [hV0]; simp
  have hp := h.below hbe
  have HZ : Hid (Blk V0 w.heap.size 47 #[.int .i64 0, .int .i64 0, .int .i64 0, .int .i64 0]) := hV0 ▸ Blk.new _ _ _
  have C := Lib.hid (wlen_wl hp.pl)
  have CP := Lib.hid (hpop_any b k rv mv last most xs V0 hp hk)
  have HV0 := Lib.hid hV0
  have HBE := Lib.hid hbe
  have h0 : 0 < xs.length := by omega
  obtain ⟨g0, c, hrv, _, hg0, hc1, hc2⟩ := own_head hp.pl.row h0
  have f0 : V0.cell? ⟨b, 0, none⟩ = some rv := hp.pl.blk.cell 0 rfl
  have hrow := hp.pl.row
  rw [hrv] at f0 hrow
  have x1 : V0.cell? ⟨g0, 1, none⟩ = some (.int .i64 (g xs 0).dl) := by
    have := row_cell hrow 0 h0 1 (by omega)
    exact this
  have e1 : (0 : Int) < (xs.length : Int) := by omega
  have e2 : ¬ ((xs.length : Int) = 0) := by omega
  have hdd : ¬ (now < (g xs 0).dl) := by omega
  have hdb : decide (now < (g xs 0).dl) = false := decide_eq_false hdd
  have hnb : ((xs.length : Int) == 0) = false := by simpa using e2
  have HS0 := Lib.hid hs0
  clear h hp hbe hV0 hrow hk hs0 hd
  unfold tmv at *
  generalize hN : xs.length = N at *
  clear hN hrv
  go_enter Try.func15, Try.ntmps15
  go_upto_region 1 with fail
  rw [← HV0.out]
  go_wp2_with fail
  refine C.out.mono ?_
  rintro e w1 ⟨rfl, rfl⟩
  go_wp2_with fail
  refine CP.out.mono ?_
  rintro e w5 ⟨rfl, rv5, xs5, hw5, hpm, hb5, hf5⟩
  have hne : ¬ Bad b rv mv w.heap.size := fun e => by have := hblt.out _ e; omega
  have hZ5 : Blk w5 w.heap.size 47 _ := (hb5.block w.heap.size HZ.out.lt hne).trans HZ.out
  obtain ⟨U, hU⟩ : ∃ U, U = w5.alloc (.cells #[.int .i64 (g xs 0).tok, .int .i64 (g xs 0).dl, .int .i64 (g xs 0).k, .int .i64 (g xs 0).n] 47) := ⟨_, rfl⟩
  have hTU : Blk U w5.heap.size 47 #[.int .i64 (g xs 0).tok, .int .i64 (g xs 0).dl, .int .i64 (g xs 0).k, .int .i64 (g xs 0).n] := hU ▸ Blk.new _ _ _
  have hZU : Blk U w.heap.size 47 #[.int .i64 0, .int .i64 0, .int .i64 0, .int .i64 0] := hU ▸ hZ5.alloc _
  have hlt5 : w.heap.size < w5.heap.size := hZ5.lt
  have z0 : U.cell? ⟨w.heap.size, 0, none⟩ = some (.int .i64 0) := hZU.cell 0 rfl
  have z1 : U.cell? ⟨w.heap.size, 1, none⟩ = some (.int .i64 0) := hZU.cell 1 rfl
  have z2 : U.cell? ⟨w.heap.size, 2, none⟩ = some (.int .i64 0) := hZU.cell 2 rfl
  have z3 : U.cell? ⟨w.heap.size, 3, none⟩ = some (.int .i64 0) := hZU.cell 3 rfl
  have y0 : U.frozen? ⟨w.heap.size, 0, none⟩ = false := hZU.frozen 0
  have y1 : U.frozen? ⟨w.heap.size, 1, none⟩ = false := hZU.frozen 1
  have y2 : U.frozen? ⟨w.heap.size, 2, none⟩ = false := hZU.frozen 2
  have y3 : U.frozen? ⟨w.heap.size, 3, none⟩ = false := hZU.frozen 3
  have t0 : U.cell? ⟨w5.heap.size, 0, none⟩ = some (.int .i64 (g xs 0).tok) := hTU.cell 0 rfl
  have t1 : U.cell? ⟨w5.heap.size, 1, none⟩ = some (.int .i64 (g xs 0).dl) := hTU.cell 1 rfl
  have t2 : U.cell? ⟨w5.heap.size, 2, none⟩ = some (.int .i64 (g xs 0).k) := hTU.cell 2 rfl
  have t3 : U.cell? ⟨w5.heap.size, 3, none⟩ = some (.int .i64 (g xs 0).n) := hTU.cell 3 rfl
  have HU := Lib.hid hU
  have HZS := Lib.hid (fun c0 c1 c2 c3 : Value => blk_set4 hZU c0 c1 c2 c3)
  have HEND : Hid (∀ c0 c1 c2 c3 : Value, ∃ rv' xs', Wl (set4 U w.heap.size c0 c1 c2 c3) b rv' mv last most xs' ∧ xs.Perm (g xs 0 :: xs') ∧ Beside (Bad b rv mv) w (set4 U w.heap.size c0 c1 c2 c3) ∧ Fresh w.heap.size rv mv rv' mv) := by
    intro c0 c1 c2 c3
    have hBU : Below w5.heap.size w5 U := hU ▸ below_alloc _ _
    have s1 : Beside (Bad b rv mv) w U := ((Beside.ofBelow HBE.out).trans hb5).trans (.ofBelow hBU)
    refine ⟨rv5, xs5, (hw5.below hBU).beside (bad := fun x => x = w.heap.size) ((((Beside.refl (fun x => x = w.heap.size) U).set (.inl rfl) 0 c0).set (.inl rfl) 1 c1).set (.inl rfl) 2 c2 |>.set (.inl rfl) 3 c3) ?_, hpm, ((((s1.set (.inr (Nat.le_refl _)) 0 c0).set (.inr (Nat.le_refl _)) 1 c1).set (.inr (Nat.le_refl _)) 2 c2).set (.inr (Nat.le_refl _)) 3 c3), ?_⟩
    · intro q hq e
      rcases bad_fresh hf5 q hq with h9 | h9
      · have := hblt.out q h9; omega
      · have := HS0.out; omega
    · exact ⟨fun q hq => by rcases hf5.1 q hq with h9 | h9; exact .inl h9; have := HS0.out; exact .inr (by omega), fun q hq => .inl hq⟩
  clear hw5 hpm hb5 hf5 hne hZ5 hTU hZU hU CP
  go_upto_region 4 with fail
  rw [← HU.out]
  go_wp2
  obtain ⟨Z, hZ⟩ : ∃ Z, Z = set4 U w.heap.size (.int .i64 (g xs 0).tok) (.int .i64 (g xs 0).dl) (.int .i64 (g xs 0).k) (.int .i64 (g xs 0).n) := ⟨_, rfl⟩
  have hE := HEND.out (.int .i64 (g xs 0).tok) (.int .i64 (g xs 0).dl) (.int .i64 (g xs 0).k) (.int .i64 (g xs 0).n)
  have hB := HZS.out (.int .i64 (g xs 0).tok) (.int .i64 (g xs 0).dl) (.int .i64 (g xs 0).k) (.int .i64 (g xs 0).n)
  rw [← hZ] at hE hB
  unfold set4 at hZ
  rw [← hZ]
  clear hZ z0 z1 z2 z3 y0 y1 y2 y3
  have HE := Lib.hid hE
  clear hE
  try simp only [Exit.inBlock, Exit.then]
  refine bodyPost_ret (results_mid_tmp rfl _ _ w.heap.size 0 [.int .i64 (g xs 0).tok, .int .i64 (g xs 0).dl, .int .i64 (g xs 0).k, .int .i64 (g xs 0).n] _ rfl (blk_range hB) Try.underlying47 rfl (by kernel_rfl)) rfl ?_
  exact ⟨rfl, HE.out⟩
end Go.Proofs.Ytdbgmogllncffaa
