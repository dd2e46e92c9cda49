/- Contracts of the document's wheel: New, Due, Cancel; of the statements' Told. -/
import Derived.Test.YtdbgmogllncffaaWhWD
import Derived.Test.YtdbgmogllncffaaAppAt
import Derived.LoopIn
import Derived.LoopTactic
namespace Go.Proofs.Ytdbgmogllncffaa
open Go.RowKit Go.Sort Wh
attribute [-go_sem] Builtin.append_
theorem infoRm : (Try.prog.info? 63).map (fun i => (i.zero, i.size, i.bytes)) = some (some (.agg #[.int .i64 0, .int .i64 0, .int .i64 0, .int .i64 0]), 4, 32) := by kernel_rfl
theorem results_mid_tmp2 {P : Program} {fn : Func} {u v p : Tmp} {ty : TypeId} (h : fn.results = #[.cell p ty, .tmp u, .tmp v]) (tmps : Array Value) (w : World) (b o : Nat) (cs : List Value) (d : TypeDesc)
    (hp : tmps.getD p undef = .pointer (some ⟨b, o, none⟩)) (hc : w.rangeAt b o cs) (hu : P.underlying ty = some d) (hd : d.isRow = true) (hi : (P.info? ty).map (·.size) = some cs.length) :
    (results fn tmps).run P w = .ok (.tuple #[.agg cs.toArray, tmps.getD u undef, tmps.getD v undef]) w := by
  have hp' : tmps[p]?.getD undef = .pointer (some ⟨b, o, none⟩) := by simpa using hp
  simp [results, h, hp', asAddr, run_loadVar_mid w b o ty cs d hc hu hd hi]
theorem results_two_tmp {P : Program} {fn : Func} {u p q : Tmp} {ty tz : TypeId} (h : fn.results = #[.cell p ty, .cell q tz, .tmp u]) (tmps : Array Value) (w : World) (b b' o o' : Nat) (cs ds : List Value) (d d' : TypeDesc)
    (hp : tmps.getD p undef = .pointer (some ⟨b, o, none⟩)) (hc : w.rangeAt b o cs) (hu : P.underlying ty = some d) (hd : d.isRow = true) (hi : (P.info? ty).map (·.size) = some cs.length)
    (hp2 : tmps.getD q undef = .pointer (some ⟨b', o', none⟩)) (hc2 : w.rangeAt b' o' ds) (hu2 : P.underlying tz = some d') (hd2 : d'.isRow = true) (hi2 : (P.info? tz).map (·.size) = some ds.length) :
    (results fn tmps).run P w = .ok (.tuple #[.agg cs.toArray, .agg ds.toArray, tmps.getD u undef]) w := by
  have hp' : tmps[p]?.getD undef = .pointer (some ⟨b, o, none⟩) := by simpa using hp
  have hp2' : tmps[q]?.getD undef = .pointer (some ⟨b', o', none⟩) := by simpa using hp2
  simp [results, h, hp', hp2', asAddr, run_loadVar_mid w b o ty cs d hc hu hd hi, run_loadVar_mid w b' o' tz ds d' hc2 hu2 hd2 hi2]
theorem rnew_any (most : Int) (w : World) :
    Calls Try.prog 8 #[.int .i64 most] w fun e w' => e = .returned (.agg #[.int .i64 (clp most 1 65536), .int .i64 0, .slice none 0 0]) ∧ Below w.heap.size w w' := by
  have e : max 1 (min most 65536) = clp most 1 65536 := rfl
  go_enter Try.func8, Try.ntmps8
  go_wp2
  go_returns
  refine ⟨?_, below_alloc _ _⟩
  first | rfl | (rw [e]; rfl) | (simp [clp])
theorem told_any (t : Tm) (w : World) :
    Calls Try.prog 21 #[tmv t] w fun e w' => e = .returned (tmv t) ∧ Below w.heap.size w w' := by
  unfold tmv
  go_enter Try.func21, Try.ntmps21
  go_wp2
  go_returns
  exact ⟨rfl, (below_alloc _ _).alloc (by simp) _⟩
/-- a wheel of the document, as a value. -/
def rv16 (most last : Int) (A : Option Addr) (n c : Nat) : Value := .agg #[.int .i64 most, .int .i64 last, .slice A n c]
theorem at_cut4 {w : World} {b o c : Nat} {L : List Tm} (h : At w (some ⟨b, o, none⟩) (tv L)) (k : Nat) (hl : L.length ≤ c) : At w (if c = k then some ⟨b, o, none⟩ else some ⟨b, o + k * 4, none⟩) (tv (L.drop k)) := fun hx => by
  have hlt : k < L.length := by
    rcases Nat.lt_or_ge k L.length with h1 | h1
    · exact h1
    · exact absurd (by rw [List.drop_of_length_le h1]; rfl) hx
  have hne : tv L ≠ [] := fun e => by have := tv_len L; rw [e] at this; simp at this; omega
  obtain ⟨b', o', e, hb, hc⟩ := h hne
  injection e with e
  injection e with e1 e2
  subst e1 e2
  rw [if_neg (by omega)]
  refine ⟨b, o + k * 4, rfl, hb, fun j u hu => ?_⟩
  rw [Nat.add_assoc]
  refine hc _ u ?_
  rw [← hu]
  have e3 : tv L = tv (L.take k) ++ tv (L.drop k) := by rw [← tv_app, List.take_append_drop]
  have e4 : (tv (L.take k)).length = k * 4 := by rw [tv_len, List.length_take]; omega
  rw [e3, List.getElem?_append_right (by omega), e4]
  congr 1
  omega
def set3 (w : World) (g : Nat) (c0 c1 c2 : Value) : World := ((w.setCell ⟨g, 0, none⟩ c0).setCell ⟨g, 1, none⟩ c1).setCell ⟨g, 2, none⟩ c2
theorem blk_set3 {w : World} {g : Nat} {t : TypeId} {a0 a1 a2 : Value} (h : Blk w g t #[a0, a1, a2]) (c0 c1 c2 : Value) : Blk (set3 w g c0 c1 c2) g t #[c0, c1, c2] := ((h.set 0 c0).set 1 c1).set 2 c2
theorem blk_other3 {w : World} {g b : Nat} {t : TypeId} {cs : Array Value} (h : Blk w g t cs) (hne : g ≠ b) (c0 c1 c2 : Value) : Blk (set3 w b c0 c1 c2) g t cs := ((h.other _ _ _ hne).other _ _ _ hne).other _ _ _ hne
theorem blk_other4 {w : World} {g b : Nat} {t : TypeId} {cs : Array Value} (h : Blk w g t cs) (hne : g ≠ b) (c0 c1 c2 c3 : Value) : Blk (set4 w b c0 c1 c2 c3) g t cs := (((h.other _ _ _ hne).other _ _ _ hne).other _ _ _ hne).other _ _ _ hne
theorem beside_set3 {bad : Nat → Prop} {a w : World} (h : Beside bad a w) {g : Nat} (hg : bad g ∨ a.heap.size ≤ g) (c0 c1 c2 : Value) : Beside bad a (set3 w g c0 c1 c2) := ((h.set hg 0 c0).set hg 1 c1).set hg 2 c2
theorem beside_set4 {bad : Nat → Prop} {a w : World} (h : Beside bad a w) {g : Nat} (hg : bad g ∨ a.heap.size ≤ g) (c0 c1 c2 c3 : Value) : Beside bad a (set4 w g c0 c1 c2 c3) := (((h.set hg 0 c0).set hg 1 c1).set hg 2 c2).set hg 3 c3
theorem own_new {w : World} {base : Nat} {e : TypeId} {s n c : Nat} {A : Option Addr} {xs : List Value} (h : w.ownsRow base e s (.slice A n c) n xs) : ∀ b' o p, A = some ⟨b', o, p⟩ → base ≤ b' ∧ p = none ∧ b' < w.heap.size := by
  intro b' o p hA
  rcases h.2 with ⟨hv, _⟩ | ⟨q, c', cur, hv, hb, hh, _⟩
  · injection hv with hv _ _
    rw [hA] at hv
    cases hv
  · injection hv with hv _ _
    rw [hA] at hv
    injection hv with hv
    injection hv with h1 h2 h3
    subst h1
    exact ⟨hb, h3, Blk.lt hh⟩
/-- where nothing may turn only new blocks have. -/
theorem beside_none {w w' : World} (h : Beside (fun _ => False) w w') : Below w.heap.size w w' := ⟨h.os, h.tape, h.output, h.size, fun g hg => h.block g hg (fun e => e)⟩
set_option maxHeartbeats 4000000 in
set_option maxRecDepth 100000 in
theorem rdue_no (most last now : Int) (A : Option Addr) (n c : Nat) (L : List Tm) (w : World) (hn : n = L.length) (ha : At w A (tv L)) (hd : L = [] ∨ now < (g L 0).dl) :
    Calls Try.prog 20 #[rv16 most last A n c, .int .i64 now] w fun e w' => e = .returned (.tuple #[rv16 most last A n c, tm0, .bool false]) ∧ Below w.heap.size w w' := by
  unfold rv16 tm0
  obtain ⟨V, hV⟩ : ∃ V, V = ((w.alloc (.cells #[.int .i64 most, .int .i64 last, .slice A n c] 28)).alloc (.cells #[.int .i64 0, .int .i64 0, .slice none 0 0] 28)).alloc (.cells #[.int .i64 0, .int .i64 0, .int .i64 0, .int .i64 0] 63) := ⟨_, rfl⟩
  have hbs : Beside (fun _ => False) w V := by rw [hV]; exact (((Beside.refl _ w).alloc _).alloc _).alloc _
  have hsV : V.heap.size = w.heap.size + 1 + 1 + 1 := by rw [hV]; simp
  have HBV : Hid (Below w.heap.size w V) := beside_none hbs
  have h0 : Blk V w.heap.size 28 #[.int .i64 most, .int .i64 last, .slice A n c] := by rw [hV]; exact ((Blk.new w _ _).alloc _).alloc _
  have h1 : Blk V (w.heap.size + 1) 28 #[.int .i64 0, .int .i64 0, .slice none 0 0] := by rw [hV]; exact (Blk.new' (w.alloc (.cells #[.int .i64 most, .int .i64 last, .slice A n c] 28)) _ _ _ (by simp)).alloc _
  have h2 : Blk V (w.heap.size + 1 + 1) 63 #[.int .i64 0, .int .i64 0, .int .i64 0, .int .i64 0] := by rw [hV]; exact Blk.new' ((w.alloc (.cells #[.int .i64 most, .int .i64 last, .slice A n c] 28)).alloc (.cells #[.int .i64 0, .int .i64 0, .slice none 0 0] 28)) _ _ _ (by simp)
  have a0 : V.cell? ⟨w.heap.size, 0, none⟩ = some (.int .i64 most) := h0.cell 0 rfl
  have af0 : V.frozen? ⟨w.heap.size, 0, none⟩ = false := h0.frozen 0
  have a1 : V.cell? ⟨w.heap.size, 1, none⟩ = some (.int .i64 last) := h0.cell 1 rfl
  have af1 : V.frozen? ⟨w.heap.size, 1, none⟩ = false := h0.frozen 1
  have a2 : V.cell? ⟨w.heap.size, 2, none⟩ = some (.slice A n c) := h0.cell 2 rfl
  have af2 : V.frozen? ⟨w.heap.size, 2, none⟩ = false := h0.frozen 2
  have b0 : V.cell? ⟨w.heap.size + 1, 0, none⟩ = some (.int .i64 0) := h1.cell 0 rfl
  have bf0 : V.frozen? ⟨w.heap.size + 1, 0, none⟩ = false := h1.frozen 0
  have b1 : V.cell? ⟨w.heap.size + 1, 1, none⟩ = some (.int .i64 0) := h1.cell 1 rfl
  have bf1 : V.frozen? ⟨w.heap.size + 1, 1, none⟩ = false := h1.frozen 1
  have b2 : V.cell? ⟨w.heap.size + 1, 2, none⟩ = some (.slice none 0 0) := h1.cell 2 rfl
  have bf2 : V.frozen? ⟨w.heap.size + 1, 2, none⟩ = false := h1.frozen 2
  have c0 : V.cell? ⟨w.heap.size + 1 + 1, 0, none⟩ = some (.int .i64 0) := h2.cell 0 rfl
  have cf0 : V.frozen? ⟨w.heap.size + 1 + 1, 0, none⟩ = false := h2.frozen 0
  have c1 : V.cell? ⟨w.heap.size + 1 + 1, 1, none⟩ = some (.int .i64 0) := h2.cell 1 rfl
  have cf1 : V.frozen? ⟨w.heap.size + 1 + 1, 1, none⟩ = false := h2.frozen 1
  have c2 : V.cell? ⟨w.heap.size + 1 + 1, 2, none⟩ = some (.int .i64 0) := h2.cell 2 rfl
  have cf2 : V.frozen? ⟨w.heap.size + 1 + 1, 2, none⟩ = false := h2.frozen 2
  have c3 : V.cell? ⟨w.heap.size + 1 + 1, 3, none⟩ = some (.int .i64 0) := h2.cell 3 rfl
  have cf3 : V.frozen? ⟨w.heap.size + 1 + 1, 3, none⟩ = false := h2.frozen 3
  obtain ⟨Z, hZ⟩ : ∃ Z, Z = set4 (set3 V (w.heap.size + 1) (.int .i64 most) (.int .i64 last) (.slice A n c)) (w.heap.size + 1 + 1) (.int .i64 0) (.int .i64 0) (.int .i64 0) (.int .i64 0) := ⟨_, rfl⟩
  have r1 : Blk Z (w.heap.size + 1) 28 #[.int .i64 most, .int .i64 last, .slice A n c] := by rw [hZ]; exact blk_other4 (blk_set3 h1 _ _ _) (by omega) _ _ _ _
  have r2 : Blk Z (w.heap.size + 1 + 1) 63 #[.int .i64 0, .int .i64 0, .int .i64 0, .int .i64 0] := by rw [hZ]; exact blk_set4 (blk_other3 h2 (by omega) _ _ _) _ _ _ _
  have hE : Below w.heap.size w Z := by rw [hZ]; exact beside_none (beside_set4 (beside_set3 hbs (.inr (by omega)) _ _ _) (.inr (by omega)) _ _ _ _)
  unfold set4 set3 at hZ
  have HV := Lib.hid hV
  have HZ := Lib.hid hZ
  have HE := Lib.hid hE
  have HR1 := Lib.hid r1
  have HR2 := Lib.hid r2
  clear hV hZ hE r1 r2 hbs h0 h1 h2 hsV
  rcases Nat.eq_zero_or_pos n with hn0 | hn0
  · have hz : ((n : Nat) : Int) = 0 := by omega
    have hzb : ((n : Int) == 0) = true := by simpa using hz
    clear ha hd hn hz hn0
    go_enter Try.func20, Try.ntmps20
    go_upto_region 1 with fail
    rw [← HV.out]
    go_wp2
    rw [← HZ.out]
    try simp only [Exit.inBlock, Exit.then]
    refine bodyPost_ret (results_two_tmp rfl _ _ (w.heap.size + 1) (w.heap.size + 1 + 1) 0 0 [.int .i64 most, .int .i64 last, .slice A n c] [.int .i64 0, .int .i64 0, .int .i64 0, .int .i64 0] _ _ rfl (blk_range HR1.out) Try.underlying28 rfl (by kernel_rfl) rfl (blk_range HR2.out) Try.underlying63 rfl (by kernel_rfl)) rfl ?_
    exact ⟨rfl, HE.out⟩
  · have hlt : now < (g L 0).dl := by
      rcases hd with h9 | h9
      · rw [h9] at hn; simp at hn; omega
      · exact h9
    have hL0 : 0 < L.length := by omega
    obtain ⟨b9, o9, e9, _⟩ := ha.one (k := 0 * 4 + 0) (tv_at L 0 hL0 0 (by omega))
    subst e9
    obtain ⟨hb9, _, k1, _, _⟩ := act_cells ha hL0
    have k1V : V.cell? ⟨b9, o9 + 1, none⟩ = some (.int .i64 (g L 0).dl) := by
      have := HBV.out.cell (p := ⟨b9, o9 + 0 * 4 + 1, none⟩) hb9
      rw [Nat.zero_mul, Nat.add_zero] at this k1
      exact this.trans k1
    have hz : ¬ (n : Int) = 0 := by omega
    have hzb : ((n : Int) == 0) = false := by simpa using hz
    have hzp : (0 : Int) < (n : Int) := by omega
    have hdb : decide (now < (g L 0).dl) = true := decide_eq_true hlt
    generalize (g L 0).dl = dd at *
    clear ha hd hn k1 hL0
    go_enter Try.func20, Try.ntmps20
    go_upto_region 1 with fail
    rw [← HV.out]
    go_wp2
    rw [← HZ.out]
    try simp only [Exit.inBlock, Exit.then]
    refine bodyPost_ret (results_two_tmp rfl _ _ (w.heap.size + 1) (w.heap.size + 1 + 1) 0 0 [.int .i64 most, .int .i64 last, .slice (some ⟨b9, o9, none⟩) n c] [.int .i64 0, .int .i64 0, .int .i64 0, .int .i64 0] _ _ rfl (blk_range HR1.out) Try.underlying28 rfl (by kernel_rfl) rfl (blk_range HR2.out) Try.underlying63 rfl (by kernel_rfl)) rfl ?_
    exact ⟨rfl, HE.out⟩
set_option maxHeartbeats 4000000 in
set_option maxRecDepth 100000 in
theorem rdue_yes (most last now : Int) (A : Option Addr) (n c : Nat) (L : List Tm) (w : World) (hn : n = L.length) (hnc : n ≤ c) (ha : At w A (tv L)) (h00 : 0 < n) (hd : (g L 0).dl ≤ now) :
    Calls Try.prog 20 #[rv16 most last A n c, .int .i64 now] w fun e w' => ∃ A', e = .returned (.tuple #[rv16 most last A' (n - 1) (c - 1), tmv (g L 0), .bool true]) ∧ At w A' (tv (L.drop 1)) ∧ (A' = none → n - 1 = 0 ∧ c - 1 = 0) ∧ (∀ b' o p, A' = some ⟨b', o, p⟩ → (∃ o2, A = some ⟨b', o2, none⟩) ∧ p = none) ∧ Below w.heap.size w w' := by
  have mixed : Try.prog.follows .mixedOrders = true := by kernel_rfl
  unfold rv16 tmv
  have hL0 : 0 < L.length := by omega
  obtain ⟨b9, o9, e9, _⟩ := ha.one (k := 0 * 4 + 0) (tv_at L 0 hL0 0 (by omega))
  subst e9
  obtain ⟨hb9, k0, k1, k2, k3⟩ := act_cells ha hL0
  rw [Nat.zero_mul, Nat.add_zero] at k0 k1 k2 k3
  have HA2 : Hid (At w (if c = 1 then some ⟨b9, o9, none⟩ else some ⟨b9, o9 + 4, none⟩) (tv (L.drop 1))) := at_cut4 ha 1 (by omega)
  obtain ⟨V, hV⟩ : ∃ V, V = ((w.alloc (.cells #[.int .i64 most, .int .i64 last, .slice (some ⟨b9, o9, none⟩) n c] 28)).alloc (.cells #[.int .i64 0, .int .i64 0, .slice none 0 0] 28)).alloc (.cells #[.int .i64 0, .int .i64 0, .int .i64 0, .int .i64 0] 63) := ⟨_, rfl⟩
  have hbs : Beside (fun _ => False) w V := by rw [hV]; exact (((Beside.refl _ w).alloc _).alloc _).alloc _
  have hsV : V.heap.size = w.heap.size + 1 + 1 + 1 := by rw [hV]; simp
  have h0 : Blk V w.heap.size 28 #[.int .i64 most, .int .i64 last, .slice (some ⟨b9, o9, none⟩) n c] := by rw [hV]; exact ((Blk.new w _ _).alloc _).alloc _
  have h1 : Blk V (w.heap.size + 1) 28 #[.int .i64 0, .int .i64 0, .slice none 0 0] := by rw [hV]; exact (Blk.new' (w.alloc (.cells #[.int .i64 most, .int .i64 last, .slice (some ⟨b9, o9, none⟩) n c] 28)) _ _ _ (by simp)).alloc _
  have h2 : Blk V (w.heap.size + 1 + 1) 63 #[.int .i64 0, .int .i64 0, .int .i64 0, .int .i64 0] := by rw [hV]; exact Blk.new' ((w.alloc (.cells #[.int .i64 most, .int .i64 last, .slice (some ⟨b9, o9, none⟩) n c] 28)).alloc (.cells #[.int .i64 0, .int .i64 0, .slice none 0 0] 28)) _ _ _ (by simp)
  have HBV : Below w.heap.size w V := beside_none hbs
  have kv0 : V.cell? ⟨b9, o9, none⟩ = some (.int .i64 (g L 0).tok) := (HBV.cell (p := ⟨b9, o9, none⟩) hb9).trans k0
  have kv1 : V.cell? ⟨b9, o9 + 1, none⟩ = some (.int .i64 (g L 0).dl) := (HBV.cell (p := ⟨b9, o9 + 1, none⟩) hb9).trans k1
  have kv2 : V.cell? ⟨b9, o9 + 2, none⟩ = some (.int .i64 (g L 0).k) := (HBV.cell (p := ⟨b9, o9 + 2, none⟩) hb9).trans k2
  have kv3 : V.cell? ⟨b9, o9 + 3, none⟩ = some (.int .i64 (g L 0).n) := (HBV.cell (p := ⟨b9, o9 + 3, none⟩) hb9).trans k3
  have a0 : V.cell? ⟨w.heap.size, 0, none⟩ = some (.int .i64 most) := h0.cell 0 rfl
  have af0 : V.frozen? ⟨w.heap.size, 0, none⟩ = false := h0.frozen 0
  have a1 : V.cell? ⟨w.heap.size, 1, none⟩ = some (.int .i64 last) := h0.cell 1 rfl
  have af1 : V.frozen? ⟨w.heap.size, 1, none⟩ = false := h0.frozen 1
  have a2 : V.cell? ⟨w.heap.size, 2, none⟩ = some (.slice (some ⟨b9, o9, none⟩) n c) := h0.cell 2 rfl
  have af2 : V.frozen? ⟨w.heap.size, 2, none⟩ = false := h0.frozen 2
  obtain ⟨A2, hA2⟩ : ∃ A2 : Option Addr, A2 = (if c = 1 then some ⟨b9, o9, none⟩ else some ⟨b9, o9 + 4, none⟩) := ⟨_, rfl⟩
  obtain ⟨U, hU⟩ : ∃ U, U = V.alloc (.cells #[.int .i64 (g L 0).tok, .int .i64 (g L 0).dl, .int .i64 (g L 0).k, .int .i64 (g L 0).n] 63) := ⟨_, rfl⟩
  have u0 : Blk U w.heap.size 28 #[.int .i64 most, .int .i64 last, .slice (some ⟨b9, o9, none⟩) n c] := by rw [hU]; exact h0.alloc _
  have u1 : Blk U (w.heap.size + 1) 28 #[.int .i64 0, .int .i64 0, .slice none 0 0] := by rw [hU]; exact h1.alloc _
  have u2 : Blk U (w.heap.size + 1 + 1) 63 #[.int .i64 0, .int .i64 0, .int .i64 0, .int .i64 0] := by rw [hU]; exact h2.alloc _
  have u3 : Blk U V.heap.size 63 #[.int .i64 (g L 0).tok, .int .i64 (g L 0).dl, .int .i64 (g L 0).k, .int .i64 (g L 0).n] := by rw [hU]; exact Blk.new V _ _
  have m0 : U.cell? ⟨w.heap.size, 0, none⟩ = some (.int .i64 most) := u0.cell 0 rfl
  have mf0 : U.frozen? ⟨w.heap.size, 0, none⟩ = false := u0.frozen 0
  have m1 : U.cell? ⟨w.heap.size, 1, none⟩ = some (.int .i64 last) := u0.cell 1 rfl
  have mf1 : U.frozen? ⟨w.heap.size, 1, none⟩ = false := u0.frozen 1
  have m2 : U.cell? ⟨w.heap.size, 2, none⟩ = some (.slice (some ⟨b9, o9, none⟩) n c) := u0.cell 2 rfl
  have mf2 : U.frozen? ⟨w.heap.size, 2, none⟩ = false := u0.frozen 2
  obtain ⟨T, hT⟩ : ∃ T, T = U.setCell ⟨w.heap.size, 2, none⟩ (.slice A2 (n - 1) (c - 1)) := ⟨_, rfl⟩
  have t0 : Blk T w.heap.size 28 #[.int .i64 most, .int .i64 last, .slice A2 (n - 1) (c - 1)] := by rw [hT]; exact u0.set 2 _
  have t1 : Blk T (w.heap.size + 1) 28 #[.int .i64 0, .int .i64 0, .slice none 0 0] := by rw [hT]; exact u1.other _ _ _ (by omega)
  have t2 : Blk T (w.heap.size + 1 + 1) 63 #[.int .i64 0, .int .i64 0, .int .i64 0, .int .i64 0] := by rw [hT]; exact u2.other _ _ _ (by omega)
  have t3 : Blk T V.heap.size 63 #[.int .i64 (g L 0).tok, .int .i64 (g L 0).dl, .int .i64 (g L 0).k, .int .i64 (g L 0).n] := by rw [hT]; exact u3.other _ _ _ (by omega)
  have hbT : Beside (fun _ => False) w T := by rw [hT, hU]; exact (hbs.alloc _).set (.inr (Nat.le_refl _)) 2 _
  have p0 : T.cell? ⟨w.heap.size, 0, none⟩ = some (.int .i64 most) := t0.cell 0 rfl
  have pf0 : T.frozen? ⟨w.heap.size, 0, none⟩ = false := t0.frozen 0
  have p1 : T.cell? ⟨w.heap.size, 1, none⟩ = some (.int .i64 last) := t0.cell 1 rfl
  have pf1 : T.frozen? ⟨w.heap.size, 1, none⟩ = false := t0.frozen 1
  have p2 : T.cell? ⟨w.heap.size, 2, none⟩ = some (.slice A2 (n - 1) (c - 1)) := t0.cell 2 rfl
  have pf2 : T.frozen? ⟨w.heap.size, 2, none⟩ = false := t0.frozen 2
  have pd0 : T.drew.cell? ⟨w.heap.size, 0, none⟩ = some (.int .i64 most) := t0.cell 0 rfl
  have pdf0 : T.drew.frozen? ⟨w.heap.size, 0, none⟩ = false := t0.frozen 0
  have pd1 : T.drew.cell? ⟨w.heap.size, 1, none⟩ = some (.int .i64 last) := t0.cell 1 rfl
  have pdf1 : T.drew.frozen? ⟨w.heap.size, 1, none⟩ = false := t0.frozen 1
  have pd2 : T.drew.cell? ⟨w.heap.size, 2, none⟩ = some (.slice A2 (n - 1) (c - 1)) := t0.cell 2 rfl
  have pdf2 : T.drew.frozen? ⟨w.heap.size, 2, none⟩ = false := t0.frozen 2
  have q0 : T.cell? ⟨w.heap.size + 1, 0, none⟩ = some (.int .i64 0) := t1.cell 0 rfl
  have qf0 : T.frozen? ⟨w.heap.size + 1, 0, none⟩ = false := t1.frozen 0
  have q1 : T.cell? ⟨w.heap.size + 1, 1, none⟩ = some (.int .i64 0) := t1.cell 1 rfl
  have qf1 : T.frozen? ⟨w.heap.size + 1, 1, none⟩ = false := t1.frozen 1
  have q2 : T.cell? ⟨w.heap.size + 1, 2, none⟩ = some (.slice none 0 0) := t1.cell 2 rfl
  have qf2 : T.frozen? ⟨w.heap.size + 1, 2, none⟩ = false := t1.frozen 2
  have qd0 : T.drew.cell? ⟨w.heap.size + 1, 0, none⟩ = some (.int .i64 0) := t1.cell 0 rfl
  have qdf0 : T.drew.frozen? ⟨w.heap.size + 1, 0, none⟩ = false := t1.frozen 0
  have qd1 : T.drew.cell? ⟨w.heap.size + 1, 1, none⟩ = some (.int .i64 0) := t1.cell 1 rfl
  have qdf1 : T.drew.frozen? ⟨w.heap.size + 1, 1, none⟩ = false := t1.frozen 1
  have qd2 : T.drew.cell? ⟨w.heap.size + 1, 2, none⟩ = some (.slice none 0 0) := t1.cell 2 rfl
  have qdf2 : T.drew.frozen? ⟨w.heap.size + 1, 2, none⟩ = false := t1.frozen 2
  have r0 : T.cell? ⟨w.heap.size + 1 + 1, 0, none⟩ = some (.int .i64 0) := t2.cell 0 rfl
  have rf0 : T.frozen? ⟨w.heap.size + 1 + 1, 0, none⟩ = false := t2.frozen 0
  have r1 : T.cell? ⟨w.heap.size + 1 + 1, 1, none⟩ = some (.int .i64 0) := t2.cell 1 rfl
  have rf1 : T.frozen? ⟨w.heap.size + 1 + 1, 1, none⟩ = false := t2.frozen 1
  have r2 : T.cell? ⟨w.heap.size + 1 + 1, 2, none⟩ = some (.int .i64 0) := t2.cell 2 rfl
  have rf2 : T.frozen? ⟨w.heap.size + 1 + 1, 2, none⟩ = false := t2.frozen 2
  have r3 : T.cell? ⟨w.heap.size + 1 + 1, 3, none⟩ = some (.int .i64 0) := t2.cell 3 rfl
  have rf3 : T.frozen? ⟨w.heap.size + 1 + 1, 3, none⟩ = false := t2.frozen 3
  have rd0 : T.drew.cell? ⟨w.heap.size + 1 + 1, 0, none⟩ = some (.int .i64 0) := t2.cell 0 rfl
  have rdf0 : T.drew.frozen? ⟨w.heap.size + 1 + 1, 0, none⟩ = false := t2.frozen 0
  have rd1 : T.drew.cell? ⟨w.heap.size + 1 + 1, 1, none⟩ = some (.int .i64 0) := t2.cell 1 rfl
  have rdf1 : T.drew.frozen? ⟨w.heap.size + 1 + 1, 1, none⟩ = false := t2.frozen 1
  have rd2 : T.drew.cell? ⟨w.heap.size + 1 + 1, 2, none⟩ = some (.int .i64 0) := t2.cell 2 rfl
  have rdf2 : T.drew.frozen? ⟨w.heap.size + 1 + 1, 2, none⟩ = false := t2.frozen 2
  have rd3 : T.drew.cell? ⟨w.heap.size + 1 + 1, 3, none⟩ = some (.int .i64 0) := t2.cell 3 rfl
  have rdf3 : T.drew.frozen? ⟨w.heap.size + 1 + 1, 3, none⟩ = false := t2.frozen 3
  have s0 : T.cell? ⟨V.heap.size, 0, none⟩ = some (.int .i64 (g L 0).tok) := t3.cell 0 rfl
  have sf0 : T.frozen? ⟨V.heap.size, 0, none⟩ = false := t3.frozen 0
  have s1 : T.cell? ⟨V.heap.size, 1, none⟩ = some (.int .i64 (g L 0).dl) := t3.cell 1 rfl
  have sf1 : T.frozen? ⟨V.heap.size, 1, none⟩ = false := t3.frozen 1
  have s2 : T.cell? ⟨V.heap.size, 2, none⟩ = some (.int .i64 (g L 0).k) := t3.cell 2 rfl
  have sf2 : T.frozen? ⟨V.heap.size, 2, none⟩ = false := t3.frozen 2
  have s3 : T.cell? ⟨V.heap.size, 3, none⟩ = some (.int .i64 (g L 0).n) := t3.cell 3 rfl
  have sf3 : T.frozen? ⟨V.heap.size, 3, none⟩ = false := t3.frozen 3
  have sd0 : T.drew.cell? ⟨V.heap.size, 0, none⟩ = some (.int .i64 (g L 0).tok) := t3.cell 0 rfl
  have sdf0 : T.drew.frozen? ⟨V.heap.size, 0, none⟩ = false := t3.frozen 0
  have sd1 : T.drew.cell? ⟨V.heap.size, 1, none⟩ = some (.int .i64 (g L 0).dl) := t3.cell 1 rfl
  have sdf1 : T.drew.frozen? ⟨V.heap.size, 1, none⟩ = false := t3.frozen 1
  have sd2 : T.drew.cell? ⟨V.heap.size, 2, none⟩ = some (.int .i64 (g L 0).k) := t3.cell 2 rfl
  have sdf2 : T.drew.frozen? ⟨V.heap.size, 2, none⟩ = false := t3.frozen 2
  have sd3 : T.drew.cell? ⟨V.heap.size, 3, none⟩ = some (.int .i64 (g L 0).n) := t3.cell 3 rfl
  have sdf3 : T.drew.frozen? ⟨V.heap.size, 3, none⟩ = false := t3.frozen 3
  obtain ⟨Z, hZ⟩ : ∃ Z, Z = (set4 (set3 T (w.heap.size + 1) (.int .i64 most) (.int .i64 last) (.slice A2 (n - 1) (c - 1))) (w.heap.size + 1 + 1) (.int .i64 (g L 0).tok) (.int .i64 (g L 0).dl) (.int .i64 (g L 0).k) (.int .i64 (g L 0).n)).drew := ⟨_, rfl⟩
  have r1' : Blk Z (w.heap.size + 1) 28 #[.int .i64 most, .int .i64 last, .slice A2 (n - 1) (c - 1)] := by rw [hZ]; exact (blk_other4 (blk_set3 t1 _ _ _) (by omega) _ _ _ _).drew
  have r2' : Blk Z (w.heap.size + 1 + 1) 63 #[.int .i64 (g L 0).tok, .int .i64 (g L 0).dl, .int .i64 (g L 0).k, .int .i64 (g L 0).n] := by rw [hZ]; exact (blk_set4 (blk_other3 t2 (by omega) _ _ _) _ _ _ _).drew
  have hE : Below w.heap.size w Z := by rw [hZ]; exact Below_drew (beside_none (beside_set4 (beside_set3 hbT (.inr (by omega)) _ _ _) (.inr (by omega)) _ _ _ _))
  unfold set4 set3 at hZ
  have HV := Lib.hid hV
  have HU := Lib.hid hU
  have HT := Lib.hid hT
  have HZ := Lib.hid hZ
  have HE := Lib.hid hE
  have HR1 := Lib.hid r1'
  have HR2 := Lib.hid r2'
  have HHA := Lib.hid hA2
  have HSV := Lib.hid hsV
  have hz : ¬ (n : Int) = 0 := by omega
  have hzb : ((n : Int) == 0) = false := by simpa using hz
  have hzp : (0 : Int) < (n : Int) := by omega
  have hz1 : (1 : Int) ≤ (n : Int) := by omega
  have hzc : (n : Int) ≤ (c : Int) := by omega
  have hdn : ¬ (now < (g L 0).dl) := by omega
  have hdb : decide (now < (g L 0).dl) = false := decide_eq_false hdn
  clear hV hU hT hZ hE r1' r2' hbs h0 h1 h2 u0 u1 u2 u3 t0 t1 t2 t3 hbT ha hd hn k0 k1 k2 k3 hL0 HBV hA2 hsV
  go_enter Try.func20, Try.ntmps20
  go_upto_region 1 with fail
  rw [← HV.out]
  go_upto_region 4 with fail
  rw [← HU.out]
  go_upto_region 5 with fail
  rw [← HHA.out, ← HT.out]
  have hsv := HSV.out
  have q1 : ¬ (V.heap.size = w.heap.size + 1) := by omega
  have q2 : ¬ (w.heap.size + 1 = V.heap.size) := by omega
  have q3 : ¬ (V.heap.size = w.heap.size + 1 + 1) := by omega
  have q4 : ¬ (w.heap.size + 1 + 1 = V.heap.size) := by omega
  clear hsv
  generalize V.heap.size = vs at *
  change Code.wp _ _ _ _ T
  go_region
  go_wp2
  rw [← HZ.out]
  try simp only [Exit.inBlock, Exit.then]
  refine bodyPost_ret (results_two_tmp rfl _ _ (w.heap.size + 1) (w.heap.size + 1 + 1) 0 0 [.int .i64 most, .int .i64 last, .slice A2 (n - 1) (c - 1)] [.int .i64 (g L 0).tok, .int .i64 (g L 0).dl, .int .i64 (g L 0).k, .int .i64 (g L 0).n] _ _ rfl (blk_range HR1.out) Try.underlying28 rfl (by kernel_rfl) rfl (blk_range HR2.out) Try.underlying63 rfl (by kernel_rfl)) rfl ?_
  exact ⟨A2, rfl, by rw [HHA.out]; simpa using HA2.out, (by rw [HHA.out]; intro e; split at e <;> cases e), (by rw [HHA.out]; intro b' o p e; split at e <;> (injection e with e; injection e with e1 e2 e3; subst e1 e3; first | exact ⟨⟨_, rfl⟩, rfl⟩ | simp)), HE.out⟩
end Go.Proofs.Ytdbgmogllncffaa
