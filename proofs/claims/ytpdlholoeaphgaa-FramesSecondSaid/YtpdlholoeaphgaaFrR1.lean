/- Words on the document's jobs in memory; contracts of its New, of Told, of its Ask where there is no room. -/
import Derived.Test.YtpdlholoeaphgaaFrW7
import Derived.Deep.MidRow
import Derived.LoopIn
import Derived.LoopTactic
namespace Go.Proofs.Ytpdlholoeaphgaa
open Go.RowKit
attribute [-go_sem] Builtin.append_
namespace Fr
structure Tm where
  tok : Int
  dl : Int
  k : Int
  n : Int
deriving DecidableEq
def dft : Tm := ⟨0, 0, 0, 0⟩
def g (xs : List Tm) (i : Nat) : Tm := xs.getD i dft
theorem g_at {xs : List Tm} {i : Nat} (h : i < xs.length) : xs[i]? = some (g xs i) := by simp [g, List.getD_eq_getElem?_getD, h]
theorem g_of {xs : List Tm} {i : Nat} {t : Tm} (h : xs[i]? = some t) : g xs i = t := by simp [g, List.getD_eq_getElem?_getD, h]
def tc (t : Tm) : List Value := [.int .i64 t.tok, .int .i64 t.dl, .int .i64 t.k, .int .i64 t.n]
theorem tc_len (t : Tm) : (tc t).length = 4 := rfl
theorem tc_one (t : Tm) : ∀ v ∈ tc t, v.oneCell' = true := by
  intro v hv
  simp [tc] at hv
  rcases hv with rfl | rfl | rfl | rfl <;> rfl
def tv (xs : List Tm) : List Value := xs.flatMap tc
theorem tv_len (xs : List Tm) : (tv xs).length = xs.length * 4 := Op.flat_len tc 4 tc_len xs
theorem tv_one (xs : List Tm) : ∀ v ∈ tv xs, v.oneCell' = true := by
  intro v hv
  simp only [tv, List.mem_flatMap] at hv
  obtain ⟨t, _, h⟩ := hv
  exact tc_one t v h
theorem tv_at (xs : List Tm) (k : Nat) (h : k < xs.length) (q : Nat) (hq : q < 4) : (tv xs)[k * 4 + q]? = (tc (g xs k))[q]? := by
  have h1 := Op.flat_at tc 4 tc_len xs k h q hq
  have h2 : g xs k = xs[k] := g_of (by simp [h])
  rw [h2]
  exact h1
theorem tv_app (a b : List Tm) : tv (a ++ b) = tv a ++ tv b := by simp [tv]
theorem act_cells {w : World} {b o : Nat} {L : List Tm} (h : At w (some ⟨b, o, none⟩) (L.flatMap tc)) {i : Nat} (hi : i < L.length) : b < w.heap.size ∧ w.cell? ⟨b, o + i * 4, none⟩ = some (.int .i64 (g L i).tok) ∧ w.cell? ⟨b, o + i * 4 + 1, none⟩ = some (.int .i64 (g L i).dl) ∧ w.cell? ⟨b, o + i * 4 + 2, none⟩ = some (.int .i64 (g L i).k) ∧ w.cell? ⟨b, o + i * 4 + 3, none⟩ = some (.int .i64 (g L i).n) := by
  have key : ∀ q u, (tc (g L i))[q]? = some u → q < 4 → b < w.heap.size ∧ w.cell? ⟨b, o + (i * 4 + q), none⟩ = some u := by
    intro q u hu hq
    obtain ⟨b', o', e, hb, hc⟩ := h.one (k := i * 4 + q) (u := u) (by rw [← hu]; exact tv_at L i hi q hq)
    injection e with e
    injection e with e1 e2
    subst e1 e2
    exact ⟨hb, hc⟩
  exact ⟨(key 0 _ rfl (by omega)).1, (key 0 _ rfl (by omega)).2, (key 1 _ rfl (by omega)).2, (key 2 _ rfl (by omega)).2, (key 3 _ rfl (by omega)).2⟩
theorem results_mid_tmp {P : Program} {fn : Func} {u p : Tmp} {ty : TypeId} (h : fn.results = #[.cell p ty, .tmp u]) (tmps : Array Value) (w : World) (b o : Nat) (cs : List Value) (d : TypeDesc)
    (hp : tmps.getD p undef = .pointer (some ⟨b, o, none⟩)) (hc : w.rangeAt b o cs) (hu : P.underlying ty = some d) (hd : d.isRow = true) (hi : (P.info? ty).map (·.size) = some cs.length) :
    (results fn tmps).run P w = .ok (.tuple #[.agg cs.toArray, tmps.getD u undef]) w := by
  have hp' : tmps[p]?.getD undef = .pointer (some ⟨b, o, none⟩) := by simpa using hp
  simp [results, h, hp', asAddr, run_loadVar_mid w b o ty cs d hc hu hd hi]
theorem blk_range {w : World} {b : Nat} {t : TypeId} {cs : Array Value} (h : Blk w b t cs) : w.rangeAt b 0 cs.toList := by
  intro j u hu
  rw [Nat.zero_add]
  exact h.cell j (by simpa using hu)
theorem results_mid_tmp2 {P : Program} {fn : Func} {u v p : Tmp} {ty : TypeId} (h : fn.results = #[.cell p ty, .tmp u, .tmp v]) (tmps : Array Value) (w : World) (b o : Nat) (cs : List Value) (d : TypeDesc)
    (hp : tmps.getD p undef = .pointer (some ⟨b, o, none⟩)) (hc : w.rangeAt b o cs) (hu : P.underlying ty = some d) (hd : d.isRow = true) (hi : (P.info? ty).map (·.size) = some cs.length) :
    (results fn tmps).run P w = .ok (.tuple #[.agg cs.toArray, tmps.getD u undef, tmps.getD v undef]) w := by
  have hp' : tmps[p]?.getD undef = .pointer (some ⟨b, o, none⟩) := by simpa using hp
  simp [results, h, hp', asAddr, run_loadVar_mid w b o ty cs d hc hu hd hi]
def rv16 (most last : Int) (A : Option Addr) (n c : Nat) : Value := .agg #[.int .i64 most, .int .i64 last, .slice A n c]
def set3 (w : World) (g : Nat) (c0 c1 c2 : Value) : World := ((w.setCell ⟨g, 0, none⟩ c0).setCell ⟨g, 1, none⟩ c1).setCell ⟨g, 2, none⟩ c2
theorem blk_set3 {w : World} {g : Nat} {t : TypeId} {a0 a1 a2 : Value} (h : Blk w g t #[a0, a1, a2]) (c0 c1 c2 : Value) : Blk (set3 w g c0 c1 c2) g t #[c0, c1, c2] := ((h.set 0 c0).set 1 c1).set 2 c2
theorem blk_other3 {w : World} {g b : Nat} {t : TypeId} {cs : Array Value} (h : Blk w g t cs) (hne : g ≠ b) (c0 c1 c2 : Value) : Blk (set3 w b c0 c1 c2) g t cs := ((h.other _ _ _ hne).other _ _ _ hne).other _ _ _ hne
theorem beside_set3 {bad : Nat → Prop} {a w : World} (h : Beside bad a w) {g : Nat} (hg : bad g ∨ a.heap.size ≤ g) (c0 c1 c2 : Value) : Beside bad a (set3 w g c0 c1 c2) := ((h.set hg 0 c0).set hg 1 c1).set hg 2 c2
theorem own_new {w : World} {base : Nat} {e : TypeId} {s n c : Nat} {A : Option Addr} {xs : List Value} (h : w.ownsRow base e s (.slice A n c) n xs) : ∀ b' o p, A = some ⟨b', o, p⟩ → base ≤ b' ∧ p = none ∧ b' < w.heap.size := by
  intro b' o p hA
  rcases h.2 with ⟨hv, _⟩ | ⟨q, c', cur, hv, hb, hh, _⟩
  · injection hv with hv _ _
    rw [hA] at hv
    cases hv
  · injection hv with hv _ _
    rw [hA] at hv
    injection hv with hv
    injection hv with h1 h2 h3
    subst h1
    exact ⟨hb, h3, Blk.lt hh⟩
theorem beside_none {w w' : World} (h : Beside (fun _ => False) w w') : Below w.heap.size w w' := ⟨h.os, h.tape, h.output, h.size, fun g hg => h.block g hg (fun e => e)⟩
theorem rnew_any (most : Int) (w : World) :
    Calls Try.prog 11 #[.int .i64 most] w fun e w' => e = .returned (.agg #[.int .i64 (clp most 1 65536), .int .i64 0, .slice none 0 0]) ∧ Below w.heap.size w w' := by
  have e : max 1 (min most 65536) = clp most 1 65536 := rfl
  go_enter Try.func11, Try.ntmps11
  go_wp2
  go_returns
  refine ⟨?_, below_alloc _ _⟩
  first | rfl | (rw [e]; rfl) | (simp [clp])
def tmv (t : Tm) : Value := .agg #[.int .i64 t.tok, .int .i64 t.dl, .int .i64 t.k, .int .i64 t.n]
theorem told_any (t : Tm) (w : World) :
    Calls Try.prog 34 #[tmv t] w fun e w' => e = .returned (tmv t) ∧ Below w.heap.size w w' := by
  unfold tmv
  go_enter Try.func34, Try.ntmps34
  go_wp2
  go_returns
  exact ⟨rfl, (below_alloc _ _).alloc (by simp) _⟩
theorem infoRm : (Try.prog.info? 85).map (fun i => (i.zero, i.size, i.bytes)) = some (some (.agg #[.int .i64 0, .int .i64 0, .int .i64 0, .int .i64 0]), 4, 32) := by kernel_rfl
def rw0 (w : World) (most last kk nn : Int) (A : Option Addr) (n c : Nat) : World := ((w.alloc (.cells #[.int .i64 most, .int .i64 last, .slice A n c] 28)).alloc (.cells #[.int .i64 kk, .int .i64 nn] 33)).alloc (.cells #[.int .i64 0, .int .i64 0, .slice none 0 0] 28)
theorem rw0_facts (w : World) (most last kk nn : Int) (A : Option Addr) (n c : Nat) : Below w.heap.size w (rw0 w most last kk nn A n c) ∧ (rw0 w most last kk nn A n c).heap.size = w.heap.size + 1 + 1 + 1 ∧ Blk (rw0 w most last kk nn A n c) w.heap.size 28 #[.int .i64 most, .int .i64 last, .slice A n c] ∧ Blk (rw0 w most last kk nn A n c) (w.heap.size + 1) 33 #[.int .i64 kk, .int .i64 nn] ∧ Blk (rw0 w most last kk nn A n c) (w.heap.size + 1 + 1) 28 #[.int .i64 0, .int .i64 0, .slice none 0 0] := by
  unfold rw0
  refine ⟨?_, by simp, ((Blk.new w _ _).alloc _).alloc _, ?_, ?_⟩
  · exact beside_none ((((Beside.refl (fun _ => False) w).alloc _).alloc _).alloc _)
  · exact (Blk.new' (w.alloc (.cells #[.int .i64 most, .int .i64 last, .slice A n c] 28)) _ _ _ (by simp)).alloc _
  · exact Blk.new' ((w.alloc (.cells #[.int .i64 most, .int .i64 last, .slice A n c] 28)).alloc (.cells #[.int .i64 kk, .int .i64 nn] 33)) _ _ _ (by simp)
set_option maxHeartbeats 4000000 in
set_option maxRecDepth 100000 in
theorem rask_full (most last kk nn : Int) (A : Option Addr) (n c : Nat) (w : World) (hf : (n : Int) = most) :
    Calls Try.prog 31 #[rv16 most last A n c, .agg #[.int .i64 kk, .int .i64 nn]] w fun e w' => e = .returned (.tuple #[rv16 most last A n c, .int .i64 0, .int .i64 9]) ∧ Below w.heap.size w w' := by
  unfold rv16
  obtain ⟨hb, hs, h0, h1, h2⟩ := rw0_facts w most last kk nn A n c
  obtain ⟨V, hV⟩ : ∃ V, V = rw0 w most last kk nn A n c := ⟨_, rfl⟩
  rw [← hV] at hb hs h0 h1 h2
  have a0 : V.cell? ⟨w.heap.size, 0, none⟩ = some (.int .i64 most) := h0.cell 0 rfl
  have a1 : V.cell? ⟨w.heap.size, 1, none⟩ = some (.int .i64 last) := h0.cell 1 rfl
  have a2 : V.cell? ⟨w.heap.size, 2, none⟩ = some (.slice A n c) := h0.cell 2 rfl
  have b0 : V.cell? ⟨w.heap.size + 1 + 1, 0, none⟩ = some (.int .i64 0) := h2.cell 0 rfl
  have b1 : V.cell? ⟨w.heap.size + 1 + 1, 1, none⟩ = some (.int .i64 0) := h2.cell 1 rfl
  have b2 : V.cell? ⟨w.heap.size + 1 + 1, 2, none⟩ = some (.slice none 0 0) := h2.cell 2 rfl
  have c0 : V.frozen? ⟨w.heap.size + 1 + 1, 0, none⟩ = false := h2.frozen 0
  have c1 : V.frozen? ⟨w.heap.size + 1 + 1, 1, none⟩ = false := h2.frozen 1
  have c2 : V.frozen? ⟨w.heap.size + 1 + 1, 2, none⟩ = false := h2.frozen 2
  obtain ⟨Z, hZ⟩ : ∃ Z, Z = set3 V (w.heap.size + 1 + 1) (.int .i64 most) (.int .i64 last) (.slice A n c) := ⟨_, rfl⟩
  have HR1 : Hid (Blk Z (w.heap.size + 1 + 1) 28 #[.int .i64 most, .int .i64 last, .slice A n c]) := by rw [hZ]; exact blk_set3 h2 _ _ _
  have HE : Hid (Below w.heap.size w Z) := by rw [hZ]; exact beside_none (beside_set3 (Beside.ofBelow hb) (.inr (by omega)) _ _ _)
  unfold set3 at hZ
  unfold rw0 at hV
  have HV := Lib.hid hV
  have HZ := Lib.hid hZ
  have hfb : ((n : Int) == most) = true := beq_iff_eq.2 hf
  clear hV hZ hb hs h0 h1 h2 hf
  go_enter Try.func31, Try.ntmps31
  go_upto_region 1 with fail
  rw [← HV.out]
  go_wp2
  rw [← HZ.out]
  try simp only [Exit.inBlock, Exit.then]
  refine bodyPost_ret (results_mid_tmp2 rfl _ _ (w.heap.size + 1 + 1) 0 [.int .i64 most, .int .i64 last, .slice A n c] _ rfl (blk_range HR1.out) Try.underlying28 rfl (by kernel_rfl)) rfl ?_
  exact ⟨rfl, HE.out⟩
end Fr
end Go.Proofs.Ytpdlholoeaphgaa
