/- Contract of the heap's Swap. (By gen_swap.py.) -/
import Derived.Test.YtdbgmogllncffaaWhW3
import Derived.BigRegion
import Derived.BigQuiet
import Derived.StillTailTactics
namespace Go.Proofs.Ytdbgmogllncffaa
open Go.RowKit Go.Sort Wh
def Bad (b : Nat) (rv mv : Value) (x : Nat) : Prop := x = b ∨ rv.ownBlock = some x ∨ mv = .map (some x)
theorem tv_set (xs : List Tm) (i : Nat) (hi : i < xs.length) (t : Tm) : ((((tv xs).set (i * 4) (.int .i64 t.tok)).set (i * 4 + 1) (.int .i64 t.dl)).set (i * 4 + 2) (.int .i64 t.k)).set (i * 4 + 3) (.int .i64 t.n) = tv (xs.set i t) := by
  have hl : (tv xs).length = xs.length * 4 := tv_len xs
  apply List.ext_getElem?
  intro z
  rcases Nat.lt_or_ge z (xs.length * 4) with hz | hz
  · have hk : z / 4 < xs.length := by omega
    have h1 := tv_at (xs.set i t) (z / 4) (by simpa using hk) (z % 4) (by omega)
    have h2 := tv_at xs (z / 4) hk (z % 4) (by omega)
    rw [show z / 4 * 4 + z % 4 = z by omega] at h1 h2
    rw [h1]
    have hg : g (xs.set i t) (z / 4) = if z / 4 = i then t else g xs (z / 4) := by
      unfold g
      simp only [List.getD_eq_getElem?_getD, List.getElem?_set]
      by_cases e : i = z / 4
      · rw [if_pos e, if_pos e.symm]; first | rfl | (rw [if_pos hi]; rfl)
      · rw [if_neg e, if_neg (by omega)]
    rw [hg]
    by_cases e : z / 4 = i
    · rw [if_pos e]
      have hq : z % 4 = 0 ∨ z % 4 = 1 ∨ z % 4 = 2 ∨ z % 4 = 3 := by omega
      simp only [List.getElem?_set, hl, List.length_set]
      rcases hq with q | q | q | q
      · rw [q, if_neg (by omega), if_neg (by omega), if_neg (by omega), if_pos (by omega), if_pos (by omega)]; rfl
      · rw [q, if_neg (by omega), if_neg (by omega), if_pos (by omega), if_pos (by omega)]; rfl
      · rw [q, if_neg (by omega), if_pos (by omega), if_pos (by omega)]; rfl
      · rw [q, if_pos (by omega), if_pos (by omega)]; rfl
    · rw [if_neg e, ← h2]
      simp only [List.getElem?_set, hl, List.length_set]
      rw [if_neg (by omega), if_neg (by omega), if_neg (by omega), if_neg (by omega)]
  · rw [List.getElem?_eq_none (by simp [hl]; omega), List.getElem?_eq_none (by rw [tv_len]; simp; omega)]
def put4 (w : World) (g0 i : Nat) (t : Tm) : World := (((w.setCell ⟨g0, i * 4, none⟩ (.int .i64 t.tok)).setCell ⟨g0, i * 4 + 1, none⟩ (.int .i64 t.dl)).setCell ⟨g0, i * 4 + 2, none⟩ (.int .i64 t.k)).setCell ⟨g0, i * 4 + 3, none⟩ (.int .i64 t.n)
theorem row_put {w : World} {g0 c n : Nat} {xs : List Tm} (h : w.ownsRow 0 47 4 (.slice (some ⟨g0, 0, none⟩) n c) n (tv xs)) (i : Nat) (hi : i < xs.length) (t : Tm) :
    (put4 w g0 i t).ownsRow 0 47 4 (.slice (some ⟨g0, 0, none⟩) n c) n (tv (xs.set i t)) ∧ w.grownBy (put4 w g0 i t) (some g0) := by
  obtain ⟨a1, b1⟩ := h.stored (i * 4) (.int .i64 t.tok)
  obtain ⟨a2, b2⟩ := a1.stored (i * 4 + 1) (.int .i64 t.dl)
  obtain ⟨a3, b3⟩ := a2.stored (i * 4 + 2) (.int .i64 t.k)
  obtain ⟨a4, b4⟩ := a3.stored (i * 4 + 3) (.int .i64 t.n)
  rw [tv_set xs i hi t] at a4
  exact ⟨a4, ((b1.trans b2).trans b3).trans b4⟩
theorem grownBy_drew {w w' : World} {r : Option Nat} (h : w.grownBy w' r) : w.grownBy w'.drew r := ⟨h.os, h.tape, h.output, h.size, h.block⟩
theorem own_drew {w : World} {base : Nat} {e : TypeId} {size n : Nat} {v : Value} {xs : List Value} (h : w.ownsRow base e size v n xs) : w.drew.ownsRow base e size v n xs := h
theorem tok_inj {f : Int → Option Value} {xs : List Tm} (h : PlaceOk f xs) {p q : Nat} (hp : p < xs.length) (hq : q < xs.length) (e : (g xs p).tok = (g xs q).tok) : p = q := by
  have h1 := h.1 p _ (g_at hp)
  have h2 := h.1 q _ (g_at hq)
  rw [e, h2] at h1
  injection h1 with h1
  injection h1 with _ h1
  omega
theorem place_swap {f : Int → Option Value} {xs : List Tm} {i j : Nat} (h : PlaceOk f xs) (hi : i < xs.length) (hj : j < xs.length) :
    PlaceOk (fun z => if z = (g xs i).tok then some (.int .i64 (j : Nat)) else (fun z => if z = (g xs j).tok then some (.int .i64 (i : Nat)) else f z) z) (swp xs i j) := by
  refine ⟨fun p t hpt => ?_, fun z v hz hv => ?_⟩
  · have hp : p < xs.length := by have := (List.getElem?_eq_some_iff.1 hpt).1; rwa [swp_len] at this
    have e := g_of hpt
    rw [g_swp xs i j hi hj] at e
    by_cases e1 : p = j
    · rw [if_pos e1] at e
      simp only
      rw [← e, if_pos rfl, e1]
    · rw [if_neg e1] at e
      by_cases e2 : p = i
      · rw [if_pos e2] at e
        simp only
        rw [← e, if_neg (fun h3 => e1 (by rw [e2]; exact (tok_inj h hj hi h3).symm)), if_pos rfl, e2]
      · rw [if_neg e2] at e
        simp only
        rw [← e, if_neg (fun h3 => e2 (tok_inj h hp hi h3)), if_neg (fun h3 => e1 (tok_inj h hp hj h3))]
        exact h.1 p _ (g_at hp)
  · have hS : ∀ p, p < xs.length → (swp xs i j)[p]? = some (g (swp xs i j) p) := fun p hp => g_at (by rw [swp_len]; exact hp)
    by_cases e1 : z = (g xs i).tok
    · exact ⟨j, _, hS j hj, by rw [g_swp xs i j hi hj, if_pos rfl, e1]⟩
    · by_cases e2 : z = (g xs j).tok
      · refine ⟨i, _, hS i hi, ?_⟩
        rw [g_swp xs i j hi hj]
        by_cases e3 : i = j
        · rw [if_pos e3]; exact absurd (by rw [e2, e3]) e1
        · rw [if_neg e3, if_pos rfl, e2]
      · simp only at hv
        rw [if_neg e1, if_neg e2] at hv
        obtain ⟨p, t, hp, ht⟩ := h.2 z v hz hv
        have hp' : p < xs.length := (List.getElem?_eq_some_iff.1 hp).1
        have hg := g_of hp
        refine ⟨p, _, hS p hp', ?_⟩
        rw [g_swp xs i j hi hj, if_neg (fun e => e2 (by rw [← ht, ← hg, e])), if_neg (fun e => e1 (by rw [← ht, ← hg, e])), hg, ht]
set_option maxHeartbeats 4000000 in
set_option maxRecDepth 100000 in
theorem swap_ne (b : Nat) (rv mv : Value) (last most : Int) (xs : List Tm) (i j : Nat) (w : World) (h : Pl w b rv mv last most xs) (hi : i < xs.length) (hj : j < xs.length) (hij : i ≠ j) :
    Calls Try.prog 74 #[.pointer (some ⟨b, 0, none⟩), .int .i64 i, .int .i64 j] w fun e w' => e = .returned (.tuple #[]) ∧ Pl w' b rv mv last most (swp xs i j) ∧ Beside (Bad b rv mv) w w' := by
  have mixed : Try.prog.follows .mixedOrders = true := by kernel_rfl
  obtain ⟨g0, c, rfl, _, hg0, hc1, hc2⟩ := own_head h.row (by omega)
  obtain ⟨m, f, rfl, hmf, hpl⟩ : ∃ m f, mv = .map (some m) ∧ MapOf Try.prog 3 ikey OkI w m f xs.length ∧ PlaceOk f xs := by
    rcases h.map with ⟨_, h1⟩ | h1
    · rw [h1] at hi; exact absurd hi (Nat.not_lt_zero _)
    · exact h1
  have hf := h.few
  have hbg : g0 ≠ b := by
    rcases h.row.2 with ⟨hv, _⟩ | ⟨g', c', cur, hv, _, hh, _⟩
    · cases hv
    · injection hv with hv _ _
      injection hv with hv
      injection hv with hv
      subst hv
      intro e
      have h9 := h.blk
      unfold Blk at h9
      rw [← e, hh] at h9
      injection h9 with h9
      injection h9 with _ h9 _
      cases h9
  have hmg : m ≠ g0 := by
    rcases h.row.2 with ⟨hv, _⟩ | ⟨g', c', cur, hv, _, hh, _⟩
    · cases hv
    · injection hv with hv _ _
      injection hv with hv
      injection hv with hv
      subst hv
      rintro rfl
      obtain ⟨D, ⟨es, clock, h9, _⟩, _⟩ := hmf
      rw [hh] at h9
      cases h9
  have hmb : m ≠ b := by
    rintro rfl
    obtain ⟨D, ⟨es, clock, h9, _⟩, _⟩ := hmf
    have h8 := h.blk
    unfold Blk at h8
    rw [h9] at h8
    cases h8
  have H1 : Hid (Blk w b 58 #[.slice (some ⟨g0, 0, none⟩) xs.length c, .map (some m), .int .i64 last, .int .i64 most]) := h.blk
  have H2 : Hid (w.ownsRow 0 47 4 (.slice (some ⟨g0, 0, none⟩) xs.length c) xs.length (tv xs)) := h.row
  have H3 : Hid (MapOf Try.prog 3 ikey OkI w m f xs.length) := hmf
  have H4 := Lib.hid hpl
  have H5 : Hid (∀ t ∈ xs, OkI t.tok) := h.tok
  have HB : Hid (Beside (Bad b (.slice (some ⟨g0, 0, none⟩) xs.length c) (.map (some m))) w w) := Beside.refl _ w
  have HO : Hid (OkI (g xs i).tok ∧ OkI (g xs j).tok) := ⟨h.tok _ (List.mem_of_getElem? (g_at hi)), h.tok _ (List.mem_of_getElem? (g_at hj))⟩
  have f0 : w.drew.cell? ⟨b, 0, none⟩ = some (.slice (some ⟨g0, 0, none⟩) xs.length c) := h.blk.cell 0 rfl
  have x0 : w.drew.cell? ⟨g0, i * 4, none⟩ = some (.int .i64 (g xs i).tok) := row_cell h.row i hi 0 (by omega)
  have x1 : w.drew.cell? ⟨g0, i * 4 + 1, none⟩ = some (.int .i64 (g xs i).dl) := row_cell h.row i hi 1 (by omega)
  have x2 : w.drew.cell? ⟨g0, i * 4 + 2, none⟩ = some (.int .i64 (g xs i).k) := row_cell h.row i hi 2 (by omega)
  have x3 : w.drew.cell? ⟨g0, i * 4 + 3, none⟩ = some (.int .i64 (g xs i).n) := row_cell h.row i hi 3 (by omega)
  have x0w : w.cell? ⟨g0, i * 4, none⟩ = some (.int .i64 (g xs i).tok) := row_cell h.row i hi 0 (by omega)
  have x1w : w.cell? ⟨g0, i * 4 + 1, none⟩ = some (.int .i64 (g xs i).dl) := row_cell h.row i hi 1 (by omega)
  have x2w : w.cell? ⟨g0, i * 4 + 2, none⟩ = some (.int .i64 (g xs i).k) := row_cell h.row i hi 2 (by omega)
  have x3w : w.cell? ⟨g0, i * 4 + 3, none⟩ = some (.int .i64 (g xs i).n) := row_cell h.row i hi 3 (by omega)
  have y0 : w.drew.cell? ⟨g0, j * 4, none⟩ = some (.int .i64 (g xs j).tok) := row_cell h.row j hj 0 (by omega)
  have y1 : w.drew.cell? ⟨g0, j * 4 + 1, none⟩ = some (.int .i64 (g xs j).dl) := row_cell h.row j hj 1 (by omega)
  have y2 : w.drew.cell? ⟨g0, j * 4 + 2, none⟩ = some (.int .i64 (g xs j).k) := row_cell h.row j hj 2 (by omega)
  have y3 : w.drew.cell? ⟨g0, j * 4 + 3, none⟩ = some (.int .i64 (g xs j).n) := row_cell h.row j hj 3 (by omega)
  have y0w : w.cell? ⟨g0, j * 4, none⟩ = some (.int .i64 (g xs j).tok) := row_cell h.row j hj 0 (by omega)
  have y1w : w.cell? ⟨g0, j * 4 + 1, none⟩ = some (.int .i64 (g xs j).dl) := row_cell h.row j hj 1 (by omega)
  have y2w : w.cell? ⟨g0, j * 4 + 2, none⟩ = some (.int .i64 (g xs j).k) := row_cell h.row j hj 2 (by omega)
  have y3w : w.cell? ⟨g0, j * 4 + 3, none⟩ = some (.int .i64 (g xs j).n) := row_cell h.row j hj 3 (by omega)
  have fzi0 : w.drew.frozen? ⟨g0, i * 4, none⟩ = false := h.row.frozenAt _
  have fzi1 : w.drew.frozen? ⟨g0, i * 4 + 1, none⟩ = false := h.row.frozenAt _
  have fzi2 : w.drew.frozen? ⟨g0, i * 4 + 2, none⟩ = false := h.row.frozenAt _
  have fzi3 : w.drew.frozen? ⟨g0, i * 4 + 3, none⟩ = false := h.row.frozenAt _
  have fzj0 : w.drew.frozen? ⟨g0, j * 4, none⟩ = false := h.row.frozenAt _
  have fzj1 : w.drew.frozen? ⟨g0, j * 4 + 1, none⟩ = false := h.row.frozenAt _
  have fzj2 : w.drew.frozen? ⟨g0, j * 4 + 2, none⟩ = false := h.row.frozenAt _
  have fzj3 : w.drew.frozen? ⟨g0, j * 4 + 3, none⟩ = false := h.row.frozenAt _
  have fzi0w : w.frozen? ⟨g0, i * 4, none⟩ = false := h.row.frozenAt _
  have fzi1w : w.frozen? ⟨g0, i * 4 + 1, none⟩ = false := h.row.frozenAt _
  have fzi2w : w.frozen? ⟨g0, i * 4 + 2, none⟩ = false := h.row.frozenAt _
  have fzi3w : w.frozen? ⟨g0, i * 4 + 3, none⟩ = false := h.row.frozenAt _
  have fzj0w : w.frozen? ⟨g0, j * 4, none⟩ = false := h.row.frozenAt _
  have fzj1w : w.frozen? ⟨g0, j * 4 + 1, none⟩ = false := h.row.frozenAt _
  have fzj2w : w.frozen? ⟨g0, j * 4 + 2, none⟩ = false := h.row.frozenAt _
  have fzj3w : w.frozen? ⟨g0, j * 4 + 3, none⟩ = false := h.row.frozenAt _
  clear h hmf hpl
  have HI : Hid (i < xs.length ∧ j < xs.length) := ⟨hi, hj⟩
  have hi' : i < xs.length := hi
  have hj' : j < xs.length := hj
  have hl' : (swp xs i j).length = xs.length := swp_len _ _ _
  generalize hN : xs.length = N at *
  have HN := Lib.hid hN
  clear hN
  have z1 : (0 : Int) ≤ (i : Int) := by omega
  have z2 : (i : Int) < (N : Int) := by omega
  have z3 : (0 : Int) ≤ (j : Int) := by omega
  have z4 : (j : Int) < (N : Int) := by omega
  have hsw : (xs.set i (g xs j)).set j (g xs i) = swp xs i j := rfl
  have HSW := Lib.hid hsw
  clear hsw
  generalize hX : g xs i = x at *
  generalize hY : g xs j = y at *
  have HXY : Hid (g xs i = x ∧ g xs j = y) := ⟨hX, hY⟩
  clear hX hY
  have ne00 : ¬ (i * 4 = j * 4) := by omega
  have en00 : ¬ (j * 4 = i * 4) := by omega
  have ne01 : ¬ (i * 4 = j * 4 + 1) := by omega
  have en01 : ¬ (j * 4 + 1 = i * 4) := by omega
  have ne02 : ¬ (i * 4 = j * 4 + 2) := by omega
  have en02 : ¬ (j * 4 + 2 = i * 4) := by omega
  have ne03 : ¬ (i * 4 = j * 4 + 3) := by omega
  have en03 : ¬ (j * 4 + 3 = i * 4) := by omega
  have ne10 : ¬ (i * 4 + 1 = j * 4) := by omega
  have en10 : ¬ (j * 4 = i * 4 + 1) := by omega
  have ne11 : ¬ (i * 4 + 1 = j * 4 + 1) := by omega
  have en11 : ¬ (j * 4 + 1 = i * 4 + 1) := by omega
  have ne12 : ¬ (i * 4 + 1 = j * 4 + 2) := by omega
  have en12 : ¬ (j * 4 + 2 = i * 4 + 1) := by omega
  have ne13 : ¬ (i * 4 + 1 = j * 4 + 3) := by omega
  have en13 : ¬ (j * 4 + 3 = i * 4 + 1) := by omega
  have ne20 : ¬ (i * 4 + 2 = j * 4) := by omega
  have en20 : ¬ (j * 4 = i * 4 + 2) := by omega
  have ne21 : ¬ (i * 4 + 2 = j * 4 + 1) := by omega
  have en21 : ¬ (j * 4 + 1 = i * 4 + 2) := by omega
  have ne22 : ¬ (i * 4 + 2 = j * 4 + 2) := by omega
  have en22 : ¬ (j * 4 + 2 = i * 4 + 2) := by omega
  have ne23 : ¬ (i * 4 + 2 = j * 4 + 3) := by omega
  have en23 : ¬ (j * 4 + 3 = i * 4 + 2) := by omega
  have ne30 : ¬ (i * 4 + 3 = j * 4) := by omega
  have en30 : ¬ (j * 4 = i * 4 + 3) := by omega
  have ne31 : ¬ (i * 4 + 3 = j * 4 + 1) := by omega
  have en31 : ¬ (j * 4 + 1 = i * 4 + 3) := by omega
  have ne32 : ¬ (i * 4 + 3 = j * 4 + 2) := by omega
  have en32 : ¬ (j * 4 + 2 = i * 4 + 3) := by omega
  have ne33 : ¬ (i * 4 + 3 = j * 4 + 3) := by omega
  have en33 : ¬ (j * 4 + 3 = i * 4 + 3) := by omega
  go_enter Try.func74, Try.ntmps74
  go_wp2_with fail
  go_region
  obtain ⟨U, hU⟩ : ∃ U, U = (put4 (put4 w g0 i y) g0 j x).drew := ⟨_, rfl⟩
  unfold put4 at hU
  rw [← hU]
  have hU' : U = (put4 (put4 w g0 i y) g0 j x).drew := hU
  clear hU
  clear ne00 en00
  clear ne01 en01
  clear ne02 en02
  clear ne03 en03
  clear ne10 en10
  clear ne11 en11
  clear ne12 en12
  clear ne13 en13
  clear ne20 en20
  clear ne21 en21
  clear ne22 en22
  clear ne23 en23
  clear ne30 en30
  clear ne31 en31
  clear ne32 en32
  clear ne33 en33
  clear x0w x1w x2w x3w y0w y1w y2w y3w fzi0w fzi1w fzi2w fzi3w fzj0w fzj1w fzj2w fzj3w
  clear x0 x1 x2 x3 y0 y1 y2 y3 fzi0 fzi1 fzi2 fzi3 fzj0 fzj1 fzj2 fzj3
  have hxl : xs.length = N := HN.out
  obtain ⟨r1, gb1⟩ := row_put H2.out i (by rw [hxl]; exact hi') y
  obtain ⟨r2, gb2⟩ := row_put r1 j (by rw [List.length_set, hxl]; exact hj') x
  have r2 := own_drew r2
  rw [← hU'] at r2
  rw [HSW.out] at r2
  have gb : w.grownBy U (some g0) := by rw [hU']; exact grownBy_drew (gb1.trans gb2)
  clear r1 gb1 gb2 hU'
  have B1 := H1.out.grown gb (by intro e; injection e with e; exact hbg e.symm)
  have M1 := H3.out.grown gb (by intro e; injection e with e; exact hmg e)
  have t1 := (row_cell (by rw [hl']; exact r2) i (by rw [hl']; exact hi') 0 (by omega))
  have t2 := (row_cell (by rw [hl']; exact r2) j (by rw [hl']; exact hj') 0 (by omega))
  have hgi : g (swp xs i j) i = y := by
    rw [g_swp xs i j (by rw [hxl]; exact hi') (by rw [hxl]; exact hj'), HXY.out.1, HXY.out.2]
    rw [if_neg hij, if_pos rfl]
  have hgj : g (swp xs i j) j = x := by
    rw [g_swp xs i j (by rw [hxl]; exact hi') (by rw [hxl]; exact hj'), if_pos rfl]; exact HXY.out.1
  rw [hgi] at t1
  rw [hgj] at t2
  have fi : f y.tok = some (.int .i64 (j : Nat)) := by
    have := H4.out.1 j _ (g_at (by rw [hxl]; exact hj')); rwa [HXY.out.2] at this
  have fj : f x.tok = some (.int .i64 (i : Nat)) := by
    have := H4.out.1 i _ (g_at (by rw [hxl]; exact hi')); rwa [HXY.out.1] at this
  obtain ⟨w1, hrun1, hm1, hgr1, hs1⟩ := (M1.block (w' := U.drew) rfl).store (intWay Try.underlying3) Try.underlying54 (by unfold maxLen; omega) y.tok HO.out.2 (.int .i64 (i : Nat))
  rw [fi] at hm1
  simp only [Option.isSome_some, if_true] at hm1
  obtain ⟨w2, hrun2, hm2, hgr2, hs2⟩ := (hm1.block (w' := w1.drew) rfl).store (intWay Try.underlying3) Try.underlying54 (by unfold maxLen; omega) x.tok HO.out.1 (.int .i64 (j : Nat))
  have hsome : (if x.tok = y.tok then some (Value.int .i64 (i : Nat)) else f x.tok).isSome = true := by
    split
    · rfl
    · rw [fj]; rfl
  simp only [hsome, if_true] at hm2
  have u0 : U.drew.cell? ⟨b, 0, none⟩ = some (.slice (some ⟨g0, 0, none⟩) N c) := B1.cell 0 rfl
  have u1 : U.drew.cell? ⟨b, 1, none⟩ = some (.map (some m)) := B1.cell 1 rfl
  have u2 : U.drew.cell? ⟨g0, i * 4, none⟩ = some (.int .i64 y.tok) := t1
  have B1' : Blk U.drew b 58 #[.slice (some ⟨g0, 0, none⟩) N c, .map (some m), .int .i64 last, .int .i64 most] := B1
  have B2 := B1'.grown hgr1 (by intro e; injection e with e; exact hmb e.symm)
  have r3 : w1.ownsRow 0 47 4 (.slice (some ⟨g0, 0, none⟩) N c) N (tv (swp xs i j)) := (Beside.grown (bad := fun x => x = m) (Beside.refl _ U.drew) hgr1 (fun q hq => by injection hq with hq; exact .inl hq.symm)).keepsOwn (own_heap r2 rfl) (by intro q hq; injection hq with hq; exact fun e => hmg (e.symm.trans hq.symm))
  have v0 : w1.drew.cell? ⟨b, 0, none⟩ = some (.slice (some ⟨g0, 0, none⟩) N c) := B2.cell 0 rfl
  have v1 : w1.drew.cell? ⟨b, 1, none⟩ = some (.map (some m)) := B2.cell 1 rfl
  have v2 : w1.drew.cell? ⟨g0, j * 4, none⟩ = some (.int .i64 x.tok) := by
    have := row_cell (by rw [hl']; exact r3) j (by rw [hl']; exact hj') 0 (by omega)
    rw [hgj] at this
    exact this
  have r4 : w2.ownsRow 0 47 4 (.slice (some ⟨g0, 0, none⟩) N c) N (tv (swp xs i j)) := (Beside.grown (bad := fun x => x = m) (Beside.refl _ w1.drew) hgr2 (fun q hq => by injection hq with hq; exact .inl hq.symm)).keepsOwn (own_heap r3 rfl) (by intro q hq; injection hq with hq; exact fun e => hmg (e.symm.trans hq.symm))
  have B1'' : Blk w1.drew b 58 #[.slice (some ⟨g0, 0, none⟩) N c, .map (some m), .int .i64 last, .int .i64 most] := B2
  have B3 := B1''.grown hgr2 (by intro e; injection e with e; exact hmb e.symm)
  have BS : Beside (Bad b (.slice (some ⟨g0, 0, none⟩) N c) (.map (some m))) w w2 := by
    have s1 := HB.out.grown gb (fun q hq => by injection hq with hq; exact .inl (.inr (.inl (by rw [← hq]; rfl))))
    have s2 := (s1.drewN 1).grown hgr1 (fun q hq => by injection hq with hq; exact .inl (.inr (.inr (by rw [hq]))))
    exact (s2.drewN 1).grown hgr2 (fun q hq => by injection hq with hq; exact .inl (.inr (.inr (by rw [hq]))))
  have PE : Pl w2 b (.slice (some ⟨g0, 0, none⟩) N c) (.map (some m)) last most (swp xs i j) := by
    refine ⟨B3, by rw [hl']; exact r4, .inr ⟨m, _, rfl, by rw [hl']; exact hm2, ?_⟩, ?_, by rw [hl']; exact hf⟩
    · have h9 := place_swap H4.out (by rw [hxl]; exact hi' : i < xs.length) (by rw [hxl]; exact hj' : j < xs.length)
      rw [HXY.out.1, HXY.out.2] at h9
      exact h9
    · intro t ht
      exact H5.out t ((swp_perm xs i j (by rw [hxl]; exact hi') (by rw [hxl]; exact hj')).mem_iff.1 ht)
  have HPE := Lib.hid PE
  have HBS := Lib.hid BS
  clear PE BS B3 B1'' r4 B2 r3 B1' hm2 hm1 hgr1 hgr2 hs1 hs2 fi fj t1 t2 hgi hgj M1 B1 gb r2 hxl hl' hsome
  go_wp2_with fail
  change Code.wp _ _ _ _ U
  go_region
  go_wp2_with fail
  change Code.wp _ _ _ _ w1
  go_region
  go_end0
  exact ⟨rfl, HPE.out, HBS.out⟩
set_option maxHeartbeats 4000000 in
set_option maxRecDepth 100000 in
theorem swap_eq (b : Nat) (rv mv : Value) (last most : Int) (xs : List Tm) (i  : Nat) (w : World) (h : Pl w b rv mv last most xs) (hi : i < xs.length)  :
    Calls Try.prog 74 #[.pointer (some ⟨b, 0, none⟩), .int .i64 i, .int .i64 i] w fun e w' => e = .returned (.tuple #[]) ∧ Pl w' b rv mv last most (swp xs i i) ∧ Beside (Bad b rv mv) w w' := by
  have mixed : Try.prog.follows .mixedOrders = true := by kernel_rfl
  obtain ⟨g0, c, rfl, _, hg0, hc1, hc2⟩ := own_head h.row (by omega)
  obtain ⟨m, f, rfl, hmf, hpl⟩ : ∃ m f, mv = .map (some m) ∧ MapOf Try.prog 3 ikey OkI w m f xs.length ∧ PlaceOk f xs := by
    rcases h.map with ⟨_, h1⟩ | h1
    · rw [h1] at hi; exact absurd hi (Nat.not_lt_zero _)
    · exact h1
  have hf := h.few
  have hbg : g0 ≠ b := by
    rcases h.row.2 with ⟨hv, _⟩ | ⟨g', c', cur, hv, _, hh, _⟩
    · cases hv
    · injection hv with hv _ _
      injection hv with hv
      injection hv with hv
      subst hv
      intro e
      have h9 := h.blk
      unfold Blk at h9
      rw [← e, hh] at h9
      injection h9 with h9
      injection h9 with _ h9 _
      cases h9
  have hmg : m ≠ g0 := by
    rcases h.row.2 with ⟨hv, _⟩ | ⟨g', c', cur, hv, _, hh, _⟩
    · cases hv
    · injection hv with hv _ _
      injection hv with hv
      injection hv with hv
      subst hv
      rintro rfl
      obtain ⟨D, ⟨es, clock, h9, _⟩, _⟩ := hmf
      rw [hh] at h9
      cases h9
  have hmb : m ≠ b := by
    rintro rfl
    obtain ⟨D, ⟨es, clock, h9, _⟩, _⟩ := hmf
    have h8 := h.blk
    unfold Blk at h8
    rw [h9] at h8
    cases h8
  have H1 : Hid (Blk w b 58 #[.slice (some ⟨g0, 0, none⟩) xs.length c, .map (some m), .int .i64 last, .int .i64 most]) := h.blk
  have H2 : Hid (w.ownsRow 0 47 4 (.slice (some ⟨g0, 0, none⟩) xs.length c) xs.length (tv xs)) := h.row
  have H3 : Hid (MapOf Try.prog 3 ikey OkI w m f xs.length) := hmf
  have H4 := Lib.hid hpl
  have H5 : Hid (∀ t ∈ xs, OkI t.tok) := h.tok
  have HB : Hid (Beside (Bad b (.slice (some ⟨g0, 0, none⟩) xs.length c) (.map (some m))) w w) := Beside.refl _ w
  have HO : Hid (OkI (g xs i).tok ∧ OkI (g xs i).tok) := ⟨h.tok _ (List.mem_of_getElem? (g_at hi)), h.tok _ (List.mem_of_getElem? (g_at hi))⟩
  have f0 : w.drew.cell? ⟨b, 0, none⟩ = some (.slice (some ⟨g0, 0, none⟩) xs.length c) := h.blk.cell 0 rfl
  have x0 : w.drew.cell? ⟨g0, i * 4, none⟩ = some (.int .i64 (g xs i).tok) := row_cell h.row i hi 0 (by omega)
  have x1 : w.drew.cell? ⟨g0, i * 4 + 1, none⟩ = some (.int .i64 (g xs i).dl) := row_cell h.row i hi 1 (by omega)
  have x2 : w.drew.cell? ⟨g0, i * 4 + 2, none⟩ = some (.int .i64 (g xs i).k) := row_cell h.row i hi 2 (by omega)
  have x3 : w.drew.cell? ⟨g0, i * 4 + 3, none⟩ = some (.int .i64 (g xs i).n) := row_cell h.row i hi 3 (by omega)
  have x0w : w.cell? ⟨g0, i * 4, none⟩ = some (.int .i64 (g xs i).tok) := row_cell h.row i hi 0 (by omega)
  have x1w : w.cell? ⟨g0, i * 4 + 1, none⟩ = some (.int .i64 (g xs i).dl) := row_cell h.row i hi 1 (by omega)
  have x2w : w.cell? ⟨g0, i * 4 + 2, none⟩ = some (.int .i64 (g xs i).k) := row_cell h.row i hi 2 (by omega)
  have x3w : w.cell? ⟨g0, i * 4 + 3, none⟩ = some (.int .i64 (g xs i).n) := row_cell h.row i hi 3 (by omega)
  have fzi0 : w.drew.frozen? ⟨g0, i * 4, none⟩ = false := h.row.frozenAt _
  have fzi1 : w.drew.frozen? ⟨g0, i * 4 + 1, none⟩ = false := h.row.frozenAt _
  have fzi2 : w.drew.frozen? ⟨g0, i * 4 + 2, none⟩ = false := h.row.frozenAt _
  have fzi3 : w.drew.frozen? ⟨g0, i * 4 + 3, none⟩ = false := h.row.frozenAt _
  have fzi0w : w.frozen? ⟨g0, i * 4, none⟩ = false := h.row.frozenAt _
  have fzi1w : w.frozen? ⟨g0, i * 4 + 1, none⟩ = false := h.row.frozenAt _
  have fzi2w : w.frozen? ⟨g0, i * 4 + 2, none⟩ = false := h.row.frozenAt _
  have fzi3w : w.frozen? ⟨g0, i * 4 + 3, none⟩ = false := h.row.frozenAt _
  clear h hmf hpl
  have HI : Hid (i < xs.length ∧ i < xs.length) := ⟨hi, hi⟩
  have hi' : i < xs.length := hi
  have hj' : i < xs.length := hi
  have hl' : (swp xs i i).length = xs.length := swp_len _ _ _
  generalize hN : xs.length = N at *
  have HN := Lib.hid hN
  clear hN
  have z1 : (0 : Int) ≤ (i : Int) := by omega
  have z2 : (i : Int) < (N : Int) := by omega
  have z3 : (0 : Int) ≤ (i : Int) := by omega
  have z4 : (i : Int) < (N : Int) := by omega
  have hsw : (xs.set i (g xs i)).set i (g xs i) = swp xs i i := rfl
  have HSW := Lib.hid hsw
  clear hsw
  generalize hX : g xs i = x at *
  have HXY : Hid (g xs i = x ∧ g xs i = x) := ⟨hX, hX⟩
  clear hX
  go_enter Try.func74, Try.ntmps74
  go_wp2_with fail
  go_region
  obtain ⟨U, hU⟩ : ∃ U, U = (put4 (put4 w g0 i x) g0 i x).drew := ⟨_, rfl⟩
  unfold put4 at hU
  rw [← hU]
  have hU' : U = (put4 (put4 w g0 i x) g0 i x).drew := hU
  clear hU
  clear x0w x1w x2w x3w  fzi0w fzi1w fzi2w fzi3w
  clear x0 x1 x2 x3  fzi0 fzi1 fzi2 fzi3
  have hxl : xs.length = N := HN.out
  obtain ⟨r1, gb1⟩ := row_put H2.out i (by rw [hxl]; exact hi') x
  obtain ⟨r2, gb2⟩ := row_put r1 i (by rw [List.length_set, hxl]; exact hj') x
  have r2 := own_drew r2
  rw [← hU'] at r2
  rw [show (xs.set i x).set i x = swp xs i i from by have := HSW.out; exact this] at r2
  have gb : w.grownBy U (some g0) := by rw [hU']; exact grownBy_drew (gb1.trans gb2)
  clear r1 gb1 gb2 hU'
  have B1 := H1.out.grown gb (by intro e; injection e with e; exact hbg e.symm)
  have M1 := H3.out.grown gb (by intro e; injection e with e; exact hmg e)
  have t1 := (row_cell (by rw [hl']; exact r2) i (by rw [hl']; exact hi') 0 (by omega))
  have t2 := (row_cell (by rw [hl']; exact r2) i (by rw [hl']; exact hj') 0 (by omega))
  have hgi : g (swp xs i i) i = x := by
    rw [g_swp xs i i (by rw [hxl]; exact hi') (by rw [hxl]; exact hj'), HXY.out.1]
    rw [if_pos rfl]
  have hgj : g (swp xs i i) i = x := by
    rw [g_swp xs i i (by rw [hxl]; exact hi') (by rw [hxl]; exact hj'), if_pos rfl]; exact HXY.out.1
  rw [hgi] at t1
  rw [hgj] at t2
  have fi : f x.tok = some (.int .i64 (i : Nat)) := by
    have := H4.out.1 i _ (g_at (by rw [hxl]; exact hj')); rwa [HXY.out.1] at this
  have fj : f x.tok = some (.int .i64 (i : Nat)) := by
    have := H4.out.1 i _ (g_at (by rw [hxl]; exact hi')); rwa [HXY.out.1] at this
  obtain ⟨w1, hrun1, hm1, hgr1, hs1⟩ := (M1.block (w' := U.drew) rfl).store (intWay Try.underlying3) Try.underlying54 (by unfold maxLen; omega) x.tok HO.out.2 (.int .i64 (i : Nat))
  rw [fi] at hm1
  simp only [Option.isSome_some, if_true] at hm1
  obtain ⟨w2, hrun2, hm2, hgr2, hs2⟩ := (hm1.block (w' := w1.drew) rfl).store (intWay Try.underlying3) Try.underlying54 (by unfold maxLen; omega) x.tok HO.out.1 (.int .i64 (i : Nat))
  have hsome : (if x.tok = x.tok then some (Value.int .i64 (i : Nat)) else f x.tok).isSome = true := by
    split
    · rfl
    · rw [fj]; rfl
  simp only [if_true] at hm2
  have u0 : U.drew.cell? ⟨b, 0, none⟩ = some (.slice (some ⟨g0, 0, none⟩) N c) := B1.cell 0 rfl
  have u1 : U.drew.cell? ⟨b, 1, none⟩ = some (.map (some m)) := B1.cell 1 rfl
  have u2 : U.drew.cell? ⟨g0, i * 4, none⟩ = some (.int .i64 x.tok) := t1
  have B1' : Blk U.drew b 58 #[.slice (some ⟨g0, 0, none⟩) N c, .map (some m), .int .i64 last, .int .i64 most] := B1
  have B2 := B1'.grown hgr1 (by intro e; injection e with e; exact hmb e.symm)
  have r3 : w1.ownsRow 0 47 4 (.slice (some ⟨g0, 0, none⟩) N c) N (tv (swp xs i i)) := (Beside.grown (bad := fun x => x = m) (Beside.refl _ U.drew) hgr1 (fun q hq => by injection hq with hq; exact .inl hq.symm)).keepsOwn (own_heap r2 rfl) (by intro q hq; injection hq with hq; exact fun e => hmg (e.symm.trans hq.symm))
  have v0 : w1.drew.cell? ⟨b, 0, none⟩ = some (.slice (some ⟨g0, 0, none⟩) N c) := B2.cell 0 rfl
  have v1 : w1.drew.cell? ⟨b, 1, none⟩ = some (.map (some m)) := B2.cell 1 rfl
  have v2 : w1.drew.cell? ⟨g0, i * 4, none⟩ = some (.int .i64 x.tok) := by
    have := row_cell (by rw [hl']; exact r3) i (by rw [hl']; exact hj') 0 (by omega)
    rw [hgj] at this
    exact this
  have r4 : w2.ownsRow 0 47 4 (.slice (some ⟨g0, 0, none⟩) N c) N (tv (swp xs i i)) := (Beside.grown (bad := fun x => x = m) (Beside.refl _ w1.drew) hgr2 (fun q hq => by injection hq with hq; exact .inl hq.symm)).keepsOwn (own_heap r3 rfl) (by intro q hq; injection hq with hq; exact fun e => hmg (e.symm.trans hq.symm))
  have B1'' : Blk w1.drew b 58 #[.slice (some ⟨g0, 0, none⟩) N c, .map (some m), .int .i64 last, .int .i64 most] := B2
  have B3 := B1''.grown hgr2 (by intro e; injection e with e; exact hmb e.symm)
  have BS : Beside (Bad b (.slice (some ⟨g0, 0, none⟩) N c) (.map (some m))) w w2 := by
    have s1 := HB.out.grown gb (fun q hq => by injection hq with hq; exact .inl (.inr (.inl (by rw [← hq]; rfl))))
    have s2 := (s1.drewN 1).grown hgr1 (fun q hq => by injection hq with hq; exact .inl (.inr (.inr (by rw [hq]))))
    exact (s2.drewN 1).grown hgr2 (fun q hq => by injection hq with hq; exact .inl (.inr (.inr (by rw [hq]))))
  have PE : Pl w2 b (.slice (some ⟨g0, 0, none⟩) N c) (.map (some m)) last most (swp xs i i) := by
    refine ⟨B3, by rw [hl']; exact r4, .inr ⟨m, _, rfl, by rw [hl']; exact hm2, ?_⟩, ?_, by rw [hl']; exact hf⟩
    · have h9 := place_swap H4.out (by rw [hxl]; exact hi' : i < xs.length) (by rw [hxl]; exact hj' : i < xs.length)
      rw [HXY.out.1] at h9
      exact h9
    · intro t ht
      exact H5.out t ((swp_perm xs i i (by rw [hxl]; exact hi') (by rw [hxl]; exact hj')).mem_iff.1 ht)
  have HPE := Lib.hid PE
  have HBS := Lib.hid BS
  clear PE BS B3 B1'' r4 B2 r3 B1' hm2 hm1 hgr1 hgr2 hs1 hs2 fi fj t1 t2 hgi hgj M1 B1 gb r2 hxl hl' hsome
  go_wp2_with fail
  change Code.wp _ _ _ _ U
  go_region
  go_wp2_with fail
  change Code.wp _ _ _ _ w1
  go_region
  go_end0
  exact ⟨rfl, HPE.out, HBS.out⟩
theorem swap_any (b : Nat) (rv mv : Value) (last most : Int) (xs : List Tm) (i j : Nat) (w : World) (h : Pl w b rv mv last most xs) (hi : i < xs.length) (hj : j < xs.length) :
    Calls Try.prog 74 #[.pointer (some ⟨b, 0, none⟩), .int .i64 i, .int .i64 j] w fun e w' => e = .returned (.tuple #[]) ∧ Pl w' b rv mv last most (swp xs i j) ∧ Beside (Bad b rv mv) w w' := by
  by_cases hij : i = j
  · subst hij
    exact swap_eq b rv mv last most xs i w h hi
  · exact swap_ne b rv mv last most xs i j w h hi hj hij
end Go.Proofs.Ytdbgmogllncffaa
