/- Contract of flow's Grid. -/
import Derived.Test.YtjpdnnjijcmioaaFlW2
namespace Go.Proofs.Ytjpdnnjijcmioaa
open Go.RowKit M Fl
def bgG (e : Int) : Nat → Int → Bool := fun i _ => ((i : Int) % e == 0)
def gTo (col : Int) (L : List Bx) (k n : Nat) : List Bx := (List.range k).map (fun j => (col, (L.getD j (0, 0)).2)) ++ List.replicate (n - k) (0, 0)
theorem gTo_len (col : Int) (L : List Bx) (k n : Nat) (h : k ≤ n) : (gTo col L k n).length = n := by simp [gTo]; omega
theorem gTo_set (col : Int) (L : List Bx) (k n : Nat) (h : k < n) : (gTo col L k n).set k (col, (L.getD k (0, 0)).2) = gTo col L (k + 1) n := by
  unfold gTo
  have e1 : n - k = (n - (k + 1)) + 1 := by omega
  rw [e1, List.replicate_succ, List.set_append_right _ _ (by simp), List.range_succ, List.map_append]
  simp
theorem gTo_all (col : Int) (L : List Bx) (n : Nat) (h : n = L.length) : gTo col L n n = L.map (fun b => (col, b.2)) := by
  subst h
  unfold gTo
  rw [Nat.sub_self, List.replicate_zero, List.append_nil]
  apply List.ext_getElem
  · simp
  · intro i h1 h2
    have h3 : i < L.length := by simpa using h1
    simp [List.getD_eq_getElem?_getD, List.getElem?_eq_getElem h3]
theorem cc_set (l : List Bx) (k : Nat) (x y : Int) : cc (l.set k (x, y)) = ((cc l).set (k * 2) (.int .i64 x)).set (k * 2 + 1) (.int .i64 y) ∨ l.length ≤ k := by
  induction l generalizing k with
  | nil => exact .inr (Nat.zero_le _)
  | cons b l ih =>
    cases k with
    | zero => exact .inl rfl
    | succ k =>
      rcases ih k with h | h
      · left
        have e1 : (k + 1) * 2 = k * 2 + 1 + 1 := by omega
        rw [e1]
        show _ :: _ :: cc (l.set k (x, y)) = _ :: _ :: _
        rw [h]
      · right
        simp only [List.length_cons]
        omega
theorem cc_zero (n : Nat) : cc (List.replicate n (0, 0)) = (madeCells #[.int .i64 0, .int .i64 0] (n * 2)).toList := by
  apply List.ext_getElem?
  intro j
  by_cases h : j < n * 2
  · have h1 := cc_at (List.replicate n ((0 : Int), (0 : Int))) (j / 2) (by rw [List.length_replicate]; omega)
    rw [show (List.replicate n ((0 : Int), (0 : Int))).getD (j / 2) (0, 0) = (0, 0) by simp [List.getD_eq_getElem?_getD, List.getElem?_replicate]; split <;> rfl] at h1
    have h2 : (cc (List.replicate n ((0 : Int), (0 : Int))))[j]? = some (.int .i64 0) := by
      have h3 : j = j / 2 * 2 ∨ j = j / 2 * 2 + 1 := by omega
      rcases h3 with h3 | h3
      · rw [h3]; exact h1.1
      · rw [h3]; exact h1.2
    rw [h2]
    have hm : j % 2 = 0 ∨ j % 2 = 1 := by omega
    rcases hm with hm | hm <;> simp [madeCells, h, hm]
  · rw [List.getElem?_eq_none (by rw [cc_len, List.length_replicate]; omega), List.getElem?_eq_none (by simp [madeCells]; omega)]
theorem infoSz : (Try.prog.info? 64).map (fun i => (i.zero, i.size, i.bytes)) = some (some (.agg #[.int .i64 0, .int .i64 0]), 2, 16) := by kernel_rfl
theorem grid1_any (i : Nat) (r e : Int) (b : Nat) (w : World) (h1 : 1 ≤ e) (h2 : e ≤ 64) (hc : w.cell? ⟨b, 0, none⟩ = some (.int .i64 e)) : Calls Try.prog 66 #[.int .i64 i, .int .i64 r, .pointer (some ⟨b, 0, none⟩)] w fun e' w' => e' = .returned (.bool ((i : Int) % e == 0)) ∧ w = w' := by
  have h3 : (0 : Int) ≤ (i : Int) := by omega
  have h4 : ¬ e = 0 := by omega
  go_enter Try.func66, Try.ntmps66
  go_wp2
  go_ret
  exact ⟨rfl, rfl⟩
set_option maxHeartbeats 4000000 in
set_option maxRecDepth 100000 in
theorem grid_any (cols col gap : Int) (A : Option Addr) (n c : Nat) (L : List Bx) (w : World) (hn : n = L.length) (hb : n ≤ 1000) (ha : At w A (cc L)) :
    Calls Try.prog 54 #[.int .i64 cols, .int .i64 col, .int .i64 gap, .slice A n c] w fun e w' => Put w w' (ln gap) (bgG (clp cols 1 64)) (L.map fun b => (col, b.2)) n e := by
  have he1 : 1 ≤ clp cols 1 64 := by unfold clp; omega
  have he2 : clp cols 1 64 ≤ 64 := by unfold clp; omega
  have CC := Lib.hid (fun W => clip_any cols 1 64 W)
  generalize clp cols 1 64 = ee at *
  obtain ⟨W1, hW1⟩ : ∃ W1, W1 = (w.alloc (.cells #[.int .i64 0, .int .i64 0] 64)).alloc (.cells #[.int .i64 ee] 3) := ⟨_, rfl⟩
  have hs1 : W1.heap.size = w.heap.size + 2 := by rw [hW1]; simp
  have hc1 : W1.cell? ⟨w.heap.size + 1, 0, none⟩ = some (.int .i64 ee) := by rw [hW1]; simp
  have hv1 : V2 W1 w.heap.size 0 0 := by rw [hW1]; exact (V2.new w 0 0 _).alloc _
  have hb1 : Below w.heap.size w W1 := by rw [hW1]; exact (below_alloc w _).alloc (by simp) _
  have ha1 : At W1 A (cc L) := by rw [hW1]; exact (ha.alloc _).alloc _
  obtain ⟨i0, hi, hz0, hz1, hz2⟩ := info_parts infoSz
  obtain ⟨W2, hmk, hrow, hgm⟩ := run_makeSlice_full (P := Try.prog) W1 (w.heap.size + 2) 93 64 i0 (.agg #[.int .i64 0, .int .i64 0]) 2 Try.underlying93 hi hz0 hz1 .i64 .i64 n (by omega) (by rw [hz2]; omega) (by unfold maxLen; omega) (by omega)
  rw [hs1] at hmk hrow
  have HROW : Hid (W2.ownsRow (w.heap.size + 2) 64 2 (.slice (some ⟨w.heap.size + 2, 0, none⟩) n n) n (cc (gTo col L 0 n))) := by
    show World.ownsRow _ _ _ _ _ _ _
    have h9 : cc (gTo col L 0 n) = (madeCells (Value.agg #[.int .i64 0, .int .i64 0]).cells (n * 2)).toList := by
      show _ = (madeCells #[.int .i64 0, .int .i64 0] (n * 2)).toList
      rw [← cc_zero]
      simp [gTo]
    rw [h9]
    exact hrow
  have HA := Lib.hid ha1
  have HN := Lib.hid hn
  have HC1 := Lib.hid hc1
  have HV1 := Lib.hid hv1
  have HB1 := Lib.hid hb1
  have HGM := Lib.hid hgm
  have HS1 := Lib.hid hs1
  have hs2 : w.heap.size + 3 ≤ W2.heap.size := (hrow.lt _ rfl).2
  clear hrow hgm hn ha ha1 hc1 hv1 hb1 hs1
  go_enter Try.func54, Try.ntmps54
  rw [hW1] at hmk
  go_wp2_with (go_at_call 65; refine (CC.out _).mono ?_; rintro e w9 ⟨rfl, rfl⟩)
  clear hmk hW1 CC
  go_loopw [21] (fun i wr => ∃ k : Nat, k ≤ n ∧ i = .int .i64 k ∧ Hid (wr.ownsRow (w.heap.size + 2) 64 2 (.slice (some ⟨w.heap.size + 2, 0, none⟩) n n) n (cc (gTo col L k n))) ∧ Hid (W2.grownBy wr (some (w.heap.size + 2)))) (fun i _ => n - (intOf i).toNat)
  case atStart => exact ⟨0, Nat.zero_le _, rfl, HROW, World.grownBy.refl _ _⟩
  case round =>
    obtain ⟨k, hk, rfl, hown, hgr⟩ := hrel
    by_cases hlt : k < n
    · have hkl : k < L.length := by have := HN.out; omega
      obtain ⟨b, off, rfl, hbl, hc0, hc1⟩ := at_box HA.out hkl
      have hst := gTo_set col L k n hlt
      have hne : b ≠ w.heap.size + 2 := by have := HS1.out; omega
      have HK1 := Lib.hid (fun o (v : Value) (hv : W1.cell? ⟨b, o, none⟩ = some v) => (hgr.out.cell (HGM.out.cell hv (by simp)) (by intro e; injection e with e; exact hne e) : wr.cell? ⟨b, o, none⟩ = some v))
      have hd0 := HK1.out _ _ hc0
      have hd1 := HK1.out _ _ hc1
      generalize L.getD k (0, 0) = bb at *
      obtain ⟨bx, bh⟩ := bb
      simp only at hd0 hd1 hst
      have hll : (cc (gTo col L k n)).length = n * 2 := by rw [cc_len, gTo_len _ _ _ _ (by omega)]
      have VR := hown.out.alloc (.cells #[.int .i64 bx, .int .i64 bh] 64)
      obtain ⟨u0, hu0⟩ : ∃ u, (wr.alloc (.cells #[.int .i64 bx, .int .i64 bh] 64)).cell? ⟨w.heap.size + 2, k * 2, none⟩ = some u := ⟨_, (VR.cellAt _ (by omega)).trans (List.getElem?_eq_getElem (by omega))⟩
      obtain ⟨u1, hu1⟩ : ∃ u, (wr.alloc (.cells #[.int .i64 bx, .int .i64 bh] 64)).cell? ⟨w.heap.size + 2, k * 2 + 1, none⟩ = some u := ⟨_, (VR.cellAt _ (by omega)).trans (List.getElem?_eq_getElem (by omega))⟩
      have hf0 : (wr.alloc (.cells #[.int .i64 bx, .int .i64 bh] 64)).frozen? ⟨w.heap.size + 2, k * 2, none⟩ = false := VR.frozenAt _
      have hf1 : (wr.alloc (.cells #[.int .i64 bx, .int .i64 bh] 64)).frozen? ⟨w.heap.size + 2, k * 2 + 1, none⟩ = false := VR.frozenAt _
      have HFIN : Hid ((((wr.alloc (.cells #[.int .i64 bx, .int .i64 bh] 64)).setCell ⟨w.heap.size + 2, k * 2, none⟩ (.int .i64 col)).setCell ⟨w.heap.size + 2, k * 2 + 1, none⟩ (.int .i64 bh)).ownsRow (w.heap.size + 2) 64 2 (.slice (some ⟨w.heap.size + 2, 0, none⟩) n n) n (cc (gTo col L (k + 1) n))) := by
        show World.ownsRow _ _ _ _ _ _ _
        rcases cc_set (gTo col L k n) k col bh with h9 | h9
        · rw [← hst, h9]
          exact (((VR.stored _ _).1).stored _ _).1
        · rw [gTo_len _ _ _ _ (by omega)] at h9
          omega
      have HGF : Hid (W2.grownBy (((wr.alloc (.cells #[.int .i64 bx, .int .i64 bh] 64)).setCell ⟨w.heap.size + 2, k * 2, none⟩ (.int .i64 col)).setCell ⟨w.heap.size + 2, k * 2 + 1, none⟩ (.int .i64 bh)) (some (w.heap.size + 2))) :=
        ((hgr.out.trans (World.grownBy_alloc wr _ _)).trans (grown_set _ ⟨w.heap.size + 2, k * 2, none⟩ _)).trans (grown_set _ ⟨w.heap.size + 2, k * 2 + 1, none⟩ _)
      clear hc0 hc1 hst VR hll HK1
      go_wp2_with fail
      go_roundw
      case rel => exact ⟨k + 1, by omega, by go_num, HFIN, HGF⟩
      case measure => simp [intOf]; omega
    · obtain rfl : k = n := by omega
      have hgA := gTo_all col L k HN.out
      have hT : At wr (some ⟨w.heap.size + 2, 0, none⟩) (cc (L.map fun b => (col, b.2))) := by rw [← hgA]; exact At.own hown.out
      have hce : wr.cell? ⟨w.heap.size + 1, 0, none⟩ = some (.int .i64 ee) := hgr.out.cell (HGM.out.cell HC1.out (by simp)) (by intro e; injection e with e; simp only at e; omega)
      have hv : V2 wr w.heap.size 0 0 := (HV1.out.grown HGM.out (by simp)).grown hgr.out (by intro e; injection e with e; omega)
      have hbw : Below w.heap.size w wr := (HB1.out.grown HGM.out (by have := HS1.out; omega) (fun q hq => nomatch hq)).grown hgr.out (by omega) (fun q hq => by injection hq with hq; omega)
      have hszw : w.heap.size + 2 < wr.heap.size := (hown.out.lt _ rfl).2
      have C := Lib.hid (rows_any 66 #[.pointer (some ⟨w.heap.size + 1, 0, none⟩)] (fun a W => enters Try.func66 (by decide +kernel) rfl _ _) gap (some ⟨w.heap.size + 2, 0, none⟩) k k (L.map fun b => (col, b.2)) (bgG ee) wr (by rw [List.length_map]; exact HN.out) hb hT (fun W i r hW => grid1_any i r ee (w.heap.size + 1) W he1 he2 ((hW.cell (p := ⟨w.heap.size + 1, 0, none⟩) (by show w.heap.size + 1 < _; omega)).trans hce)))
      have HV := Lib.hid hv
      have HB := Lib.hid hbw
      clear hgA hT hce hv hbw hown hgr
      go_wp2_with fail
      refine C.out.mono ?_
      rintro e W ⟨v, rfl, hown, hbel⟩
      have VR : V2 W w.heap.size 0 0 := HV.out.below hbel
      have HO := Lib.hid hown
      have HB9 : Hid (Below w.heap.size w W) := HB.out.trans (hbel.mono (by omega))
      have HV9 := Lib.hid VR
      obtain ⟨p0, p1, q0, q1⟩ := VR
      clear hown C
      have hsz9 := hbel.size
      clear hbel
      go_wp2_with fail
      clear p0 p1 q0 q1
      refine bodyPost_ret (results_tmp_mid rfl _ _ w.heap.size 0 [.int .i64 (run (ln gap) (bgG ee) (L.map fun b => (col, b.2)) k).2.2.1, .int .i64 (run (ln gap) (bgG ee) (L.map fun b => (col, b.2)) k).2.2.2] _ rfl (range2 ((HV9.out.set0 _).set1 _).c0 ((HV9.out.set0 _).set1 _).c1) Try.underlying64 rfl (by kernel_rfl)) rfl ?_
      refine ⟨_, rfl, own_mono (own_other (own_other HO.out _ 0 _ (by omega)) _ 1 _ (by omega)) (by omega), ?_⟩
      exact below_setg (below_setg HB9.out _ 0 _ (Nat.le_refl _) (by omega)) _ 1 _ (Nat.le_refl _) (by rw [setCell_size']; omega)
end Go.Proofs.Ytjpdnnjijcmioaa
