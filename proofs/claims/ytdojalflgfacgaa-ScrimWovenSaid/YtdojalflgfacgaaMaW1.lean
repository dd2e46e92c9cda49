/- Contract of match's names. -/
import Derived.Test.YtdojalflgfacgaaKids
import Derived.Test.YtdojalflgfacgaaClMath
import Derived.Test.YtdojalflgfacgaaKeys
import Derived.Deep.RegionHeld3
import Derived.Deep.RegionLaw
import Derived.StillTailTactics
namespace Go.Proofs.Ytdojalflgfacgaa
open Go.RowKit Ma
theorem infoInt : (Try.prog.info? 3).map (fun i => (i.zero, i.size, i.bytes)) = some (some (.int .i64 0), 1, 8) := by kernel_rfl
theorem infoBool : (Try.prog.info? 4).map (fun i => (i.zero, i.size, i.bytes)) = some (some (.bool false), 1, 1) := by kernel_rfl
theorem infoName : (Try.prog.info? 72).map (fun i => (i.zero, i.size, i.bytes)) = some (some (.agg #[.int .i64 0, .string { data := #[] }, .int .i64 0]), 3, 32) := by kernel_rfl
theorem zeroI (w : World) : (zeroValue 3).run Try.prog w = .ok (.int .i64 0) w := by kernel_rfl
def nmTo (L : List Kd) (k n : Nat) : List (Kd × Nat) := (List.range k).map (nm L) ++ List.replicate (n - k) (noK, 0)
theorem nmTo_len (L : List Kd) (k n : Nat) (h : k ≤ n) : (nmTo L k n).length = n := by simp [nmTo]; omega
theorem nmTo_set (L : List Kd) (k n : Nat) (h : k < n) : (nmTo L k n).set k (nm L k) = nmTo L (k + 1) n := by
  apply List.ext_getElem?
  intro j
  unfold nmTo
  rw [List.getElem?_set]
  simp only [List.length_append, List.length_map, List.length_range, List.length_replicate]
  by_cases hj : k = j
  · subst hj
    rw [if_pos rfl, if_pos (by omega), List.getElem?_append_left (by simp)]
    simp
  · rw [if_neg hj]
    by_cases hjk : j < k
    · rw [List.getElem?_append_left (by simpa using hjk), List.getElem?_append_left (by simp; omega)]
      simp [hjk, show j < k + 1 by omega]
    · rw [List.getElem?_append_right (by simp; omega), List.getElem?_append_right (by simp; omega)]
      simp only [List.length_map, List.length_range, List.getElem?_replicate]
      by_cases hjn : j < n
      · rw [if_pos (by omega), if_pos (by omega)]
      · rw [if_neg (by omega), if_neg (by omega)]
theorem nmTo_all (L : List Kd) (n : Nat) : nmTo L n n = (List.range n).map (nm L) := by simp [nmTo]
def cntF (L : List Kd) (k : Nat) (c : Kd) : Option Value := if cnt L k c = 0 then none else some (.int .i64 (cnt L k c : Int))
theorem cntF_get (L : List Kd) (k : Nat) (c : Kd) : (cntF L k c).getD (.int .i64 0) = .int .i64 (cnt L k c : Int) := by
  unfold cntF
  by_cases h : cnt L k c = 0
  · simp [h]
  · simp [h]
theorem cntF_next (L : List Kd) (k : Nat) (h : k < L.length) : (fun c => if c = canon (g L k) then some (Value.int .i64 ((cnt L k (canon (g L k)) : Int) + 1)) else cntF L k c) = cntF L (k + 1) := by
  funext c
  unfold cntF
  by_cases e : c = canon (g L k)
  · subst e
    rw [if_pos rfl, cnt_succ L k _ h, if_pos rfl, if_neg (by omega)]
    simp
  · have e' : ¬ canon (g L k) = c := fun h => e h.symm
    rw [if_neg e, cnt_succ L k _ h]
    simp [e']
theorem okK_canon {k : Kd} (h : OkK k) : OkK (canon k) := by
  unfold canon
  split
  · exact ⟨by decide, by decide⟩
  · exact h
/-- two boxes of kids that were laid last -/
def Boxes (wr V : World) (a b : Kd) : Prop := V.heap[wr.heap.size]? = some (.cells #[.int .i64 a.1, .string a.2] 42 (0, 0)) ∧ V.heap[wr.heap.size + 1]? = some (.cells #[.int .i64 b.1, .string b.2] 42 (0, 0)) ∧ Below wr.heap.size wr V
theorem boxes (wr : World) (a b : Kd) : Boxes wr ((wr.alloc (.cells #[.int .i64 a.1, .string a.2] 42)).alloc (.cells #[.int .i64 b.1, .string b.2] 42)) a b := by
  refine ⟨?_, ?_, ((below_alloc wr _).alloc (by simp) _)⟩
  · rw [((below_alloc (wr.alloc (.cells #[.int .i64 a.1, .string a.2] 42)) (.cells #[.int .i64 b.1, .string b.2] 42))).block wr.heap.size (by simp)]
    exact heap_alloc_new _ _
  · have := heap_alloc_new (wr.alloc (.cells #[.int .i64 a.1, .string a.2] 42)) (.cells #[.int .i64 b.1, .string b.2] 42)
    rw [size_alloc] at this
    exact this
theorem Boxes.cells {wr V : World} {a b : Kd} (h : Boxes wr V a b) : V.cell? ⟨wr.heap.size, 0, none⟩ = some (.int .i64 a.1) ∧ V.cell? ⟨wr.heap.size, 1, none⟩ = some (.string a.2) ∧ V.cell? ⟨wr.heap.size + 1, 0, none⟩ = some (.int .i64 b.1) ∧ V.cell? ⟨wr.heap.size + 1, 1, none⟩ = some (.string b.2) := by
  obtain ⟨h1, h2, _⟩ := h
  refine ⟨?_, ?_, ?_, ?_⟩
  · rw [cell_of_row V _ 0 _ _ (0, 0) h1]; rfl
  · rw [cell_of_row V _ 1 _ _ (0, 0) h1]; rfl
  · rw [cell_of_row V _ 0 _ _ (0, 0) h2]; rfl
  · rw [cell_of_row V _ 1 _ _ (0, 0) h2]; rfl
theorem kept3 (w : World) (g i j l : Nat) (x y t : Value) : w.grownBy (((w.setCell ⟨g, i, none⟩ x).setCell ⟨g, j, none⟩ y).setCell ⟨g, l, none⟩ t) (some g) :=
  ⟨rfl, rfl, rfl, by simp, fun b _ hb => by
    have hne : ¬ g = b := fun e => hb (by rw [e])
    rw [heap_setCell_other _ ⟨g, l, none⟩ b _ (fun e => hne e.symm), heap_setCell_other _ ⟨g, j, none⟩ b _ (fun e => hne e.symm), heap_setCell_other _ ⟨g, i, none⟩ b _ (fun e => hne e.symm)]⟩
theorem own_store3 {w : World} {g n c base : Nat} {T : TypeId} {l : List (Kd × Nat)} {k : Nat} (h : w.ownsRow base T 3 (.slice (some ⟨g, 0, none⟩) n c) n (nc l)) (hk : k < l.length) (x : Kd × Nat) :
    (((w.setCell ⟨g, k * 3, none⟩ (.int .i64 x.1.1)).setCell ⟨g, k * 3 + 1, none⟩ (.string x.1.2)).setCell ⟨g, k * 3 + 2, none⟩ (.int .i64 (x.2 : Int))).ownsRow base T 3 (.slice (some ⟨g, 0, none⟩) n c) n (nc (l.set k x)) := by
  rw [← set3 l k hk x]
  exact (((h.stored _ _).1.stored _ _).1.stored _ _).1
theorem emp_toList : ByteArray.empty.toList = [] := by rw [ByteArray.toList_eq]; rfl
theorem str_ne {s : ByteArray} (h : ¬ s = ByteArray.empty) : s.toList.isEmpty = false := by
  have h1 := M.str_no h
  rw [emp_toList] at h1
  cases e : s.toList with
  | nil => rw [e] at h1; cases h1
  | cons a l => rfl
theorem nc_zero (L : List Kd) (n : Nat) : nc (nmTo L 0 n) = (madeCells #[.int .i64 0, .string { data := #[] }, .int .i64 0] (n * 3)).toList := by
  apply List.ext_getElem?
  intro j
  by_cases hj : j < n * 3
  · have e1 := flat_at (fun x : Kd × Nat => [Value.int .i64 x.1.1, .string x.1.2, .int .i64 (x.2 : Int)]) 3 (fun _ => rfl) (nmTo L 0 n) (j / 3) (j % 3) (by rw [nmTo_len _ _ _ (Nat.zero_le _)]; omega) (Nat.mod_lt _ (by omega))
    rw [show j / 3 * 3 + j % 3 = j by omega] at e1
    show (List.flatMap _ _)[j]? = _
    rw [e1]
    have e2 : (nmTo L 0 n)[j / 3]'(by rw [nmTo_len _ _ _ (Nat.zero_le _)]; omega) = (noK, 0) := by simp [nmTo]
    rw [e2]
    have hm : j % 3 = 0 ∨ j % 3 = 1 ∨ j % 3 = 2 := by omega
    rcases hm with hm | hm | hm <;> simp [madeCells, hj, hm, noK] <;> rfl
  · rw [List.getElem?_eq_none (by rw [nc_len, nmTo_len _ _ _ (Nat.zero_le _)]; omega), List.getElem?_eq_none (by simp [madeCells]; omega)]
set_option maxHeartbeats 2000000 in
set_option maxRecDepth 100000 in
theorem names_any (A : Option Addr) (n c : Nat) (L : List Kd) (w : World) (hn : n = L.length) (hm : n ≤ 100000) (ha : At w A (kc L)) (hok : ∀ k ∈ L, OkK k) :
    Calls Try.prog 33 #[.slice A n c] w fun e w' => ∃ v, e = .returned v ∧ w'.ownsRow w.heap.size 72 3 v n (nc ((List.range n).map (nm L))) ∧ Below w.heap.size w w' := by
  have HN := Lib.hid hn
  have HA := Lib.hid ha
  have HOK := Lib.hid hok
  obtain ⟨i0, hi, hz0, hz1, hz2⟩ := info_parts infoName
  obtain ⟨w2, hmk, hrow, hgr⟩ := run_makeSlice_full (P := Try.prog) w w.heap.size 69 72 i0 (.agg #[.int .i64 0, .string { data := #[] }, .int .i64 0]) 3 Try.underlying69 hi hz0 hz1 .i64 .i64 n (by omega) (by rw [hz2]; omega) (by unfold maxLen; omega) (Nat.le_refl _)
  have hmm := @run_makeMap Try.prog
  clear hn ha hok
  go_enter Try.func33, Try.ntmps33
  go_wp2
  clear hmk hmm
  have HROW : Hid (((w2.alloc (.map #[] 0))).ownsRow w.heap.size 72 3 (.slice (some ⟨w.heap.size, 0, none⟩) n n) n (nc (nmTo L 0 n))) := by
    have e : nc (nmTo L 0 n) = (madeCells (Value.agg #[.int .i64 0, .string { data := #[] }, .int .i64 0]).cells (n * 3)).toList := by
      show _ = (madeCells #[.int .i64 0, .string { data := #[] }, .int .i64 0] (n * 3)).toList
      exact nc_zero L n
    show World.ownsRow _ _ _ _ _ _ _
    rw [e]
    exact hrow.alloc _
  have hlw : w.heap.size < w2.heap.size := (hrow.lt _ rfl).2
  have HMAP : Hid (MapOf Try.prog 42 kidL OkK (w2.alloc (.map #[] 0)) w2.heap.size (cntF L 0) 0) := (MapOf.made _ _ _ _ _).congr (fun a _ => by simp [cntF, cnt_zero])
  have HB : Hid (Below w.heap.size w (w2.alloc (.map #[] 0))) := ((Below.refl w.heap.size w).grown hgr (Nat.le_refl _) (fun q hq => nomatch hq)).alloc (by omega) _
  clear hrow hgr
  go_loopw [14] (fun i wr => ∃ k m : Nat, k ≤ n ∧ m ≤ k ∧ i = .int .i64 k ∧ Hid (wr.ownsRow w.heap.size 72 3 (.slice (some ⟨w.heap.size, 0, none⟩) n n) n (nc (nmTo L k n))) ∧ Hid (MapOf Try.prog 42 kidL OkK wr w2.heap.size (cntF L k) m) ∧ Hid (Below w.heap.size w wr)) (fun i _ => n - (intOf i).toNat)
  case atStart => exact ⟨0, 0, Nat.zero_le _, Nat.zero_le _, rfl, HROW, HMAP, HB⟩
  case round =>
    obtain ⟨k, m, hk, hmk, rfl, hrow, hmap, hbel⟩ := hrel
    by_cases hlt : k < n
    · have hk' : k < L.length := by have := HN.out; omega
      obtain ⟨b1, o1, rfl, hb1, hc1, hc2⟩ := at_kid HA.out hk'
      have hd1 := (below_cells hbel.out).1 b1 (o1 + k * 2) hb1
      have hd2 := (below_cells hbel.out).1 b1 (o1 + k * 2 + 1) hb1
      rw [hc1] at hd1
      rw [hc2] at hd2
      have hOk : OkK (g L k) := HOK.out _ (by rw [g_eq L k hk']; exact List.getElem_mem _)
      have hcnt := cntF_get L k (canon (g L k))
      have hnext := cntF_next L k hk'
      have hset := nmTo_set L k n hlt
      have hnm : nm L k = (g L k, cnt L k (canon (g L k))) := rfl
      generalize g L k = x at *
      obtain ⟨y, hy⟩ : ∃ y, y = canon x := ⟨_, rfl⟩
      have hOy : OkK y := hy ▸ okK_canon hOk
      rw [← hy] at hcnt hnext hnm
      have HY := Lib.hid hy
      have HNX := Lib.hid hnext
      have HSET := Lib.hid hset
      have HNM := Lib.hid hnm
      clear hnext hset hnm hc1 hc2
      obtain ⟨q, hq⟩ : ∃ q, q = cnt L k y := ⟨_, rfl⟩
      rw [← hq] at hcnt
      have hqk : q ≤ k := by rw [hq]; exact cnt_le _ _ _
      have HQ := Lib.hid hq
      clear hq
      obtain ⟨z, s⟩ := x
      obtain ⟨z', s'⟩ := y
      by_cases hx : s = ByteArray.empty
      · have hce : canon (z, s) = noK := (canon_no _).2 hx
        rw [hce] at hy
        have hsE : s.toList.isEmpty = true := by rw [hx, emp_toList]; rfl
        have hy1 : z' = 0 := congrArg Prod.fst hy
        have hy2 : s' = ({ data := #[] } : ByteArray) := congrArg Prod.snd hy
        clear hx hce hy
        subst hy1 hy2
        go_wp2
        obtain ⟨V, hV⟩ : ∃ V, V = ((wr.alloc (.cells #[.int .i64 z, .string s] 42)).alloc (.cells #[.int .i64 0, .string { data := #[] }] 42)) := ⟨_, rfl⟩
        rw [← hV]
        have HBX : Hid (Boxes wr V (z, s) (0, { data := #[] })) := by
          show Boxes wr V _ _
          rw [hV]
          exact boxes wr (z, s) (0, { data := #[] })
        clear hV
        obtain ⟨v0, v1, v2, v3⟩ := HBX.out.cells
        have VM := Lib.hid (hmap.out.below HBX.out.2.2)
        have VR := Lib.hid (own_below hrow.out HBX.out.2.2)
        have VB := Lib.hid (hbel.out.trans (HBX.out.2.2.mono hbel.out.size))
        have hlk : (Instr.lookup 76 (.map (some w2.heap.size)) (.agg #[.int .i64 0, .string { data := #[] }]) false).run Try.prog V.drew = .ok (.int .i64 q) V.drew := ((VM.out.block (w' := V.drew) rfl).look kidWay Try.underlying76 zeroI (0, { data := #[] }) hOy).trans (by rw [hcnt])
        have hnl : (nc (nmTo L k n)).length = n * 3 := by rw [nc_len, nmTo_len _ _ _ hk]
        obtain ⟨u0, c0'⟩ : ∃ u, V.drew.cell? ⟨w.heap.size, k * 3, none⟩ = some u := ⟨_, (VR.out.cellAt _ (by omega)).trans (List.getElem?_eq_getElem (by omega))⟩
        obtain ⟨u1, c1'⟩ : ∃ u, V.drew.cell? ⟨w.heap.size, k * 3 + 1, none⟩ = some u := ⟨_, (VR.out.cellAt _ (by omega)).trans (List.getElem?_eq_getElem (by omega))⟩
        obtain ⟨u2, c2'⟩ : ∃ u, V.drew.cell? ⟨w.heap.size, k * 3 + 2, none⟩ = some u := ⟨_, (VR.out.cellAt _ (by omega)).trans (List.getElem?_eq_getElem (by omega))⟩
        have f0' : V.drew.frozen? ⟨w.heap.size, k * 3, none⟩ = false := VR.out.frozenAt _
        have f1' : V.drew.frozen? ⟨w.heap.size, k * 3 + 1, none⟩ = false := VR.out.frozenAt _
        have f2' : V.drew.frozen? ⟨w.heap.size, k * 3 + 2, none⟩ = false := VR.out.frozenAt _
        have DM : Hid (MapOf Try.prog 42 kidL OkK V.drew w2.heap.size (cntF L k) m) := VM.out.block rfl
        have DR : Hid (V.drew.ownsRow w.heap.size 72 3 (.slice (some ⟨w.heap.size, 0, none⟩) n n) n (nc (nmTo L k n))) := own_heap VR.out rfl
        have DB : Hid (Below w.heap.size w V.drew) := Below_drew VB.out
        have DX2 : V.drew.cell? ⟨wr.heap.size + 1, 0, none⟩ = some (.int .i64 0) := v2
        have DX3 : V.drew.cell? ⟨wr.heap.size + 1, 1, none⟩ = some (.string { data := #[] }) := v3
        have hwr := hbel.out.size
        clear VM VR VB HBX hnl
        go_still_tail 8, (by kernel_rfl)
        change wpList _ _ _ _ _ V.drew
        clear hlk v0 v1 v2 v3
        generalize V.drew = D at *
        go_wp2
        obtain ⟨E, hE⟩ : ∃ E, E = (((D.setCell ⟨w.heap.size, k * 3, none⟩ (.int .i64 z)).setCell ⟨w.heap.size, k * 3 + 1, none⟩ (.string s)).setCell ⟨w.heap.size, k * 3 + 2, none⟩ (.int .i64 (q : Int))) := ⟨_, rfl⟩
        rw [← hE]
        have hgE : D.grownBy E (some w.heap.size) := hE ▸ kept3 D w.heap.size _ _ _ _ _ _
        have e2 : E.cell? ⟨wr.heap.size + 1, 0, none⟩ = some (.int .i64 0) := hgE.cell DX2 (by intro e; injection e with e; simp only at e; omega)
        have e3 : E.cell? ⟨wr.heap.size + 1, 1, none⟩ = some (.string { data := #[] }) := hgE.cell DX3 (by intro e; injection e with e; simp only at e; omega)
        have EM : MapOf Try.prog 42 kidL OkK E.drew w2.heap.size (cntF L k) m := (DM.out.grown hgE (by intro e; injection e with e; omega)).block rfl
        have ER : Hid (E.drew.ownsRow w.heap.size 72 3 (.slice (some ⟨w.heap.size, 0, none⟩) n n) n (nc (nmTo L (k + 1) n))) := by
          show World.ownsRow _ _ _ _ _ _ _
          refine own_heap (w := E) ?_ rfl
          rw [hE, ← HSET.out, HNM.out, ← HQ.out]
          exact own_store3 DR.out (by rw [nmTo_len _ _ _ hk]; exact hlt) ((z, s), q)
        have EB : Hid (Below w.heap.size w E.drew) := Below_drew (DB.out.grown hgE DB.out.size (fun p hp => by injection hp with hp; omega))
        have r0 : (Instr.lookup 76 (.map (some w2.heap.size)) (.agg #[.int .i64 0, .string { data := #[] }]) false).run Try.prog E.drew = .ok (.int .i64 q) E.drew := (EM.look kidWay Try.underlying76 zeroI (0, { data := #[] }) hOy).trans (by rw [hcnt])
        obtain ⟨u3, st, w3, w4, r1, r2, r3, hm4, hg4, hs4, _, _⟩ := EM.entry kidWay lawKid Try.underlying76 zeroI (by unfold maxLen; omega) (0, { data := #[] }) hOy (.int .i64 ((q : Int) + 1))
        rw [hcnt] at r2
        have r1' : (Instr.mapEntry 76 (.map (some w2.heap.size)) (.agg #[.int .i64 0, .string { data := #[] }])).run Try.prog E.drew = .ok (.tuple #[u3, .int .i64 st]) w3 := r1
        have r2' : (Instr.lookup 76 (.map (some w2.heap.size)) (.agg #[.int .i64 0, .string { data := #[] }]) false).run Try.prog w3 = .ok (.int .i64 q) w3 := r2
        have r3' : (Instr.entryStore 76 (.map (some w2.heap.size)) (.int .i64 st) (.int .i64 ((q : Int) + 1))).run Try.prog w3 = .ok () w4 := r3
        have R4 : Hid (w4.ownsRow w.heap.size 72 3 (.slice (some ⟨w.heap.size, 0, none⟩) n n) n (nc (nmTo L (k + 1) n))) := ER.out.kept hg4 (.inr (by intro e; injection e with e; simp only at e; omega))
        have B4 : Hid (Below w.heap.size w w4) := EB.out.grown hg4 EB.out.size (fun p hp => by injection hp with hp; omega)
        have M4 : Hid (∃ m', m' ≤ k + 1 ∧ MapOf Try.prog 42 kidL OkK w4 w2.heap.size (cntF L (k + 1)) m') := by
          refine ⟨_, ?_, hm4.congr (fun a _ => ?_)⟩
          · split <;> omega
          · have h9 := congrFun HNX.out a
            rw [← HQ.out] at h9
            exact h9
        clear hE r1 r2 r3 hm4 hg4 hs4 hgE EM ER EB DM DR DB c0' c1' c2' f0' f1' f2' DX2 DX3 hd1 hd2 hcnt
        go_region
        clear r0 r1' r2' r3' e2 e3
        go_wp2
        obtain ⟨m', hm', M5⟩ := M4.out
        go_roundw
        case rel => exact ⟨k + 1, m', by omega, hm', by go_num, R4, M5, B4⟩
        case measure => simp [intOf]; omega
      · have hce : canon (z, s) = (z, s) := canon_key hx
        rw [hce] at hy
        injection hy with hy1 hy2
        have hsE : s.toList.isEmpty = false := str_ne hx
        obtain rfl : z = z' := hy1.symm
        obtain rfl : s = s' := hy2.symm
        clear hx hce hy1 hy2
        go_wp2
        obtain ⟨V, hV⟩ : ∃ V, V = ((wr.alloc (.cells #[.int .i64 z, .string s] 42)).alloc (.cells #[.int .i64 z, .string s] 42)) := ⟨_, rfl⟩
        rw [← hV]
        have HBX : Hid (Boxes wr V (z, s) (z, s)) := by
          show Boxes wr V _ _
          rw [hV]
          exact boxes wr (z, s) (z, s)
        clear hV
        obtain ⟨v0, v1, v2, v3⟩ := HBX.out.cells
        have VM := Lib.hid (hmap.out.below HBX.out.2.2)
        have VR := Lib.hid (own_below hrow.out HBX.out.2.2)
        have VB := Lib.hid (hbel.out.trans (HBX.out.2.2.mono hbel.out.size))
        have hlk : (Instr.lookup 76 (.map (some w2.heap.size)) (.agg #[.int .i64 z, .string s]) false).run Try.prog V.drew = .ok (.int .i64 q) V.drew := ((VM.out.block (w' := V.drew) rfl).look kidWay Try.underlying76 zeroI (z, s) hOy).trans (by rw [hcnt])
        have hnl : (nc (nmTo L k n)).length = n * 3 := by rw [nc_len, nmTo_len _ _ _ hk]
        obtain ⟨u0, c0'⟩ : ∃ u, V.drew.cell? ⟨w.heap.size, k * 3, none⟩ = some u := ⟨_, (VR.out.cellAt _ (by omega)).trans (List.getElem?_eq_getElem (by omega))⟩
        obtain ⟨u1, c1'⟩ : ∃ u, V.drew.cell? ⟨w.heap.size, k * 3 + 1, none⟩ = some u := ⟨_, (VR.out.cellAt _ (by omega)).trans (List.getElem?_eq_getElem (by omega))⟩
        obtain ⟨u2, c2'⟩ : ∃ u, V.drew.cell? ⟨w.heap.size, k * 3 + 2, none⟩ = some u := ⟨_, (VR.out.cellAt _ (by omega)).trans (List.getElem?_eq_getElem (by omega))⟩
        have f0' : V.drew.frozen? ⟨w.heap.size, k * 3, none⟩ = false := VR.out.frozenAt _
        have f1' : V.drew.frozen? ⟨w.heap.size, k * 3 + 1, none⟩ = false := VR.out.frozenAt _
        have f2' : V.drew.frozen? ⟨w.heap.size, k * 3 + 2, none⟩ = false := VR.out.frozenAt _
        have DM : Hid (MapOf Try.prog 42 kidL OkK V.drew w2.heap.size (cntF L k) m) := VM.out.block rfl
        have DR : Hid (V.drew.ownsRow w.heap.size 72 3 (.slice (some ⟨w.heap.size, 0, none⟩) n n) n (nc (nmTo L k n))) := own_heap VR.out rfl
        have DB : Hid (Below w.heap.size w V.drew) := Below_drew VB.out
        have DX2 : V.drew.cell? ⟨wr.heap.size + 1, 0, none⟩ = some (.int .i64 z) := v2
        have DX3 : V.drew.cell? ⟨wr.heap.size + 1, 1, none⟩ = some (.string s) := v3
        have hwr := hbel.out.size
        clear VM VR VB HBX hnl
        go_still_tail 8, (by kernel_rfl)
        change wpList _ _ _ _ _ V.drew
        clear hlk v0 v1 v2 v3
        generalize V.drew = D at *
        go_wp2
        obtain ⟨E, hE⟩ : ∃ E, E = (((D.setCell ⟨w.heap.size, k * 3, none⟩ (.int .i64 z)).setCell ⟨w.heap.size, k * 3 + 1, none⟩ (.string s)).setCell ⟨w.heap.size, k * 3 + 2, none⟩ (.int .i64 (q : Int))) := ⟨_, rfl⟩
        rw [← hE]
        have hgE : D.grownBy E (some w.heap.size) := hE ▸ kept3 D w.heap.size _ _ _ _ _ _
        have e2 : E.cell? ⟨wr.heap.size + 1, 0, none⟩ = some (.int .i64 z) := hgE.cell DX2 (by intro e; injection e with e; simp only at e; omega)
        have e3 : E.cell? ⟨wr.heap.size + 1, 1, none⟩ = some (.string s) := hgE.cell DX3 (by intro e; injection e with e; simp only at e; omega)
        have EM : MapOf Try.prog 42 kidL OkK E.drew w2.heap.size (cntF L k) m := (DM.out.grown hgE (by intro e; injection e with e; omega)).block rfl
        have ER : Hid (E.drew.ownsRow w.heap.size 72 3 (.slice (some ⟨w.heap.size, 0, none⟩) n n) n (nc (nmTo L (k + 1) n))) := by
          show World.ownsRow _ _ _ _ _ _ _
          refine own_heap (w := E) ?_ rfl
          rw [hE, ← HSET.out, HNM.out, ← HQ.out]
          exact own_store3 DR.out (by rw [nmTo_len _ _ _ hk]; exact hlt) ((z, s), q)
        have EB : Hid (Below w.heap.size w E.drew) := Below_drew (DB.out.grown hgE DB.out.size (fun p hp => by injection hp with hp; omega))
        have r0 : (Instr.lookup 76 (.map (some w2.heap.size)) (.agg #[.int .i64 z, .string s]) false).run Try.prog E.drew = .ok (.int .i64 q) E.drew := (EM.look kidWay Try.underlying76 zeroI (z, s) hOy).trans (by rw [hcnt])
        obtain ⟨u3, st, w3, w4, r1, r2, r3, hm4, hg4, hs4, _, _⟩ := EM.entry kidWay lawKid Try.underlying76 zeroI (by unfold maxLen; omega) (z, s) hOy (.int .i64 ((q : Int) + 1))
        rw [hcnt] at r2
        have r1' : (Instr.mapEntry 76 (.map (some w2.heap.size)) (.agg #[.int .i64 z, .string s])).run Try.prog E.drew = .ok (.tuple #[u3, .int .i64 st]) w3 := r1
        have r2' : (Instr.lookup 76 (.map (some w2.heap.size)) (.agg #[.int .i64 z, .string s]) false).run Try.prog w3 = .ok (.int .i64 q) w3 := r2
        have r3' : (Instr.entryStore 76 (.map (some w2.heap.size)) (.int .i64 st) (.int .i64 ((q : Int) + 1))).run Try.prog w3 = .ok () w4 := r3
        have R4 : Hid (w4.ownsRow w.heap.size 72 3 (.slice (some ⟨w.heap.size, 0, none⟩) n n) n (nc (nmTo L (k + 1) n))) := ER.out.kept hg4 (.inr (by intro e; injection e with e; simp only at e; omega))
        have B4 : Hid (Below w.heap.size w w4) := EB.out.grown hg4 EB.out.size (fun p hp => by injection hp with hp; omega)
        have M4 : Hid (∃ m', m' ≤ k + 1 ∧ MapOf Try.prog 42 kidL OkK w4 w2.heap.size (cntF L (k + 1)) m') := by
          refine ⟨_, ?_, hm4.congr (fun a _ => ?_)⟩
          · split <;> omega
          · have h9 := congrFun HNX.out a
            rw [← HQ.out] at h9
            exact h9
        clear hE r1 r2 r3 hm4 hg4 hs4 hgE EM ER EB DM DR DB c0' c1' c2' f0' f1' f2' DX2 DX3 hd1 hd2 hcnt
        go_region
        clear r0 r1' r2' r3' e2 e3
        go_wp2
        obtain ⟨m', hm', M5⟩ := M4.out
        go_roundw
        case rel => exact ⟨k + 1, m', by omega, hm', by go_num, R4, M5, B4⟩
        case measure => simp [intOf]; omega
    · obtain rfl : k = n := by omega
      go_wp2
      go_ret
      exact ⟨_, rfl, by have h9 := hrow.out; rw [nmTo_all] at h9; exact h9, hbel.out⟩
end Go.Proofs.Ytdojalflgfacgaa
