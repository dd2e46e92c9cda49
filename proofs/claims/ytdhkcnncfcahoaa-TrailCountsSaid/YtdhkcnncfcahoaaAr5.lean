/- The contract of arena's create, of Element at a name. -/
import Derived.Test.YtdhkcnncfcahoaaAr4
import Derived.DataShut
import Derived.Deep.RegionHeld3
namespace Go.Proofs.Ytdhkcnncfcahoaa
open Go.RowKit
theorem step_store_is {P : Program} {w : World} {ops : Array Oper} {o : Oper} {a : Act} {K' : Act → World → Prop} {Q : Exit → Act → World → Prop} {EE : Prop} (hgd : o.guard = none) (m x v : Operand) (t K E : TypeId) (hop : o.op = Op.insert t m x v ∨ o.op = Op.mapUpdate t m x v)
    (hk : P.underlying K = some (.int .i64)) (ht : P.underlying t = some (.map K E)) (b n : Nat) (f : Int → Option Value) (hm : a.eval m = .map (some b)) (h : MapIs P K w b f n) (hn : n < maxLen) (i : Int) (hi : (ikey i).wf = true) (val : Value)
    (hx : a.eval x = .int .i64 i) (hv : a.eval v = val) (hK : ∀ w', MapIs P K w' b (fun j => if j = i then some val else f j) (if (f i).isSome then n else n + 1) → w.grownBy w' (some b) → w'.heap.size = w.heap.size → K' (a.put o.dst undef) w') :
    if Region.wanted o (yielded ops a.tmps) = true then Oper.wp P o a w K' Q else EE := by
  have hw : Region.wanted o (yielded ops a.tmps) = true := by simp [Region.wanted, hgd]
  rw [if_pos hw]
  exact wp_store_is m x v t K E hop hk ht b n f hm h hn i hi val hx hv hK
theorem DomIs.ne {w : World} {b m : Nat} {f : Int → Option Value} {n : Nat} {nx mo : Int} (h : DomIs w b m f n nx mo) : ¬ m = b := by
  rintro rfl
  obtain ⟨D, ⟨es, clock, h1, _⟩, _⟩ := h.map
  have h2 := h.cells
  rw [h1] at h2
  cases h2
def nodeCells (id k : Int) (tag text : ByteArray) (p : Int) (kids : Value) : Array Value := #[.int .i64 id, .int .i64 k, .string tag, .string text, .slice none 0 0, .slice none 0 0, .slice none 0 0, .int .i64 p, kids]
def DomTurn (b m : Nat) (g : Nat) : Prop := g = b ∨ g = m
set_option maxHeartbeats 4000000 in
set_option maxRecDepth 100000 in
theorem create_any (b m : Nat) (f : Int → Option Value) (n : Nat) (nx mo k : Int) (tag text : ByteArray) (w : World) (h : DomIs w b m f n nx mo) (hn : n ≤ 100000) (hmo : 0 ≤ mo ∧ mo ≤ 100000) (hroom : ¬ mo - ((n : Int) - 1) = 0) (hnx : 0 ≤ nx ∧ nx ≤ 1000000) (hf : f nx = none) :
    Calls Try.prog 18 #[.pointer (some ⟨b, 0, none⟩), .agg (nodeCells 0 k tag text 0 (.slice none 0 0))] w fun e w' => e = .returned (.tuple #[.int .i64 nx, .int .i64 0]) ∧
      DomIs w' b m (fun j => if j = nx then some (.pointer (some ⟨w.heap.size, 0, none⟩)) else f j) (n + 1) (nx + 1) mo ∧ w'.heap[w.heap.size]? = some (.cells (nodeCells nx k tag text (-1) (.slice none 0 0)) 47 (0, 0)) ∧ Beside (DomTurn b m) w w' := by
  have hlt := h.lt
  have hroom' : ((mo - ((n : Int) - 1)) == 0) = false := beq_eq_false_iff_ne.2 hroom
  have hwx : IntKind.i64.wrap (nx + 1) = nx + 1 := by rw [IntKind.wrap_i64]; omega
  have hwf : (ikey nx).wf = true := (Lit.wf_int_iff _ _).2 (by constructor <;> (simp [IntKind.min, IntKind.max, IntKind.bits, IntKind.signed]; omega))
  have HA := Lib.hid (h.below (below_alloc w (.cells (nodeCells 0 k tag text 0 (.slice none 0 0)) 47)))
  have mixed : Try.prog.follows .mixedOrders = true := by kernel_rfl
  unfold nodeCells
  go_enter Try.func18, Try.ntmps18
  go_wp2_with (go_at_call 24; refine (room_any b m f n nx mo _ HA.out hn hmo).mono ?_; rintro e w5 ⟨rfl, q, rfl⟩)
  obtain ⟨W, hW⟩ : ∃ W, W = (w.alloc (.cells (nodeCells 0 k tag text 0 (.slice none 0 0)) 47)).drewN q := ⟨_, rfl⟩
  have HD : Hid (DomIs W b m f n nx mo) := by show DomIs _ _ _ _ _ _ _; rw [hW]; exact HA.out.drewN q
  have hR : W.heap[w.heap.size]? = some (.cells (nodeCells 0 k tag text 0 (.slice none 0 0)) 47 (0, 0)) := by rw [hW]; exact heap_alloc_new w _
  have HB : Hid (Beside (DomTurn b m) w W) := by show Beside _ _ _; rw [hW]; exact ((Beside.refl _ w).alloc _).drewN q
  have hsW : W.heap.size = w.heap.size + 1 := by rw [hW]; simp
  rw [← hW]
  clear hW HA
  obtain ⟨r, hr⟩ : ∃ r, r = w.heap.size := ⟨_, rfl⟩
  rw [← hr] at hR hlt hsW
  rw [← hr]
  have HR := Lib.hid hR
  have HSZ := Lib.hid hr
  have hbr : ¬ b = r := by omega
  have hmr : ¬ m = r := by omega
  have hrb : ¬ r = b := by omega
  have c0 := HD.out.c0
  have c1 := HD.out.c1
  have c2 := HD.out.c2
  have f0 := frz0 HD.out.cells 0
  have f1 := frz0 HD.out.cells 1
  have f2 := frz0 HD.out.cells 2
  have n0 : W.cell? ⟨r, 0, none⟩ = some (.int .i64 0) := by rw [cell_of_row W r 0 _ _ (0, 0) hR]; rfl
  have n7 : W.cell? ⟨r, 7, none⟩ = some (.int .i64 0) := by rw [cell_of_row W r 7 _ _ (0, 0) hR]; rfl
  have g0 := frz0 hR 0
  have g7 := frz0 hR 7
  clear hR hr
  refine (made_any b m f n nx mo _ HD.out).mono ?_
  rintro e w6 ⟨rfl, hw6⟩
  subst hw6
  go_wp2_with fail
  have hmb := HD.out.ne
  obtain ⟨V, hV⟩ : ∃ V, V = (((((w6.setCell ⟨b, 0, none⟩ (.map (some m))).setCell ⟨b, 1, none⟩ (.int .i64 nx)).setCell ⟨b, 2, none⟩ (.int .i64 mo)).setCell ⟨r, 0, none⟩ (.int .i64 nx)).setCell ⟨r, 7, none⟩ (.int .i64 (-1))) := ⟨_, rfl⟩
  have vb : V.heap[b]? = some (.cells #[.map (some m), .int .i64 nx, .int .i64 mo] 51 (0, 0)) := by
    rw [hV, set_other hbr, set_other hbr, set_block (set_block (set_block HD.out.cells 0 _) 1 _) 2 _]
    rfl
  have vr : V.heap[r]? = some (.cells (nodeCells nx k tag text (-1) (.slice none 0 0)) 47 (0, 0)) := by
    rw [hV, set_block (set_block (((set_other hrb _ _).trans ((set_other hrb _ _).trans (set_other hrb _ _))).trans HR.out) 0 _) 7 _]
    rfl
  have vm : V.heap[m]? = w6.heap[m]? := by
    rw [hV, set_other hmr, set_other hmr, set_other hmb, set_other hmb, set_other hmb]
  have VB : Hid (Beside (DomTurn b m) w V) := by
    show Beside _ _ _
    rw [hV]
    have hwr : w.heap.size ≤ r := by have := HSZ.out; omega
    exact ((((HB.out.set (.inl (.inl rfl)) _ _).set (.inl (.inl rfl)) _ _).set (.inl (.inl rfl)) _ _).set (.inr hwr) _ _).set (.inr hwr) _ _
  have hsV : V.heap.size = r + 1 := by rw [hV]; simp; exact hsW
  have VM := Lib.hid (HD.out.map.block vm)
  have v0 : V.cell? ⟨b, 0, none⟩ = some (.map (some m)) := by rw [cell_of_row V b 0 _ _ (0, 0) vb]; rfl
  have v3 : V.cell? ⟨r, 0, none⟩ = some (.int .i64 nx) := by rw [cell_of_row V r 0 _ _ (0, 0) vr]; rfl
  have VBC := Lib.hid vb
  have VRC := Lib.hid vr
  have HNX := Lib.hid hwf
  have HF := Lib.hid hf
  rw [← hV]
  clear hV vb vr vm c0 c1 c2 f0 f1 f2 n0 n7 g0 g7 hsW hwf hf
  obtain ⟨w8, hrun, hm8, hg8, hs8⟩ := (VM.out.block (w' := V.drew) rfl).store (t := 48) (E := 39) Try.underlying3 Try.underlying48 (by unfold maxLen; omega) nx HNX.out (.pointer (some ⟨r, 0, none⟩))
  have M8 := Lib.hid hm8
  have G8 := Lib.hid hg8
  have S8 := Lib.hid hs8
  have b80 : w8.cell? ⟨b, 0, none⟩ = some (.map (some m)) := hg8.cell (w := V.drew) v0 (by simp; omega)
  have b81 : w8.cell? ⟨r, 0, none⟩ = some (.int .i64 nx) := hg8.cell (w := V.drew) v3 (by simp; omega)
  clear hm8 hg8 hs8
  go_region
  have wb : w8.heap[b]? = some (.cells #[.map (some m), .int .i64 nx, .int .i64 mo] 51 (0, 0)) := (G8.out.block b (by show b < V.heap.size; omega) (by intro e; injection e with e; omega)).trans VBC.out
  have wr : w8.heap[r]? = some (.cells (nodeCells nx k tag text (-1) (.slice none 0 0)) 47 (0, 0)) := (G8.out.block r (by show r < V.heap.size; omega) (by intro e; injection e with e; omega)).trans VRC.out
  have e1 : w8.cell? ⟨b, 1, none⟩ = some (.int .i64 nx) := by rw [cell_of_row w8 b 1 _ _ (0, 0) wb]; rfl
  have fz := frz0 wb 1
  have WB := Lib.hid wb
  have WR := Lib.hid wr
  clear wb wr b80 v0 v3 hrun
  go_wp2
  go_ret2
  have hw2 : (w8.setCell ⟨b, 1, none⟩ (.int .i64 (nx + 1))).heap[b]? = some (.cells #[.map (some m), .int .i64 (nx + 1), .int .i64 mo] 51 (0, 0)) := by rw [set_block WB.out 1 _]; rfl
  rw [← HSZ.out]
  refine ⟨rfl, ⟨hw2, ?_⟩, (set_other hrb _ _).trans WR.out, ?_⟩
  · have h9 := M8.out
    rw [HF.out] at h9
    exact h9.block (set_other hmb _ _)
  · exact ((VB.out.drewN 1).grown G8.out (fun q hq => by injection hq with hq; exact .inl (.inr hq.symm))).set (.inl (.inl rfl)) _ _
set_option maxHeartbeats 1000000 in
theorem element_p (b m : Nat) (f : Int → Option Value) (n : Nat) (nx mo : Int) (w : World) (h : DomIs w b m f n nx mo) (hn : n ≤ 100000) (hmo : 0 ≤ mo ∧ mo ≤ 100000) (hroom : ¬ mo - ((n : Int) - 1) = 0) (hnx : 0 ≤ nx ∧ nx ≤ 1000000) (hf : f nx = none) :
    Calls Try.prog 13 #[.pointer (some ⟨b, 0, none⟩), .string ⟨#[112]⟩] w fun e w' => e = .returned (.tuple #[.int .i64 nx, .int .i64 0]) ∧
      DomIs w' b m (fun j => if j = nx then some (.pointer (some ⟨w.heap.size, 0, none⟩)) else f j) (n + 1) (nx + 1) mo ∧ w'.heap[w.heap.size]? = some (.cells (nodeCells nx 2 ⟨#[112]⟩ ⟨#[]⟩ (-1) (.slice none 0 0)) 47 (0, 0)) ∧ Beside (DomTurn b m) w w' := by
  have HC := Lib.hid (create_any b m f n nx mo 2 ⟨#[112]⟩ ⟨#[]⟩ w h hn hmo hroom hnx hf)
  clear h hn hmo hroom hnx hf
  go_enter Try.func13, Try.ntmps13
  go_wp2_with (first | (go_at_call 17; refine (name_p _).mono ?_; rintro e w5 ⟨rfl, rfl⟩) | (go_at_call 18; refine HC.out.mono ?_; rintro e w6 ⟨rfl, h1, h2, h3⟩; have H1 := Lib.hid h1; have H2 := Lib.hid h2; have H3 := Lib.hid h3; clear h1 h2 h3))
  go_ret2
  exact ⟨rfl, H1.out, H2.out, H3.out⟩
end Go.Proofs.Ytdhkcnncfcahoaa
