/- The rows' list gives the two tables: of transitions, of names. -/
import Derived.Test.YtbekoockmageoaaDoorHkW1
import Derived.Stop.LaidErr
namespace Go.Proofs.YtbekoockmageoaaDoor
open Go.RowKit Hk Go.ChangeShapes
theorem list_blocks {α : Type} (l r : List α) (n k : Nat) (hk : 0 < k) (hl : l.length = n * k) (hr : r.length = n * k) (h : ∀ i, i < n → (l.drop (i * k)).take k = (r.drop (i * k)).take k) : l = r := by
  apply List.ext_getElem?
  intro j
  rcases Nat.lt_or_ge j (n * k) with hj | hj
  · have hi : j / k < n := Nat.div_lt_of_lt_mul (by rw [Nat.mul_comm]; exact hj)
    have hq : j % k < k := Nat.mod_lt _ hk
    have e : j / k * k + j % k = j := by rw [Nat.mul_comm]; exact Nat.div_add_mod j k
    have h1 := congrArg (fun x => x[j % k]?) (h (j / k) hi)
    simp only [List.getElem?_take, if_pos hq, List.getElem?_drop, e] at h1
    exact h1
  · rw [List.getElem?_eq_none (by omega), List.getElem?_eq_none (by omega)]
def namesD : List (DataW Unit) := [.lit (.string []), .lit (.string [98, 101, 102, 111, 114, 101, 45, 101, 110, 116, 101, 114]), .lit (.string [101, 110, 116, 101, 114]), .lit (.string [97, 102, 116, 101, 114, 45, 101, 110, 116, 101, 114]), .lit (.string [101, 110, 116, 101, 114, 45, 99, 97, 110, 99, 101, 108, 108, 101, 100]), .lit (.string [98, 101, 102, 111, 114, 101, 45, 108, 101, 97, 118, 101]), .lit (.string [108, 101, 97, 118, 101]), .lit (.string [97, 102, 116, 101, 114, 45, 108, 101, 97, 118, 101]), .lit (.string [108, 101, 97, 118, 101, 45, 99, 97, 110, 99, 101, 108, 108, 101, 100])]
def transD : List (DataW Unit) := [.agg [.agg [.lit (.int .i64 0), .lit (.int .i64 1)], .lit (.int .i64 1)], .agg [.agg [.lit (.int .i64 0), .lit (.int .i64 5)], .lit (.int .i64 4)], .agg [.agg [.lit (.int .i64 1), .lit (.int .i64 2)], .lit (.int .i64 2)], .agg [.agg [.lit (.int .i64 2), .lit (.int .i64 3)], .lit (.int .i64 3)], .agg [.agg [.lit (.int .i64 2), .lit (.int .i64 4)], .lit (.int .i64 3)], .agg [.agg [.lit (.int .i64 3), .lit (.int .i64 5)], .lit (.int .i64 4)], .agg [.agg [.lit (.int .i64 4), .lit (.int .i64 6)], .lit (.int .i64 5)], .agg [.agg [.lit (.int .i64 5), .lit (.int .i64 7)], .lit (.int .i64 6)], .agg [.agg [.lit (.int .i64 5), .lit (.int .i64 8)], .lit (.int .i64 6)], .agg [.agg [.lit (.int .i64 6), .lit (.int .i64 1)], .lit (.int .i64 1)]]
theorem gTr : Tryd.prog.globalNamed "scrim/hooks.transitions" = some 0 := by kernel_rfl
theorem gTrT : (Tryd.prog.globals[0]?).map (·.type) = some 51 := by kernel_rfl
theorem gNm : Tryd.prog.globalNamed "scrim/hooks.names" = some 1 := by kernel_rfl
theorem gNmT : (Tryd.prog.globals[1]?).map (·.type) = some 53 := by kernel_rfl
section
variable {enc : TypeId × Value → Unit} {w : World} {base : Nat} {sp : Nat → Bool} {held : Bool} {fuel : Nat} {p : List MemPlace}
theorem str_row {cs : List Value} {s : List UInt8} (h : DataW.trod enc Tryd.prog w base sp held fuel 9 cs = some (.lit (.string s), p)) : cs = [.string ⟨s.toArray⟩] := by
  obtain ⟨b, rfl, hx, _⟩ := DataW.trod_string Tryd.underlying9 h
  injection hx with hx _
  injection hx with hx
  injection hx with hx
  subst hx
  simp
theorem int_row {cs : List Value} {z : Int} (h : DataW.trod enc Tryd.prog w base sp held fuel 3 cs = some (.lit (.int .i64 z), p)) : cs = [.int .i64 z] := by
  obtain ⟨n, rfl, hx, _⟩ := DataW.trod_int Tryd.underlying3 h
  injection hx with hx _
  injection hx with hx
  injection hx with _ hx
  rw [hx]
theorem rep_row {cs : List Value} {a b : Int} (h : DataW.trod enc Tryd.prog w base sp held fuel 48 cs = some (.agg [.lit (.int .i64 a), .lit (.int .i64 b)], p)) : cs = [.int .i64 a, .int .i64 b] := by
  obtain ⟨y0, y1, n, hx, hl, h0, h1⟩ := trod_struct2 Tryd.underlying48 h
  injection hx with hx _
  injection hx with hx
  injection hx with hx0 hx
  injection hx with hx1 _
  have e0 := int_row (p := y0.2) (by rw [h0, hx0])
  have e1 := int_row (p := y1.2) (by rw [h1, hx1])
  rw [show Tryd.prog.cellsOf 48 = 2 by kernel_rfl] at hl
  rw [show Tryd.prog.cellsOf 3 = 1 by kernel_rfl] at e0 e1
  match cs, hl with
  | [x, y], _ =>
    simp at e0 e1
    rw [e0, e1]
theorem tra_row {cs : List Value} {a b c : Int} (h : DataW.trod enc Tryd.prog w base sp held fuel 50 cs = some (.agg [.agg [.lit (.int .i64 a), .lit (.int .i64 b)], .lit (.int .i64 c)], p)) : cs = [.int .i64 a, .int .i64 b, .int .i64 c] := by
  obtain ⟨y0, y1, n, hx, hl, h0, h1⟩ := trod_struct2 Tryd.underlying50 h
  injection hx with hx _
  injection hx with hx
  injection hx with hx0 hx
  injection hx with hx1 _
  have e0 := rep_row (p := y0.2) (by rw [h0, hx0])
  have e1 := int_row (p := y1.2) (by rw [h1, hx1])
  rw [show Tryd.prog.cellsOf 50 = 3 by kernel_rfl] at hl
  rw [show Tryd.prog.cellsOf 48 = 2 by kernel_rfl] at e0
  rw [show Tryd.prog.cellsOf 3 = 1 by kernel_rfl] at e1
  match cs, hl with
  | [x, y, z], _ =>
    simp at e0 e1
    rw [e0.1, e0.2, e1]
theorem trans_cells {cs : List Value} (h : DataW.trod enc Tryd.prog w base sp held fuel 51 cs = some (.agg transD, p)) : cs = trv := by
  obtain ⟨xs, m, _, hx, hl, hxl, hf⟩ := DataW.trod_array Tryd.underlying51 h
  injection hx with hx _
  injection hx with hx
  rw [show Tryd.prog.cellsOf 51 = 30 by kernel_rfl] at hl
  rw [show Tryd.prog.cellsOf 50 = 3 by kernel_rfl] at hf
  refine list_blocks cs trv 10 3 (by omega) hl rfl fun i hi => ?_
  have h1 : (xs.map (·.1))[i]? = transD[i]? := by rw [hx]
  have h2 : ∃ y, xs[i]? = some y := ⟨xs[i]'(by omega), List.getElem?_eq_getElem (by omega)⟩
  obtain ⟨y, hy⟩ := h2
  rw [List.getElem?_map, hy] at h1
  have h3 := (hf i hi).trans hy
  have h4 : some y.1 = transD[i]? := h1
  have h10 : i = 0 ∨ i = 1 ∨ i = 2 ∨ i = 3 ∨ i = 4 ∨ i = 5 ∨ i = 6 ∨ i = 7 ∨ i = 8 ∨ i = 9 := by omega
  rcases h10 with rfl | rfl | rfl | rfl | rfl | rfl | rfl | rfl | rfl | rfl
  all_goals
    have h5 := Option.some.inj h4
    exact tra_row (p := y.2) (h3.trans (by rw [← h5]))
theorem names_cells {cs : List Value} (h : DataW.trod enc Tryd.prog w base sp held fuel 53 cs = some (.agg namesD, p)) : cs = nmb.map Value.string := by
  obtain ⟨xs, m, _, hx, hl, hxl, hf⟩ := DataW.trod_array Tryd.underlying53 h
  injection hx with hx _
  injection hx with hx
  rw [show Tryd.prog.cellsOf 53 = 9 by kernel_rfl] at hl
  rw [show Tryd.prog.cellsOf 9 = 1 by kernel_rfl] at hf
  refine list_blocks cs (nmb.map Value.string) 9 1 (by omega) hl rfl fun i hi => ?_
  have h1 : (xs.map (·.1))[i]? = namesD[i]? := by rw [hx]
  have h2 : ∃ y, xs[i]? = some y := ⟨xs[i]'(by omega), List.getElem?_eq_getElem (by omega)⟩
  obtain ⟨y, hy⟩ := h2
  rw [List.getElem?_map, hy] at h1
  have h3 := (hf i hi).trans hy
  have h4 : some y.1 = namesD[i]? := h1
  have h10 : i = 0 ∨ i = 1 ∨ i = 2 ∨ i = 3 ∨ i = 4 ∨ i = 5 ∨ i = 6 ∨ i = 7 ∨ i = 8 := by omega
  rcases h10 with rfl | rfl | rfl | rfl | rfl | rfl | rfl | rfl | rfl
  all_goals
    have h5 := Option.some.inj h4
    exact str_row (p := y.2) (h3.trans (by rw [← h5]))
end
theorem tr_of_var {W : World} {cs : Array Value} (hv : W.var? Tryd.prog "scrim/hooks.transitions" = some cs) (h : cs.toList = trv) : TrIs W := by
  have key : ∀ (j : Nat) (u : Value), trv[j]? = some u → W.cell? ⟨0, j, none⟩ = some u := fun j u hu => by
    rw [World.var?_cell gTr hv j, ← hu, ← h]
    simp
  exact ⟨World.block_lt_of_cell? W _ (key 0 _ rfl), key⟩
theorem nm_of_var {W : World} {cs : Array Value} (hv : W.var? Tryd.prog "scrim/hooks.names" = some cs) (h : cs.toList = nmb.map Value.string) : NmIs W := by
  have key : ∀ (j : Nat), j < 9 → W.cell? ⟨1, j, none⟩ = some (.string (nmb.getD j ⟨#[]⟩)) := fun j hj => by
    have e : cs[j]? = cs.toList[j]? := by simp
    rw [World.var?_cell gNm hv j, e, h, List.getElem?_map]
    have hl : j < nmb.length := hj
    rw [List.getElem?_eq_getElem hl, List.getD_eq_getElem?_getD, List.getElem?_eq_getElem hl]
    rfl
  exact ⟨World.block_lt_of_cell? W _ (key 0 (by omega)), key⟩
theorem tables_of {W : World} (h : laidMetH Tryd.prog [("scrim/hooks.names", Rows.laid_scrim_hooks_names), ("scrim/hooks.transitions", Rows.laid_scrim_hooks_transitions)] W) : TrIs W ∧ NmIs W := by
  rw [MakeChecks.laidMetH_plain _ _ _ (by kernel_rfl)] at h
  obtain ⟨ps, ⟨g1, t1, cs1, f1, p1, q1, hg1, ht1, hv1, hd1, ⟨g2, t2, cs2, f2, p2, q2, hg2, ht2, hv2, hd2, _, _⟩, _⟩, _⟩ := h
  obtain rfl := Option.some.inj (gNm.symm.trans hg1)
  obtain rfl := Option.some.inj (gNmT.symm.trans ht1)
  obtain rfl := Option.some.inj (gTr.symm.trans hg2)
  obtain rfl := Option.some.inj (gTrT.symm.trans ht2)
  exact ⟨tr_of_var hv2 (trans_cells hd2), nm_of_var hv1 (names_cells hd1)⟩
end Go.Proofs.YtbekoockmageoaaDoor
