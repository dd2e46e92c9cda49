/- A log's text, as bytes; contracts of the numerals; the tables of the row's list. -/
import Derived.Test.YtbekoockmageoaaDoorHkWC
import Derived.Test.YtbekoockmageoaaDoorHkW4
import Derived.Test.YtbekoockmageoaaDoorHkLaid
import Derived.Test.YtbekoockmageoaaDoorShelf
import Derived.Lib.LaidTab
import Derived.Lib.ItoaLen
import Derived.Lib.ItoaMem
import Derived.DataShut
import Derived.Sort.Grow
namespace Go.Proofs.YtbekoockmageoaaDoor
open Go.RowKit Hk
abbrev Tab (w : World) : Prop := Lib.TabIs Tryd.prog w "internal/strconv.uint64pow10" .u64 Lib.pow10Tab
theorem tab_below {w w' : World} (h : Tab w) (hb : Below w.heap.size w w') : Tab w' := by
  unfold Tab Lib.TabIs World.var? at *
  cases hg : Tryd.prog.globalNamed "internal/strconv.uint64pow10" with
  | none => rw [hg] at h; cases h
  | some g =>
    rw [hg] at h
    simp only [Option.bind_some] at h ⊢
    have hlt : g < w.heap.size := by
      refine Classical.byContradiction fun hn => ?_
      rw [Array.getElem?_eq_none (by omega)] at h
      cases h
    rw [hb.block g hlt]
    exact h
def itoaB (n : Int) : ByteArray := ⟨(Lib.itoa n).toArray⟩
theorem itoa_any (n : Int) (w : World) (hw : (Lit.int .i64 n).wf = true) (ht : Tab w) :
    Calls Tryd.prog 28 #[.int .i64 n] w fun e w' => e = .returned (.string (itoaB n)) ∧ ∃ q os, w' = Go.Sort.grow (w.drewN q) os :=
  Tryd.strconv_Itoa n ((Lit.wf_int_iff _ _).1 hw).1 ((Lit.wf_int_iff _ _).1 hw).2 w ht
theorem grow_below' {B : Nat} {a w : World} (h : Below B a w) (hB : B ≤ w.heap.size) (n : Nat) (os : Array Obj) : Below B a (Go.Sort.grow (w.drewN n) os) :=
  ⟨h.os, h.tape, h.output, Nat.le_trans h.size (by show w.heap.size ≤ (w.heap ++ os).size; simp), fun j hj => by
    rw [← h.block j hj]
    show (w.heap ++ os)[j]? = _
    rw [Array.getElem?_append_left (by omega)]⟩
theorem itoa_bel (n : Int) (w : World) (hw : (Lit.int .i64 n).wf = true) (ht : Tab w) :
    Calls Tryd.prog 28 #[.int .i64 n] w fun e w' => e = .returned (.string (itoaB n)) ∧ Below w.heap.size w w' :=
  (itoa_any n w hw ht).mono fun e w' ⟨he, q, os, hq⟩ => ⟨he, by rw [hq]; exact grow_below' (Below.refl _ _) (Nat.le_refl _) q os⟩
theorem gPow : Tryd.prog.globalNamed "internal/strconv.uint64pow10" = some 2 := by kernel_rfl
theorem gPowType : (Tryd.prog.globals[2]?).map (·.type) = some 78 := by kernel_rfl
theorem tables5 {W : World} (h : laidMetH Tryd.prog [("math/bits.deBruijn32tab", Rows.laid_math_bits_deBruijn32tab), ("math/bits.deBruijn64tab", Rows.laid_math_bits_deBruijn64tab), ("internal/strconv.uint64pow10", Rows.laid_internal_strconv_uint64pow10), ("scrim/hooks.names", Rows.laid_scrim_hooks_names), ("scrim/hooks.transitions", Rows.laid_scrim_hooks_transitions)] W) : Tab W ∧ TrIs W ∧ NmIs W := by
  have h0 := h
  rw [MakeChecks.laidMetH_plain _ _ _ (by kernel_rfl)] at h
  have h3 := laidMet.tail (laidMet.tail (laidMet.tail h))
  refine ⟨Lib.tabIs_of_head (rest := _) gPow gPowType Tryd.underlying78 Tryd.underlying71 (by kernel_rfl) (by kernel_rfl) (laidMet.tail (laidMet.tail h)), ?_⟩
  refine tables_of ?_
  rw [MakeChecks.laidMetH_plain _ _ _ (by kernel_rfl)]
  exact h3
/-- what stands for a hook -/
def hookB (h : Int) : ByteArray := if nameB h = ⟨#[]⟩ then itoaB h else nameB h
def spB : ByteArray := ⟨#[32]⟩
def nlB : ByteArray := ⟨#[10]⟩
def lineB (g n h : Int) (s : ByteArray) : ByteArray := itoaB g ++ spB ++ s ++ spB ++ itoaB n ++ spB ++ hookB h ++ nlB
def lineE (e : En) : ByteArray := lineB e.g e.n e.h e.s
def textB (L : List En) : ByteArray := L.foldl (fun t e => t ++ lineE e) ⟨#[]⟩
theorem textB_next (L : List En) (k : Nat) (h : k < L.length) : textB (L.take (k + 1)) = textB (L.take k) ++ lineE L[k] := by
  unfold textB
  rw [List.take_succ_eq_append_getElem h, List.foldl_append]
  rfl
theorem itoaB_le (n : Int) (h : (Lit.int .i64 n).wf = true) : (itoaB n).size ≤ 21 := by
  have h1 := (Lit.wf_int_iff _ _).1 h
  have e1 : IntKind.i64.min = -9223372036854775808 := by decide
  have e2 : IntKind.i64.max = 9223372036854775807 := by decide
  rw [e1, e2] at h1
  have h2 := Lib.itoa_length_le n h1.1 h1.2
  show ((Lib.itoa n).toArray).size ≤ 21
  simpa using h2
theorem nameB_le (h : Int) : (nameB h).size ≤ 21 := by
  unfold nameB
  split
  · rename_i hh
    have h9 : h.toNat = 0 ∨ h.toNat = 1 ∨ h.toNat = 2 ∨ h.toNat = 3 ∨ h.toNat = 4 ∨ h.toNat = 5 ∨ h.toNat = 6 ∨ h.toNat = 7 ∨ h.toNat = 8 := by omega
    rcases h9 with e | e | e | e | e | e | e | e | e <;> rw [e] <;> decide
  · decide
theorem hookB_le (h : Int) (hw : (Lit.int .i64 h).wf = true) : (hookB h).size ≤ 21 := by
  unfold hookB
  split
  · exact itoaB_le h hw
  · exact nameB_le h
def OkS (e : En) : Prop := OkE e ∧ e.s.size ≤ 20
theorem lineE_le (e : En) (h : OkS e) : (lineE e).size ≤ 100 := by
  have h1 := itoaB_le e.g h.1.1
  have h2 := itoaB_le e.n h.1.2.1
  have h3 := hookB_le e.h h.1.2.2.1
  have h4 := h.2
  have e1 : spB.size = 1 := rfl
  have e2 : nlB.size = 1 := rfl
  unfold lineE lineB
  simp only [ByteArray.size_append, e1, e2]
  omega
theorem textB_le (L : List En) (h : ∀ e ∈ L, OkS e) (k : Nat) : (textB (L.take k)).size ≤ 100 * k := by
  induction k with
  | zero => exact Nat.le_refl 0
  | succ k ih =>
    by_cases hk : k < L.length
    · rw [textB_next L k hk, ByteArray.size_append]
      have := lineE_le L[k] (h _ (List.getElem_mem hk))
      omega
    · rw [List.take_of_length_le (by omega)]
      rw [List.take_of_length_le (by omega)] at ih
      omega
theorem ownE_okS (L : List En) (m : Nat) (h : ∀ k ∈ L, OkE k) : ∀ k ∈ ownE L m, OkS k := by
  intro k hk
  refine ⟨ownE_ok L m h k hk, ?_⟩
  unfold ownE at hk
  rw [List.mem_map] at hk
  obtain ⟨x, _, rfl⟩ := hk
  show (Go.Proofs.YtbekoockmageoaaDoor.M.cutS x.s 20).size ≤ 20
  unfold Go.Proofs.YtbekoockmageoaaDoor.M.cutS
  split
  · simp; omega
  · omega
end Go.Proofs.YtbekoockmageoaaDoor
