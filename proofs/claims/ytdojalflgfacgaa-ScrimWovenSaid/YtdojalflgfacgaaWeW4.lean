/- Contracts of weave's waiting, take and cut. -/
import Derived.Test.YtdojalflgfacgaaWeW3
namespace Go.Proofs.Ytdojalflgfacgaa
open Go.RowKit We
/-- what is left, in memory: a struct of three cells, and its row of bools. -/
structure RestIs (w : World) (g tb na base : Nat) (f : Nat → Bool) (bf lm : Nat) : Prop where
  cells : w.heap[g]? = some (.cells #[.slice (some ⟨tb, 0, none⟩) na na, .int .i64 (bf : Int), .int .i64 (lm : Int)] 62 (0, 0))
  row : w.ownsRow base 4 1 (.slice (some ⟨tb, 0, none⟩) na na) na (bits na f)
  ne : tb ≠ g
abbrev inRest (g tb : Nat) (x : Nat) : Prop := x = g ∨ x = tb
section
variable {w : World} {g tb na base : Nat} {f : Nat → Bool} {bf lm : Nat}
theorem RestIs.c0 (h : RestIs w g tb na base f bf lm) : w.cell? ⟨g, 0, none⟩ = some (.slice (some ⟨tb, 0, none⟩) na na) := by rw [cell_of_row w g 0 _ _ (0, 0) h.cells]; rfl
theorem RestIs.c1 (h : RestIs w g tb na base f bf lm) : w.cell? ⟨g, 1, none⟩ = some (.int .i64 (bf : Int)) := by rw [cell_of_row w g 1 _ _ (0, 0) h.cells]; rfl
theorem RestIs.c2 (h : RestIs w g tb na base f bf lm) : w.cell? ⟨g, 2, none⟩ = some (.int .i64 (lm : Int)) := by rw [cell_of_row w g 2 _ _ (0, 0) h.cells]; rfl
theorem RestIs.frz (h : RestIs w g tb na base f bf lm) (i : Nat) : w.frozen? ⟨g, i, none⟩ = false := frz0 h.cells i
theorem RestIs.flip (h : RestIs w g tb na base f bf lm) (q : Nat) (v : Bool) : RestIs (w.setCell ⟨tb, q, none⟩ (.bool v)) g tb na base (fun p => if p = q then v else f p) bf lm :=
  ⟨(set_other h.ne.symm q _).trans h.cells, by have h9 := (h.row.stored q (.bool v)).1; rw [bits_set] at h9; exact h9, h.ne⟩
theorem own_set_other {e : TypeId} {size n c : Nat} {xs : List Value} {x : Nat} (h : w.ownsRow base e size (.slice (some ⟨tb, 0, none⟩) n c) n xs) (hne : tb ≠ x) (i : Nat) (v : Value) : (w.setCell ⟨x, i, none⟩ v).ownsRow base e size (.slice (some ⟨tb, 0, none⟩) n c) n xs := by
  rcases h with ⟨h1, h2 | ⟨g, c', cur, hv, h3, hh, h4⟩⟩
  · exact ⟨h1, .inl h2⟩
  · have e1 : tb = g := by injection hv with hv; injection hv with hv; injection hv
    exact ⟨h1, .inr ⟨g, c', cur, hv, h3, (set_other (by rw [← e1]; exact hne) i v).trans hh, h4⟩⟩
theorem RestIs.count (h : RestIs w g tb na base f bf lm) (x : Nat) : RestIs (w.setCell ⟨g, 1, none⟩ (.int .i64 (x : Int))) g tb na base f x lm :=
  ⟨by rw [set_block h.cells 1 _]; rfl, own_set_other h.row h.ne 1 _, h.ne⟩
theorem RestIs.limit (h : RestIs w g tb na base f bf lm) (x : Nat) : RestIs (w.setCell ⟨g, 2, none⟩ (.int .i64 (x : Int))) g tb na base f bf x :=
  ⟨by rw [set_block h.cells 2 _]; rfl, own_set_other h.row h.ne 2 _, h.ne⟩
theorem RestIs.congr {f' : Nat → Bool} (h : RestIs w g tb na base f bf lm) (e : ∀ p, p < na → f p = f' p) : RestIs w g tb na base f' bf lm := ⟨h.cells, by have h9 := h.row; rw [bits_congr e] at h9; exact h9, h.ne⟩
theorem RestIs.heap {w' : World} (h : RestIs w g tb na base f bf lm) (h1 : w'.heap[g]? = w.heap[g]?) (h2 : w'.heap[tb]? = w.heap[tb]?) : RestIs w' g tb na base f bf lm := by
  refine ⟨h1.trans h.cells, ?_, h.ne⟩
  rcases h.row with ⟨k1, k2 | ⟨g', c', cur, hv, h3, hh, h4⟩⟩
  · exact ⟨k1, .inl k2⟩
  · have e1 : tb = g' := by injection hv with hv; injection hv with hv; injection hv
    exact ⟨k1, .inr ⟨g', c', cur, hv, h3, by rw [← e1] at hh ⊢; exact h2.trans hh, h4⟩⟩
theorem RestIs.lt (h : RestIs w g tb na base f bf lm) : g < w.heap.size ∧ tb < w.heap.size := ⟨(Array.getElem?_eq_some_iff.1 h.cells).1, (h.row.lt _ rfl).2⟩
end
/-- how many of the bools from lo on are true -/
def cntB (f : Nat → Bool) (lo : Nat) : Nat → Nat
  | 0 => 0
  | j + 1 => cntB f lo j + if f (lo + j) then 1 else 0
theorem cntB_le (f : Nat → Bool) (lo : Nat) : ∀ j, cntB f lo j ≤ j
  | 0 => Nat.le_refl _
  | j + 1 => by have := cntB_le f lo j; unfold cntB; split <;> omega
theorem cntB_take (a : List Int) (p : Int → Bool) (lo : Nat) : ∀ j, lo + j ≤ a.length → ((a.take (lo + j)).filter p).length = ((a.take lo).filter p).length + cntB (fun i => p (at' a i)) lo j
  | 0, _ => rfl
  | j + 1, h => by
    rw [← Nat.add_assoc, take_next (by omega), List.filter_append, List.length_append, cntB_take a p lo j (by omega)]
    show _ = _ + (cntB (fun i => p (at' a i)) lo j + if p (at' a (lo + j)) then 1 else 0)
    cases hp : p (at' a (lo + j)) <;> simp [hp] <;> omega
set_option maxHeartbeats 1000000 in
theorem waiting_any (A : Option Addr) (n c mb N : Nat) (a B : List Int) (w : World) (hn : n = a.length) (hb : n ≤ 1000) (ha : At w A (iv a)) (hok : ∀ x ∈ a, OkI x) (hmap : MapOf Try.prog 3 ikey OkI w mb (posF B) N) :
    Calls Try.prog 23 #[.slice A n c, .map (some mb)] w fun e w' => ∃ g tb, e = .returned (.pointer (some ⟨g, 0, none⟩)) ∧ RestIs w' g tb n w.heap.size (fun p => decide (at' a p ∈ B)) (a.filter (· ∈ B)).length n ∧ w.heap.size ≤ g ∧ w.heap.size ≤ tb ∧ Below w.heap.size w w' := by
  have HN := Lib.hid hn
  have HA := Lib.hid ha
  have HOK := Lib.hid hok
  have HM := Lib.hid hmap
  obtain ⟨b0, bi, bz0, bz1, bz2⟩ := info_parts infoBoolW
  obtain ⟨w2, hmk, hrow, hgm⟩ := run_makeSlice_full (P := Try.prog) w w.heap.size 52 4 b0 (.bool false) 1 Try.underlying52 bi bz0 bz1 .i64 .i64 n (by omega) (by rw [bz2]; omega) (by unfold maxLen; omega) (Nat.le_refl _)
  have HB2 := Lib.hid ((Below.refl w.heap.size w).grown hgm (Nat.le_refl _) (fun q hq => nomatch hq))
  have hlt2 : w.heap.size < w2.heap.size := (hrow.lt _ rfl).2
  have HR0 : Hid (RestIs (w2.alloc (.cells #[.slice (some ⟨w.heap.size, 0, none⟩) n n, .int .i64 0, .int .i64 n] 62)) w2.heap.size w.heap.size n w.heap.size (fun p => decide (p < 0 ∧ at' a p ∈ B)) ((a.take 0).filter (· ∈ B)).length n) := by
    refine ⟨heap_alloc_new _ _, ?_, by omega⟩
    have e : bits n (fun p => decide (p < 0 ∧ at' a p ∈ B)) = bits n (fun _ => false) := bits_congr (fun p _ => decide_eq_false (fun h => absurd h.1 (Nat.not_lt_zero _)))
    rw [e, bits_zero]
    exact hrow.alloc _
  have HB3 := Lib.hid (HB2.out.alloc HB2.out.size (.cells #[.slice (some ⟨w.heap.size, 0, none⟩) n n, .int .i64 0, .int .i64 n] 62))
  clear hn ha hok hmap hrow hgm
  go_enter Try.func23, Try.ntmps23
  go_wp2_with fail
  clear hmk
  have hgs : w2.heap.size < (w2.alloc (.cells #[.slice (some ⟨w.heap.size, 0, none⟩) n n, .int .i64 0, .int .i64 n] 62)).heap.size := by simp
  generalize w2.alloc (.cells #[.slice (some ⟨w.heap.size, 0, none⟩) n n, .int .i64 0, .int .i64 n] 62) = W at *
  generalize w2.heap.size = gb at *
  go_loopw [19] (fun i wr => ∃ k : Nat, k ≤ n ∧ i = .int .i64 k ∧ Hid (RestIs wr gb w.heap.size n w.heap.size (fun p => decide (p < k ∧ at' a p ∈ B)) ((a.take k).filter (· ∈ B)).length n) ∧ Hid (Below w.heap.size w wr)) (fun i _ => n - (intOf i).toNat)
  case atStart => exact ⟨0, Nat.zero_le _, rfl, HR0, HB3⟩
  case round =>
    obtain ⟨k, hk, rfl, hrest, hbel⟩ := hrel
    by_cases hlt : k < n
    · have hkl : k < a.length := by have := HN.out; omega
      obtain ⟨b1, o1, rfl, hb1, hc1⟩ := (HA.out.below hbel.out).one (iv_at a k hkl)
      have hfl : ((a.take k).filter (· ∈ B)).length ≤ k := Nat.le_trans (List.length_filter_le _ _) (by simp; omega)
      have hnl : ((a.take (k + 1)).filter (· ∈ B)).length = ((a.take k).filter (· ∈ B)).length + if at' a k ∈ B then 1 else 0 := by
        rw [take_next hkl, List.filter_append, List.length_append]
        by_cases e : at' a k ∈ B <;> simp [e]
      obtain ⟨x, hx⟩ : ∃ x, x = ats a k := ⟨_, rfl⟩
      rw [← hx] at hc1
      rw [show at' a k = x from hx.symm] at hnl
      have HX : Hid (at' a k = x) := hx.symm
      have hOx := Lib.hid (HOK.out x (by rw [hx]; exact at_mem hkl))
      have HMW := Lib.hid (HM.out.below hbel.out)
      obtain ⟨bf, hbf⟩ : ∃ bf, bf = ((a.take k).filter (· ∈ B)).length := ⟨_, rfl⟩
      rw [← hbf] at hrest hfl hnl
      clear hx hbf
      have hszr := hbel.out.size
      by_cases hm : x ∈ B
      · rw [if_pos hm] at hnl
        have HNL := Lib.hid hnl
        have HP := Lib.hid (posF_yes hm)
        have HMM := Lib.hid hm
        have g0 := hrest.out.c0
        have hcb : wr.cell? ⟨w.heap.size, k, none⟩ = some (.bool (decide (k < k ∧ at' a k ∈ B))) := (hrest.out.row.cellAt k (by omega)).trans (bits_at _ _ _ hlt)
        have hfb := hrest.out.row.frozenAt k
        have H1 := Lib.hid (hrest.out.flip k true)
        have g1 := H1.out.c1
        have f1 := H1.out.frz 1
        have H2 := Lib.hid (H1.out.count (bf + 1))
        have hci : (((bf + 1 : Nat)) : Int) = (bf : Int) + 1 := by omega
        rw [hci] at H2
        clear hm hnl hci
        generalize decide (k < k ∧ at' a k ∈ B) = z0 at hcb
        go_wp2_with (refine wpList_lookok_mo rfl _ _ 48 3 3 rfl (intWay Try.underlying3) Try.underlying48 zeroIW mb _ _ rfl HMW.out x hOx.out rfl (.int .i64 (ix B x : Int)) true (by rw [HP.out]; rfl) (by rw [HP.out]; rfl) ?_)
        go_roundw
        case rel =>
          refine ⟨k + 1, by omega, by go_num, ?_, ?_⟩
          · show RestIs _ _ _ _ _ _ _ _
            rw [HNL.out]
            refine H2.out.congr (fun p _ => ?_)
            by_cases e : p = k
            · subst e; rw [if_pos rfl]; exact (decide_eq_true ⟨by omega, by rw [HX.out]; exact HMM.out⟩).symm
            · rw [if_neg e, decide_eq_decide]
              constructor
              · rintro ⟨h1, h2⟩; exact ⟨by omega, h2⟩
              · rintro ⟨h1, h2⟩; exact ⟨by omega, h2⟩
          · exact (hbel.out.setCell (p := ⟨w.heap.size, k, none⟩) (Nat.le_refl _) _).setCell (p := ⟨gb, 1, none⟩) (by show w.heap.size ≤ gb; omega) _
        case measure => simp [intOf]; omega
      · rw [if_neg hm, Nat.add_zero] at hnl
        have HNL := Lib.hid hnl
        have HP := Lib.hid (posF_no hm)
        have HMM := Lib.hid hm
        clear hm hnl
        go_wp2_with (refine wpList_lookok_mo rfl _ _ 48 3 3 rfl (intWay Try.underlying3) Try.underlying48 zeroIW mb _ _ rfl HMW.out x hOx.out rfl (.int .i64 0) false (by rw [HP.out]; rfl) (by rw [HP.out]; rfl) ?_)
        go_roundw
        case rel =>
          refine ⟨k + 1, by omega, by go_num, ?_, hbel⟩
          show RestIs _ _ _ _ _ _ _ _
          rw [HNL.out]
          refine hrest.out.congr (fun p _ => ?_)
          rw [decide_eq_decide]
          constructor
          · rintro ⟨h1, h2⟩; exact ⟨by omega, h2⟩
          · rintro ⟨h1, h2⟩
            by_cases e : p = k
            · subst e; rw [HX.out] at h2; exact absurd h2 HMM.out
            · exact ⟨by omega, h2⟩
        case measure => simp [intOf]; omega
    · obtain rfl : k = n := by omega
      go_wp2
      go_ret
      refine ⟨gb, w.heap.size, rfl, ?_, by omega, Nat.le_refl _, hbel.out⟩
      have h9 := hrest.out
      rw [show a.take k = a from List.take_of_length_le (by have := HN.out; omega)] at h9
      refine h9.congr (fun p hp => ?_)
      rw [decide_eq_decide]
      exact ⟨fun h => h.2, fun h => ⟨hp, h⟩⟩
def TakePost (g tb na base : Nat) (f : Nat → Bool) (bf lm q : Nat) (w w' : World) : Prop := RestIs w' g tb na base (fun p => if p = q then false else f p) (if q < lm then bf - 1 else bf) lm ∧ Beside (inRest g tb) w w' ∧ w'.heap.size = w.heap.size
theorem take_any (g tb na base : Nat) (f : Nat → Bool) (bf lm q : Nat) (w : World) (h : RestIs w g tb na base f bf lm) (hq : q < na) (hbf : bf ≤ 1000) (h1 : q < lm → 0 < bf) :
    Calls Try.prog 25 #[.pointer (some ⟨g, 0, none⟩), .int .i64 q] w fun e w' => e = .returned (.tuple #[]) ∧ TakePost g tb na base f bf lm q w w' := by
  have g0 := h.c0
  have hcb : w.cell? ⟨tb, q, none⟩ = some (.bool (f q)) := (h.row.cellAt q (by omega)).trans (bits_at _ _ _ hq)
  have hfb := h.row.frozenAt q
  have H1 := Lib.hid (h.flip q false)
  have g2 := H1.out.c2
  have g1 := H1.out.c1
  have f1 := H1.out.frz 1
  have HB1 := Lib.hid ((Beside.refl (inRest g tb) w).set (.inl (.inr rfl)) q (.bool false))
  have H2 := Lib.hid (H1.out.count (bf - 1))
  have HB2 := Lib.hid (HB1.out.set (.inl (.inl rfl)) 1 (.int .i64 (((bf - 1 : Nat)) : Int)))
  clear h
  generalize f q = z0 at hcb
  by_cases hlt : q < lm
  · have hb0 := h1 hlt
    have hlt2 : (q : Int) < (lm : Int) := by omega
    have e1 : (((bf - 1 : Nat)) : Int) = (bf : Int) - 1 := by omega
    rw [e1] at H2 HB2
    clear e1 h1
    go_enter Try.func25, Try.ntmps25
    go_wp2
    go_end0
    exact ⟨rfl, by unfold TakePost; rw [if_pos hlt]; exact ⟨H2.out, HB2.out, by simp⟩⟩
  · have hlt2 : ¬ (q : Int) < (lm : Int) := by omega
    clear h1
    go_enter Try.func25, Try.ntmps25
    go_wp2
    go_end0
    exact ⟨rfl, by unfold TakePost; rw [if_neg hlt]; exact ⟨H1.out, HB1.out, by simp⟩⟩
def CutPost (g tb na base : Nat) (f : Nat → Bool) (bf lm q : Nat) (w w' : World) : Prop := RestIs w' g tb na base f (bf - cntB f q (lm - q)) q ∧ Beside (inRest g tb) w w' ∧ w.heap.size ≤ w'.heap.size
set_option maxHeartbeats 1000000 in
theorem cut_any' (g tb na base : Nat) (f : Nat → Bool) (bf lm q : Nat) (w : World) (h : RestIs w g tb na base f bf lm) (hq : q ≤ lm) (hqn : q < na) (hlm : lm ≤ na) (hna : na ≤ 1000) (hbf : bf ≤ 1000) (hc : cntB f q (lm - q) ≤ bf) :
    Calls Try.prog 26 #[.pointer (some ⟨g, 0, none⟩), .int .i64 q] w fun e w' => e = .returned (.tuple #[]) ∧ CutPost g tb na base f bf lm q w w' := by
  have g0 := h.c0
  have g2 := h.c2
  have HR := Lib.hid h
  have HC := Lib.hid hc
  have t1 : (0 : Int) ≤ (q : Int) := by omega
  have t2 : (q : Int) ≤ (lm : Int) := by omega
  have t3 : (lm : Int) ≤ (na : Int) := by omega
  have t4 : ¬ (na : Int) = (q : Int) := by omega
  have t5 : ¬ na = q := by omega
  clear h hc
  go_enter Try.func26, Try.ntmps26
  have d1 : ((lm : Int) - (q : Int)) = ((lm - q : Nat) : Int) := by omega
  obtain ⟨L, hL⟩ : ∃ L, L = lm - q := ⟨_, rfl⟩
  have HL := Lib.hid hL
  rw [← hL] at d1 HC
  have hLn : L ≤ na := by omega
  have hqL : q + L = lm := by omega
  clear hL
  go_wp2_with fail
  go_big_quiet (fail)
  go_wp2_with fail
  rw [← HL.out]
  go_loopw [17] (fun i wr => ∃ j : Nat, j ≤ L ∧ i = .int .i64 j ∧ Hid (RestIs wr g tb na base f (bf - cntB f q j) lm) ∧ Hid (Beside (inRest g tb) w wr)) (fun i _ => L - (intOf i).toNat)
  case atStart => exact ⟨0, Nat.zero_le _, rfl, HR.out.heap rfl rfl, (Beside.refl _ _).drewN _⟩
  case round =>
    obtain ⟨j, hj, rfl, hrest, hbes⟩ := hrel
    by_cases hjL : j < L
    · have hcb : wr.cell? ⟨tb, q + j, none⟩ = some (.bool (f (q + j))) := (hrest.out.row.cellAt (q + j) (by omega)).trans (bits_at _ _ _ (by omega))
      have hle : cntB f q (j + 1) ≤ bf := by
        have hmono : ∀ d, j + 1 + d ≤ L → cntB f q (j + 1) ≤ cntB f q (j + 1 + d) := by
          intro d
          induction d with
          | zero => intro _; exact Nat.le_refl _
          | succ d ih =>
            intro hd
            have := ih (by omega)
            show _ ≤ cntB f q (j + 1 + d) + _
            omega
        have := hmono (L - (j + 1)) (by omega)
        rw [show j + 1 + (L - (j + 1)) = L by omega] at this
        exact Nat.le_trans this HC.out
      have hnx : cntB f q (j + 1) = cntB f q j + if f (q + j) then 1 else 0 := rfl
      cases hf : f (q + j) with
      | true =>
        rw [hf] at hcb hnx
        simp only [if_true] at hnx
        have g1 := hrest.out.c1
        have f1 := hrest.out.frz 1
        have H2 := Lib.hid (hrest.out.count (bf - cntB f q (j + 1)))
        have HB2 := Lib.hid (hbes.out.set (.inl (.inl rfl)) 1 (.int .i64 (((bf - cntB f q (j + 1) : Nat)) : Int)))
        have e1 : (((bf - cntB f q (j + 1) : Nat)) : Int) = ((bf - cntB f q j : Nat) : Int) - 1 := by omega
        rw [e1] at H2 HB2
        have hb1 : 1 ≤ bf - cntB f q j := by omega
        have hb2 : bf - cntB f q j ≤ 1000 := by omega
        generalize bf - cntB f q j = z1 at *
        clear e1 hnx hle hf
        go_wp2_with fail
        go_roundw
        case rel => exact ⟨j + 1, by omega, by go_num, H2, HB2⟩
        case measure => simp [intOf]; omega
      | false =>
        rw [hf] at hcb hnx
        have hn2 := Lib.hid (show cntB f q (j + 1) = cntB f q j by simpa using hnx)
        clear hnx hle hf
        go_wp2_with fail
        go_roundw
        case rel => exact ⟨j + 1, by omega, by go_num, by show RestIs _ _ _ _ _ _ _ _; rw [hn2.out]; exact hrest.out, hbes⟩
        case measure => simp [intOf]; omega
    · obtain rfl : j = L := by omega
      have g2' := hrest.out.c2
      have f2 := hrest.out.frz 2
      have H2 := Lib.hid (hrest.out.limit q)
      have HB2 := Lib.hid (hbes.out.set (.inl (.inl rfl)) 2 (.int .i64 (q : Int)))
      go_wp2_with fail
      go_end0
      exact ⟨rfl, by unfold CutPost; rw [← HL.out]; exact ⟨H2.out, HB2.out, HB2.out.size⟩⟩
end Go.Proofs.Ytdojalflgfacgaa
