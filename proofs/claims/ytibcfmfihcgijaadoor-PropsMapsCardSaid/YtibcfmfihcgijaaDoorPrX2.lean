/- The contract of the statements' IsTexts. -/
import Derived.Test.YtibcfmfihcgijaaDoorPrV1
import Derived.Test.YtibcfmfihcgijaaDoorPrW3
import Derived.Shelf.SlSortCmp.QuietGrown
namespace Go.Proofs.YtibcfmfihcgijaaDoor
open Go.RowKit Go.Sort M
theorem textsOf_next (l : List Par) (k : Nat) (h : k < l.length) : (textsOf l).take (k + 1) = (textsOf l).take k ++ [(l[k].1, itoaB l[k].2)] := by
  rw [take_next (textsOf l) k (by rw [textsOf_len]; exact h)]
  simp [textsOf]
theorem grown_rel {w : World} {a : Addr} {v : Value} (h : w.cell? a = some v) (n : Nat) (os : Array Obj) : (grow (w.drewN n) os).cell? a = some v := cell_grown (World.block_lt_of_cell? w _ h) h n os
set_option maxHeartbeats 8000000 in
set_option maxRecDepth 100000 in
theorem isTexts_any (A B : Option Addr) (n c m d : Nat) (xs : List ParS) (ys : List Par) (w : World) (hn : n = xs.length) (hm : m = ys.length) (hb : n ≤ maxLen) (hb2 : m ≤ maxLen) (ha : At w A (pvS xs)) (hb' : At w B (pv ys))
    (hv : ∀ p ∈ ys, (Lit.int .i64 p.2).wf = true) (ht : Tab w) :
    Calls Tryd.prog 17 #[.slice A n c, .slice B m d] w fun e w' => e = .returned (.bool (decide (xs = textsOf ys))) ∧ Below w.heap.size w w' := by
  unfold maxLen at hb hb2
  have HN := Lib.hid hn
  have HM := Lib.hid hm
  have HA := Lib.hid ha
  have HB := Lib.hid hb'
  have HV := Lib.hid hv
  have HT := Lib.hid ht
  clear hn hm ha hb' hv ht
  by_cases hl : n = m
  · subst hl
    have mixed : Tryd.prog.follows .mixedOrders = true := by kernel_rfl
    go_enter Tryd.func17, Tryd.ntmps17
    go_wp2
    go_loopw [13] (fun i wr => ∃ k : Nat, k ≤ n ∧ i = .int .i64 k ∧ Below w.heap.size w wr ∧ Hid (xs.take k = (textsOf ys).take k)) (fun i _ => n - (intOf i).toNat)
    case atStart => exact ⟨0, Nat.zero_le _, rfl, Below.refl _ _, rfl⟩
    case round =>
      obtain ⟨k, hk, rfl, hbel, hx⟩ := hrel
      by_cases hlt : k < n
      · have hk1 : k < xs.length := by have := HN.out; omega
        have hk2 : k < ys.length := by have := HM.out; omega
        obtain ⟨b1, o1, rfl, hb1, hc1, hc1'⟩ := at_pairS (HA.out.below hbel) hk1
        obtain ⟨b2, o2, rfl, hb2', hc2, hc2'⟩ := at_pair (HB.out.below hbel) hk2
        have hst0 := take_next xs k hk1
        have hst1 := textsOf_next ys k hk2
        have hw0 := HV.out ys[k] (List.getElem_mem hk2)
        obtain ⟨p, hp⟩ : ∃ p, p = xs[k] := ⟨_, rfl⟩
        obtain ⟨r, hr⟩ : ∃ r, r = ys[k] := ⟨_, rfl⟩
        rw [← hp] at hc1 hc1' hst0
        rw [← hr] at hc2 hc2' hst1 hw0
        have HP := Lib.hid hp
        have HR := Lib.hid hr
        have H0 := Lib.hid hst0
        have H1 := Lib.hid hst1
        have HW := Lib.hid hw0
        clear hp hr hst0 hst1 hw0
        obtain ⟨s, u⟩ := p
        obtain ⟨t, z⟩ := r
        have g1 := grown_rel hc1
        have g2 := grown_rel hc1'
        have g3 := grown_rel hc2
        have g4 := grown_rel hc2'
        have hT := fun n os => tab_below HT.out (St.grow_below hbel hbel.size n os)
        have HTG := Lib.hid hT
        have HBG := Lib.hid (fun n os => St.grow_below hbel hbel.size n os)
        clear hT
        by_cases hst : s = t
        · have h1 := str_yes hst
          have HX := Lib.hid hst
          clear hst
          by_cases huv : u = itoaB z
          · have h2 := str_yes huv
            have HVV := Lib.hid huv
            clear huv
            go_wp2
            go_quiet_grown (first | (go_at_call 19; refine Calls.grown_of (itoa_any _ _ HW.out (HTG.out _ _))))
            go_wp2
            go_roundw
            case rel => exact ⟨k + 1, by omega, by go_num, HBG.out _ _, by show _ = _; rw [H0.out, H1.out, hx.out, HX.out, HVV.out]⟩
            case measure => simp [intOf]; omega
          · have h2 := str_no huv
            have HVV := Lib.hid huv
            clear huv
            go_wp2
            go_quiet_grown (first | (go_at_call 19; refine Calls.grown_of (itoa_any _ _ HW.out (HTG.out _ _))))
            go_wp2
            go_ret
            refine ⟨ret_bool' ?_, HBG.out _ _⟩
            rw [eq_comm, decide_eq_false_iff_not]
            intro e
            have e2 : xs.take (k + 1) = (textsOf ys).take (k + 1) := by rw [e]
            rw [H0.out, H1.out, hx.out] at e2
            have e3 := List.append_cancel_left e2
            injection e3 with e3
            exact HVV.out (congrArg Prod.snd e3)
        · have h1 := str_no hst
          have HX := Lib.hid hst
          clear hst
          go_wp2
          go_quiet (fail)
          go_wp2
          go_ret
          refine ⟨ret_bool' ?_, drewN_below' hbel _⟩
          rw [eq_comm, decide_eq_false_iff_not]
          intro e
          have e2 : xs.take (k + 1) = (textsOf ys).take (k + 1) := by rw [e]
          rw [H0.out, H1.out, hx.out] at e2
          have e3 := List.append_cancel_left e2
          injection e3 with e3
          exact HX.out (congrArg Prod.fst e3)
      · obtain rfl : k = n := by omega
        go_wp2
        go_ret
        exact ⟨ret_bool' (by have h1 := HN.out; have h3 := HM.out; have h2 := hx.out; rw [List.take_of_length_le (by omega), List.take_of_length_le (by rw [textsOf_len]; omega)] at h2; simp [h2]), hbel⟩
  · have hd : Hid (decide (xs = textsOf ys) = false) := by show decide (xs = textsOf ys) = false; rw [decide_eq_false_iff_not]; intro e; exact hl (by rw [HN.out, HM.out, e, textsOf_len])
    have hl' : ((n : Int) == (m : Int)) = false := by rw [beq_eq_false_iff_ne]; omega
    have HL := Lib.hid hl
    clear hl
    go_enter Tryd.func17, Tryd.ntmps17
    go_wp2
    go_ret
    exact ⟨ret_bool' hd.out.symm, Below.refl _ _⟩
end Go.Proofs.YtibcfmfihcgijaaDoor
