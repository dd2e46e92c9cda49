/- The contract of layer 4's document's own Get: the last pair of a name. -/
import Derived.Test.YtibcfmfihcgijaaDoorPrW3
import Derived.Test.YtibcfmfihcgijaaDoorPrT
import Derived.Test.YtibcfmfihcgijaaDoorPrV1
import Derived.Shelf.SlSortCmp.QuietGrown
import Derived.Test.YtibcfmfihcgijaaDoorPrW4
import Derived.Test.YtibcfmfihcgijaaDoorPrS4
import Derived.Maps.AppendAt
import Derived.Lib.SliceRun
import Derived.Lib.LazyBuf
import Derived.Test.YtibcfmfihcgijaaDoorPrW5
import Derived.Test.YtibcfmfihcgijaaDoorPrU1
import Derived.Test.YtibcfmfihcgijaaDoorAppAt
import Derived.Lib.AppendZerosOnto
import Derived.Test.YtibcfmfihcgijaaDoorPrS3
import Derived.Test.YtibcfmfihcgijaaDoorMgA
namespace Go.Proofs.YtibcfmfihcgijaaDoor
open Go.RowKit M
theorem getP_hit (l : List Par) (k : Nat) (hk : k < l.length) (x : ByteArray) (h : l[k].1 = x) (hl : ∀ p ∈ l.drop (k + 1), ¬ p.1 = x) : getP l x = some l[k].2 := by
  have key : getP ((l.take k ++ [l[k]]) ++ l.drop (k + 1)) x = some l[k].2 := by rw [getP_append, getP_none hl, Option.none_or, getP_snoc, if_pos h]
  rwa [← take_next l k hk, List.take_append_drop] at key
theorem drop_cons (l : List Par) (k : Nat) (hk : k < l.length) : l.drop k = l[k] :: l.drop (k + 1) := (List.drop_eq_getElem_cons hk)
set_option maxHeartbeats 2000000 in
set_option maxRecDepth 100000 in
theorem rget4_any (A : Option Addr) (n c : Nat) (l : List Par) (x : ByteArray) (w : World) (hn : n = l.length) (hb : n ≤ 100000) (ha : At w A (pv l)) :
    Calls Tryd.prog 12 #[.slice A n c, .string x] w fun e w' =>
      (∃ z, getP l x = some z ∧ e = .returned (.tuple #[.int .i64 z, .bool true]) ∧ Below w.heap.size w w') ∨ (getP l x = none ∧ e = .returned (.tuple #[.int .i64 0, .bool false]) ∧ Below w.heap.size w w') := by
  have HN := Lib.hid hn
  have HA := Lib.hid ha
  clear hn ha
  go_enter Tryd.func12, Tryd.ntmps12
  go_wp2
  go_loopw [6] (fun i wr => ∃ (k q : Nat), k ≤ n ∧ i = .int .i64 ((k : Int) - 1) ∧ wr = w.drewN q ∧ Hid (∀ p ∈ l.drop k, ¬ p.1 = x)) (fun i _ => (intOf i + 1).toNat)
  case atStart => exact ⟨n, 0, Nat.le_refl _, rfl, rfl, by show ∀ p ∈ _, _; rw [List.drop_of_length_le (by have := HN.out; omega)]; intro p hp; cases hp⟩
  case round =>
    obtain ⟨k, q, hk, rfl, rfl, hno⟩ := hrel
    by_cases h0 : k = 0
    · subst h0
      go_wp2
      go_ret2
      exact .inr ⟨getP_none (by have := hno.out; simpa using this), rfl, drewN_below' (Below.refl _ _) q⟩
    · obtain ⟨j, rfl⟩ : ∃ j, k = j + 1 := ⟨k - 1, by omega⟩
      have hj1 : j < l.length := by have := HN.out; omega
      have hji : ((j + 1 : Nat) : Int) - 1 = (j : Int) := by omega
      rw [hji]
      obtain ⟨b, off, rfl, hlb, hc0, hc1⟩ := at_pair HA.out hj1
      have hd := drop_cons l j hj1
      have hhit := getP_hit l j hj1 x
      obtain ⟨p, hp⟩ : ∃ p, p = l[j] := ⟨_, rfl⟩
      rw [← hp] at hc0 hc1 hd hhit
      have HD := Lib.hid hd
      have HH := Lib.hid hhit
      clear hp hd hhit
      obtain ⟨s, z⟩ := p
      have hge : (0 : Int) ≤ (j : Int) := by omega
      have hjn : (j : Int) < (n : Int) := by omega
      by_cases hx : s = x
      · have h1 := str_yes hx
        have HX := Lib.hid hx
        clear hx
        go_wp2
        go_ret2
        exact .inl ⟨z, HH.out HX.out hno.out, rfl, drewN_below' (Below.refl _ _) _⟩
      · have h1 := str_no hx
        have HX := Lib.hid hx
        clear hx
        go_wp2
        go_roundw
        case rel => exact ⟨j, _, by omega, by go_num, rfl, by show ∀ p ∈ _, _; rw [HD.out]; intro p hp; rcases List.mem_cons.1 hp with rfl | hp; exact HX.out; exact hno.out p hp⟩
        case measure => simp [intOf]
end Go.Proofs.YtibcfmfihcgijaaDoor
/- The contract of the statements' IsTexts. -/
namespace Go.Proofs.YtibcfmfihcgijaaDoor
open Go.RowKit Go.Sort M
theorem textsOf_next (l : List Par) (k : Nat) (h : k < l.length) : (textsOf l).take (k + 1) = (textsOf l).take k ++ [(l[k].1, itoaB l[k].2)] := by
  rw [take_next (textsOf l) k (by rw [textsOf_len]; exact h)]
  simp [textsOf]
theorem grown_rel {w : World} {a : Addr} {v : Value} (h : w.cell? a = some v) (n : Nat) (os : Array Obj) : (grow (w.drewN n) os).cell? a = some v := cell_grown (World.block_lt_of_cell? w _ h) h n os
set_option maxHeartbeats 8000000 in
set_option maxRecDepth 100000 in
theorem isTexts_any (A B : Option Addr) (n c m d : Nat) (xs : List ParS) (ys : List Par) (w : World) (hn : n = xs.length) (hm : m = ys.length) (hb : n ≤ maxLen) (hb2 : m ≤ maxLen) (ha : At w A (pvS xs)) (hb' : At w B (pv ys))
    (hv : ∀ p ∈ ys, (Lit.int .i64 p.2).wf = true) (ht : Tab w) :
    Calls Tryd.prog 17 #[.slice A n c, .slice B m d] w fun e w' => e = .returned (.bool (decide (xs = textsOf ys))) ∧ Below w.heap.size w w' := by
  unfold maxLen at hb hb2
  have HN := Lib.hid hn
  have HM := Lib.hid hm
  have HA := Lib.hid ha
  have HB := Lib.hid hb'
  have HV := Lib.hid hv
  have HT := Lib.hid ht
  clear hn hm ha hb' hv ht
  by_cases hl : n = m
  · subst hl
    have mixed : Tryd.prog.follows .mixedOrders = true := by kernel_rfl
    go_enter Tryd.func17, Tryd.ntmps17
    go_wp2
    go_loopw [13] (fun i wr => ∃ k : Nat, k ≤ n ∧ i = .int .i64 k ∧ Below w.heap.size w wr ∧ Hid (xs.take k = (textsOf ys).take k)) (fun i _ => n - (intOf i).toNat)
    case atStart => exact ⟨0, Nat.zero_le _, rfl, Below.refl _ _, rfl⟩
    case round =>
      obtain ⟨k, hk, rfl, hbel, hx⟩ := hrel
      by_cases hlt : k < n
      · have hk1 : k < xs.length := by have := HN.out; omega
        have hk2 : k < ys.length := by have := HM.out; omega
        obtain ⟨b1, o1, rfl, hb1, hc1, hc1'⟩ := at_pairS (HA.out.below hbel) hk1
        obtain ⟨b2, o2, rfl, hb2', hc2, hc2'⟩ := at_pair (HB.out.below hbel) hk2
        have hst0 := take_next xs k hk1
        have hst1 := textsOf_next ys k hk2
        have hw0 := HV.out ys[k] (List.getElem_mem hk2)
        obtain ⟨p, hp⟩ : ∃ p, p = xs[k] := ⟨_, rfl⟩
        obtain ⟨r, hr⟩ : ∃ r, r = ys[k] := ⟨_, rfl⟩
        rw [← hp] at hc1 hc1' hst0
        rw [← hr] at hc2 hc2' hst1 hw0
        have HP := Lib.hid hp
        have HR := Lib.hid hr
        have H0 := Lib.hid hst0
        have H1 := Lib.hid hst1
        have HW := Lib.hid hw0
        clear hp hr hst0 hst1 hw0
        obtain ⟨s, u⟩ := p
        obtain ⟨t, z⟩ := r
        have g1 := grown_rel hc1
        have g2 := grown_rel hc1'
        have g3 := grown_rel hc2
        have g4 := grown_rel hc2'
        have hT := fun n os => tab_below HT.out (St.grow_below hbel hbel.size n os)
        have HTG := Lib.hid hT
        have HBG := Lib.hid (fun n os => St.grow_below hbel hbel.size n os)
        clear hT
        by_cases hst : s = t
        · have h1 := str_yes hst
          have HX := Lib.hid hst
          clear hst
          by_cases huv : u = itoaB z
          · have h2 := str_yes huv
            have HVV := Lib.hid huv
            clear huv
            go_wp2
            go_quiet_grown (first | (go_at_call 19; refine Calls.grown_of (itoa_any _ _ HW.out (HTG.out _ _))))
            go_wp2
            go_roundw
            case rel => exact ⟨k + 1, by omega, by go_num, HBG.out _ _, by show _ = _; rw [H0.out, H1.out, hx.out, HX.out, HVV.out]⟩
            case measure => simp [intOf]; omega
          · have h2 := str_no huv
            have HVV := Lib.hid huv
            clear huv
            go_wp2
            go_quiet_grown (first | (go_at_call 19; refine Calls.grown_of (itoa_any _ _ HW.out (HTG.out _ _))))
            go_wp2
            go_ret
            refine ⟨ret_bool' ?_, HBG.out _ _⟩
            rw [eq_comm, decide_eq_false_iff_not]
            intro e
            have e2 : xs.take (k + 1) = (textsOf ys).take (k + 1) := by rw [e]
            rw [H0.out, H1.out, hx.out] at e2
            have e3 := List.append_cancel_left e2
            injection e3 with e3
            exact HVV.out (congrArg Prod.snd e3)
        · have h1 := str_no hst
          have HX := Lib.hid hst
          clear hst
          go_wp2
          go_quiet (fail)
          go_wp2
          go_ret
          refine ⟨ret_bool' ?_, drewN_below' hbel _⟩
          rw [eq_comm, decide_eq_false_iff_not]
          intro e
          have e2 : xs.take (k + 1) = (textsOf ys).take (k + 1) := by rw [e]
          rw [H0.out, H1.out, hx.out] at e2
          have e3 := List.append_cancel_left e2
          injection e3 with e3
          exact HX.out (congrArg Prod.fst e3)
      · obtain rfl : k = n := by omega
        go_wp2
        go_ret
        exact ⟨ret_bool' (by have h1 := HN.out; have h3 := HM.out; have h2 := hx.out; rw [List.take_of_length_le (by omega), List.take_of_length_le (by rw [textsOf_len]; omega)] at h2; simp [h2]), hbel⟩
  · have hd : Hid (decide (xs = textsOf ys) = false) := by show decide (xs = textsOf ys) = false; rw [decide_eq_false_iff_not]; intro e; exact hl (by rw [HN.out, HM.out, e, textsOf_len])
    have hl' : ((n : Int) == (m : Int)) = false := by rw [beq_eq_false_iff_ne]; omega
    have HL := Lib.hid hl
    clear hl
    go_enter Tryd.func17, Tryd.ntmps17
    go_wp2
    go_ret
    exact ⟨ret_bool' hd.out.symm, Below.refl _ _⟩
end Go.Proofs.YtibcfmfihcgijaaDoor
/- The contract of layer 4's document's own Turn. -/
namespace Go.Proofs.YtibcfmfihcgijaaDoor
open Go.RowKit M
theorem infoRStp : (Tryd.prog.info? 62).map (fun i => (i.zero, i.size, i.bytes)) = some (some (.agg #[.bool false, .string { data := #[] }, .int .i64 0]), 3, 32) := by kernel_rfl
set_option maxHeartbeats 8000000 in
set_option maxRecDepth 100000 in
theorem rturn_any (A B : Option Addr) (n c m d : Nat) (a b : List Par) (w : World) (hn : n = a.length) (hm : m = b.length) (hb : n ≤ 10000) (hb2 : m ≤ 10000) (ha : At w A (pv a)) (hb' : At w B (pv b)) :
    Calls Tryd.prog 31 #[.slice A n c, .slice B m d] w fun e w' => ∃ v, e = .returned v ∧ w'.ownsRow w.heap.size 62 3 v (turnP a b).length (psv (turnP a b)) ∧ RowKit.Below w.heap.size w w' := by
  have HOF : Hid (Calls Tryd.prog 16 #[.slice A n c] (w.alloc (.cells #[] 62)) fun e w' => ∃ v, e = .returned v ∧ w'.ownsRow (w.alloc (.cells #[] 62)).heap.size 38 2 v (ofP a).length (pv (ofP a)) ∧ RowKit.Below (w.alloc (.cells #[] 62)).heap.size (w.alloc (.cells #[] 62)) w') := rof_any A n c a _ hn (by omega) (ha.alloc _)
  have HOB : Hid (∀ w1 : World, RowKit.Below w.heap.size w w1 → Calls Tryd.prog 16 #[.slice B m d] w1 fun e w' => ∃ v, e = .returned v ∧ w'.ownsRow w1.heap.size 38 2 v (ofP b).length (pv (ofP b)) ∧ RowKit.Below w1.heap.size w1 w') := fun w1 h => rof_any B m d b w1 hm (by omega) (hb'.below h)
  have HGA : Hid (∀ (w1 : World) (x : ByteArray), RowKit.Below w.heap.size w w1 → Calls Tryd.prog 12 #[.slice A n c, .string x] w1 fun e w' => (∃ z, getP a x = some z ∧ e = .returned (.tuple #[.int .i64 z, .bool true]) ∧ RowKit.Below w1.heap.size w1 w') ∨ (getP a x = none ∧ e = .returned (.tuple #[.int .i64 0, .bool false]) ∧ RowKit.Below w1.heap.size w1 w')) := fun w1 x h => rget4_any A n c a x w1 hn (by omega) (ha.below h)
  have HGB : Hid (∀ (w1 : World) (x : ByteArray), RowKit.Below w.heap.size w w1 → Calls Tryd.prog 12 #[.slice B m d, .string x] w1 fun e w' => (∃ z, getP b x = some z ∧ e = .returned (.tuple #[.int .i64 z, .bool true]) ∧ RowKit.Below w1.heap.size w1 w') ∨ (getP b x = none ∧ e = .returned (.tuple #[.int .i64 0, .bool false]) ∧ RowKit.Below w1.heap.size w1 w')) := fun w1 x h => rget4_any B m d b x w1 hm (by omega) (hb'.below h)
  have hR1 := ofP_len a
  have hR2 := ofP_len b
  rw [← hn] at hR1
  rw [← hm] at hR2
  have HT := Lib.hid (turnP_eq a b)
  obtain ⟨i0, hi, hz0, hz1, hz2⟩ := info_parts infoRStp
  clear hn hm ha hb'
  generalize ofP a = R at HOF hR1 HT
  generalize ofP b = S at HOB hR2 HT
  go_enter Tryd.func31, Tryd.ntmps31
  go_wp2_with (go_at_call 16; refine HOF.out.mono ?_; rintro e w1 ⟨v, rfl, hown, hbel⟩; obtain ⟨A1, c1, rfl, hc1, hm1, hat1⟩ := at_of_own' hown; have HA := Lib.hid hat1; have HB1 : Hid (∀ g off, A1 = some ⟨g, off, none⟩ → w.heap.size < g ∧ g < w1.heap.size) := (fun g off e => by subst e; have h5 := hown.lt g rfl; rw [size_alloc] at h5; exact ⟨by omega, h5.2⟩); have HB := Lib.hid ((below_alloc w (.cells #[] 62)).trans (hbel.mono (by rw [size_alloc]; omega))); have HS := Lib.hid (own_below (own_made (base := w.heap.size) (e := 62) (size := 3) w w.heap.size rfl (Nat.le_refl _)) hbel); clear hown hbel hat1)
  have hsz0 := HB.out.size
  go_loopw [5, 18] (fun v i wr => ∃ (k : Nat) (out : List PStp), k ≤ R.length ∧ i = .int .i64 k ∧ out.length ≤ k ∧ Hid (wr.ownsRow w.heap.size 62 3 v out.length (psv out)) ∧ Hid (out = ((R.take k).filter (dropsF b)).map dropsG) ∧ RowKit.Below w.heap.size w wr ∧ Hid (At wr A1 (pv R)) ∧ Hid (∀ g, v.ownBlock = some g → g = w.heap.size ∨ w1.heap.size ≤ g) ∧ w1.heap.size ≤ wr.heap.size) (fun _ i _ => R.length - (intOf i).toNat)
  case atStart => exact ⟨0, [], Nat.zero_le _, rfl, Nat.le_refl _, HS.out, rfl, HB.out, HA.out, (fun g h => .inl (by simp only [Value.ownBlock, Option.some.injEq] at h; exact h.symm)), Nat.le_refl _⟩
  case round =>
    obtain ⟨k, out, hk, rfl, hol, hown, hout, hbel, hat, hwhere, hw1⟩ := hrel
    have hsz := hbel.size
    by_cases hlt : k < R.length
    · obtain ⟨b0, off, rfl, hlb, hd0, hd1⟩ := at_pair hat.out hlt
      obtain ⟨hb1, hb2⟩ := HB1.out b0 off rfl
      have hY := filter_take_yes R (dropsF b) k hlt
      have hZ := filter_take_no R (dropsF b) k hlt
      obtain ⟨s, hs⟩ : ∃ s, s = R[k].1 := ⟨_, rfl⟩
      obtain ⟨z, hz⟩ : ∃ z, z = R[k].2 := ⟨_, rfl⟩
      have hp : R[k] = (s, z) := by rw [hs, hz]
      rw [← hs] at hd0
      rw [← hz] at hd1
      rw [hp] at hY hZ
      have HY := Lib.hid hY
      have HZ := Lib.hid hZ
      clear hs hz hp hY hZ
      go_wp2_with fail
      refine (HGB.out _ s (hbel.alloc hsz _)).mono ?_
      rintro e w5 (⟨y, hy, rfl, hb5⟩ | ⟨hy, rfl, hb5⟩)
      · have HX : Hid (out = ((R.take (k + 1)).filter (dropsF b)).map dropsG) := by
          show _ = _
          rw [HZ.out (by unfold dropsF; rw [hy]; rfl)]
          exact hout.out
        clear hy
        have G5 := Lib.hid ((below_alloc wr (.cells #[.string s, .int .i64 z] 38)).trans (hb5.mono (by simp)))
        have c0 : w5.cell? ⟨wr.heap.size, 0, none⟩ = some (.string s) := (hb5.cell (p := ⟨wr.heap.size, 0, none⟩) (by simp)).trans (by simp)
        have c1 : w5.cell? ⟨wr.heap.size, 1, none⟩ = some (.int .i64 z) := (hb5.cell (p := ⟨wr.heap.size, 1, none⟩) (by simp)).trans (by simp)
        have HOC := Lib.hid (own_below hown.out G5.out)
        have HAT5 := Lib.hid (hat.out.below G5.out)
        have HB5 := Lib.hid (hbel.trans (G5.out.mono hsz))
        have hs5 : wr.heap.size ≤ w5.heap.size := G5.out.size
        clear hb5
        go_wp2
        go_roundw
        case rel => exact ⟨k + 1, out, by omega, by go_num, by omega, HOC.out, HX.out, HB5.out, HAT5.out, hwhere.out, by omega⟩
        case measure => simp [intOf]; omega
      · have HX : Hid (out ++ [(true, s, 0)] = ((R.take (k + 1)).filter (dropsF b)).map dropsG) := by
          show _ = _
          rw [HY.out (by unfold dropsF; rw [hy]; rfl), List.map_append, ← hout.out]
          rfl
        clear hy
        have G5 := Lib.hid ((below_alloc wr (.cells #[.string s, .int .i64 z] 38)).trans (hb5.mono (by simp)))
        have c0 : w5.cell? ⟨wr.heap.size, 0, none⟩ = some (.string s) := (hb5.cell (p := ⟨wr.heap.size, 0, none⟩) (by simp)).trans (by simp)
        have c1 : w5.cell? ⟨wr.heap.size, 1, none⟩ = some (.int .i64 z) := (hb5.cell (p := ⟨wr.heap.size, 1, none⟩) (by simp)).trans (by simp)
        have HOC := Lib.hid (own_below hown.out G5.out)
        have HAT5 := Lib.hid (hat.out.below G5.out)
        have HB5 := Lib.hid (hbel.trans (G5.out.mono hsz))
        have hs5 : wr.heap.size ≤ w5.heap.size := G5.out.size
        clear hb5
        go_wp2_with (at_builtin; refine wpList_append_own_at _ rfl _ _ 59 rfl w.heap.size 62 i0 (.agg #[.bool false, .string { data := #[] }, .int .i64 0]) 3 32 Tryd.underlying59 hi hz0 hz1 hz2 rfl (by decide) _ _ _ rfl (HOC.out.alloc _) ⟨_, 0, none⟩ 1 1 [.bool true, .string s, .int .i64 0] rfl rfl (cells_new' _ _ _ _ rfl _ (by simp)) (psv_one [(true, s, 0)]) (by unfold maxLen; omega) (by omega) (by simp; omega) ?_; intro v1 w6 hown1 hgrow1 _hnil1 hloc1; have HO6 := Lib.hid hown1; have HG6 := Lib.hid hgrow1; have HL := Lib.hid hloc1; clear hown1 hgrow1 _hnil1 hloc1)
        go_roundw
        case rel => exact ⟨k + 1, out ++ [(true, s, 0)], by omega, by go_num, by rw [List.length_append]; simp; omega, by show World.ownsRow _ _ _ _ _ _ _; rw [psv_app, List.length_append]; exact HO6.out, HX.out, (HB5.out.alloc (by omega) _).grown HG6.out (by simp; omega) (own_from hown.out), (HAT5.out.alloc _).grown HG6.out (fun e => by rcases hwhere.out b0 e.symm with h | h <;> omega), (fun g h => by rcases HL.out with e | e; exact hwhere.out g (e.symm.trans h); right; rw [e] at h; injection h with h; simp at h; omega), by have := HG6.out.size; simp at this; omega⟩
        case measure => simp [intOf]; omega
    · obtain rfl : k = R.length := by omega
      have HD : Hid (out = (R.filter (dropsF b)).map dropsG) := by
        have h1 := hout.out
        rw [List.take_of_length_le (Nat.le_refl _)] at h1
        exact h1
      clear hout hat
      obtain ⟨out0, ho0⟩ : ∃ o, o = out := ⟨_, rfl⟩
      rw [← ho0] at HD
      have hol0 : out.length ≤ 10000 := by omega
      have HBR := Lib.hid hbel
      have HOR := Lib.hid hown.out
      obtain ⟨A7, c7, rfl, _, _, hat7⟩ := at_of_own' hown.out
      clear hat7
      rename World => wz
      go_wp2_with (go_at_call 16; refine (HOB.out _ HBR.out).mono ?_; rintro e w2 ⟨v2, rfl, hown2, hbel2⟩; obtain ⟨A2, c2, rfl, hc2, hm2, hat2⟩ := at_of_own' hown2; have HA2 := Lib.hid hat2; have HB2 : Hid (∀ g off, A2 = some ⟨g, off, none⟩ → wz.heap.size ≤ g ∧ g < w2.heap.size) := (fun g off e => by subst e; exact hown2.lt g rfl); have HBE := Lib.hid (HBR.out.trans (hbel2.mono HBR.out.size)); have HS2 := Lib.hid (own_below HOR.out hbel2); have HW2 : Hid (wz.heap.size ≤ w2.heap.size) := hbel2.size; clear hown2 hbel2 hat2)
      have hsz2 := HBE.out.size
      have hw2 := HW2.out
      have HLT : Hid (∀ g, (Value.slice A7 out.length c7).ownBlock = some g → g < wz.heap.size) := fun g h => (HOR.out.lt g h).2
      go_loopw [5, 41] (fun v i wr => ∃ (k : Nat) (out : List PStp), k ≤ S.length ∧ i = .int .i64 k ∧ out.length ≤ 10000 + k ∧ Hid (wr.ownsRow w.heap.size 62 3 v out.length (psv out)) ∧ Hid (out = out0 ++ ((S.take k).filter (setsF a)).map setsG) ∧ RowKit.Below w.heap.size w wr ∧ Hid (At wr A2 (pv S)) ∧ Hid (∀ g, v.ownBlock = some g → g < wz.heap.size ∨ w2.heap.size ≤ g) ∧ w2.heap.size ≤ wr.heap.size) (fun _ i _ => S.length - (intOf i).toNat)
      case atStart => exact ⟨0, out, Nat.zero_le _, rfl, by omega, HS2.out, by rw [ho0]; show out = out ++ []; rw [List.append_nil], HBE.out, HA2.out, (fun g h => .inl (HLT.out g h)), Nat.le_refl _⟩
      case round =>
        clear hown hol hbel hsz ho0 hol0 hwhere hw1 HOR HLT HS2 HBR
        obtain ⟨k, out, hk, rfl, hol, hown, hout, hbel, hat, hwhere, hw1⟩ := hrel
        have hsz := hbel.size
        by_cases hlt : k < S.length
        · obtain ⟨b0, off, rfl, hlb, hd0, hd1⟩ := at_pair hat.out hlt
          obtain ⟨hb1, hb2⟩ := HB2.out b0 off rfl
          have hY := filter_take_yes S (setsF a) k hlt
          have hZ := filter_take_no S (setsF a) k hlt
          obtain ⟨s, hs⟩ : ∃ s, s = S[k].1 := ⟨_, rfl⟩
          obtain ⟨z, hz⟩ : ∃ z, z = S[k].2 := ⟨_, rfl⟩
          have hp : S[k] = (s, z) := by rw [hs, hz]
          rw [← hs] at hd0
          rw [← hz] at hd1
          rw [hp] at hY hZ
          have HY := Lib.hid hY
          have HZ := Lib.hid hZ
          clear hs hz hp hY hZ
          rename World => wr
          go_wp2_with fail
          refine (HGA.out _ s (hbel.alloc hsz _)).mono ?_
          rintro e w5 (⟨y, hy, rfl, hb5⟩ | ⟨hy, rfl, hb5⟩)
          · by_cases hyz : y = z
            · have HX : Hid (out = out0 ++ ((S.take (k + 1)).filter (setsF a)).map setsG) := by
                show _ = _
                rw [HZ.out (by unfold setsF; rw [hy, hyz]; simp)]
                exact hout.out
              have h2 : (y == z) = true := beq_iff_eq.2 hyz
              clear hy hyz
              have G5 := Lib.hid ((below_alloc wr (.cells #[.string s, .int .i64 z] 38)).trans (hb5.mono (by simp)))
              have c0 : w5.cell? ⟨wr.heap.size, 0, none⟩ = some (.string s) := (hb5.cell (p := ⟨wr.heap.size, 0, none⟩) (by simp)).trans (by simp)
              have c1 : w5.cell? ⟨wr.heap.size, 1, none⟩ = some (.int .i64 z) := (hb5.cell (p := ⟨wr.heap.size, 1, none⟩) (by simp)).trans (by simp)
              have HOC := Lib.hid (own_below hown.out G5.out)
              have HAT5 := Lib.hid (hat.out.below G5.out)
              have HB5 := Lib.hid (hbel.trans (G5.out.mono hsz))
              have hs5 : wr.heap.size ≤ w5.heap.size := G5.out.size
              clear hb5
              go_wp2
              go_roundw
              case rel => exact ⟨k + 1, out, by omega, by go_num, by omega, HOC.out, HX.out, HB5.out, HAT5.out, hwhere.out, by omega⟩
              case measure => simp [intOf]; omega
            · have HX : Hid (out ++ [(false, s, z)] = out0 ++ ((S.take (k + 1)).filter (setsF a)).map setsG) := by
                show _ = _
                rw [HY.out (by unfold setsF; rw [hy]; simpa using hyz), List.map_append, hout.out, List.append_assoc]
                rfl
              have h2 : (y == z) = false := beq_eq_false_iff_ne.2 hyz
              clear hy hyz
              have G5 := Lib.hid ((below_alloc wr (.cells #[.string s, .int .i64 z] 38)).trans (hb5.mono (by simp)))
              have c0 : w5.cell? ⟨wr.heap.size, 0, none⟩ = some (.string s) := (hb5.cell (p := ⟨wr.heap.size, 0, none⟩) (by simp)).trans (by simp)
              have c1 : w5.cell? ⟨wr.heap.size, 1, none⟩ = some (.int .i64 z) := (hb5.cell (p := ⟨wr.heap.size, 1, none⟩) (by simp)).trans (by simp)
              have HOC := Lib.hid (own_below hown.out G5.out)
              have HAT5 := Lib.hid (hat.out.below G5.out)
              have HB5 := Lib.hid (hbel.trans (G5.out.mono hsz))
              have hs5 : wr.heap.size ≤ w5.heap.size := G5.out.size
              clear hb5
              go_wp2_with (at_builtin; refine wpList_append_own_at _ rfl _ _ 59 rfl w.heap.size 62 i0 (.agg #[.bool false, .string { data := #[] }, .int .i64 0]) 3 32 Tryd.underlying59 hi hz0 hz1 hz2 rfl (by decide) _ _ _ rfl (HOC.out.alloc _) ⟨_, 0, none⟩ 1 1 [.bool false, .string s, .int .i64 z] rfl rfl (cells_new' _ _ _ _ rfl _ (by simp)) (psv_one [(false, s, z)]) (by unfold maxLen; omega) (by omega) (by simp; omega) ?_; intro v1 w6 hown1 hgrow1 _hnil1 hloc1; have HO6 := Lib.hid hown1; have HG6 := Lib.hid hgrow1; have HL := Lib.hid hloc1; clear hown1 hgrow1 _hnil1 hloc1)
              go_roundw
              case rel => exact ⟨k + 1, out ++ [(false, s, z)], by omega, by go_num, by rw [List.length_append]; simp; omega, by show World.ownsRow _ _ _ _ _ _ _; rw [psv_app, List.length_append]; exact HO6.out, HX.out, (HB5.out.alloc (by omega) _).grown HG6.out (by simp; omega) (own_from hown.out), (HAT5.out.alloc _).grown HG6.out (fun e => by rcases hwhere.out b0 e.symm with h | h <;> omega), (fun g h => by rcases HL.out with e | e; exact hwhere.out g (e.symm.trans h); right; rw [e] at h; injection h with h; simp at h; omega), by have := HG6.out.size; simp at this; omega⟩
              case measure => simp [intOf]; omega
          · have HX : Hid (out ++ [(false, s, z)] = out0 ++ ((S.take (k + 1)).filter (setsF a)).map setsG) := by
              show _ = _
              rw [HY.out (by unfold setsF; rw [hy]; simp), List.map_append, hout.out, List.append_assoc]
              rfl
            clear hy
            have G5 := Lib.hid ((below_alloc wr (.cells #[.string s, .int .i64 z] 38)).trans (hb5.mono (by simp)))
            have c0 : w5.cell? ⟨wr.heap.size, 0, none⟩ = some (.string s) := (hb5.cell (p := ⟨wr.heap.size, 0, none⟩) (by simp)).trans (by simp)
            have c1 : w5.cell? ⟨wr.heap.size, 1, none⟩ = some (.int .i64 z) := (hb5.cell (p := ⟨wr.heap.size, 1, none⟩) (by simp)).trans (by simp)
            have HOC := Lib.hid (own_below hown.out G5.out)
            have HAT5 := Lib.hid (hat.out.below G5.out)
            have HB5 := Lib.hid (hbel.trans (G5.out.mono hsz))
            have hs5 : wr.heap.size ≤ w5.heap.size := G5.out.size
            clear hb5
            go_wp2_with (at_builtin; refine wpList_append_own_at _ rfl _ _ 59 rfl w.heap.size 62 i0 (.agg #[.bool false, .string { data := #[] }, .int .i64 0]) 3 32 Tryd.underlying59 hi hz0 hz1 hz2 rfl (by decide) _ _ _ rfl (HOC.out.alloc _) ⟨_, 0, none⟩ 1 1 [.bool false, .string s, .int .i64 z] rfl rfl (cells_new' _ _ _ _ rfl _ (by simp)) (psv_one [(false, s, z)]) (by unfold maxLen; omega) (by omega) (by simp; omega) ?_; intro v1 w6 hown1 hgrow1 _hnil1 hloc1; have HO6 := Lib.hid hown1; have HG6 := Lib.hid hgrow1; have HL := Lib.hid hloc1; clear hown1 hgrow1 _hnil1 hloc1)
            go_roundw
            case rel => exact ⟨k + 1, out ++ [(false, s, z)], by omega, by go_num, by rw [List.length_append]; simp; omega, by show World.ownsRow _ _ _ _ _ _ _; rw [psv_app, List.length_append]; exact HO6.out, HX.out, (HB5.out.alloc (by omega) _).grown HG6.out (by simp; omega) (own_from hown.out), (HAT5.out.alloc _).grown HG6.out (fun e => by rcases hwhere.out b0 e.symm with h | h <;> omega), (fun g h => by rcases HL.out with e | e; exact hwhere.out g (e.symm.trans h); right; rw [e] at h; injection h with h; simp at h; omega), by have := HG6.out.size; simp at this; omega⟩
            case measure => simp [intOf]; omega
        · obtain rfl : k = S.length := by omega
          go_wp2
          go_ret
          have h1 := hout.out
          rw [List.take_of_length_le (Nat.le_refl _), HD.out, ← HT.out] at h1
          subst h1
          exact ⟨_, rfl, hown.out, hbel⟩
end Go.Proofs.YtibcfmfihcgijaaDoor
/- A row of pairs that a call writes anew, and what is left of it: plain laws. -/
namespace Go.Proofs.YtibcfmfihcgijaaDoor
open Go.RowKit M
/-- 'clear' on a slice of elements of whatever cells. -/
theorem clear_run {P : Program} (w : World) (t e ty : TypeId) (z : Value) (ht : P.underlying t = some (.slice e)) (hv : ∀ w, (zeroValue e).run P w = .ok z w) (h1 : ∀ v ∈ z.cells.toList, v.oneCell' = true) (b o n c k : Nat) (hk : z.cells.size = k)
    (hc : ∀ j, j < n * k → (w.cell? ⟨b, o + j, none⟩).isSome = true) (hf : ∀ j, j < n * k → w.frozen? ⟨b, o + j, none⟩ = false) :
    ∃ vs : List Value, vs.length ≤ n * k ∧ (Builtin.clear_ #[t] ty #[.slice (some ⟨b, o, none⟩) n c]).run P w = .ok (.tuple #[]) (w.setCells b o vs) := by
  rcases Nat.eq_zero_or_pos n with rfl | hn
  · refine ⟨[], by simp, ?_⟩
    simp [Builtin.clear_, run_underlying ht, World.setCells]
  · have hl : (Builtin.zeroCells z.cells n).toList.length = n * k := by simp [Builtin.zeroCells, hk]
    have hst := run_storeCells_cells (P := P) b o (Builtin.zeroCells z.cells n).toList 0 w (by intro c hc'; rw [Nat.add_zero]; exact hc c (by rw [hl] at hc'; exact hc')) (by intro c hc'; rw [Nat.add_zero]; exact hf c (by rw [hl] at hc'; exact hc')) (by
      intro v hv'
      simp only [Builtin.zeroCells, Array.toList_map, List.mem_map] at hv'
      obtain ⟨i, hi, rfl⟩ := hv'
      have hi2 : i < n * z.cells.size := by simpa using hi
      have hp : 0 < z.cells.size := by
        rcases Nat.eq_zero_or_pos z.cells.size with h | h
        · rw [h] at hi2; omega
        · exact h
      have hm : i % z.cells.size < z.cells.size := Nat.mod_lt _ hp
      refine h1 _ ?_
      rw [getElem!_pos z.cells _ hm]
      exact Array.getElem_mem_toList hm)
    simp only [Nat.add_zero] at hst
    refine ⟨_, Nat.le_of_eq hl, ?_⟩
    obtain ⟨m, rfl⟩ : ∃ m, n = m + 1 := ⟨n - 1, by omega⟩
    simp [Builtin.clear_, run_underlying ht, hv, hst]
theorem two_cells {w : World} {g a : Nat} {s0 z0 : Value} (h0 : w.cell? ⟨g, a, none⟩ = some s0) (h1 : w.cell? ⟨g, a + 1, none⟩ = some z0) (u v : Value) :
    ((w.setCell ⟨g, a, none⟩ u).setCell ⟨g, a + 1, none⟩ v).cell? ⟨g, a, none⟩ = some u ∧ ((w.setCell ⟨g, a, none⟩ u).setCell ⟨g, a + 1, none⟩ v).cell? ⟨g, a + 1, none⟩ = some v ∧
    ∀ b o, (b ≠ g ∨ (o ≠ a ∧ o ≠ a + 1)) → ((w.setCell ⟨g, a, none⟩ u).setCell ⟨g, a + 1, none⟩ v).cell? ⟨b, o, none⟩ = w.cell? ⟨b, o, none⟩ := by
  refine ⟨?_, ?_, fun b o h => ?_⟩
  · rw [World.cell?_setCell_other _ _ _ _ (by simp)]
    exact World.cell?_setCell_same _ _ _ h0
  · exact World.cell?_setCell_same _ _ _ ((World.cell?_setCell_other _ _ _ _ (by simp)).trans h1)
  · rw [World.cell?_setCell_other _ _ _ _ (by intro e; injection e with e1 e2; omega), World.cell?_setCell_other _ _ _ _ (by intro e; injection e with e1 e2; omega)]
theorem size_set (b : Nat) : ∀ (vs : List Value) (o : Nat) (w : World), (w.setCells b o vs).heap.size = w.heap.size
  | [], _, _ => rfl
  | v :: r, o, w => by rw [World.setCells, size_set b r]; simp
theorem below_set {B : Nat} {a w : World} (h : Below B a w) (g o : Nat) (v : Value) (hg : B ≤ g) : Below B a (w.setCell ⟨g, o, none⟩ v) := by
  exact h.setCell hg v
end Go.Proofs.YtibcfmfihcgijaaDoor
/- slices.IndexFunc and slices.DeleteFunc at pairs of numbers, by Drop's closure and by Mine's (written by gen_del.py). -/
namespace Go.Proofs.YtibcfmfihcgijaaDoor
open Go.RowKit M
theorem pv_len2 (l : List Par) : (pv l).length = l.length * 2 := pv_len l
theorem pv_app2 (a b : List Par) : pv (a ++ b) = pv a ++ pv b := pv_app a b
theorem pv_len_ne (l : List Par) {k : Nat} (hk : k < l.length) : pv l ≠ [] := fun e => by have := pv_len2 l; rw [e] at this; simp at this; omega
theorem pv_at2 (l : List Par) (k : Nat) (h : k < l.length) : (pv l)[k * 2]? = some (.string l[k].1) ∧ (pv l)[k * 2 + 1]? = some (.int .i64 l[k].2) := pv_at l k h
set_option maxHeartbeats 4000000 in
set_option maxRecDepth 100000 in
theorem idxDrop (B : Nat) (A : Option Addr) (n c base : Nat) (l : List Par) (p : Par → Bool) (w : World) (hn : n = l.length) (hb : n ≤ 100000) (ha : At w A (pv l)) (hbase : base ≤ w.heap.size) (hp : (∀ (s : ByteArray) (z : Int) (W : World), Below base w W → Calls Tryd.prog 43 #[.agg #[.string s, .int .i64 z], .pointer (some ⟨B, 0, none⟩)] W fun e w' => e = .returned (.bool (p (s, z))) ∧ Below W.heap.size W w')) :
    Calls Tryd.prog 72 #[.slice A n c, .func (.func 43) #[] #[.pointer (some ⟨B, 0, none⟩)]] w fun e w' => ((e = .returned (.int .i64 (-1)) ∧ ∀ q ∈ l, p q = false) ∨ (∃ k : Nat, ∃ hk : k < l.length, e = .returned (.int .i64 k) ∧ p l[k] = true ∧ ∀ q ∈ l.take k, p q = false)) ∧ Below w.heap.size w w' := by
  have HN := Lib.hid hn
  have HA := Lib.hid ha
  have HP := Lib.hid hp
  clear hn ha hp
  go_enter Tryd.func72, Tryd.ntmps72
  go_wp2
  go_loopw [8] (fun i wr => ∃ k : Nat, k ≤ n ∧ i = .int .i64 k ∧ Below w.heap.size w wr ∧ Hid (∀ q ∈ l.take k, p q = false)) (fun i _ => n - (intOf i).toNat)
  case atStart => exact ⟨0, Nat.zero_le _, rfl, Below.refl _ _, by show ∀ q ∈ _, _; simp⟩
  case round =>
    obtain ⟨k, hk, rfl, hbel, hno⟩ := hrel
    by_cases hlt : k < n
    · have hk1 : k < l.length := by have := HN.out; omega
      obtain ⟨b1, o1, rfl, hb1, hc1, hc1'⟩ := at_pair (HA.out.below hbel) hk1
      have hst0 := take_next l k hk1
      obtain ⟨y, hy⟩ : ∃ y, y = l[k] := ⟨_, rfl⟩
      rw [← hy] at hc1 hc1' hst0
      have HY := Lib.hid hy
      have HT := Lib.hid hst0
      clear hy hst0
      obtain ⟨s, z⟩ := y
      have hcall := HP.out s z wr (hbel.mono hbase)
      cases hq : p (s, z) with
      | true =>
        rw [hq] at hcall
        have HC := Lib.hid hcall
        have HQ := Lib.hid hq
        clear hcall hq
        go_wp2_with fail
        refine HC.out.mono ?_
        rintro e w5 ⟨rfl, hb5⟩
        have HB5 := Lib.hid (below_join hbel hb5)
        clear hb5
        go_wp2
        go_ret
        exact ⟨.inr ⟨k, hk1, rfl, by rw [← HY.out]; exact HQ.out, hno.out⟩, HB5.out⟩
      | false =>
        rw [hq] at hcall
        have HC := Lib.hid hcall
        have HQ := Lib.hid hq
        clear hcall hq
        go_wp2_with fail
        refine HC.out.mono ?_
        rintro e w5 ⟨rfl, hb5⟩
        have HB5 := Lib.hid (below_join hbel hb5)
        clear hb5
        go_wp2
        go_roundw
        case rel => exact ⟨k + 1, by omega, by go_num, HB5.out, by show ∀ q ∈ _, _; rw [HT.out]; intro q hq; rcases List.mem_append.1 hq with h | h; exact hno.out q h; rw [List.mem_singleton.1 h]; exact HQ.out⟩
        case measure => simp [intOf]; omega
    · obtain rfl : k = n := by omega
      go_wp2
      go_ret
      exact ⟨.inl ⟨rfl, by have h := hno.out; rw [List.take_of_length_le (by have := HN.out; omega)] at h; exact h⟩, hbel⟩
set_option maxHeartbeats 8000000 in
set_option maxRecDepth 100000 in
theorem delDrop (B : Nat) (A : Option Addr) (n c base : Nat) (l : List Par) (p : Par → Bool) (w : World) (hn : n = l.length) (hb : n ≤ 100000) (hnc : n ≤ c) (hcm : c ≤ maxLen) (ha : At w A (pv l)) (hbase : base ≤ w.heap.size)
    (hfz : ∀ b off, A = some ⟨b, off, none⟩ → base ≤ b ∧ ∀ o, w.frozen? ⟨b, o, none⟩ = false) (hp : (∀ (s : ByteArray) (z : Int) (W : World), Below base w W → Calls Tryd.prog 43 #[.agg #[.string s, .int .i64 z], .pointer (some ⟨B, 0, none⟩)] W fun e w' => e = .returned (.bool (p (s, z))) ∧ Below W.heap.size W w')) :
    Calls Tryd.prog 42 #[.slice A n c, .func (.func 43) #[] #[.pointer (some ⟨B, 0, none⟩)]] w fun e w' => ∃ c', e = .returned (.slice A (l.filter fun q => !p q).length c') ∧ At w' A (pv (l.filter fun q => !p q)) ∧ Below base w w' := by
  have HI := Lib.hid (idxDrop B A n c base l p w hn hb ha hbase hp)
  have HN := Lib.hid hn
  have HA := Lib.hid ha
  have HP := Lib.hid hp
  unfold maxLen at hcm
  clear hn ha hp
  go_enter Tryd.func42, Tryd.ntmps42
  go_wp2_with fail
  refine HI.out.mono ?_
  rintro e w1 ⟨⟨rfl, hno⟩ | ⟨k0, hk0, rfl, hyes, hno⟩, hb1⟩
  · have HX := Lib.hid hno
    have HB1 := Lib.hid hb1
    clear hno hb1 HI
    go_wp2
    go_ret
    have e : (l.filter fun q => !p q) = l := List.filter_eq_self.2 fun q hq => by rw [HX.out q hq]; rfl
    refine ⟨c, by rw [e, ← HN.out]; rfl, by rw [e]; exact HA.out.below HB1.out, HB1.out.mono hbase⟩
  · have hk0n : k0 < n := by have := HN.out; omega
    have hF0 : Hid ((l.take k0).filter (fun q => !p q) = l.take k0) := List.filter_eq_self.2 fun q hq => by rw [hno q hq]; rfl
    have hF1 : Hid ((l.take (k0 + 1)).filter (fun q => !p q) = l.take k0) := by
      show _ = _
      rw [take_next l k0 hk0, List.filter_append, hF0.out]
      simp [hyes]
    have hneg : ((k0 : Int) == -1) = false := beq_eq_false_iff_ne.2 (by omega)
    have HB1 := Lib.hid hb1
    obtain ⟨g, off, rfl, hg, _, _⟩ := at_pair (HA.out.below hb1) hk0
    obtain ⟨hbg, hfz⟩ := hfz g off rfl
    have HFZ : Hid (∀ o, w1.frozen? ⟨g, o, none⟩ = false) := fun o => by
      have h1 := HA.out (fun e => by have := pv_len_ne l hk0; exact this e)
      obtain ⟨b', off', e, hlt, _⟩ := h1
      injection e with e
      injection e with e1 e2
      subst e1
      rw [HB1.out.frozen (p := ⟨g, o, none⟩) hlt]
      exact hfz o
    have HCL : Hid (∀ t u, (pv l)[t]? = some u → w1.cell? ⟨g, off + t, none⟩ = some u) := fun t u hu => by
      obtain ⟨b', off', e, _, hc⟩ := (HA.out.below HB1.out) (fun e => by have := pv_len_ne l hk0; exact this e)
      injection e with e
      injection e with e1 e2
      subst e1 e2
      exact hc t u hu
    have hs1 := hb1.size
    have HB0 := Lib.hid (hb1.mono hbase)
    clear hno hyes hfz hb1 HI
    have hL : Hid ((pv l).length = n * 2) := by show _ = _; rw [pv_len2, HN.out]
    go_wp2
    go_loopw [5, 6] (fun i j wr => ∃ (a b : Nat) (out : List Par), a < b ∧ b ≤ n ∧ i = .int .i64 a ∧ j = .int .i64 b ∧ out.length = a ∧ Hid (out = (l.take b).filter (fun q => !p q)) ∧ Hid (∀ t u, (pv out)[t]? = some u → wr.cell? ⟨g, off + t, none⟩ = some u) ∧ Hid (∀ t u, b * 2 ≤ t → (pv l)[t]? = some u → wr.cell? ⟨g, off + t, none⟩ = some u) ∧ Hid (∀ t, t < n * 2 → (wr.cell? ⟨g, off + t, none⟩).isSome = true) ∧ Hid (∀ o, wr.frozen? ⟨g, o, none⟩ = false) ∧ g < wr.heap.size ∧ Below base w wr) (fun _ j _ => n - (intOf j).toNat)
    case atStart =>
      refine ⟨k0, k0 + 1, l.take k0, by omega, by omega, rfl, by go_num, by rw [List.length_take]; omega, hF1.out.symm, ?_, fun t u _ hu => HCL.out t u hu, fun t ht => ?_, HFZ.out, hg, HB0.out⟩
      · intro t u hu
        refine HCL.out t u ?_
        have e : l = l.take k0 ++ l.drop k0 := (List.take_append_drop k0 l).symm
        rw [e, pv_app2, List.getElem?_append_left (by rcases Nat.lt_or_ge t (pv (l.take k0)).length with h | h; exact h; rw [List.getElem?_eq_none h] at hu; cases hu)]
        exact hu
      · have ht' : t < (pv l).length := by rw [hL.out]; exact ht
        rw [HCL.out t (pv l)[t] (List.getElem?_eq_getElem ht')]; rfl
    case round =>
      obtain ⟨a, b, out, hab, hbn, rfl, rfl, hol, hout, hlow, hhigh, hthere, hfr, hgw, hbel⟩ := hrel
      by_cases hlt : b < n
      · have hk1 : b < l.length := by have := HN.out; omega
        have hst0 := take_next l b hk1
        have hpa := pv_at2 l b hk1
        obtain ⟨y, hy⟩ : ∃ y, y = l[b] := ⟨_, rfl⟩
        rw [← hy] at hst0 hpa
        have HT := Lib.hid hst0
        clear hy hst0
        obtain ⟨s, z⟩ := y
        have hc0 := hhigh.out (b * 2) _ (Nat.le_refl _) hpa.1
        have hc1 : wr.cell? ⟨g, off + b * 2 + 1, none⟩ = some (.int .i64 z) := by have := hhigh.out (b * 2 + 1) _ (Nat.le_add_right _ _) hpa.2; rwa [← Nat.add_assoc] at this
        obtain ⟨u0, hu0⟩ := Option.isSome_iff_exists.1 (hthere.out (a * 2) (by omega))
        obtain ⟨u1, hu1⟩ := Option.isSome_iff_exists.1 (hthere.out (a * 2 + 1) (by omega))
        rw [← Nat.add_assoc] at hu1
        have hf0 := hfr.out (off + a * 2)
        have hf1 := hfr.out (off + a * 2 + 1)
        have hsz := hbel.size
        have hbl : base ≤ wr.heap.size := by omega
        have hcall := HP.out s z (wr.alloc (.cells #[.string s, .int .i64 z] 68)) (hbel.alloc hbl _)
        have HU0 := Lib.hid hu0
        have HU1 := Lib.hid hu1
        clear hpa
        cases hq : p (s, z) with
        | true =>
          rw [hq] at hcall
          have HC := Lib.hid hcall
          have HQ := Lib.hid hq
          clear hcall hq
          go_wp2_with fail
          refine HC.out.mono ?_
          rintro e w5 ⟨rfl, hb5⟩
          have HB5 := Lib.hid ((below_alloc wr (.cells #[.string s, .int .i64 z] 68)).trans (hb5.mono (by simp)))
          clear hb5
          go_wp2
          go_roundw
          case rel => exact ⟨a, b + 1, out, by omega, by omega, rfl, by go_num, hol, by show _ = _; rw [HT.out, List.filter_append, ← hout.out]; simp [HQ.out], (fun t u hu => (HB5.out.cell (p := ⟨g, off + t, none⟩) hgw).trans (hlow.out t u hu)), (fun t u ht hu => (HB5.out.cell (p := ⟨g, off + t, none⟩) hgw).trans (hhigh.out t u (by omega) hu)), (fun t ht => by rw [HB5.out.cell (p := ⟨g, off + t, none⟩) hgw]; exact hthere.out t ht), (fun o => (HB5.out.frozen (p := ⟨g, o, none⟩) hgw).trans (hfr.out o)), Nat.lt_of_lt_of_le hgw HB5.out.size, hbel.trans (HB5.out.mono hbl)⟩
          case measure => simp [intOf]; omega
        | false =>
          rw [hq] at hcall
          have HC := Lib.hid hcall
          have HQ := Lib.hid hq
          clear hcall hq
          go_wp2_with fail
          refine HC.out.mono ?_
          rintro e w5 ⟨rfl, hb5⟩
          have HB5 := Lib.hid ((below_alloc wr (.cells #[.string s, .int .i64 z] 68)).trans (hb5.mono (by simp)))
          have c0 : w5.cell? ⟨wr.heap.size, 0, none⟩ = some (.string s) := (hb5.cell (p := ⟨wr.heap.size, 0, none⟩) (by simp)).trans (by simp)
          have c1 : w5.cell? ⟨wr.heap.size, 1, none⟩ = some (.int .i64 z) := (hb5.cell (p := ⟨wr.heap.size, 1, none⟩) (by simp)).trans (by simp)
          have d0 : w5.cell? ⟨g, off + a * 2, none⟩ = some u0 := (HB5.out.cell (p := ⟨g, off + a * 2, none⟩) hgw).trans HU0.out
          have d1 : w5.cell? ⟨g, off + a * 2 + 1, none⟩ = some u1 := (HB5.out.cell (p := ⟨g, off + a * 2 + 1, none⟩) hgw).trans HU1.out
          have e0 : w5.frozen? ⟨g, off + a * 2, none⟩ = false := (HB5.out.frozen (p := ⟨g, off + a * 2, none⟩) hgw).trans (hfr.out _)
          have e1 : w5.frozen? ⟨g, off + a * 2 + 1, none⟩ = false := (HB5.out.frozen (p := ⟨g, off + a * 2 + 1, none⟩) hgw).trans (hfr.out _)
          have D0 := Lib.hid d0
          have D1 := Lib.hid d1
          clear hb5 hc0 hc1 hu0 hu1 hf0 hf1
          go_wp2
          go_roundw
          case rel =>
            obtain ⟨t0, t1, tw⟩ := two_cells D0.out D1.out (.string s) (.int .i64 z)
            have hpo : pv (out ++ [(s, z)]) = pv out ++ [.string s, .int .i64 z] := by rw [pv_app2]; rfl
            have hpl : (pv out).length = a * 2 := by rw [pv_len2, hol]
            refine ⟨a + 1, b + 1, out ++ [(s, z)], by omega, by omega, by go_num, by go_num, by simp [hol], ?_, ?_, ?_, ?_, ?_, ?_, ?_⟩
            · show _ = _
              rw [HT.out, List.filter_append, ← hout.out]; simp [HQ.out]
            · intro t u hu
              rw [hpo] at hu
              rcases Nat.lt_or_ge t (a * 2) with h | h
              · rw [List.getElem?_append_left (by omega)] at hu
                rw [tw g (off + t) (.inr (by omega)), HB5.out.cell (p := ⟨g, off + t, none⟩) hgw]
                exact hlow.out t u hu
              · rw [List.getElem?_append_right (by omega), hpl] at hu
                rcases Nat.lt_or_ge t (a * 2 + 1) with h2 | h2
                · obtain rfl : t = a * 2 := by omega
                  simp at hu
                  subst hu
                  exact t0
                · rcases Nat.lt_or_ge t (a * 2 + 2) with h3 | h3
                  · obtain rfl : t = a * 2 + 1 := by omega
                    rw [show a * 2 + 1 - a * 2 = 1 by omega] at hu
                    simp at hu
                    subst hu
                    rw [← Nat.add_assoc]
                    exact t1
                  · rw [List.getElem?_eq_none (by simp; omega)] at hu
                    cases hu
            · intro t u ht hu
              rw [tw g (off + t) (.inr (by omega)), HB5.out.cell (p := ⟨g, off + t, none⟩) hgw]
              exact hhigh.out t u (by omega) hu
            · intro t ht
              by_cases x0 : t = a * 2
              · subst x0; rw [t0]; rfl
              · by_cases x1 : t = a * 2 + 1
                · subst x1; rw [← Nat.add_assoc, t1]; rfl
                · rw [tw g (off + t) (.inr (by omega)), HB5.out.cell (p := ⟨g, off + t, none⟩) hgw]
                  exact hthere.out t ht
            · intro o
              rw [World.frozen?_setCell, World.frozen?_setCell]
              exact (HB5.out.frozen (p := ⟨g, o, none⟩) hgw).trans (hfr.out o)
            · simp
              exact Nat.lt_of_lt_of_le hgw HB5.out.size
            · exact below_set (below_set (hbel.trans (HB5.out.mono hbl)) g _ _ hbg) g _ _ hbg
          case measure => simp [intOf]; omega
      · obtain rfl : b = n := by omega
        have hlc := fun ty => clear_run (P := Tryd.prog) wr 27 68 ty (.agg #[.string { data := #[] }, .int .i64 0]) Tryd.underlying27 (by intro w; go_simp) (by intro v hv; have hv2 : v ∈ ([.string { data := #[] }, .int .i64 0] : List Value) := hv; have hv' : v = .string { data := #[] } ∨ v = .int .i64 0 := (by simpa using hv2); rcases hv' with rfl | rfl <;> rfl) g (off + a * 2) (b - a) (c - a) 2 (by rfl) (fun j hj => by rw [Nat.add_assoc]; exact hthere.out _ (by omega)) (fun j hj => hfr.out _)
        obtain ⟨vs, hvs, hrun⟩ := hlc 0
        have hrun' : ∀ ty, (Builtin.clear_ #[27] ty #[.slice (some ⟨g, off + a * 2, none⟩) (b - a) (c - a)]).run Tryd.prog wr = .ok (.tuple #[]) (wr.setCells g (off + a * 2) vs) := fun ty => hrun
        clear hlc hrun
        have HRel := Lib.hid hlow.out
        have HBF := Lib.hid (Go.below_setCells (b := g) hbg vs (off + a * 2) wr hbel)
        have HOUT : Hid (out = l.filter fun q => !p q) := by show _ = _; have := hout.out; rwa [List.take_of_length_le (by have := HN.out; omega)] at this
        have HAF : Hid (At (wr.setCells g (off + a * 2) vs) (some ⟨g, off, none⟩) (pv out)) := fun _ => ⟨g, off, rfl, by rw [size_set]; exact hgw, fun t u hu => by
          have ht : t < a * 2 := by
            have hpl : (pv out).length = a * 2 := by rw [pv_len2, hol]
            rcases Nat.lt_or_ge t (a * 2) with h | h
            · exact h
            · rw [List.getElem?_eq_none (by omega)] at hu; cases hu
          rw [World.cell?_setCells_out g vs (off + a * 2) wr _ (fun _ _ => .inl (by simp; omega))]
          exact HRel.out t u hu⟩
        clear hlow hhigh hout hthere hfr
        go_wp2
        go_ret
        rw [← HOUT.out, hol]
        exact ⟨_, rfl, HAF.out, HBF.out⟩
set_option maxHeartbeats 4000000 in
set_option maxRecDepth 100000 in
theorem idxMine  (A : Option Addr) (n c base : Nat) (l : List Par) (p : Par → Bool) (w : World) (hn : n = l.length) (hb : n ≤ 100000) (ha : At w A (pv l)) (hbase : base ≤ w.heap.size) (hp : (∀ (s : ByteArray) (z : Int) (W : World), Below base w W → Calls Tryd.prog 46 #[.agg #[.string s, .int .i64 z]] W fun e w' => e = .returned (.bool (p (s, z))) ∧ Below W.heap.size W w')) :
    Calls Tryd.prog 72 #[.slice A n c, .func (.func 46) #[] #[]] w fun e w' => ((e = .returned (.int .i64 (-1)) ∧ ∀ q ∈ l, p q = false) ∨ (∃ k : Nat, ∃ hk : k < l.length, e = .returned (.int .i64 k) ∧ p l[k] = true ∧ ∀ q ∈ l.take k, p q = false)) ∧ Below w.heap.size w w' := by
  have HN := Lib.hid hn
  have HA := Lib.hid ha
  have HP := Lib.hid hp
  clear hn ha hp
  go_enter Tryd.func72, Tryd.ntmps72
  go_wp2
  go_loopw [8] (fun i wr => ∃ k : Nat, k ≤ n ∧ i = .int .i64 k ∧ Below w.heap.size w wr ∧ Hid (∀ q ∈ l.take k, p q = false)) (fun i _ => n - (intOf i).toNat)
  case atStart => exact ⟨0, Nat.zero_le _, rfl, Below.refl _ _, by show ∀ q ∈ _, _; simp⟩
  case round =>
    obtain ⟨k, hk, rfl, hbel, hno⟩ := hrel
    by_cases hlt : k < n
    · have hk1 : k < l.length := by have := HN.out; omega
      obtain ⟨b1, o1, rfl, hb1, hc1, hc1'⟩ := at_pair (HA.out.below hbel) hk1
      have hst0 := take_next l k hk1
      obtain ⟨y, hy⟩ : ∃ y, y = l[k] := ⟨_, rfl⟩
      rw [← hy] at hc1 hc1' hst0
      have HY := Lib.hid hy
      have HT := Lib.hid hst0
      clear hy hst0
      obtain ⟨s, z⟩ := y
      have hcall := HP.out s z wr (hbel.mono hbase)
      cases hq : p (s, z) with
      | true =>
        rw [hq] at hcall
        have HC := Lib.hid hcall
        have HQ := Lib.hid hq
        clear hcall hq
        go_wp2_with fail
        refine HC.out.mono ?_
        rintro e w5 ⟨rfl, hb5⟩
        have HB5 := Lib.hid (below_join hbel hb5)
        clear hb5
        go_wp2
        go_ret
        exact ⟨.inr ⟨k, hk1, rfl, by rw [← HY.out]; exact HQ.out, hno.out⟩, HB5.out⟩
      | false =>
        rw [hq] at hcall
        have HC := Lib.hid hcall
        have HQ := Lib.hid hq
        clear hcall hq
        go_wp2_with fail
        refine HC.out.mono ?_
        rintro e w5 ⟨rfl, hb5⟩
        have HB5 := Lib.hid (below_join hbel hb5)
        clear hb5
        go_wp2
        go_roundw
        case rel => exact ⟨k + 1, by omega, by go_num, HB5.out, by show ∀ q ∈ _, _; rw [HT.out]; intro q hq; rcases List.mem_append.1 hq with h | h; exact hno.out q h; rw [List.mem_singleton.1 h]; exact HQ.out⟩
        case measure => simp [intOf]; omega
    · obtain rfl : k = n := by omega
      go_wp2
      go_ret
      exact ⟨.inl ⟨rfl, by have h := hno.out; rw [List.take_of_length_le (by have := HN.out; omega)] at h; exact h⟩, hbel⟩
set_option maxHeartbeats 8000000 in
set_option maxRecDepth 100000 in
theorem delMine  (A : Option Addr) (n c base : Nat) (l : List Par) (p : Par → Bool) (w : World) (hn : n = l.length) (hb : n ≤ 100000) (hnc : n ≤ c) (hcm : c ≤ maxLen) (ha : At w A (pv l)) (hbase : base ≤ w.heap.size)
    (hfz : ∀ b off, A = some ⟨b, off, none⟩ → base ≤ b ∧ ∀ o, w.frozen? ⟨b, o, none⟩ = false) (hp : (∀ (s : ByteArray) (z : Int) (W : World), Below base w W → Calls Tryd.prog 46 #[.agg #[.string s, .int .i64 z]] W fun e w' => e = .returned (.bool (p (s, z))) ∧ Below W.heap.size W w')) :
    Calls Tryd.prog 42 #[.slice A n c, .func (.func 46) #[] #[]] w fun e w' => ∃ c', e = .returned (.slice A (l.filter fun q => !p q).length c') ∧ At w' A (pv (l.filter fun q => !p q)) ∧ Below base w w' := by
  have HI := Lib.hid (idxMine A n c base l p w hn hb ha hbase hp)
  have HN := Lib.hid hn
  have HA := Lib.hid ha
  have HP := Lib.hid hp
  unfold maxLen at hcm
  clear hn ha hp
  go_enter Tryd.func42, Tryd.ntmps42
  go_wp2_with fail
  refine HI.out.mono ?_
  rintro e w1 ⟨⟨rfl, hno⟩ | ⟨k0, hk0, rfl, hyes, hno⟩, hb1⟩
  · have HX := Lib.hid hno
    have HB1 := Lib.hid hb1
    clear hno hb1 HI
    go_wp2
    go_ret
    have e : (l.filter fun q => !p q) = l := List.filter_eq_self.2 fun q hq => by rw [HX.out q hq]; rfl
    refine ⟨c, by rw [e, ← HN.out]; rfl, by rw [e]; exact HA.out.below HB1.out, HB1.out.mono hbase⟩
  · have hk0n : k0 < n := by have := HN.out; omega
    have hF0 : Hid ((l.take k0).filter (fun q => !p q) = l.take k0) := List.filter_eq_self.2 fun q hq => by rw [hno q hq]; rfl
    have hF1 : Hid ((l.take (k0 + 1)).filter (fun q => !p q) = l.take k0) := by
      show _ = _
      rw [take_next l k0 hk0, List.filter_append, hF0.out]
      simp [hyes]
    have hneg : ((k0 : Int) == -1) = false := beq_eq_false_iff_ne.2 (by omega)
    have HB1 := Lib.hid hb1
    obtain ⟨g, off, rfl, hg, _, _⟩ := at_pair (HA.out.below hb1) hk0
    obtain ⟨hbg, hfz⟩ := hfz g off rfl
    have HFZ : Hid (∀ o, w1.frozen? ⟨g, o, none⟩ = false) := fun o => by
      have h1 := HA.out (fun e => by have := pv_len_ne l hk0; exact this e)
      obtain ⟨b', off', e, hlt, _⟩ := h1
      injection e with e
      injection e with e1 e2
      subst e1
      rw [HB1.out.frozen (p := ⟨g, o, none⟩) hlt]
      exact hfz o
    have HCL : Hid (∀ t u, (pv l)[t]? = some u → w1.cell? ⟨g, off + t, none⟩ = some u) := fun t u hu => by
      obtain ⟨b', off', e, _, hc⟩ := (HA.out.below HB1.out) (fun e => by have := pv_len_ne l hk0; exact this e)
      injection e with e
      injection e with e1 e2
      subst e1 e2
      exact hc t u hu
    have hs1 := hb1.size
    have HB0 := Lib.hid (hb1.mono hbase)
    clear hno hyes hfz hb1 HI
    have hL : Hid ((pv l).length = n * 2) := by show _ = _; rw [pv_len2, HN.out]
    go_wp2
    go_loopw [5, 6] (fun i j wr => ∃ (a b : Nat) (out : List Par), a < b ∧ b ≤ n ∧ i = .int .i64 a ∧ j = .int .i64 b ∧ out.length = a ∧ Hid (out = (l.take b).filter (fun q => !p q)) ∧ Hid (∀ t u, (pv out)[t]? = some u → wr.cell? ⟨g, off + t, none⟩ = some u) ∧ Hid (∀ t u, b * 2 ≤ t → (pv l)[t]? = some u → wr.cell? ⟨g, off + t, none⟩ = some u) ∧ Hid (∀ t, t < n * 2 → (wr.cell? ⟨g, off + t, none⟩).isSome = true) ∧ Hid (∀ o, wr.frozen? ⟨g, o, none⟩ = false) ∧ g < wr.heap.size ∧ Below base w wr) (fun _ j _ => n - (intOf j).toNat)
    case atStart =>
      refine ⟨k0, k0 + 1, l.take k0, by omega, by omega, rfl, by go_num, by rw [List.length_take]; omega, hF1.out.symm, ?_, fun t u _ hu => HCL.out t u hu, fun t ht => ?_, HFZ.out, hg, HB0.out⟩
      · intro t u hu
        refine HCL.out t u ?_
        have e : l = l.take k0 ++ l.drop k0 := (List.take_append_drop k0 l).symm
        rw [e, pv_app2, List.getElem?_append_left (by rcases Nat.lt_or_ge t (pv (l.take k0)).length with h | h; exact h; rw [List.getElem?_eq_none h] at hu; cases hu)]
        exact hu
      · have ht' : t < (pv l).length := by rw [hL.out]; exact ht
        rw [HCL.out t (pv l)[t] (List.getElem?_eq_getElem ht')]; rfl
    case round =>
      obtain ⟨a, b, out, hab, hbn, rfl, rfl, hol, hout, hlow, hhigh, hthere, hfr, hgw, hbel⟩ := hrel
      by_cases hlt : b < n
      · have hk1 : b < l.length := by have := HN.out; omega
        have hst0 := take_next l b hk1
        have hpa := pv_at2 l b hk1
        obtain ⟨y, hy⟩ : ∃ y, y = l[b] := ⟨_, rfl⟩
        rw [← hy] at hst0 hpa
        have HT := Lib.hid hst0
        clear hy hst0
        obtain ⟨s, z⟩ := y
        have hc0 := hhigh.out (b * 2) _ (Nat.le_refl _) hpa.1
        have hc1 : wr.cell? ⟨g, off + b * 2 + 1, none⟩ = some (.int .i64 z) := by have := hhigh.out (b * 2 + 1) _ (Nat.le_add_right _ _) hpa.2; rwa [← Nat.add_assoc] at this
        obtain ⟨u0, hu0⟩ := Option.isSome_iff_exists.1 (hthere.out (a * 2) (by omega))
        obtain ⟨u1, hu1⟩ := Option.isSome_iff_exists.1 (hthere.out (a * 2 + 1) (by omega))
        rw [← Nat.add_assoc] at hu1
        have hf0 := hfr.out (off + a * 2)
        have hf1 := hfr.out (off + a * 2 + 1)
        have hsz := hbel.size
        have hbl : base ≤ wr.heap.size := by omega
        have hcall := HP.out s z (wr.alloc (.cells #[.string s, .int .i64 z] 68)) (hbel.alloc hbl _)
        have HU0 := Lib.hid hu0
        have HU1 := Lib.hid hu1
        clear hpa
        cases hq : p (s, z) with
        | true =>
          rw [hq] at hcall
          have HC := Lib.hid hcall
          have HQ := Lib.hid hq
          clear hcall hq
          go_wp2_with fail
          refine HC.out.mono ?_
          rintro e w5 ⟨rfl, hb5⟩
          have HB5 := Lib.hid ((below_alloc wr (.cells #[.string s, .int .i64 z] 68)).trans (hb5.mono (by simp)))
          clear hb5
          go_wp2
          go_roundw
          case rel => exact ⟨a, b + 1, out, by omega, by omega, rfl, by go_num, hol, by show _ = _; rw [HT.out, List.filter_append, ← hout.out]; simp [HQ.out], (fun t u hu => (HB5.out.cell (p := ⟨g, off + t, none⟩) hgw).trans (hlow.out t u hu)), (fun t u ht hu => (HB5.out.cell (p := ⟨g, off + t, none⟩) hgw).trans (hhigh.out t u (by omega) hu)), (fun t ht => by rw [HB5.out.cell (p := ⟨g, off + t, none⟩) hgw]; exact hthere.out t ht), (fun o => (HB5.out.frozen (p := ⟨g, o, none⟩) hgw).trans (hfr.out o)), Nat.lt_of_lt_of_le hgw HB5.out.size, hbel.trans (HB5.out.mono hbl)⟩
          case measure => simp [intOf]; omega
        | false =>
          rw [hq] at hcall
          have HC := Lib.hid hcall
          have HQ := Lib.hid hq
          clear hcall hq
          go_wp2_with fail
          refine HC.out.mono ?_
          rintro e w5 ⟨rfl, hb5⟩
          have HB5 := Lib.hid ((below_alloc wr (.cells #[.string s, .int .i64 z] 68)).trans (hb5.mono (by simp)))
          have c0 : w5.cell? ⟨wr.heap.size, 0, none⟩ = some (.string s) := (hb5.cell (p := ⟨wr.heap.size, 0, none⟩) (by simp)).trans (by simp)
          have c1 : w5.cell? ⟨wr.heap.size, 1, none⟩ = some (.int .i64 z) := (hb5.cell (p := ⟨wr.heap.size, 1, none⟩) (by simp)).trans (by simp)
          have d0 : w5.cell? ⟨g, off + a * 2, none⟩ = some u0 := (HB5.out.cell (p := ⟨g, off + a * 2, none⟩) hgw).trans HU0.out
          have d1 : w5.cell? ⟨g, off + a * 2 + 1, none⟩ = some u1 := (HB5.out.cell (p := ⟨g, off + a * 2 + 1, none⟩) hgw).trans HU1.out
          have e0 : w5.frozen? ⟨g, off + a * 2, none⟩ = false := (HB5.out.frozen (p := ⟨g, off + a * 2, none⟩) hgw).trans (hfr.out _)
          have e1 : w5.frozen? ⟨g, off + a * 2 + 1, none⟩ = false := (HB5.out.frozen (p := ⟨g, off + a * 2 + 1, none⟩) hgw).trans (hfr.out _)
          have D0 := Lib.hid d0
          have D1 := Lib.hid d1
          clear hb5 hc0 hc1 hu0 hu1 hf0 hf1
          go_wp2
          go_roundw
          case rel =>
            obtain ⟨t0, t1, tw⟩ := two_cells D0.out D1.out (.string s) (.int .i64 z)
            have hpo : pv (out ++ [(s, z)]) = pv out ++ [.string s, .int .i64 z] := by rw [pv_app2]; rfl
            have hpl : (pv out).length = a * 2 := by rw [pv_len2, hol]
            refine ⟨a + 1, b + 1, out ++ [(s, z)], by omega, by omega, by go_num, by go_num, by simp [hol], ?_, ?_, ?_, ?_, ?_, ?_, ?_⟩
            · show _ = _
              rw [HT.out, List.filter_append, ← hout.out]; simp [HQ.out]
            · intro t u hu
              rw [hpo] at hu
              rcases Nat.lt_or_ge t (a * 2) with h | h
              · rw [List.getElem?_append_left (by omega)] at hu
                rw [tw g (off + t) (.inr (by omega)), HB5.out.cell (p := ⟨g, off + t, none⟩) hgw]
                exact hlow.out t u hu
              · rw [List.getElem?_append_right (by omega), hpl] at hu
                rcases Nat.lt_or_ge t (a * 2 + 1) with h2 | h2
                · obtain rfl : t = a * 2 := by omega
                  simp at hu
                  subst hu
                  exact t0
                · rcases Nat.lt_or_ge t (a * 2 + 2) with h3 | h3
                  · obtain rfl : t = a * 2 + 1 := by omega
                    rw [show a * 2 + 1 - a * 2 = 1 by omega] at hu
                    simp at hu
                    subst hu
                    rw [← Nat.add_assoc]
                    exact t1
                  · rw [List.getElem?_eq_none (by simp; omega)] at hu
                    cases hu
            · intro t u ht hu
              rw [tw g (off + t) (.inr (by omega)), HB5.out.cell (p := ⟨g, off + t, none⟩) hgw]
              exact hhigh.out t u (by omega) hu
            · intro t ht
              by_cases x0 : t = a * 2
              · subst x0; rw [t0]; rfl
              · by_cases x1 : t = a * 2 + 1
                · subst x1; rw [← Nat.add_assoc, t1]; rfl
                · rw [tw g (off + t) (.inr (by omega)), HB5.out.cell (p := ⟨g, off + t, none⟩) hgw]
                  exact hthere.out t ht
            · intro o
              rw [World.frozen?_setCell, World.frozen?_setCell]
              exact (HB5.out.frozen (p := ⟨g, o, none⟩) hgw).trans (hfr.out o)
            · simp
              exact Nat.lt_of_lt_of_le hgw HB5.out.size
            · exact below_set (below_set (hbel.trans (HB5.out.mono hbl)) g _ _ hbg) g _ _ hbg
          case measure => simp [intOf]; omega
      · obtain rfl : b = n := by omega
        have hlc := fun ty => clear_run (P := Tryd.prog) wr 27 68 ty (.agg #[.string { data := #[] }, .int .i64 0]) Tryd.underlying27 (by intro w; go_simp) (by intro v hv; have hv2 : v ∈ ([.string { data := #[] }, .int .i64 0] : List Value) := hv; have hv' : v = .string { data := #[] } ∨ v = .int .i64 0 := (by simpa using hv2); rcases hv' with rfl | rfl <;> rfl) g (off + a * 2) (b - a) (c - a) 2 (by rfl) (fun j hj => by rw [Nat.add_assoc]; exact hthere.out _ (by omega)) (fun j hj => hfr.out _)
        obtain ⟨vs, hvs, hrun⟩ := hlc 0
        have hrun' : ∀ ty, (Builtin.clear_ #[27] ty #[.slice (some ⟨g, off + a * 2, none⟩) (b - a) (c - a)]).run Tryd.prog wr = .ok (.tuple #[]) (wr.setCells g (off + a * 2) vs) := fun ty => hrun
        clear hlc hrun
        have HRel := Lib.hid hlow.out
        have HBF := Lib.hid (Go.below_setCells (b := g) hbg vs (off + a * 2) wr hbel)
        have HOUT : Hid (out = l.filter fun q => !p q) := by show _ = _; have := hout.out; rwa [List.take_of_length_le (by have := HN.out; omega)] at this
        have HAF : Hid (At (wr.setCells g (off + a * 2) vs) (some ⟨g, off, none⟩) (pv out)) := fun _ => ⟨g, off, rfl, by rw [size_set]; exact hgw, fun t u hu => by
          have ht : t < a * 2 := by
            have hpl : (pv out).length = a * 2 := by rw [pv_len2, hol]
            rcases Nat.lt_or_ge t (a * 2) with h | h
            · exact h
            · rw [List.getElem?_eq_none (by omega)] at hu; cases hu
          rw [World.cell?_setCells_out g vs (off + a * 2) wr _ (fun _ _ => .inl (by simp; omega))]
          exact HRel.out t u hu⟩
        clear hlow hhigh hout hthere hfr
        go_wp2
        go_ret
        rw [← HOUT.out, hol]
        exact ⟨_, rfl, HAF.out, HBF.out⟩
end Go.Proofs.YtibcfmfihcgijaaDoor
/- slices.IndexFunc and slices.DeleteFunc at pairs of texts, by Drop's closure and by Mine's (written by gen_del.py). -/
namespace Go.Proofs.YtibcfmfihcgijaaDoor
open Go.RowKit M
theorem pvS_len2 (l : List ParS) : (pvS l).length = l.length * 2 := pv_lenS l
theorem pvS_app2 (a b : List ParS) : pvS (a ++ b) = pvS a ++ pvS b := pv_appS a b
theorem pvS_len_ne (l : List ParS) {k : Nat} (hk : k < l.length) : pvS l ≠ [] := fun e => by have := pvS_len2 l; rw [e] at this; simp at this; omega
theorem pvS_at2 (l : List ParS) (k : Nat) (h : k < l.length) : (pvS l)[k * 2]? = some (.string l[k].1) ∧ (pvS l)[k * 2 + 1]? = some (.string l[k].2) :=
  ⟨St.flat_at (enc := encPS) encP_lenS l k h 0 (by omega), St.flat_at (enc := encPS) encP_lenS l k h 1 (by omega)⟩
set_option maxHeartbeats 4000000 in
set_option maxRecDepth 100000 in
theorem idxDropS (B : Nat) (A : Option Addr) (n c base : Nat) (l : List ParS) (p : ParS → Bool) (w : World) (hn : n = l.length) (hb : n ≤ 100000) (ha : At w A (pvS l)) (hbase : base ≤ w.heap.size) (hp : (∀ (s : ByteArray) (z : ByteArray) (W : World), Below base w W → Calls Tryd.prog 45 #[.agg #[.string s, .string z], .pointer (some ⟨B, 0, none⟩)] W fun e w' => e = .returned (.bool (p (s, z))) ∧ Below W.heap.size W w')) :
    Calls Tryd.prog 73 #[.slice A n c, .func (.func 45) #[] #[.pointer (some ⟨B, 0, none⟩)]] w fun e w' => ((e = .returned (.int .i64 (-1)) ∧ ∀ q ∈ l, p q = false) ∨ (∃ k : Nat, ∃ hk : k < l.length, e = .returned (.int .i64 k) ∧ p l[k] = true ∧ ∀ q ∈ l.take k, p q = false)) ∧ Below w.heap.size w w' := by
  have HN := Lib.hid hn
  have HA := Lib.hid ha
  have HP := Lib.hid hp
  clear hn ha hp
  go_enter Tryd.func73, Tryd.ntmps73
  go_wp2
  go_loopw [8] (fun i wr => ∃ k : Nat, k ≤ n ∧ i = .int .i64 k ∧ Below w.heap.size w wr ∧ Hid (∀ q ∈ l.take k, p q = false)) (fun i _ => n - (intOf i).toNat)
  case atStart => exact ⟨0, Nat.zero_le _, rfl, Below.refl _ _, by show ∀ q ∈ _, _; simp⟩
  case round =>
    obtain ⟨k, hk, rfl, hbel, hno⟩ := hrel
    by_cases hlt : k < n
    · have hk1 : k < l.length := by have := HN.out; omega
      obtain ⟨b1, o1, rfl, hb1, hc1, hc1'⟩ := at_pairS (HA.out.below hbel) hk1
      have hst0 := take_next l k hk1
      obtain ⟨y, hy⟩ : ∃ y, y = l[k] := ⟨_, rfl⟩
      rw [← hy] at hc1 hc1' hst0
      have HY := Lib.hid hy
      have HT := Lib.hid hst0
      clear hy hst0
      obtain ⟨s, z⟩ := y
      have hcall := HP.out s z wr (hbel.mono hbase)
      cases hq : p (s, z) with
      | true =>
        rw [hq] at hcall
        have HC := Lib.hid hcall
        have HQ := Lib.hid hq
        clear hcall hq
        go_wp2_with fail
        refine HC.out.mono ?_
        rintro e w5 ⟨rfl, hb5⟩
        have HB5 := Lib.hid (below_join hbel hb5)
        clear hb5
        go_wp2
        go_ret
        exact ⟨.inr ⟨k, hk1, rfl, by rw [← HY.out]; exact HQ.out, hno.out⟩, HB5.out⟩
      | false =>
        rw [hq] at hcall
        have HC := Lib.hid hcall
        have HQ := Lib.hid hq
        clear hcall hq
        go_wp2_with fail
        refine HC.out.mono ?_
        rintro e w5 ⟨rfl, hb5⟩
        have HB5 := Lib.hid (below_join hbel hb5)
        clear hb5
        go_wp2
        go_roundw
        case rel => exact ⟨k + 1, by omega, by go_num, HB5.out, by show ∀ q ∈ _, _; rw [HT.out]; intro q hq; rcases List.mem_append.1 hq with h | h; exact hno.out q h; rw [List.mem_singleton.1 h]; exact HQ.out⟩
        case measure => simp [intOf]; omega
    · obtain rfl : k = n := by omega
      go_wp2
      go_ret
      exact ⟨.inl ⟨rfl, by have h := hno.out; rw [List.take_of_length_le (by have := HN.out; omega)] at h; exact h⟩, hbel⟩
set_option maxHeartbeats 8000000 in
set_option maxRecDepth 100000 in
theorem delDropS (B : Nat) (A : Option Addr) (n c base : Nat) (l : List ParS) (p : ParS → Bool) (w : World) (hn : n = l.length) (hb : n ≤ 100000) (hnc : n ≤ c) (hcm : c ≤ maxLen) (ha : At w A (pvS l)) (hbase : base ≤ w.heap.size)
    (hfz : ∀ b off, A = some ⟨b, off, none⟩ → base ≤ b ∧ ∀ o, w.frozen? ⟨b, o, none⟩ = false) (hp : (∀ (s : ByteArray) (z : ByteArray) (W : World), Below base w W → Calls Tryd.prog 45 #[.agg #[.string s, .string z], .pointer (some ⟨B, 0, none⟩)] W fun e w' => e = .returned (.bool (p (s, z))) ∧ Below W.heap.size W w')) :
    Calls Tryd.prog 44 #[.slice A n c, .func (.func 45) #[] #[.pointer (some ⟨B, 0, none⟩)]] w fun e w' => ∃ c', e = .returned (.slice A (l.filter fun q => !p q).length c') ∧ At w' A (pvS (l.filter fun q => !p q)) ∧ Below base w w' := by
  have HI := Lib.hid (idxDropS B A n c base l p w hn hb ha hbase hp)
  have HN := Lib.hid hn
  have HA := Lib.hid ha
  have HP := Lib.hid hp
  unfold maxLen at hcm
  clear hn ha hp
  go_enter Tryd.func44, Tryd.ntmps44
  go_wp2_with fail
  refine HI.out.mono ?_
  rintro e w1 ⟨⟨rfl, hno⟩ | ⟨k0, hk0, rfl, hyes, hno⟩, hb1⟩
  · have HX := Lib.hid hno
    have HB1 := Lib.hid hb1
    clear hno hb1 HI
    go_wp2
    go_ret
    have e : (l.filter fun q => !p q) = l := List.filter_eq_self.2 fun q hq => by rw [HX.out q hq]; rfl
    refine ⟨c, by rw [e, ← HN.out]; rfl, by rw [e]; exact HA.out.below HB1.out, HB1.out.mono hbase⟩
  · have hk0n : k0 < n := by have := HN.out; omega
    have hF0 : Hid ((l.take k0).filter (fun q => !p q) = l.take k0) := List.filter_eq_self.2 fun q hq => by rw [hno q hq]; rfl
    have hF1 : Hid ((l.take (k0 + 1)).filter (fun q => !p q) = l.take k0) := by
      show _ = _
      rw [take_next l k0 hk0, List.filter_append, hF0.out]
      simp [hyes]
    have hneg : ((k0 : Int) == -1) = false := beq_eq_false_iff_ne.2 (by omega)
    have HB1 := Lib.hid hb1
    obtain ⟨g, off, rfl, hg, _, _⟩ := at_pairS (HA.out.below hb1) hk0
    obtain ⟨hbg, hfz⟩ := hfz g off rfl
    have HFZ : Hid (∀ o, w1.frozen? ⟨g, o, none⟩ = false) := fun o => by
      have h1 := HA.out (fun e => by have := pvS_len_ne l hk0; exact this e)
      obtain ⟨b', off', e, hlt, _⟩ := h1
      injection e with e
      injection e with e1 e2
      subst e1
      rw [HB1.out.frozen (p := ⟨g, o, none⟩) hlt]
      exact hfz o
    have HCL : Hid (∀ t u, (pvS l)[t]? = some u → w1.cell? ⟨g, off + t, none⟩ = some u) := fun t u hu => by
      obtain ⟨b', off', e, _, hc⟩ := (HA.out.below HB1.out) (fun e => by have := pvS_len_ne l hk0; exact this e)
      injection e with e
      injection e with e1 e2
      subst e1 e2
      exact hc t u hu
    have hs1 := hb1.size
    have HB0 := Lib.hid (hb1.mono hbase)
    clear hno hyes hfz hb1 HI
    have hL : Hid ((pvS l).length = n * 2) := by show _ = _; rw [pvS_len2, HN.out]
    go_wp2
    go_loopw [5, 6] (fun i j wr => ∃ (a b : Nat) (out : List ParS), a < b ∧ b ≤ n ∧ i = .int .i64 a ∧ j = .int .i64 b ∧ out.length = a ∧ Hid (out = (l.take b).filter (fun q => !p q)) ∧ Hid (∀ t u, (pvS out)[t]? = some u → wr.cell? ⟨g, off + t, none⟩ = some u) ∧ Hid (∀ t u, b * 2 ≤ t → (pvS l)[t]? = some u → wr.cell? ⟨g, off + t, none⟩ = some u) ∧ Hid (∀ t, t < n * 2 → (wr.cell? ⟨g, off + t, none⟩).isSome = true) ∧ Hid (∀ o, wr.frozen? ⟨g, o, none⟩ = false) ∧ g < wr.heap.size ∧ Below base w wr) (fun _ j _ => n - (intOf j).toNat)
    case atStart =>
      refine ⟨k0, k0 + 1, l.take k0, by omega, by omega, rfl, by go_num, by rw [List.length_take]; omega, hF1.out.symm, ?_, fun t u _ hu => HCL.out t u hu, fun t ht => ?_, HFZ.out, hg, HB0.out⟩
      · intro t u hu
        refine HCL.out t u ?_
        have e : l = l.take k0 ++ l.drop k0 := (List.take_append_drop k0 l).symm
        rw [e, pvS_app2, List.getElem?_append_left (by rcases Nat.lt_or_ge t (pvS (l.take k0)).length with h | h; exact h; rw [List.getElem?_eq_none h] at hu; cases hu)]
        exact hu
      · have ht' : t < (pvS l).length := by rw [hL.out]; exact ht
        rw [HCL.out t (pvS l)[t] (List.getElem?_eq_getElem ht')]; rfl
    case round =>
      obtain ⟨a, b, out, hab, hbn, rfl, rfl, hol, hout, hlow, hhigh, hthere, hfr, hgw, hbel⟩ := hrel
      by_cases hlt : b < n
      · have hk1 : b < l.length := by have := HN.out; omega
        have hst0 := take_next l b hk1
        have hpa := pvS_at2 l b hk1
        obtain ⟨y, hy⟩ : ∃ y, y = l[b] := ⟨_, rfl⟩
        rw [← hy] at hst0 hpa
        have HT := Lib.hid hst0
        clear hy hst0
        obtain ⟨s, z⟩ := y
        have hc0 := hhigh.out (b * 2) _ (Nat.le_refl _) hpa.1
        have hc1 : wr.cell? ⟨g, off + b * 2 + 1, none⟩ = some (.string z) := by have := hhigh.out (b * 2 + 1) _ (Nat.le_add_right _ _) hpa.2; rwa [← Nat.add_assoc] at this
        obtain ⟨u0, hu0⟩ := Option.isSome_iff_exists.1 (hthere.out (a * 2) (by omega))
        obtain ⟨u1, hu1⟩ := Option.isSome_iff_exists.1 (hthere.out (a * 2 + 1) (by omega))
        rw [← Nat.add_assoc] at hu1
        have hf0 := hfr.out (off + a * 2)
        have hf1 := hfr.out (off + a * 2 + 1)
        have hsz := hbel.size
        have hbl : base ≤ wr.heap.size := by omega
        have hcall := HP.out s z (wr.alloc (.cells #[.string s, .string z] 70)) (hbel.alloc hbl _)
        have HU0 := Lib.hid hu0
        have HU1 := Lib.hid hu1
        clear hpa
        cases hq : p (s, z) with
        | true =>
          rw [hq] at hcall
          have HC := Lib.hid hcall
          have HQ := Lib.hid hq
          clear hcall hq
          go_wp2_with fail
          refine HC.out.mono ?_
          rintro e w5 ⟨rfl, hb5⟩
          have HB5 := Lib.hid ((below_alloc wr (.cells #[.string s, .string z] 70)).trans (hb5.mono (by simp)))
          clear hb5
          go_wp2
          go_roundw
          case rel => exact ⟨a, b + 1, out, by omega, by omega, rfl, by go_num, hol, by show _ = _; rw [HT.out, List.filter_append, ← hout.out]; simp [HQ.out], (fun t u hu => (HB5.out.cell (p := ⟨g, off + t, none⟩) hgw).trans (hlow.out t u hu)), (fun t u ht hu => (HB5.out.cell (p := ⟨g, off + t, none⟩) hgw).trans (hhigh.out t u (by omega) hu)), (fun t ht => by rw [HB5.out.cell (p := ⟨g, off + t, none⟩) hgw]; exact hthere.out t ht), (fun o => (HB5.out.frozen (p := ⟨g, o, none⟩) hgw).trans (hfr.out o)), Nat.lt_of_lt_of_le hgw HB5.out.size, hbel.trans (HB5.out.mono hbl)⟩
          case measure => simp [intOf]; omega
        | false =>
          rw [hq] at hcall
          have HC := Lib.hid hcall
          have HQ := Lib.hid hq
          clear hcall hq
          go_wp2_with fail
          refine HC.out.mono ?_
          rintro e w5 ⟨rfl, hb5⟩
          have HB5 := Lib.hid ((below_alloc wr (.cells #[.string s, .string z] 70)).trans (hb5.mono (by simp)))
          have c0 : w5.cell? ⟨wr.heap.size, 0, none⟩ = some (.string s) := (hb5.cell (p := ⟨wr.heap.size, 0, none⟩) (by simp)).trans (by simp)
          have c1 : w5.cell? ⟨wr.heap.size, 1, none⟩ = some (.string z) := (hb5.cell (p := ⟨wr.heap.size, 1, none⟩) (by simp)).trans (by simp)
          have d0 : w5.cell? ⟨g, off + a * 2, none⟩ = some u0 := (HB5.out.cell (p := ⟨g, off + a * 2, none⟩) hgw).trans HU0.out
          have d1 : w5.cell? ⟨g, off + a * 2 + 1, none⟩ = some u1 := (HB5.out.cell (p := ⟨g, off + a * 2 + 1, none⟩) hgw).trans HU1.out
          have e0 : w5.frozen? ⟨g, off + a * 2, none⟩ = false := (HB5.out.frozen (p := ⟨g, off + a * 2, none⟩) hgw).trans (hfr.out _)
          have e1 : w5.frozen? ⟨g, off + a * 2 + 1, none⟩ = false := (HB5.out.frozen (p := ⟨g, off + a * 2 + 1, none⟩) hgw).trans (hfr.out _)
          have D0 := Lib.hid d0
          have D1 := Lib.hid d1
          clear hb5 hc0 hc1 hu0 hu1 hf0 hf1
          go_wp2
          go_roundw
          case rel =>
            obtain ⟨t0, t1, tw⟩ := two_cells D0.out D1.out (.string s) (.string z)
            have hpo : pvS (out ++ [(s, z)]) = pvS out ++ [.string s, .string z] := by rw [pvS_app2]; rfl
            have hpl : (pvS out).length = a * 2 := by rw [pvS_len2, hol]
            refine ⟨a + 1, b + 1, out ++ [(s, z)], by omega, by omega, by go_num, by go_num, by simp [hol], ?_, ?_, ?_, ?_, ?_, ?_, ?_⟩
            · show _ = _
              rw [HT.out, List.filter_append, ← hout.out]; simp [HQ.out]
            · intro t u hu
              rw [hpo] at hu
              rcases Nat.lt_or_ge t (a * 2) with h | h
              · rw [List.getElem?_append_left (by omega)] at hu
                rw [tw g (off + t) (.inr (by omega)), HB5.out.cell (p := ⟨g, off + t, none⟩) hgw]
                exact hlow.out t u hu
              · rw [List.getElem?_append_right (by omega), hpl] at hu
                rcases Nat.lt_or_ge t (a * 2 + 1) with h2 | h2
                · obtain rfl : t = a * 2 := by omega
                  simp at hu
                  subst hu
                  exact t0
                · rcases Nat.lt_or_ge t (a * 2 + 2) with h3 | h3
                  · obtain rfl : t = a * 2 + 1 := by omega
                    rw [show a * 2 + 1 - a * 2 = 1 by omega] at hu
                    simp at hu
                    subst hu
                    rw [← Nat.add_assoc]
                    exact t1
                  · rw [List.getElem?_eq_none (by simp; omega)] at hu
                    cases hu
            · intro t u ht hu
              rw [tw g (off + t) (.inr (by omega)), HB5.out.cell (p := ⟨g, off + t, none⟩) hgw]
              exact hhigh.out t u (by omega) hu
            · intro t ht
              by_cases x0 : t = a * 2
              · subst x0; rw [t0]; rfl
              · by_cases x1 : t = a * 2 + 1
                · subst x1; rw [← Nat.add_assoc, t1]; rfl
                · rw [tw g (off + t) (.inr (by omega)), HB5.out.cell (p := ⟨g, off + t, none⟩) hgw]
                  exact hthere.out t ht
            · intro o
              rw [World.frozen?_setCell, World.frozen?_setCell]
              exact (HB5.out.frozen (p := ⟨g, o, none⟩) hgw).trans (hfr.out o)
            · simp
              exact Nat.lt_of_lt_of_le hgw HB5.out.size
            · exact below_set (below_set (hbel.trans (HB5.out.mono hbl)) g _ _ hbg) g _ _ hbg
          case measure => simp [intOf]; omega
      · obtain rfl : b = n := by omega
        have hlc := fun ty => clear_run (P := Tryd.prog) wr 30 70 ty (.agg #[.string { data := #[] }, .string { data := #[] }]) Tryd.underlying30 (by intro w; go_simp) (by intro v hv; have hv2 : v ∈ ([.string { data := #[] }, .string { data := #[] }] : List Value) := hv; have hv' : v = .string { data := #[] } ∨ v = .string { data := #[] } := (by simpa using hv2); rcases hv' with rfl | rfl <;> rfl) g (off + a * 2) (b - a) (c - a) 2 (by rfl) (fun j hj => by rw [Nat.add_assoc]; exact hthere.out _ (by omega)) (fun j hj => hfr.out _)
        obtain ⟨vs, hvs, hrun⟩ := hlc 0
        have hrun' : ∀ ty, (Builtin.clear_ #[30] ty #[.slice (some ⟨g, off + a * 2, none⟩) (b - a) (c - a)]).run Tryd.prog wr = .ok (.tuple #[]) (wr.setCells g (off + a * 2) vs) := fun ty => hrun
        clear hlc hrun
        have HRel := Lib.hid hlow.out
        have HBF := Lib.hid (Go.below_setCells (b := g) hbg vs (off + a * 2) wr hbel)
        have HOUT : Hid (out = l.filter fun q => !p q) := by show _ = _; have := hout.out; rwa [List.take_of_length_le (by have := HN.out; omega)] at this
        have HAF : Hid (At (wr.setCells g (off + a * 2) vs) (some ⟨g, off, none⟩) (pvS out)) := fun _ => ⟨g, off, rfl, by rw [size_set]; exact hgw, fun t u hu => by
          have ht : t < a * 2 := by
            have hpl : (pvS out).length = a * 2 := by rw [pvS_len2, hol]
            rcases Nat.lt_or_ge t (a * 2) with h | h
            · exact h
            · rw [List.getElem?_eq_none (by omega)] at hu; cases hu
          rw [World.cell?_setCells_out g vs (off + a * 2) wr _ (fun _ _ => .inl (by simp; omega))]
          exact HRel.out t u hu⟩
        clear hlow hhigh hout hthere hfr
        go_wp2
        go_ret
        rw [← HOUT.out, hol]
        exact ⟨_, rfl, HAF.out, HBF.out⟩
set_option maxHeartbeats 4000000 in
set_option maxRecDepth 100000 in
theorem idxMineS  (A : Option Addr) (n c base : Nat) (l : List ParS) (p : ParS → Bool) (w : World) (hn : n = l.length) (hb : n ≤ 100000) (ha : At w A (pvS l)) (hbase : base ≤ w.heap.size) (hp : (∀ (s : ByteArray) (z : ByteArray) (W : World), Below base w W → Calls Tryd.prog 48 #[.agg #[.string s, .string z]] W fun e w' => e = .returned (.bool (p (s, z))) ∧ Below W.heap.size W w')) :
    Calls Tryd.prog 73 #[.slice A n c, .func (.func 48) #[] #[]] w fun e w' => ((e = .returned (.int .i64 (-1)) ∧ ∀ q ∈ l, p q = false) ∨ (∃ k : Nat, ∃ hk : k < l.length, e = .returned (.int .i64 k) ∧ p l[k] = true ∧ ∀ q ∈ l.take k, p q = false)) ∧ Below w.heap.size w w' := by
  have HN := Lib.hid hn
  have HA := Lib.hid ha
  have HP := Lib.hid hp
  clear hn ha hp
  go_enter Tryd.func73, Tryd.ntmps73
  go_wp2
  go_loopw [8] (fun i wr => ∃ k : Nat, k ≤ n ∧ i = .int .i64 k ∧ Below w.heap.size w wr ∧ Hid (∀ q ∈ l.take k, p q = false)) (fun i _ => n - (intOf i).toNat)
  case atStart => exact ⟨0, Nat.zero_le _, rfl, Below.refl _ _, by show ∀ q ∈ _, _; simp⟩
  case round =>
    obtain ⟨k, hk, rfl, hbel, hno⟩ := hrel
    by_cases hlt : k < n
    · have hk1 : k < l.length := by have := HN.out; omega
      obtain ⟨b1, o1, rfl, hb1, hc1, hc1'⟩ := at_pairS (HA.out.below hbel) hk1
      have hst0 := take_next l k hk1
      obtain ⟨y, hy⟩ : ∃ y, y = l[k] := ⟨_, rfl⟩
      rw [← hy] at hc1 hc1' hst0
      have HY := Lib.hid hy
      have HT := Lib.hid hst0
      clear hy hst0
      obtain ⟨s, z⟩ := y
      have hcall := HP.out s z wr (hbel.mono hbase)
      cases hq : p (s, z) with
      | true =>
        rw [hq] at hcall
        have HC := Lib.hid hcall
        have HQ := Lib.hid hq
        clear hcall hq
        go_wp2_with fail
        refine HC.out.mono ?_
        rintro e w5 ⟨rfl, hb5⟩
        have HB5 := Lib.hid (below_join hbel hb5)
        clear hb5
        go_wp2
        go_ret
        exact ⟨.inr ⟨k, hk1, rfl, by rw [← HY.out]; exact HQ.out, hno.out⟩, HB5.out⟩
      | false =>
        rw [hq] at hcall
        have HC := Lib.hid hcall
        have HQ := Lib.hid hq
        clear hcall hq
        go_wp2_with fail
        refine HC.out.mono ?_
        rintro e w5 ⟨rfl, hb5⟩
        have HB5 := Lib.hid (below_join hbel hb5)
        clear hb5
        go_wp2
        go_roundw
        case rel => exact ⟨k + 1, by omega, by go_num, HB5.out, by show ∀ q ∈ _, _; rw [HT.out]; intro q hq; rcases List.mem_append.1 hq with h | h; exact hno.out q h; rw [List.mem_singleton.1 h]; exact HQ.out⟩
        case measure => simp [intOf]; omega
    · obtain rfl : k = n := by omega
      go_wp2
      go_ret
      exact ⟨.inl ⟨rfl, by have h := hno.out; rw [List.take_of_length_le (by have := HN.out; omega)] at h; exact h⟩, hbel⟩
set_option maxHeartbeats 8000000 in
set_option maxRecDepth 100000 in
theorem delMineS  (A : Option Addr) (n c base : Nat) (l : List ParS) (p : ParS → Bool) (w : World) (hn : n = l.length) (hb : n ≤ 100000) (hnc : n ≤ c) (hcm : c ≤ maxLen) (ha : At w A (pvS l)) (hbase : base ≤ w.heap.size)
    (hfz : ∀ b off, A = some ⟨b, off, none⟩ → base ≤ b ∧ ∀ o, w.frozen? ⟨b, o, none⟩ = false) (hp : (∀ (s : ByteArray) (z : ByteArray) (W : World), Below base w W → Calls Tryd.prog 48 #[.agg #[.string s, .string z]] W fun e w' => e = .returned (.bool (p (s, z))) ∧ Below W.heap.size W w')) :
    Calls Tryd.prog 44 #[.slice A n c, .func (.func 48) #[] #[]] w fun e w' => ∃ c', e = .returned (.slice A (l.filter fun q => !p q).length c') ∧ At w' A (pvS (l.filter fun q => !p q)) ∧ Below base w w' := by
  have HI := Lib.hid (idxMineS A n c base l p w hn hb ha hbase hp)
  have HN := Lib.hid hn
  have HA := Lib.hid ha
  have HP := Lib.hid hp
  unfold maxLen at hcm
  clear hn ha hp
  go_enter Tryd.func44, Tryd.ntmps44
  go_wp2_with fail
  refine HI.out.mono ?_
  rintro e w1 ⟨⟨rfl, hno⟩ | ⟨k0, hk0, rfl, hyes, hno⟩, hb1⟩
  · have HX := Lib.hid hno
    have HB1 := Lib.hid hb1
    clear hno hb1 HI
    go_wp2
    go_ret
    have e : (l.filter fun q => !p q) = l := List.filter_eq_self.2 fun q hq => by rw [HX.out q hq]; rfl
    refine ⟨c, by rw [e, ← HN.out]; rfl, by rw [e]; exact HA.out.below HB1.out, HB1.out.mono hbase⟩
  · have hk0n : k0 < n := by have := HN.out; omega
    have hF0 : Hid ((l.take k0).filter (fun q => !p q) = l.take k0) := List.filter_eq_self.2 fun q hq => by rw [hno q hq]; rfl
    have hF1 : Hid ((l.take (k0 + 1)).filter (fun q => !p q) = l.take k0) := by
      show _ = _
      rw [take_next l k0 hk0, List.filter_append, hF0.out]
      simp [hyes]
    have hneg : ((k0 : Int) == -1) = false := beq_eq_false_iff_ne.2 (by omega)
    have HB1 := Lib.hid hb1
    obtain ⟨g, off, rfl, hg, _, _⟩ := at_pairS (HA.out.below hb1) hk0
    obtain ⟨hbg, hfz⟩ := hfz g off rfl
    have HFZ : Hid (∀ o, w1.frozen? ⟨g, o, none⟩ = false) := fun o => by
      have h1 := HA.out (fun e => by have := pvS_len_ne l hk0; exact this e)
      obtain ⟨b', off', e, hlt, _⟩ := h1
      injection e with e
      injection e with e1 e2
      subst e1
      rw [HB1.out.frozen (p := ⟨g, o, none⟩) hlt]
      exact hfz o
    have HCL : Hid (∀ t u, (pvS l)[t]? = some u → w1.cell? ⟨g, off + t, none⟩ = some u) := fun t u hu => by
      obtain ⟨b', off', e, _, hc⟩ := (HA.out.below HB1.out) (fun e => by have := pvS_len_ne l hk0; exact this e)
      injection e with e
      injection e with e1 e2
      subst e1 e2
      exact hc t u hu
    have hs1 := hb1.size
    have HB0 := Lib.hid (hb1.mono hbase)
    clear hno hyes hfz hb1 HI
    have hL : Hid ((pvS l).length = n * 2) := by show _ = _; rw [pvS_len2, HN.out]
    go_wp2
    go_loopw [5, 6] (fun i j wr => ∃ (a b : Nat) (out : List ParS), a < b ∧ b ≤ n ∧ i = .int .i64 a ∧ j = .int .i64 b ∧ out.length = a ∧ Hid (out = (l.take b).filter (fun q => !p q)) ∧ Hid (∀ t u, (pvS out)[t]? = some u → wr.cell? ⟨g, off + t, none⟩ = some u) ∧ Hid (∀ t u, b * 2 ≤ t → (pvS l)[t]? = some u → wr.cell? ⟨g, off + t, none⟩ = some u) ∧ Hid (∀ t, t < n * 2 → (wr.cell? ⟨g, off + t, none⟩).isSome = true) ∧ Hid (∀ o, wr.frozen? ⟨g, o, none⟩ = false) ∧ g < wr.heap.size ∧ Below base w wr) (fun _ j _ => n - (intOf j).toNat)
    case atStart =>
      refine ⟨k0, k0 + 1, l.take k0, by omega, by omega, rfl, by go_num, by rw [List.length_take]; omega, hF1.out.symm, ?_, fun t u _ hu => HCL.out t u hu, fun t ht => ?_, HFZ.out, hg, HB0.out⟩
      · intro t u hu
        refine HCL.out t u ?_
        have e : l = l.take k0 ++ l.drop k0 := (List.take_append_drop k0 l).symm
        rw [e, pvS_app2, List.getElem?_append_left (by rcases Nat.lt_or_ge t (pvS (l.take k0)).length with h | h; exact h; rw [List.getElem?_eq_none h] at hu; cases hu)]
        exact hu
      · have ht' : t < (pvS l).length := by rw [hL.out]; exact ht
        rw [HCL.out t (pvS l)[t] (List.getElem?_eq_getElem ht')]; rfl
    case round =>
      obtain ⟨a, b, out, hab, hbn, rfl, rfl, hol, hout, hlow, hhigh, hthere, hfr, hgw, hbel⟩ := hrel
      by_cases hlt : b < n
      · have hk1 : b < l.length := by have := HN.out; omega
        have hst0 := take_next l b hk1
        have hpa := pvS_at2 l b hk1
        obtain ⟨y, hy⟩ : ∃ y, y = l[b] := ⟨_, rfl⟩
        rw [← hy] at hst0 hpa
        have HT := Lib.hid hst0
        clear hy hst0
        obtain ⟨s, z⟩ := y
        have hc0 := hhigh.out (b * 2) _ (Nat.le_refl _) hpa.1
        have hc1 : wr.cell? ⟨g, off + b * 2 + 1, none⟩ = some (.string z) := by have := hhigh.out (b * 2 + 1) _ (Nat.le_add_right _ _) hpa.2; rwa [← Nat.add_assoc] at this
        obtain ⟨u0, hu0⟩ := Option.isSome_iff_exists.1 (hthere.out (a * 2) (by omega))
        obtain ⟨u1, hu1⟩ := Option.isSome_iff_exists.1 (hthere.out (a * 2 + 1) (by omega))
        rw [← Nat.add_assoc] at hu1
        have hf0 := hfr.out (off + a * 2)
        have hf1 := hfr.out (off + a * 2 + 1)
        have hsz := hbel.size
        have hbl : base ≤ wr.heap.size := by omega
        have hcall := HP.out s z (wr.alloc (.cells #[.string s, .string z] 70)) (hbel.alloc hbl _)
        have HU0 := Lib.hid hu0
        have HU1 := Lib.hid hu1
        clear hpa
        cases hq : p (s, z) with
        | true =>
          rw [hq] at hcall
          have HC := Lib.hid hcall
          have HQ := Lib.hid hq
          clear hcall hq
          go_wp2_with fail
          refine HC.out.mono ?_
          rintro e w5 ⟨rfl, hb5⟩
          have HB5 := Lib.hid ((below_alloc wr (.cells #[.string s, .string z] 70)).trans (hb5.mono (by simp)))
          clear hb5
          go_wp2
          go_roundw
          case rel => exact ⟨a, b + 1, out, by omega, by omega, rfl, by go_num, hol, by show _ = _; rw [HT.out, List.filter_append, ← hout.out]; simp [HQ.out], (fun t u hu => (HB5.out.cell (p := ⟨g, off + t, none⟩) hgw).trans (hlow.out t u hu)), (fun t u ht hu => (HB5.out.cell (p := ⟨g, off + t, none⟩) hgw).trans (hhigh.out t u (by omega) hu)), (fun t ht => by rw [HB5.out.cell (p := ⟨g, off + t, none⟩) hgw]; exact hthere.out t ht), (fun o => (HB5.out.frozen (p := ⟨g, o, none⟩) hgw).trans (hfr.out o)), Nat.lt_of_lt_of_le hgw HB5.out.size, hbel.trans (HB5.out.mono hbl)⟩
          case measure => simp [intOf]; omega
        | false =>
          rw [hq] at hcall
          have HC := Lib.hid hcall
          have HQ := Lib.hid hq
          clear hcall hq
          go_wp2_with fail
          refine HC.out.mono ?_
          rintro e w5 ⟨rfl, hb5⟩
          have HB5 := Lib.hid ((below_alloc wr (.cells #[.string s, .string z] 70)).trans (hb5.mono (by simp)))
          have c0 : w5.cell? ⟨wr.heap.size, 0, none⟩ = some (.string s) := (hb5.cell (p := ⟨wr.heap.size, 0, none⟩) (by simp)).trans (by simp)
          have c1 : w5.cell? ⟨wr.heap.size, 1, none⟩ = some (.string z) := (hb5.cell (p := ⟨wr.heap.size, 1, none⟩) (by simp)).trans (by simp)
          have d0 : w5.cell? ⟨g, off + a * 2, none⟩ = some u0 := (HB5.out.cell (p := ⟨g, off + a * 2, none⟩) hgw).trans HU0.out
          have d1 : w5.cell? ⟨g, off + a * 2 + 1, none⟩ = some u1 := (HB5.out.cell (p := ⟨g, off + a * 2 + 1, none⟩) hgw).trans HU1.out
          have e0 : w5.frozen? ⟨g, off + a * 2, none⟩ = false := (HB5.out.frozen (p := ⟨g, off + a * 2, none⟩) hgw).trans (hfr.out _)
          have e1 : w5.frozen? ⟨g, off + a * 2 + 1, none⟩ = false := (HB5.out.frozen (p := ⟨g, off + a * 2 + 1, none⟩) hgw).trans (hfr.out _)
          have D0 := Lib.hid d0
          have D1 := Lib.hid d1
          clear hb5 hc0 hc1 hu0 hu1 hf0 hf1
          go_wp2
          go_roundw
          case rel =>
            obtain ⟨t0, t1, tw⟩ := two_cells D0.out D1.out (.string s) (.string z)
            have hpo : pvS (out ++ [(s, z)]) = pvS out ++ [.string s, .string z] := by rw [pvS_app2]; rfl
            have hpl : (pvS out).length = a * 2 := by rw [pvS_len2, hol]
            refine ⟨a + 1, b + 1, out ++ [(s, z)], by omega, by omega, by go_num, by go_num, by simp [hol], ?_, ?_, ?_, ?_, ?_, ?_, ?_⟩
            · show _ = _
              rw [HT.out, List.filter_append, ← hout.out]; simp [HQ.out]
            · intro t u hu
              rw [hpo] at hu
              rcases Nat.lt_or_ge t (a * 2) with h | h
              · rw [List.getElem?_append_left (by omega)] at hu
                rw [tw g (off + t) (.inr (by omega)), HB5.out.cell (p := ⟨g, off + t, none⟩) hgw]
                exact hlow.out t u hu
              · rw [List.getElem?_append_right (by omega), hpl] at hu
                rcases Nat.lt_or_ge t (a * 2 + 1) with h2 | h2
                · obtain rfl : t = a * 2 := by omega
                  simp at hu
                  subst hu
                  exact t0
                · rcases Nat.lt_or_ge t (a * 2 + 2) with h3 | h3
                  · obtain rfl : t = a * 2 + 1 := by omega
                    rw [show a * 2 + 1 - a * 2 = 1 by omega] at hu
                    simp at hu
                    subst hu
                    rw [← Nat.add_assoc]
                    exact t1
                  · rw [List.getElem?_eq_none (by simp; omega)] at hu
                    cases hu
            · intro t u ht hu
              rw [tw g (off + t) (.inr (by omega)), HB5.out.cell (p := ⟨g, off + t, none⟩) hgw]
              exact hhigh.out t u (by omega) hu
            · intro t ht
              by_cases x0 : t = a * 2
              · subst x0; rw [t0]; rfl
              · by_cases x1 : t = a * 2 + 1
                · subst x1; rw [← Nat.add_assoc, t1]; rfl
                · rw [tw g (off + t) (.inr (by omega)), HB5.out.cell (p := ⟨g, off + t, none⟩) hgw]
                  exact hthere.out t ht
            · intro o
              rw [World.frozen?_setCell, World.frozen?_setCell]
              exact (HB5.out.frozen (p := ⟨g, o, none⟩) hgw).trans (hfr.out o)
            · simp
              exact Nat.lt_of_lt_of_le hgw HB5.out.size
            · exact below_set (below_set (hbel.trans (HB5.out.mono hbl)) g _ _ hbg) g _ _ hbg
          case measure => simp [intOf]; omega
      · obtain rfl : b = n := by omega
        have hlc := fun ty => clear_run (P := Tryd.prog) wr 30 70 ty (.agg #[.string { data := #[] }, .string { data := #[] }]) Tryd.underlying30 (by intro w; go_simp) (by intro v hv; have hv2 : v ∈ ([.string { data := #[] }, .string { data := #[] }] : List Value) := hv; have hv' : v = .string { data := #[] } ∨ v = .string { data := #[] } := (by simpa using hv2); rcases hv' with rfl | rfl <;> rfl) g (off + a * 2) (b - a) (c - a) 2 (by rfl) (fun j hj => by rw [Nat.add_assoc]; exact hthere.out _ (by omega)) (fun j hj => hfr.out _)
        obtain ⟨vs, hvs, hrun⟩ := hlc 0
        have hrun' : ∀ ty, (Builtin.clear_ #[30] ty #[.slice (some ⟨g, off + a * 2, none⟩) (b - a) (c - a)]).run Tryd.prog wr = .ok (.tuple #[]) (wr.setCells g (off + a * 2) vs) := fun ty => hrun
        clear hlc hrun
        have HRel := Lib.hid hlow.out
        have HBF := Lib.hid (Go.below_setCells (b := g) hbg vs (off + a * 2) wr hbel)
        have HOUT : Hid (out = l.filter fun q => !p q) := by show _ = _; have := hout.out; rwa [List.take_of_length_le (by have := HN.out; omega)] at this
        have HAF : Hid (At (wr.setCells g (off + a * 2) vs) (some ⟨g, off, none⟩) (pvS out)) := fun _ => ⟨g, off, rfl, by rw [size_set]; exact hgw, fun t u hu => by
          have ht : t < a * 2 := by
            have hpl : (pvS out).length = a * 2 := by rw [pvS_len2, hol]
            rcases Nat.lt_or_ge t (a * 2) with h | h
            · exact h
            · rw [List.getElem?_eq_none (by omega)] at hu; cases hu
          rw [World.cell?_setCells_out g vs (off + a * 2) wr _ (fun _ _ => .inl (by simp; omega))]
          exact HRel.out t u hu⟩
        clear hlow hhigh hout hthere hfr
        go_wp2
        go_ret
        rw [← HOUT.out, hol]
        exact ⟨_, rfl, HAF.out, HBF.out⟩
end Go.Proofs.YtibcfmfihcgijaaDoor
/- slices.Grow of the nil map, slices.Concat of two maps of numbers (as props' Set calls them). -/
namespace Go.Proofs.YtibcfmfihcgijaaDoor
open Go.RowKit M
theorem zero_cells_size (z : Value) (k : Nat) : (Builtin.zeroCells z.cells k).size = k * z.cells.size := by simp [Builtin.zeroCells]
set_option maxHeartbeats 2000000 in
set_option maxRecDepth 100000 in
theorem grow_nil (k : Nat) (w : World) (h0 : 0 < k) (hk : k ≤ 200000) :
    Calls Tryd.prog 71 #[.slice none 0 0, .int .i64 k] w fun e w' => ∃ v, e = .returned v ∧ w'.ownsRow w.heap.size 68 2 v 0 [] ∧ Below w.heap.size w w' := by
  obtain ⟨i0, hi, hz0, hz1, hz2⟩ := info_parts infoPPar
  have hrun : ∀ w ty, (Builtin.append_ #[27, 3] ty #[.slice none 0 0, .int .i64 k]).run Tryd.prog w = .ok (.slice (some ⟨w.heap.size, 0, none⟩) (0 + k) (grownCap w (0 + k) 0 68)) (w.drew.alloc (.cells ((#[] : Array Value) ++ Builtin.zeroCells (Value.agg #[.string { data := #[] }, .int .i64 0]).cells k ++ Builtin.zeroCells (Value.agg #[.string { data := #[] }, .int .i64 0]).cells (grownCap w (0 + k) 0 68 - (0 + k))) 68)) := fun w ty =>
    Go.Lib.run_append_grow_zeros (P := Tryd.prog) w 27 3 ty 68 i0 _ .i64 .i64 Tryd.underlying27 Tryd.underlying3 hi hz0 none 0 0 [] (by exact run_firstCells_none w.drew i0.size 0 0 0) k h0 (by rw [hz1]; decide) (by omega) (by omega) (by rw [hz2]; omega) (by rw [hz2]; simp [Builtin.nextslicecap]; split <;> omega)
  have hz3 : (Value.agg #[.string { data := #[] }, .int .i64 0]).cells.size = 2 := rfl
  have hgc := grownCap_ge w (0 + k) 0 68
  have hgm := grownCap_le_maxLen w (0 + k) 0 68 (by unfold maxLen; omega)
  have hrun := hrun w
  generalize hcp : grownCap w (0 + k) 0 68 = cp at hrun hgc hgm
  have hn : ¬ ((k : Int) < 0) := by omega
  have hp : (k : Int) > 0 := by omega
  have hge : (0 : Int) < (k : Int) := by omega
  go_enter Tryd.func71, Tryd.ntmps71
  go_wp2_with (at_builtin; refine Go.Lib.wpList_append_run _ rfl _ _ _ _ rfl _ _ rfl rfl _ _ (hrun _) ?_)
  go_ret
  refine ⟨_, rfl, ?_, (Below_drew (Below.refl _ _)).alloc (by simp) _⟩
  have hsz : (Builtin.zeroCells #[Value.string { data := #[] }, .int .i64 0] k ++ Builtin.zeroCells #[Value.string { data := #[] }, .int .i64 0] (cp - k)).size = cp * 2 := by
    have e1 := zero_cells_size (Value.agg #[.string { data := #[] }, .int .i64 0]) k
    have e2 := zero_cells_size (Value.agg #[.string { data := #[] }, .int .i64 0]) (cp - k)
    rw [hz3] at e1 e2
    rw [Array.size_append]
    simp only [Value.cells] at e1 e2
    omega
  exact World.ownsRow_made w.drew _ cp (Nat.le_refl _) hgm hsz
set_option maxHeartbeats 4000000 in
set_option maxRecDepth 100000 in
theorem concat_any (A B : Option Addr) (n c g : Nat) (l : List Par) (p : Par) (w : World) (hn : n = l.length) (hb : n ≤ 100000) (hA0 : A = none → n = 0 ∧ c = 0) (ha : At w A (pv l)) (hB0 : B ≠ none) (hb' : At w B (pv [p])) (hg : g < w.heap.size)
    (h0 : w.cell? ⟨g, 0, none⟩ = some (.slice A n c)) (h1 : w.cell? ⟨g, 1, none⟩ = some (.slice B 1 1)) :
    Calls Tryd.prog 41 #[.slice (some ⟨g, 0, none⟩) 2 2] w fun e w' => ∃ v, e = .returned v ∧ w'.ownsRow w.heap.size 68 2 v (n + 1) (pv (l ++ [p])) ∧ Below w.heap.size w w' := by
  obtain ⟨i0, hi, hz0, hz1, hz2⟩ := info_parts infoPPar
  have HA := Lib.hid ha
  have HB := Lib.hid hb'
  have HA0 := Lib.hid hA0
  have HB0 := Lib.hid hB0
  have HN := Lib.hid hn
  have HG := Lib.hid (grow_nil (n + 1) w (by omega) (by omega))
  have H0 := Lib.hid h0
  have H1 := Lib.hid h1
  clear ha hb' hA0 hB0 hn
  have hw1 : IntKind.i64.wrap ((n : Int) + 1) = (n : Int) + 1 := by rw [IntKind.wrap_i64]; omega
  have hnn : ¬ ((n : Int) < 0) := by omega
  have hn1 : ¬ ((n : Int) + 1 < 0) := by omega
  go_enter Tryd.func41, Tryd.ntmps41
  go_wp2
  refine wp_loop_rounds 3 ?_
  rw [rounds_succ]
  go_wp2
  rw [rounds_succ]
  go_wp2
  rw [rounds_succ]
  go_wp2_with fail
  refine HG.out.mono ?_
  rintro e w5 ⟨v5, rfl, hown5, hb5⟩
  have O5 := Lib.hid hown5
  have B5 := Lib.hid hb5
  have h0' := (hb5.cell (p := ⟨g, 0, none⟩) hg).trans H0.out
  have h1' := (hb5.cell (p := ⟨g, 1, none⟩) hg).trans H1.out
  obtain ⟨A5, c5, rfl, hc5, hm5, _⟩ := at_of_own' hown5
  have hs5 := hb5.size
  have F5 := Lib.hid (own_from hown5)
  have HL : Hid ((pv l).length = n * 2) := by show _ = _; rw [pv_len, HN.out]
  clear hown5 hb5 h0 h1 HG
  go_wp2
  refine wp_loop_rounds 3 ?_
  rw [rounds_succ]
  go_wp2_with (at_builtin; refine wpList_append_at rfl _ _ 27 rfl w.heap.size 68 i0 (.agg #[.string { data := #[] }, .int .i64 0]) 2 24 Tryd.underlying27 hi hz0 hz1 hz2 rfl (by decide) _ _ _ rfl O5.out A n c (pv l) rfl HA0.out HL.out (HA.out.below B5.out) (pv_one l) (by unfold maxLen; omega) (by omega) (by first | exact hs5 | omega) ?_; intro v6 w6 hown6 hgrow6; have O6 := Lib.hid hown6; have G6 := Lib.hid hgrow6; clear hown6 hgrow6)
  have B6 := Lib.hid (B5.out.grown G6.out hs5 (fun q hq => F5.out q hq))
  have hs6 := B6.out.size
  have F6 := Lib.hid (own_from O6.out)
  have h1'' := (B6.out.cell (p := ⟨g, 1, none⟩) hg).trans H1.out
  have O6' : Hid (w6.ownsRow w.heap.size 68 2 v6 n (pv l)) := by have := O6.out; rw [Nat.zero_add, List.nil_append] at this; exact this
  obtain ⟨A6, c6, rfl, hc6, hm6, _⟩ := at_of_own' O6'.out
  clear h0' h1' O6
  rw [rounds_succ]
  go_wp2_with (at_builtin; refine wpList_append_at rfl _ _ 27 rfl w.heap.size 68 i0 (.agg #[.string { data := #[] }, .int .i64 0]) 2 24 Tryd.underlying27 hi hz0 hz1 hz2 rfl (by decide) _ _ _ rfl O6'.out B 1 1 (pv [p]) rfl (fun h => absurd h HB0.out) rfl (HB.out.below B6.out) (pv_one [p]) (by unfold maxLen; omega) (by omega) (by first | exact hs6 | omega) ?_; intro v7 w7 hown7 hgrow7; have O7 := Lib.hid hown7; have G7 := Lib.hid hgrow7; clear hown7 hgrow7)
  have B7 := Lib.hid (B6.out.grown G7.out hs6 (fun q hq => F6.out q hq))
  rw [rounds_succ]
  go_wp2
  go_ret
  exact ⟨_, rfl, by rw [pv_app]; exact O7.out, B7.out⟩
end Go.Proofs.YtibcfmfihcgijaaDoor
/- props' Drop, Mine, Set, Get of a map, of numbers and of texts; the document's own Mine. -/
namespace Go.Proofs.YtibcfmfihcgijaaDoor
open Go.RowKit M
theorem own_fz {w : World} {base : Nat} {e : TypeId} {size n c : Nat} {A : Option Addr} {xs : List Value} (h : w.ownsRow base e size (.slice A n c) n xs) : ∀ b off, A = some ⟨b, off, none⟩ → base ≤ b ∧ ∀ o, w.frozen? ⟨b, o, none⟩ = false := by
  intro b off hA
  rcases h.2 with ⟨hv, _⟩ | ⟨g, c', cur, hv, hb, hh, _⟩
  · injection hv with h1 _ _
    rw [hA] at h1
    cases h1
  · injection hv with h1 _ _
    rw [hA] at h1
    injection h1 with h1
    injection h1 with h1 h2
    subst h1
    exact ⟨hb, fun o => frz_of hh o⟩
def minB (s : ByteArray) : Bool := Lib.hasPrefix s.data.toList [116, 45]
def keepN {V : Type} (x : ByteArray) (p : ByteArray × V) : Bool := !decide (p.1 = x)
def keepM {V : Type} (p : ByteArray × V) : Bool := !minB p.1
theorem minB_short {s : ByteArray} (h : s.size < 2) : minB s = false := by
  have e := Lib.hasPrefix_raw s ⟨#[116, 45]⟩
  unfold minB
  rw [← e, show (⟨#[116, 45]⟩ : ByteArray).size = 2 from rfl, decide_eq_false (by omega)]
  rfl
theorem minB_long {s : ByteArray} (h : 2 ≤ s.size) : minB s = ((s.extract 0 2).toList == (⟨#[116, 45]⟩ : ByteArray).toList) := by
  have e := Lib.hasPrefix_raw s ⟨#[116, 45]⟩
  unfold minB
  rw [← e, show (⟨#[116, 45]⟩ : ByteArray).size = 2 from rfl, decide_eq_true h]
  rfl
theorem drop1 (B : Nat) (x s : ByteArray) (z : Int) (w : World) (hB : w.cell? ⟨B, 0, none⟩ = some (.string x)) :
    Calls Tryd.prog 43 #[.agg #[.string s, .int .i64 z], .pointer (some ⟨B, 0, none⟩)] w fun e w' => e = .returned (.bool (decide (s = x))) ∧ Below w.heap.size w w' := by
  have hB' : (w.alloc (.cells #[.string s, .int .i64 z] 68)).cell? ⟨B, 0, none⟩ = some (.string x) := Lib.cell?_alloc_some _ hB
  by_cases h : s = x
  · have h1 := str_yes h
    have H : Hid (decide (s = x) = true) := decide_eq_true h
    clear h hB
    go_enter Tryd.func43, Tryd.ntmps43
    go_wp2
    go_ret
    exact ⟨ret_bool' H.out.symm, below_alloc _ _⟩
  · have h1 := str_no h
    have H : Hid (decide (s = x) = false) := decide_eq_false h
    clear h hB
    go_enter Tryd.func43, Tryd.ntmps43
    go_wp2
    go_ret
    exact ⟨ret_bool' H.out.symm, below_alloc _ _⟩
theorem mine1 (s : ByteArray) (z : Int) (w : World) :
    Calls Tryd.prog 46 #[.agg #[.string s, .int .i64 z]] w fun e w' => e = .returned (.bool (minB s)) ∧ Below w.heap.size w w' := by
  go_enter Tryd.func46, Tryd.ntmps46
  go_wp2_with (go_at_call 47; refine (Tryd.strings_HasPrefix _ _ _).mono ?_; rintro e w6 ⟨rfl, hw6⟩; subst hw6)
  go_ret
  exact ⟨rfl, below_alloc _ _⟩
set_option maxHeartbeats 2000000 in
theorem drop_any (A : Option Addr) (n c : Nat) (l : List Par) (x : ByteArray) (w : World) (hn : n = l.length) (hb : n ≤ 100000) (hA0 : A = none → n = 0 ∧ c = 0) (ha : At w A (pv l)) :
    Calls Tryd.prog 21 #[.slice A n c, .string x] w fun e w' => ∃ A' c', e = .returned (.slice A' ((ofP l).filter (keepN x)).length c') ∧ At w' A' (pv ((ofP l).filter (keepN x))) ∧ Below w.heap.size w w' := by
  have H := Lib.hid (of_any A n c l (w.alloc (.cells #[.string x] 9)) hn hb hA0 (ha.alloc _))
  have hml := ofP_len l
  rw [← hn] at hml
  clear hn hA0 ha
  generalize ofP l = R at H hml
  go_enter Tryd.func21, Tryd.ntmps21
  go_wp2_with fail
  refine H.out.mono ?_
  rintro e w1 ⟨v, rfl, hown, hbel⟩
  obtain ⟨A1, c1, rfl, hc1, hm1, hat⟩ := at_of_own' hown
  have HBX : Hid (w1.cell? ⟨w.heap.size, 0, none⟩ = some (.string x)) := (hbel.cell (p := ⟨w.heap.size, 0, none⟩) (by simp)).trans (by simp)
  have HD := Lib.hid (delDrop w.heap.size A1 R.length c1 (w.alloc (.cells #[.string x] 9)).heap.size R (fun q => decide (q.1 = x)) w1 rfl (by omega) hc1 hm1 hat hbel.size (own_fz hown) (fun s z W hW => drop1 w.heap.size x s z W ((hW.cell (p := ⟨w.heap.size, 0, none⟩) (by simp)).trans HBX.out)))
  have HB := Lib.hid hbel
  clear hown hbel hat H HBX
  go_wp2_with fail
  refine HD.out.mono ?_
  rintro e w2 ⟨c2, rfl, hat2, hb2⟩
  have HAT := Lib.hid hat2
  have HBL := Lib.hid ((below_alloc w _).trans ((HB.out.trans hb2).mono (by simp)))
  clear hat2 hb2 HD HB
  go_wp2
  go_ret
  exact ⟨_, _, rfl, HAT.out, HBL.out⟩
set_option maxHeartbeats 2000000 in
theorem mine_any (A : Option Addr) (n c : Nat) (l : List Par) (w : World) (hn : n = l.length) (hb : n ≤ 100000) (hA0 : A = none → n = 0 ∧ c = 0) (ha : At w A (pv l)) :
    Calls Tryd.prog 24 #[.slice A n c] w fun e w' => ∃ A' c', e = .returned (.slice A' ((ofP l).filter keepM).length c') ∧ At w' A' (pv ((ofP l).filter keepM)) ∧ Below w.heap.size w w' := by
  have H := Lib.hid (of_any A n c l w hn hb hA0 ha)
  have hml := ofP_len l
  rw [← hn] at hml
  clear hn hA0 ha
  generalize ofP l = R at H hml
  go_enter Tryd.func24, Tryd.ntmps24
  go_wp2_with fail
  refine H.out.mono ?_
  rintro e w1 ⟨v, rfl, hown, hbel⟩
  obtain ⟨A1, c1, rfl, hc1, hm1, hat⟩ := at_of_own' hown
  have HD := Lib.hid (delMine A1 R.length c1 w.heap.size R (fun q => minB q.1) w1 rfl (by omega) hc1 hm1 hat hbel.size (own_fz hown) (fun s z W _ => mine1 s z W))
  have HB := Lib.hid hbel
  clear hown hbel hat H
  go_wp2_with fail
  refine HD.out.mono ?_
  rintro e w2 ⟨c2, rfl, hat2, hb2⟩
  have HAT := Lib.hid hat2
  have HBL := Lib.hid (HB.out.trans hb2)
  clear hat2 hb2 HD HB
  go_wp2
  go_ret
  exact ⟨_, _, rfl, HAT.out, HBL.out⟩
theorem drop1S (B : Nat) (x s : ByteArray) (z : ByteArray) (w : World) (hB : w.cell? ⟨B, 0, none⟩ = some (.string x)) :
    Calls Tryd.prog 45 #[.agg #[.string s, .string z], .pointer (some ⟨B, 0, none⟩)] w fun e w' => e = .returned (.bool (decide (s = x))) ∧ Below w.heap.size w w' := by
  have hB' : (w.alloc (.cells #[.string s, .string z] 70)).cell? ⟨B, 0, none⟩ = some (.string x) := Lib.cell?_alloc_some _ hB
  by_cases h : s = x
  · have h1 := str_yes h
    have H : Hid (decide (s = x) = true) := decide_eq_true h
    clear h hB
    go_enter Tryd.func45, Tryd.ntmps45
    go_wp2
    go_ret
    exact ⟨ret_bool' H.out.symm, below_alloc _ _⟩
  · have h1 := str_no h
    have H : Hid (decide (s = x) = false) := decide_eq_false h
    clear h hB
    go_enter Tryd.func45, Tryd.ntmps45
    go_wp2
    go_ret
    exact ⟨ret_bool' H.out.symm, below_alloc _ _⟩
theorem mine1S (s : ByteArray) (z : ByteArray) (w : World) :
    Calls Tryd.prog 48 #[.agg #[.string s, .string z]] w fun e w' => e = .returned (.bool (minB s)) ∧ Below w.heap.size w w' := by
  go_enter Tryd.func48, Tryd.ntmps48
  go_wp2_with (go_at_call 47; refine (Tryd.strings_HasPrefix _ _ _).mono ?_; rintro e w6 ⟨rfl, hw6⟩; subst hw6)
  go_ret
  exact ⟨rfl, below_alloc _ _⟩
set_option maxHeartbeats 2000000 in
theorem drop_anyS (A : Option Addr) (n c : Nat) (l : List ParS) (x : ByteArray) (w : World) (hn : n = l.length) (hb : n ≤ 100000) (hA0 : A = none → n = 0 ∧ c = 0) (ha : At w A (pvS l)) :
    Calls Tryd.prog 23 #[.slice A n c, .string x] w fun e w' => ∃ A' c', e = .returned (.slice A' ((ofP l).filter (keepN x)).length c') ∧ At w' A' (pvS ((ofP l).filter (keepN x))) ∧ Below w.heap.size w w' := by
  have H := Lib.hid (of_anyS A n c l (w.alloc (.cells #[.string x] 9)) hn hb hA0 (ha.alloc _))
  have hml := ofP_len l
  rw [← hn] at hml
  clear hn hA0 ha
  generalize ofP l = R at H hml
  go_enter Tryd.func23, Tryd.ntmps23
  go_wp2_with fail
  refine H.out.mono ?_
  rintro e w1 ⟨v, rfl, hown, hbel⟩
  obtain ⟨A1, c1, rfl, hc1, hm1, hat⟩ := at_of_own' hown
  have HBX : Hid (w1.cell? ⟨w.heap.size, 0, none⟩ = some (.string x)) := (hbel.cell (p := ⟨w.heap.size, 0, none⟩) (by simp)).trans (by simp)
  have HD := Lib.hid (delDropS w.heap.size A1 R.length c1 (w.alloc (.cells #[.string x] 9)).heap.size R (fun q => decide (q.1 = x)) w1 rfl (by omega) hc1 hm1 hat hbel.size (own_fz hown) (fun s z W hW => drop1S w.heap.size x s z W ((hW.cell (p := ⟨w.heap.size, 0, none⟩) (by simp)).trans HBX.out)))
  have HB := Lib.hid hbel
  clear hown hbel hat H HBX
  go_wp2_with fail
  refine HD.out.mono ?_
  rintro e w2 ⟨c2, rfl, hat2, hb2⟩
  have HAT := Lib.hid hat2
  have HBL := Lib.hid ((below_alloc w _).trans ((HB.out.trans hb2).mono (by simp)))
  clear hat2 hb2 HD HB
  go_wp2
  go_ret
  exact ⟨_, _, rfl, HAT.out, HBL.out⟩
set_option maxHeartbeats 2000000 in
theorem mine_anyS (A : Option Addr) (n c : Nat) (l : List ParS) (w : World) (hn : n = l.length) (hb : n ≤ 100000) (hA0 : A = none → n = 0 ∧ c = 0) (ha : At w A (pvS l)) :
    Calls Tryd.prog 26 #[.slice A n c] w fun e w' => ∃ A' c', e = .returned (.slice A' ((ofP l).filter keepM).length c') ∧ At w' A' (pvS ((ofP l).filter keepM)) ∧ Below w.heap.size w w' := by
  have H := Lib.hid (of_anyS A n c l w hn hb hA0 ha)
  have hml := ofP_len l
  rw [← hn] at hml
  clear hn hA0 ha
  generalize ofP l = R at H hml
  go_enter Tryd.func26, Tryd.ntmps26
  go_wp2_with fail
  refine H.out.mono ?_
  rintro e w1 ⟨v, rfl, hown, hbel⟩
  obtain ⟨A1, c1, rfl, hc1, hm1, hat⟩ := at_of_own' hown
  have HD := Lib.hid (delMineS A1 R.length c1 w.heap.size R (fun q => minB q.1) w1 rfl (by omega) hc1 hm1 hat hbel.size (own_fz hown) (fun s z W _ => mine1S s z W))
  have HB := Lib.hid hbel
  clear hown hbel hat H
  go_wp2_with fail
  refine HD.out.mono ?_
  rintro e w2 ⟨c2, rfl, hat2, hb2⟩
  have HAT := Lib.hid hat2
  have HBL := Lib.hid (HB.out.trans hb2)
  clear hat2 hb2 HD HB
  go_wp2
  go_ret
  exact ⟨_, _, rfl, HAT.out, HBL.out⟩
set_option maxHeartbeats 2000000 in
theorem get_anyS (A : Option Addr) (n c : Nat) (l : List ParS) (t : ByteArray) (w : World) (hn : n = l.length) (hb : n ≤ 100000) (hA0 : A = none → n = 0 ∧ c = 0) (ha : At w A (pvS l)) :
    Calls Tryd.prog 13 #[.slice A n c, .string t] w fun e w' =>
      (∃ z, getP l t = some z ∧ e = .returned (.tuple #[.string z, .bool true]) ∧ RowKit.Below w.heap.size w w') ∨ (getP l t = none ∧ e = .returned (.tuple #[.string { data := #[] }, .bool false]) ∧ RowKit.Below w.heap.size w w') := by
  have H := Lib.hid (of_anyS A n c l w hn hb hA0 ha)
  have hml := ofP_len l
  rw [← hn] at hml
  have HRI := Lib.hid (ofP_rises l)
  have HG := Lib.hid (fun x => ofP_get l x)
  clear hn hA0 ha
  generalize ofP l = R at H hml HRI HG
  go_enter Tryd.func13, Tryd.ntmps13
  go_wp2_with fail
  refine H.out.mono ?_
  rintro e w1 ⟨v, rfl, hown, hbel⟩
  obtain ⟨A1, c1, rfl, _, _, hat⟩ := at_of_own' hown
  have HAT := Lib.hid hat
  have HB := Lib.hid hbel
  clear hown hat hbel H
  go_wp2_with fail
  refine (find_mapS A1 _ c1 R t w1 rfl (by omega) HRI.out HAT.out).mono ?_
  rintro e w2 (⟨z, hz, rfl, hb2⟩ | ⟨hz, rfl, hb2⟩)
  · have HZ := Lib.hid hz
    have HB2 := Lib.hid (HB.out.trans (hb2.mono HB.out.size))
    clear hz hb2
    go_wp2
    go_ret2
    exact .inl ⟨z, by rw [← HG.out]; exact HZ.out, rfl, HB2.out⟩
  · have HZ := Lib.hid hz
    have HB2 := Lib.hid (HB.out.trans (hb2.mono HB.out.size))
    clear hz hb2
    go_wp2
    go_ret2
    exact .inr ⟨by rw [← HG.out]; exact HZ.out, rfl, HB2.out⟩
set_option maxHeartbeats 2000000 in
theorem set_any (A : Option Addr) (n c : Nat) (l : List Par) (x : ByteArray) (z : Int) (w : World) (hn : n = l.length) (hb : n ≤ 10000) (hA0 : A = none → n = 0 ∧ c = 0) (ha : At w A (pv l)) :
    Calls Tryd.prog 20 #[.slice A n c, .string x, .int .i64 z] w fun e w' => ∃ v, e = .returned v ∧ w'.ownsRow w.heap.size 68 2 v (ofP (l ++ [(x, z)])).length (pv (ofP (l ++ [(x, z)]))) ∧ Below w.heap.size w w' := by
  obtain ⟨W, hW⟩ : ∃ W, W = (w.alloc (.cells #[.string x, .int .i64 z] 68)).alloc (.cells #[.slice A n c, .slice (some ⟨w.heap.size, 0, none⟩) 1 1] 27) := ⟨_, rfl⟩
  have hws : W.heap.size = w.heap.size + 2 := by rw [hW]; simp
  have hwb : Below w.heap.size w W := by rw [hW]; exact (below_alloc _ _).alloc (by simp) _
  have HC := Lib.hid (concat_any A (some ⟨w.heap.size, 0, none⟩) n c (w.heap.size + 1) l (x, z) W hn (by omega) hA0 (ha.below hwb) (fun h => nomatch h) (fun _ => ⟨_, 0, rfl, by omega, fun j u hu => by
    rw [hW]
    refine Lib.cell?_alloc_some _ ?_
    have e : pv [(x, z)] = [.string x, .int .i64 z] := rfl
    rw [e] at hu
    match j, hu with
    | 0, hu => simp at hu; subst hu; simp
    | 1, hu => simp at hu; subst hu; simp⟩) (by omega) (by rw [hW]; simp) (by rw [hW]; simp))
  have hl1 : n + 1 = (l ++ [(x, z)]).length := by simp [hn]
  have HL := Lib.hid hl1
  have HWB := Lib.hid hwb
  have HWE := Lib.hid hW
  clear hn hA0 ha hl1 hwb
  go_enter Tryd.func20, Tryd.ntmps20
  go_wp2_with fail
  rw [← hW]
  clear hW
  refine HC.out.mono ?_
  rintro e w1 ⟨v, rfl, hown, hbel⟩
  obtain ⟨A1, c1, rfl, _, _, hat⟩ := at_of_own' hown
  have HAT := Lib.hid hat
  have HAN := Lib.hid (own_addr hown)
  have HB := Lib.hid (HWB.out.trans (hbel.mono HWB.out.size))
  clear hown hat hbel HC
  go_wp2_with fail
  refine (of_any A1 _ c1 (l ++ [(x, z)]) w1 HL.out (by omega) HAN.out HAT.out).mono ?_
  rintro e w2 ⟨v2, rfl, hown2, hb2⟩
  have HO := Lib.hid (own_mono hown2 HB.out.size)
  have HB2 := Lib.hid (HB.out.trans (hb2.mono HB.out.size))
  clear hown2 hb2
  go_wp2
  go_ret
  exact ⟨_, rfl, HO.out, HB2.out⟩
set_option maxHeartbeats 4000000 in
set_option maxRecDepth 100000 in
theorem rmine_any (A : Option Addr) (n c : Nat) (l : List Par) (w : World) (hn : n = l.length) (hb : n ≤ 100000) (ha : At w A (pv l)) :
    Calls Tryd.prog 25 #[.slice A n c] w fun e w' => ∃ v, e = .returned v ∧ w'.ownsRow w.heap.size 38 2 v ((ofP l).filter keepM).length (pv ((ofP l).filter keepM)) ∧ Below w.heap.size w w' := by
  have hml := ofP_len l
  rw [← hn] at hml
  have HOF : Hid (Calls Tryd.prog 16 #[.slice A n c] (w.alloc (.cells #[] 38)) fun e w' => ∃ v, e = .returned v ∧ w'.ownsRow (w.alloc (.cells #[] 38)).heap.size 38 2 v (ofP l).length (pv (ofP l)) ∧ Below (w.alloc (.cells #[] 38)).heap.size (w.alloc (.cells #[] 38)) w') := rof_any A n c l _ hn hb (ha.alloc _)
  clear hn ha
  obtain ⟨i0, hi, hz0, hz1, hz2⟩ := info_parts infoPar
  generalize ofP l = R at hml HOF
  go_enter Tryd.func25, Tryd.ntmps25
  go_wp2_with (go_at_call 16; refine HOF.out.mono ?_; rintro e w1 ⟨v, rfl, hown, hbel⟩; obtain ⟨A1, c1, rfl, hc1, hm1, hat1⟩ := at_of_own' hown; have HA := Lib.hid hat1; have HB1 : Hid (∀ g off, A1 = some ⟨g, off, none⟩ → w.heap.size < g ∧ g < w1.heap.size) := (fun g off e => by subst e; have h5 := hown.lt g rfl; rw [size_alloc] at h5; exact ⟨by omega, h5.2⟩); have HB := Lib.hid ((below_alloc w (.cells #[] 38)).trans (hbel.mono (by rw [size_alloc]; omega))); have HS := Lib.hid (own_below (own_made (base := w.heap.size) (e := 38) (size := 2) w w.heap.size rfl (Nat.le_refl _)) hbel); clear hown hbel hat1)
  have hsz0 := HB.out.size
  go_loopw [3, 10] (fun v i wr => ∃ k : Nat, k ≤ R.length ∧ i = .int .i64 k ∧ Hid (wr.ownsRow w.heap.size 38 2 v ((R.take k).filter keepM).length (pv ((R.take k).filter keepM))) ∧ Below w.heap.size w wr ∧ Hid (At wr A1 (pv R)) ∧ Hid (∀ g, v.ownBlock = some g → g = w.heap.size ∨ w1.heap.size ≤ g) ∧ w1.heap.size ≤ wr.heap.size) (fun _ i _ => R.length - (intOf i).toNat)
  case atStart => exact ⟨0, Nat.zero_le _, rfl, HS.out, HB.out, HA.out, (fun g h => .inl (by simp only [Value.ownBlock, Option.some.injEq] at h; exact h.symm)), Nat.le_refl _⟩
  case round =>
    obtain ⟨k, hk, rfl, hown, hbel, hat, hwhere, hw1⟩ := hrel
    by_cases hlt : k < R.length
    · obtain ⟨b, off, rfl, hlb, hd0, hd1⟩ := at_pair hat.out hlt
      obtain ⟨hb1, hb2⟩ := HB1.out b off rfl
      have hY := filter_take_yes R keepM k hlt
      have hZ := filter_take_no R keepM k hlt
      have hlen := filter_take_le R keepM k
      obtain ⟨s, hs⟩ : ∃ s, s = R[k].1 := ⟨_, rfl⟩
      obtain ⟨z, hz⟩ : ∃ z, z = R[k].2 := ⟨_, rfl⟩
      have hp : R[k] = (s, z) := by rw [hs, hz]
      rw [← hs] at hd0
      rw [← hz] at hd1
      rw [hp] at hY hZ
      clear hs hz hp
      have HY := Lib.hid hY
      have HZ := Lib.hid hZ
      clear hY hZ
      have hsz := hbel.size
      by_cases hq : s.size < 2
      · have hq' : (s.size : Int) < 2 := by omega
        have HX := Lib.hid (HY.out (by simp [keepM, minB_short hq]))
        go_wp2_with (at_builtin; refine wpList_append_own_at _ rfl _ _ 22 rfl w.heap.size 38 i0 (.agg #[.string { data := #[] }, .int .i64 0]) 2 24 Tryd.underlying22 hi hz0 hz1 hz2 rfl (by decide) _ _ _ rfl ((hown.out.alloc _).alloc _) ⟨_, 0, none⟩ 1 1 [.string s, .int .i64 z] rfl rfl (cells_new' _ _ _ _ rfl _ (by simp)) (pv_one [(s, z)]) (by unfold maxLen; omega) (by omega) (by simp; omega) ?_; intro v1 w5 hown1 hgrow1 _hnil1 hloc1; have HO := Lib.hid hown1; have HG := Lib.hid hgrow1; have HL := Lib.hid hloc1; clear hown1 hgrow1 _hnil1 hloc1)
        go_roundw
        case rel => exact ⟨k + 1, by omega, by go_num, by show World.ownsRow _ _ _ _ _ _ _; rw [HX.out, List.length_append, pv_app]; exact HO.out, ((hbel.alloc hsz _).alloc (by simp; omega) _).grown HG.out (by simp; omega) (own_from hown.out), ((hat.out.alloc _).alloc _).grown HG.out (fun e => by rcases hwhere.out b e.symm with h | h <;> omega), (fun g h => by rcases HL.out with e | e; exact hwhere.out g (e.symm.trans h); right; rw [e] at h; injection h with h; simp at h; omega), by have := HG.out.size; simp at this; omega⟩
        case measure => simp [intOf]; omega
      · have hq' : ¬ (s.size : Int) < 2 := by omega
        have hq2 : 2 ≤ s.size := by omega
        by_cases hx : s.extract 0 2 = ⟨#[116, 45]⟩
        · have HX := Lib.hid (HZ.out (by rw [keepM, minB_long hq2, str_yes hx]; rfl))
          have h1 := str_yes hx
          rw [show (⟨#[116, 45]⟩ : ByteArray).toList = [116, 45] from by rw [Lib.toList_data]] at h1
          clear hx
          go_wp2
          go_roundw
          case rel => exact ⟨k + 1, by omega, by go_num, by show World.ownsRow _ _ _ _ _ _ _; rw [HX.out]; exact hown.out.alloc _, hbel.alloc hsz _, hat.out.alloc _, hwhere.out, by simp; omega⟩
          case measure => simp [intOf]; omega
        · have HX := Lib.hid (HY.out (by rw [keepM, minB_long hq2, str_no hx]; rfl))
          have h1 := str_no hx
          rw [show (⟨#[116, 45]⟩ : ByteArray).toList = [116, 45] from by rw [Lib.toList_data]] at h1
          clear hx
          go_wp2_with (at_builtin; refine wpList_append_own_at _ rfl _ _ 22 rfl w.heap.size 38 i0 (.agg #[.string { data := #[] }, .int .i64 0]) 2 24 Tryd.underlying22 hi hz0 hz1 hz2 rfl (by decide) _ _ _ rfl ((hown.out.alloc _).alloc _) ⟨_, 0, none⟩ 1 1 [.string s, .int .i64 z] rfl rfl (cells_new' _ _ _ _ rfl _ (by simp)) (pv_one [(s, z)]) (by unfold maxLen; omega) (by omega) (by simp; omega) ?_; intro v1 w5 hown1 hgrow1 _hnil1 hloc1; have HO := Lib.hid hown1; have HG := Lib.hid hgrow1; have HL := Lib.hid hloc1; clear hown1 hgrow1 _hnil1 hloc1)
          go_roundw
          case rel => exact ⟨k + 1, by omega, by go_num, by show World.ownsRow _ _ _ _ _ _ _; rw [HX.out, List.length_append, pv_app]; exact HO.out, ((hbel.alloc hsz _).alloc (by simp; omega) _).grown HG.out (by simp; omega) (own_from hown.out), ((hat.out.alloc _).alloc _).grown HG.out (fun e => by rcases hwhere.out b e.symm with h | h <;> omega), (fun g h => by rcases HL.out with e | e; exact hwhere.out g (e.symm.trans h); right; rw [e] at h; injection h with h; simp at h; omega), by have := HG.out.size; simp at this; omega⟩
          case measure => simp [intOf]; omega
    · go_wp2
      go_ret
      exact ⟨_, rfl, by have h1 := hown.out
                        rw [List.take_of_length_le (by omega)] at h1; exact h1, hbel⟩
end Go.Proofs.YtibcfmfihcgijaaDoor
