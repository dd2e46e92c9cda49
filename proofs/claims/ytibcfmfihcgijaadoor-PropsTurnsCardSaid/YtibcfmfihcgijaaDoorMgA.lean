/- props' search in a map of texts (made by gen_str.py). -/
import Derived.Test.YtibcfmfihcgijaaDoorPrU3
import Derived.Test.YtibcfmfihcgijaaDoorPrS4
import Derived.Test.YtibcfmfihcgijaaDoorStSS3
import Derived.Maps.AppendAt
namespace Go.Proofs.YtibcfmfihcgijaaDoor
open Go.RowKit M
set_option maxHeartbeats 4000000 in
theorem find1_intS (s t : ByteArray) (z : ByteArray) (w : World) :
    Calls Tryd.prog 63 #[.agg #[.string s, .string z], .string t] w fun e w' => e = .returned (.int .i64 (Lib.compareBytes s.data.toList t.data.toList)) ∧ Below w.heap.size w w' := by
  go_enter Tryd.func63, Tryd.ntmps63
  go_wp2_with (first | (go_at_call 61; refine (Tryd.strings_Compare _ _ _).mono ?_; rintro e w6 ⟨rfl, hw6⟩; subst hw6))
  go_ret
  exact ⟨rfl, below_alloc _ _⟩
/-- How a name that is sought stands to the pair at a place. -/
def cmpAtS (l : List ParS) (t : ByteArray) (k : Nat) : Int := if h : k < l.length then Lib.compareBytes l[k].1.data.toList t.data.toList else 1
/-- The place of the first pair that doesn't precede the name. -/
def SrchS (l : List ParS) (t : ByteArray) (k : Nat) : Prop := k ≤ l.length ∧ (∀ j, j < k → cmpAtS l t j < 0) ∧ (∀ j, k ≤ j → j < l.length → ¬ cmpAtS l t j < 0)
set_option maxHeartbeats 2000000 in
set_option maxRecDepth 100000 in
theorem bsearch_anyS (A : Option Addr) (n c : Nat) (l : List ParS) (t : ByteArray) (w : World) (hn : n = l.length) (hm : n ≤ 100000) (ha : At w A (pvS l))
    (hmono : ∀ a b, a ≤ b → b < l.length → cmpAtS l t b < 0 → cmpAtS l t a < 0) :
    Calls Tryd.prog 62 #[.slice A n c, .string t, .func (.func 63) #[] #[]] w fun e w' =>
      ∃ k : Nat, e = .returned (.tuple #[.int .i64 k, .bool (decide (k < n ∧ cmpAtS l t k = 0))]) ∧ SrchS l t k ∧ Below w.heap.size w w' := by
  have HN := Lib.hid hn
  have HA := Lib.hid ha
  have HM := Lib.hid hmono
  clear hn ha hmono
  go_enter Tryd.func62, Tryd.ntmps62
  go_wp2
  go_loopw [9, 10] (fun i j wr => ∃ a b : Nat, a ≤ b ∧ b ≤ n ∧ i = .int .i64 a ∧ j = .int .i64 b ∧ Hid (∀ q, q < a → cmpAtS l t q < 0) ∧ Hid (∀ q, b ≤ q → q < l.length → ¬ cmpAtS l t q < 0) ∧ Below w.heap.size w wr) (fun i j _ => (intOf j).toNat - (intOf i).toNat)
  case atStart => exact ⟨0, n, Nat.zero_le _, Nat.le_refl _, rfl, rfl, Lib.hid (fun q hq => absurd hq (Nat.not_lt_zero _)), Lib.hid (fun q h1 h2 => absurd h2 (by have := HN.out; omega)), Below.refl _ _⟩
  case round =>
    obtain ⟨a, b, hab, hbn, rfl, rfl, hlo, hhi, hbel⟩ := hrel
    have hhi0 := Lib.hid hhi.out
    by_cases hlt : a < b
    · obtain ⟨m, hmid⟩ : ∃ m, m = (a + b) / 2 := ⟨_, rfl⟩
      have hma : a ≤ m := by omega
      have hmb : m < b := by omega
      have he : ((a : Int) + (b : Int)) / 2 = (m : Int) := by omega
      have hm1 : m < l.length := by have := HN.out; omega
      obtain ⟨b1, o1, hA, hb1, hc1, hc1'⟩ := at_pairS HA.out hm1
      have hd0 := (below_cells hbel).1 b1 (o1 + m * 2) hb1
      have hd1 := (below_cells hbel).1 b1 (o1 + m * 2 + 1) hb1
      rw [hc1] at hd0
      rw [hc1'] at hd1
      clear hc1 hc1'
      have hcm : cmpAtS l t m = Lib.compareBytes l[m].1.data.toList t.data.toList := by simp [cmpAtS, hm1]
      have HCM := Lib.hid hcm
      have HMM := Lib.hid hmid
      clear hcm
      obtain ⟨s, hs⟩ : ∃ s, s = l[m].1 := ⟨_, rfl⟩
      obtain ⟨z, hz⟩ : ∃ z, z = l[m].2 := ⟨_, rfl⟩
      rw [← hs] at hd0 HCM
      rw [← hz] at hd1
      clear hs hz hmid
      have hmn : m < n := by omega
      subst hA
      go_wp2_with (first | (go_at_call 63; refine (find1_intS _ _ _ _).mono ?_; rintro e w6 ⟨rfl, hb6⟩))
      · rename_i hcl
        have hbel6 := below_join hbel hb6
        refine ⟨⟨m + 1, b, by omega, hbn, by go_num, rfl, Lib.hid (fun q hq => HM.out q m (by omega) hm1 (by rw [HCM.out]; exact hcl)), Lib.hid ?_, hbel6⟩, ?_⟩
        · exact fun q h1 h2 => Int.not_lt.mpr (hhi0.out q h1 h2)
        · simp [intOf]; omega
      · rename_i hcl
        have hbel6 := below_join hbel hb6
        refine ⟨⟨a, m, by omega, by omega, rfl, rfl, hlo, Lib.hid (fun q h1 h2 h3 => absurd (HM.out m q h1 h2 h3) (by rw [HCM.out]; omega)), hbel6⟩, ?_⟩
        simp [intOf]; omega
    · obtain rfl : a = b := by omega
      have hS : SrchS l t a := ⟨by have := HN.out; omega, hlo.out, hhi.out⟩
      by_cases han : a < n
      · have hm1 : a < l.length := by have := HN.out; omega
        obtain ⟨b1, o1, rfl, hb1, hc1, hc1'⟩ := at_pairS HA.out hm1
        have hd0 := (below_cells hbel).1 b1 (o1 + a * 2) hb1
        have hd1 := (below_cells hbel).1 b1 (o1 + a * 2 + 1) hb1
        rw [hc1] at hd0
        rw [hc1'] at hd1
        clear hc1 hc1'
        have hcm : cmpAtS l t a = Lib.compareBytes l[a].1.data.toList t.data.toList := by simp [cmpAtS, hm1]
        have HCM := Lib.hid hcm
        clear hcm
        obtain ⟨s, hs⟩ : ∃ s, s = l[a].1 := ⟨_, rfl⟩
        obtain ⟨z, hz⟩ : ∃ z, z = l[a].2 := ⟨_, rfl⟩
        rw [← hs] at hd0 HCM
        rw [← hz] at hd1
        clear hs hz
        go_wp2_with (first | (go_at_call 63; refine (find1_intS _ _ _ _).mono ?_; rintro e w6 ⟨rfl, hb6⟩))
        go_ret2
        refine ⟨a, ?_, hS, below_join hbel hb6⟩
        have hbq : ∀ x : Int, (x == 0) = decide (x = 0) := fun x => by by_cases h : x = 0 <;> simp [h]
        simp [han, HCM.out, hbq]
      · go_wp2
        go_ret2
        refine ⟨a, ?_, hS, hbel⟩
        simp [han]
set_option maxHeartbeats 2000000 in
set_option maxRecDepth 100000 in
theorem find_anyS (A : Option Addr) (n c : Nat) (l : List ParS) (t : ByteArray) (w : World) (hn : n = l.length) (hm : n ≤ 100000) (ha : At w A (pvS l))
    (hmono : ∀ a b, a ≤ b → b < l.length → cmpAtS l t b < 0 → cmpAtS l t a < 0) :
    Calls Tryd.prog 35 #[.slice A n c, .string t] w fun e w' =>
      ∃ k : Nat, SrchS l t k ∧ ((∃ h : k < l.length, cmpAtS l t k = 0 ∧ e = .returned (.tuple #[.string l[k].2, .bool true])) ∨ (¬ (k < l.length ∧ cmpAtS l t k = 0) ∧ e = .returned (.tuple #[.string { data := #[] }, .bool false]))) ∧ Below w.heap.size w w' := by
  have hB : Calls Tryd.prog 62 #[.slice A n c, .string t, .func (.func 63) #[] #[]] w fun e w' =>
      (∃ (k b1 o1 : Nat) (z : ByteArray), A = some ⟨b1, o1, none⟩ ∧ e = .returned (.tuple #[.int .i64 k, .bool true]) ∧ k < n ∧ w'.cell? ⟨b1, o1 + k * 2 + 1, none⟩ = some (.string z) ∧ Hid (SrchS l t k ∧ ∃ h : k < l.length, cmpAtS l t k = 0 ∧ z = l[k].2) ∧ Below w.heap.size w w') ∨ (∃ k : Nat, e = .returned (.tuple #[.int .i64 k, .bool false]) ∧ Hid (SrchS l t k ∧ ¬ (k < l.length ∧ cmpAtS l t k = 0)) ∧ Below w.heap.size w w') := by
    refine (bsearch_anyS A n c l t w hn hm ha hmono).mono ?_
    rintro e w1 ⟨k, rfl, hS, hbel⟩
    by_cases hk : k < n ∧ cmpAtS l t k = 0
    · have hkl : k < l.length := by omega
      obtain ⟨b1, o1, rfl, hb1, hc1, hc1'⟩ := at_pairS ha hkl
      have hd1 := (below_cells hbel).1 b1 (o1 + k * 2 + 1) hb1
      rw [hc1'] at hd1
      exact .inl ⟨k, b1, o1, _, rfl, by simp [hk.1, hk.2], hk.1, hd1, Lib.hid ⟨hS, hkl, hk.2, rfl⟩, hbel⟩
    · exact .inr ⟨k, by simp only [hk, decide_false], Lib.hid ⟨hS, fun h => hk ⟨by omega, h.2⟩⟩, hbel⟩
  clear hn ha hmono
  go_enter Tryd.func35, Tryd.ntmps35
  go_wp2_with (first | (go_at_call 62; refine hB.mono ?_; clear hB; rintro e w1 (⟨k, b1, o1, z, rfl, rfl, hk, hd, HQ, hbel⟩ | ⟨k, rfl, HQ, hbel⟩)))
  · obtain ⟨hS, hkl, hk2, rfl⟩ := HQ.out
    go_ret2
    exact ⟨k, hS, .inl ⟨hkl, hk2, rfl⟩, hbel⟩
  · go_ret2
    exact ⟨k, HQ.out.1, .inr ⟨HQ.out.2, rfl⟩, hbel⟩
theorem cmpAt_ltS {l : List ParS} {t : ByteArray} {k : Nat} (h : k < l.length) : (cmpAtS l t k < 0) ↔ blt l[k].1 t = true := by
  have h1 := St.cmpN_lt l[k].1 t
  unfold St.cmpN at h1
  unfold cmpAtS
  rw [dif_pos h, ← h1, decide_eq_true_iff]
theorem cmpAt_zeroS {l : List ParS} {t : ByteArray} {k : Nat} (h : k < l.length) (h0 : cmpAtS l t k = 0) : l[k].1 = t := by
  unfold cmpAtS at h0
  rw [dif_pos h, compare_less] at h0
  split at h0
  · cases h0
  · split at h0
    · rename_i h1
      exact ByteArray.ext (Array.ext' h1)
    · cases h0
theorem cmpAt_selfS {l : List ParS} {t : ByteArray} {k : Nat} (h : k < l.length) (h0 : l[k].1 = t) : cmpAtS l t k = 0 := by
  unfold cmpAtS
  rw [dif_pos h, h0, compare_less]
  have h1 : Op.bytesLess t.data.toList t.data.toList = false := less_irrefl _
  rw [h1]; simp
theorem rises_atS {m : List ParS} (hm : Rises m) {i j : Nat} (hij : i < j) (hj : j < m.length) : blt (m[i]'(by omega)).1 m[j].1 = true := List.pairwise_iff_getElem.1 hm i j (by omega) hj hij
theorem find_mapS (A : Option Addr) (n c : Nat) (m : List ParS) (t : ByteArray) (w : World) (hn : n = m.length) (hb : n ≤ 100000) (hm : Rises m) (ha : At w A (pvS m)) :
    Calls Tryd.prog 35 #[.slice A n c, .string t] w fun e w' =>
      (∃ z, getP m t = some z ∧ e = .returned (.tuple #[.string z, .bool true]) ∧ RowKit.Below w.heap.size w w') ∨ (getP m t = none ∧ e = .returned (.tuple #[.string { data := #[] }, .bool false]) ∧ RowKit.Below w.heap.size w w') := by
  refine (find_anyS A n c m t w hn hb ha (fun a b hab hbl h => ?_)).mono ?_
  · rw [cmpAt_ltS (by omega)]
    rw [cmpAt_ltS hbl] at h
    rcases Nat.lt_or_ge a b with h1 | h1
    · exact blt_trans (rises_atS hm h1 hbl) h
    · obtain rfl : a = b := by omega
      exact h
  · rintro e w' ⟨k, hS, h, hbel⟩
    rcases h with ⟨hk, h0, rfl⟩ | ⟨hno, rfl⟩
    · refine .inl ⟨_, ?_, rfl, hbel⟩
      have h1 := rises_get hm (List.getElem_mem hk)
      rw [cmpAt_zeroS hk h0] at h1
      exact h1
    · refine .inr ⟨?_, rfl, hbel⟩
      refine getP_none fun p hp e => hno ?_
      obtain ⟨i, hi, rfl⟩ := List.getElem_of_mem hp
      have h2 := cmpAt_selfS hi e
      have h3 : ¬ i < k := fun h => by have := hS.2.1 i h; omega
      have h4 : ¬ k < i := fun h => by
        have h5 := hS.2.2 k (Nat.le_refl _) (by omega)
        rw [cmpAt_ltS (by omega)] at h5
        exact h5 (by rw [← e]; exact rises_atS hm h hi)
      obtain rfl : i = k := by omega
      exact ⟨hi, h2⟩
end Go.Proofs.YtibcfmfihcgijaaDoor
/- props' Turn at texts (made by gen_str.py). -/
namespace Go.Proofs.YtibcfmfihcgijaaDoor
open Go.RowKit M
abbrev PStpS := Bool × BA × BA
def encQS (p : PStpS) : List Value := [.bool p.1, .string p.2.1, .string p.2.2]
theorem encQ_lenS (p : PStpS) : (encQS p).length = 3 := rfl
def psvS (l : List PStpS) : List Value := l.flatMap encQS
theorem psv_lenS (l : List PStpS) : (psvS l).length = l.length * 3 := St.flat_len (enc := encQS) encQ_lenS l
theorem psv_appS (a b : List PStpS) : psvS (a ++ b) = psvS a ++ psvS b := by simp [psvS]
theorem psv_oneS (l : List PStpS) : ∀ u ∈ psvS l, u.oneCell' = true := by
  intro u hu
  simp only [psvS, List.mem_flatMap] at hu
  obtain ⟨s, _, h⟩ := hu
  simp [encQS] at h
  rcases h with rfl | rfl | rfl <;> rfl
theorem infoPStpS : (Tryd.prog.info? 65).map (fun i => (i.zero, i.size, i.bytes)) = some (some (.agg #[.bool false, .string { data := #[] }, .string { data := #[] }]), 3, 40) := by kernel_rfl
def dropsFS (b : List ParS) (p : ParS) : Bool := (getP b p.1).isNone
def dropsGS (p : ParS) : PStpS := (true, p.1, (⟨#[]⟩ : ByteArray))
def setsFS (a : List ParS) (p : ParS) : Bool := !decide (getP a p.1 = some p.2)
def setsGS (p : ParS) : PStpS := (false, p.1, p.2)
theorem turnP_eqS (a b : List ParS) : turnP a b = ((ofP a).filter (dropsFS b)).map dropsGS ++ ((ofP b).filter (setsFS a)).map setsGS := rfl
set_option maxHeartbeats 8000000 in
set_option maxRecDepth 100000 in
theorem turn_anyS (A B : Option Addr) (n c m d : Nat) (a b : List ParS) (w : World) (hn : n = a.length) (hm : m = b.length) (hb : n ≤ 10000) (hb2 : m ≤ 10000) (hA0 : A = none → n = 0 ∧ c = 0) (hB0 : B = none → m = 0 ∧ d = 0) (ha : At w A (pvS a)) (hb' : At w B (pvS b)) :
    Calls Tryd.prog 30 #[.slice A n c, .slice B m d] w fun e w' => ∃ v, e = .returned v ∧ w'.ownsRow w.heap.size 65 3 v (turnP a b).length (psvS (turnP a b)) ∧ RowKit.Below w.heap.size w w' := by
  have H1 := Lib.hid (of_anyS A n c a w hn (by omega) hA0 ha)
  have H2 : Hid (∀ w1 : World, RowKit.Below w.heap.size w w1 → Calls Tryd.prog 18 #[.slice B m d] w1 fun e w' => ∃ v, e = .returned v ∧ w'.ownsRow w1.heap.size 70 2 v (ofP b).length (pvS (ofP b)) ∧ RowKit.Below w1.heap.size w1 w') := fun w1 h => of_anyS B m d b w1 hm (by omega) hB0 (hb'.below h)
  have hR1 := ofP_len a
  have hR2 := ofP_len b
  rw [← hn] at hR1
  rw [← hm] at hR2
  have HRa := Lib.hid (ofP_rises a)
  have HRb := Lib.hid (ofP_rises b)
  have HGa := Lib.hid (fun x => ofP_get a x)
  have HGb := Lib.hid (fun x => ofP_get b x)
  have HT := Lib.hid (turnP_eqS a b)
  obtain ⟨i0, hi, hz0, hz1, hz2⟩ := info_parts infoPStpS
  clear hn hm hA0 hB0 ha hb'
  generalize ofP a = R at H1 hR1 HRa HGa HT
  generalize ofP b = S at H2 hR2 HRb HGb HT
  go_enter Tryd.func30, Tryd.ntmps30
  go_wp2_with fail
  refine H1.out.mono ?_
  rintro e w1 ⟨v0, rfl, hown, hbel1⟩
  obtain ⟨A0, c0, rfl, _, _, hat⟩ := at_of_own' hown
  have HA1 := Lib.hid hat
  have HB1 := Lib.hid hbel1
  clear hat hown hbel1 H1
  go_wp2_with fail
  refine (H2.out w1 HB1.out).mono ?_
  rintro e w2 ⟨v1, rfl, hown, hbel2⟩
  obtain ⟨B0, d0, rfl, _, _, hat⟩ := at_of_own' hown
  have HAA := Lib.hid (HA1.out.below hbel2)
  have HBB := Lib.hid hat
  have HB2 := Lib.hid (HB1.out.trans (hbel2.mono HB1.out.size))
  clear hat hown hbel2 H2 HA1
  have hs2 := HB2.out.size
  go_wp2
  go_loopw [5, 20] (fun v i wr => ∃ (k : Nat) (out : List PStpS), k ≤ R.length ∧ i = .int .i64 k ∧ out.length ≤ k ∧ Hid (wr.ownsRow w2.heap.size 65 3 v out.length (psvS out)) ∧ Hid (out = ((R.take k).filter (dropsFS b)).map dropsGS) ∧ RowKit.Below w2.heap.size w2 wr) (fun _ i _ => R.length - (intOf i).toNat)
  case atStart => exact ⟨0, [], Nat.zero_le _, rfl, Nat.le_refl _, World.ownsRow_nil _ _ _ _, rfl, RowKit.Below.refl _ _⟩
  case round =>
    obtain ⟨k, out, hk, rfl, hol, hown, hout, hbel⟩ := hrel
    have hsz := hbel.size
    by_cases hlt : k < R.length
    · have hat := HAA.out.below hbel
      obtain ⟨b0, off, rfl, hlb, hd0, hd1⟩ := at_pairS hat hlt
      have hY := filter_take_yes R (dropsFS b) k hlt
      have hZ := filter_take_no R (dropsFS b) k hlt
      obtain ⟨s, hs⟩ : ∃ s, s = R[k].1 := ⟨_, rfl⟩
      obtain ⟨z, hz⟩ : ∃ z, z = R[k].2 := ⟨_, rfl⟩
      have hp : R[k] = (s, z) := by rw [hs, hz]
      rw [← hs] at hd0
      rw [← hz] at hd1
      rw [hp] at hY hZ
      have HY := Lib.hid hY
      have HZ := Lib.hid hZ
      clear hs hz hp hat hY hZ
      go_wp2_with fail
      refine (find_mapS B0 _ d0 S s _ rfl (by omega) HRb.out ((HBB.out.below hbel).alloc _)).mono ?_
      rintro e w5 (⟨y, hy, rfl, hb5⟩ | ⟨hy, rfl, hb5⟩)
      · have HX : Hid (out = ((R.take (k + 1)).filter (dropsFS b)).map dropsGS) := by
          show _ = _
          rw [HZ.out (by unfold dropsFS; rw [← HGb.out, hy]; rfl)]
          exact hout.out
        clear hy
        have G5 := Lib.hid ((below_alloc wr (.cells #[.string s, .string z] 70)).trans (hb5.mono (by simp)))
        have c0 : w5.cell? ⟨wr.heap.size, 0, none⟩ = some (.string s) := (hb5.cell (p := ⟨wr.heap.size, 0, none⟩) (by simp)).trans (by simp)
        have c1 : w5.cell? ⟨wr.heap.size, 1, none⟩ = some (.string z) := (hb5.cell (p := ⟨wr.heap.size, 1, none⟩) (by simp)).trans (by simp)
        have HO5 := Lib.hid (own_below hown.out G5.out)
        have hs5 : wr.heap.size ≤ w5.heap.size := G5.out.size
        clear hb5
        go_wp2
        go_roundw
        case rel => exact ⟨k + 1, out, by omega, by go_num, by omega, HO5.out, HX.out, hbel.trans (G5.out.mono hsz)⟩
        case measure => simp [intOf]; omega
      · have HX : Hid (out ++ [(true, s, (⟨#[]⟩ : ByteArray))] = ((R.take (k + 1)).filter (dropsFS b)).map dropsGS) := by
          show _ = _
          rw [HY.out (by unfold dropsFS; rw [← HGb.out, hy]; rfl), List.map_append, ← hout.out]
          rfl
        clear hy
        have G5 := Lib.hid ((below_alloc wr (.cells #[.string s, .string z] 70)).trans (hb5.mono (by simp)))
        have c0 : w5.cell? ⟨wr.heap.size, 0, none⟩ = some (.string s) := (hb5.cell (p := ⟨wr.heap.size, 0, none⟩) (by simp)).trans (by simp)
        have c1 : w5.cell? ⟨wr.heap.size, 1, none⟩ = some (.string z) := (hb5.cell (p := ⟨wr.heap.size, 1, none⟩) (by simp)).trans (by simp)
        have HO5 := Lib.hid (own_below hown.out G5.out)
        have hs5 : wr.heap.size ≤ w5.heap.size := G5.out.size
        clear hb5
        go_wp2_with (at_builtin; refine wpList_append_own _ rfl _ _ 57 rfl w2.heap.size 65 i0 (.agg #[.bool false, .string { data := #[] }, .string { data := #[] }]) 3 40 Tryd.underlying57 hi hz0 hz1 hz2 rfl (by decide) _ _ _ rfl (HO5.out.alloc _) ⟨_, 0, none⟩ 1 1 [.bool true, .string s, .string { data := #[] }] rfl rfl (cells_new' _ _ _ _ rfl _ (by simp)) (psv_oneS [(true, s, (⟨#[]⟩ : ByteArray))]) (by unfold maxLen; omega) (by omega) (by simp; omega) ?_; intro v1 w6 hown1 hgrow1 _hnil1; have HO6 := Lib.hid hown1; have HG6 := Lib.hid hgrow1; clear hown1 hgrow1 _hnil1)
        go_roundw
        case rel => exact ⟨k + 1, out ++ [(true, s, (⟨#[]⟩ : ByteArray))], by omega, by go_num, by rw [List.length_append]; simp; omega, by show World.ownsRow _ _ _ _ _ _ _; rw [psv_appS, List.length_append]; exact HO6.out, HX.out, ((hbel.trans (G5.out.mono hsz)).alloc (by omega) _).grown HG6.out (by simp; omega) (own_from hown.out)⟩
        case measure => simp [intOf]; omega
    · obtain rfl : k = R.length := by omega
      have HD : Hid (out = (R.filter (dropsFS b)).map dropsGS) := by
        have h1 := hout.out
        rw [List.take_of_length_le (Nat.le_refl _)] at h1
        exact h1
      clear hout
      obtain ⟨out0, ho0⟩ : ∃ o, o = out := ⟨_, rfl⟩
      rw [← ho0] at HD
      have hol0 : out.length ≤ 10000 := by omega
      go_wp2
      go_loopw [5, 42] (fun v i wr => ∃ (k : Nat) (out : List PStpS), k ≤ S.length ∧ i = .int .i64 k ∧ out.length ≤ 10000 + k ∧ Hid (wr.ownsRow w2.heap.size 65 3 v out.length (psvS out)) ∧ Hid (out = out0 ++ ((S.take k).filter (setsFS a)).map setsGS) ∧ RowKit.Below w2.heap.size w2 wr) (fun _ i _ => S.length - (intOf i).toNat)
      case atStart => exact ⟨0, out, Nat.zero_le _, rfl, by omega, hown.out, by rw [ho0]; show out = out ++ []; rw [List.append_nil], hbel⟩
      case round =>
        clear hown hol hbel hsz ho0 hol0
        obtain ⟨k, out, hk, rfl, hol, hown, hout, hbel⟩ := hrel
        have hsz := hbel.size
        by_cases hlt : k < S.length
        · have hat := HBB.out.below hbel
          obtain ⟨b0, off, rfl, hlb, hd0, hd1⟩ := at_pairS hat hlt
          have hY := filter_take_yes S (setsFS a) k hlt
          have hZ := filter_take_no S (setsFS a) k hlt
          obtain ⟨s, hs⟩ : ∃ s, s = S[k].1 := ⟨_, rfl⟩
          obtain ⟨z, hz⟩ : ∃ z, z = S[k].2 := ⟨_, rfl⟩
          have hp : S[k] = (s, z) := by rw [hs, hz]
          rw [← hs] at hd0
          rw [← hz] at hd1
          rw [hp] at hY hZ
          have HY := Lib.hid hY
          have HZ := Lib.hid hZ
          clear hs hz hp hat hY hZ
          go_wp2_with fail
          refine (find_mapS A0 _ c0 R s _ rfl (by omega) HRa.out ((HAA.out.below hbel).alloc _)).mono ?_
          rintro e w5 (⟨y, hy, rfl, hb5⟩ | ⟨hy, rfl, hb5⟩)
          · by_cases hyz : y = z
            · have HX : Hid (out = out0 ++ ((S.take (k + 1)).filter (setsFS a)).map setsGS) := by
                show _ = _
                rw [HZ.out (by unfold setsFS; rw [← HGa.out, hy, hyz]; simp)]
                exact hout.out
              have hdz : decide (y = z) = true := decide_eq_true hyz
              have HDZ := Lib.hid hdz
              clear hy hyz hdz
              have G5 := Lib.hid ((below_alloc wr (.cells #[.string s, .string z] 70)).trans (hb5.mono (by simp)))
              have c0 : w5.cell? ⟨wr.heap.size, 0, none⟩ = some (.string s) := (hb5.cell (p := ⟨wr.heap.size, 0, none⟩) (by simp)).trans (by simp)
              have c1 : w5.cell? ⟨wr.heap.size, 1, none⟩ = some (.string z) := (hb5.cell (p := ⟨wr.heap.size, 1, none⟩) (by simp)).trans (by simp)
              have HO5 := Lib.hid (own_below hown.out G5.out)
              have hs5 : wr.heap.size ≤ w5.heap.size := G5.out.size
              clear hb5
              go_wp2_with fail
              refine (alike_str y z _).mono ?_
              rintro e w7 ⟨rfl, hb7⟩
              rw [HDZ.out]
              have G7 := Lib.hid (G5.out.trans (hb7.mono hs5))
              have HO7 := Lib.hid (own_below hown.out G7.out)
              clear c0 c1 hb7 HO5 G5
              go_wp2
              go_roundw
              case rel => exact ⟨k + 1, out, by omega, by go_num, by omega, HO7.out, HX.out, hbel.trans (G7.out.mono hsz)⟩
              case measure => simp [intOf]; omega
            · have HX : Hid (out ++ [(false, s, z)] = out0 ++ ((S.take (k + 1)).filter (setsFS a)).map setsGS) := by
                show _ = _
                rw [HY.out (by unfold setsFS; rw [← HGa.out, hy]; simpa using hyz), List.map_append, hout.out, List.append_assoc]
                rfl
              have hdz : decide (y = z) = false := decide_eq_false hyz
              have HDZ := Lib.hid hdz
              clear hy hyz hdz
              have G5 := Lib.hid ((below_alloc wr (.cells #[.string s, .string z] 70)).trans (hb5.mono (by simp)))
              have c0 : w5.cell? ⟨wr.heap.size, 0, none⟩ = some (.string s) := (hb5.cell (p := ⟨wr.heap.size, 0, none⟩) (by simp)).trans (by simp)
              have c1 : w5.cell? ⟨wr.heap.size, 1, none⟩ = some (.string z) := (hb5.cell (p := ⟨wr.heap.size, 1, none⟩) (by simp)).trans (by simp)
              have HO5 := Lib.hid (own_below hown.out G5.out)
              have hs5 : wr.heap.size ≤ w5.heap.size := G5.out.size
              have C0 := Lib.hid c0
              have C1 := Lib.hid c1
              clear hb5
              go_wp2_with fail
              refine (alike_str y z _).mono ?_
              rintro e w7 ⟨rfl, hb7⟩
              rw [HDZ.out]
              have G7 := Lib.hid (G5.out.trans (hb7.mono hs5))
              clear c0 c1 HO5
              have c0 : w7.cell? ⟨wr.heap.size, 0, none⟩ = some (.string s) := (hb7.cell (p := ⟨wr.heap.size, 0, none⟩) (World.block_lt_of_cell? w5 _ C0.out)).trans C0.out
              have c1 : w7.cell? ⟨wr.heap.size, 1, none⟩ = some (.string z) := (hb7.cell (p := ⟨wr.heap.size, 1, none⟩) (World.block_lt_of_cell? w5 _ C1.out)).trans C1.out
              have HO5 := Lib.hid (own_below hown.out G7.out)
              have hs7 : wr.heap.size ≤ w7.heap.size := G7.out.size
              clear G5 hb7
              have G5 := Lib.hid G7.out
              go_wp2_with (at_builtin; refine wpList_append_own _ rfl _ _ 57 rfl w2.heap.size 65 i0 (.agg #[.bool false, .string { data := #[] }, .string { data := #[] }]) 3 40 Tryd.underlying57 hi hz0 hz1 hz2 rfl (by decide) _ _ _ rfl (HO5.out.alloc _) ⟨_, 0, none⟩ 1 1 [.bool false, .string s, .string z] rfl rfl (cells_new' _ _ _ _ rfl _ (by simp)) (psv_oneS [(false, s, z)]) (by unfold maxLen; omega) (by omega) (by simp; omega) ?_; intro v1 w6 hown1 hgrow1 _hnil1; have HO6 := Lib.hid hown1; have HG6 := Lib.hid hgrow1; clear hown1 hgrow1 _hnil1)
              go_roundw
              case rel => exact ⟨k + 1, out ++ [(false, s, z)], by omega, by go_num, by rw [List.length_append]; simp; omega, by show World.ownsRow _ _ _ _ _ _ _; rw [psv_appS, List.length_append]; exact HO6.out, HX.out, ((hbel.trans (G5.out.mono hsz)).alloc (by omega) _).grown HG6.out (by simp; omega) (own_from hown.out)⟩
              case measure => simp [intOf]; omega
          · have HX : Hid (out ++ [(false, s, z)] = out0 ++ ((S.take (k + 1)).filter (setsFS a)).map setsGS) := by
              show _ = _
              rw [HY.out (by unfold setsFS; rw [← HGa.out, hy]; simp), List.map_append, hout.out, List.append_assoc]
              rfl
            clear hy
            have G5 := Lib.hid ((below_alloc wr (.cells #[.string s, .string z] 70)).trans (hb5.mono (by simp)))
            have c0 : w5.cell? ⟨wr.heap.size, 0, none⟩ = some (.string s) := (hb5.cell (p := ⟨wr.heap.size, 0, none⟩) (by simp)).trans (by simp)
            have c1 : w5.cell? ⟨wr.heap.size, 1, none⟩ = some (.string z) := (hb5.cell (p := ⟨wr.heap.size, 1, none⟩) (by simp)).trans (by simp)
            have HO5 := Lib.hid (own_below hown.out G5.out)
            have hs5 : wr.heap.size ≤ w5.heap.size := G5.out.size
            clear hb5
            go_wp2_with (at_builtin; refine wpList_append_own _ rfl _ _ 57 rfl w2.heap.size 65 i0 (.agg #[.bool false, .string { data := #[] }, .string { data := #[] }]) 3 40 Tryd.underlying57 hi hz0 hz1 hz2 rfl (by decide) _ _ _ rfl (HO5.out.alloc _) ⟨_, 0, none⟩ 1 1 [.bool false, .string s, .string z] rfl rfl (cells_new' _ _ _ _ rfl _ (by simp)) (psv_oneS [(false, s, z)]) (by unfold maxLen; omega) (by omega) (by simp; omega) ?_; intro v1 w6 hown1 hgrow1 _hnil1; have HO6 := Lib.hid hown1; have HG6 := Lib.hid hgrow1; clear hown1 hgrow1 _hnil1)
            go_roundw
            case rel => exact ⟨k + 1, out ++ [(false, s, z)], by omega, by go_num, by rw [List.length_append]; simp; omega, by show World.ownsRow _ _ _ _ _ _ _; rw [psv_appS, List.length_append]; exact HO6.out, HX.out, ((hbel.trans (G5.out.mono hsz)).alloc (by omega) _).grown HG6.out (by simp; omega) (own_from hown.out)⟩
            case measure => simp [intOf]; omega
        · obtain rfl : k = S.length := by omega
          go_wp2
          go_ret
          have h1 := hout.out
          rw [List.take_of_length_le (Nat.le_refl _), HD.out, ← HT.out] at h1
          subst h1
          exact ⟨_, rfl, own_mono hown.out hs2, HB2.out.trans (hbel.mono hs2)⟩
end Go.Proofs.YtibcfmfihcgijaaDoor
/- As PrS8, at texts (made by gen_str.py). -/
namespace Go.Proofs.YtibcfmfihcgijaaDoor
open Go.RowKit Go.Sort M
/-- a step as a name with what is saidS of it. -/
abbrev TpS := BA × (Bool × BA)
def encTS (p : TpS) : List Value := [.bool p.2.1, .string p.1, .string p.2.2]
theorem encT_lenS (p : TpS) : (encTS p).length = 3 := rfl
theorem encT_oneS (p : TpS) : ∀ v ∈ encTS p, v.oneCell' = true := by
  intro v hv
  simp [encTS] at hv
  rcases hv with rfl | rfl | rfl <;> rfl
def tvS (l : List TpS) : List Value := l.flatMap encTS
theorem tv_lenS (l : List TpS) : (tvS l).length = l.length * 3 := St.flat_len (enc := encTS) encT_lenS l
theorem tv_appS (a b : List TpS) : tvS (a ++ b) = tvS a ++ tvS b := by simp [tvS]
theorem tv_oneS (l : List TpS) : ∀ u ∈ tvS l, u.oneCell' = true := by
  intro u hu
  simp only [tvS, List.mem_flatMap] at hu
  obtain ⟨s, _, h⟩ := hu
  exact encT_oneS s u h
theorem at_tripS {w : World} {A : Option Addr} {L : List TpS} (h : At w A (tvS L)) {k : Nat} (hk : k < L.length) :
    ∃ b off, A = some ⟨b, off, none⟩ ∧ b < w.heap.size ∧ w.cell? ⟨b, off + k * 3, none⟩ = some (.bool L[k].2.1) ∧ w.cell? ⟨b, off + k * 3 + 1, none⟩ = some (.string L[k].1) ∧ w.cell? ⟨b, off + k * 3 + 2, none⟩ = some (.string L[k].2.2) := by
  have h1 := St.flat_at (enc := encTS) encT_lenS L k hk 0 (by omega)
  have h2 := St.flat_at (enc := encTS) encT_lenS L k hk 1 (by omega)
  have h3 := St.flat_at (enc := encTS) encT_lenS L k hk 2 (by omega)
  obtain ⟨b, off, e, hb, hc⟩ := h (fun e => by rw [show L.flatMap encTS = [] from e] at h1; simp [encTS] at h1)
  exact ⟨b, off, e, hb, hc _ _ h1, hc _ _ h2, hc _ _ h3⟩
theorem ap1_gS (d : Bool) (s : ByteArray) (z : ByteArray) (w : World) :
    Calls Tryd.prog 58 #[.agg #[.bool d, .string s, .string z]] w fun e w' => e = .returned (.string s) ∧ ∃ q os', w' = grow (w.drewN q) os' := by
  go_enter Tryd.func58, Tryd.ntmps58
  go_wp2
  go_ret
  exact ⟨rfl, 0, _, alloc_eq_grow _ _⟩
set_option maxHeartbeats 4000000 in
set_option maxRecDepth 100000 in
theorem latestT_gS (d f : Bool) (s t : ByteArray) (y z : ByteArray) (B : Nat) (w : World) (hB : w.cell? ⟨B, 0, none⟩ = some (.func (.func 58) #[] #[])) :
    Calls Tryd.prog 82 #[.agg #[.bool d, .string s, .string y], .agg #[.bool f, .string t, .string z], .pointer (some ⟨B, 0, none⟩)] w fun e w' => e = .returned (.int .i64 (St.cmpN s t)) ∧ ∃ q os', w' = grow (w.drewN q) os' := by
  have mixed : Tryd.prog.follows .mixedOrders = true := by kernel_rfl
  have hlt : B < w.heap.size := World.block_lt_of_cell? w _ hB
  go_enter Tryd.func82, Tryd.ntmps82
  go_wp2_with fail
  obtain ⟨W, hW⟩ : ∃ W, W = (w.alloc (.cells #[.bool d, .string s, .string y] 65)).alloc (.cells #[.bool f, .string t, .string z] 65) := ⟨_, rfl⟩
  have HWG := Lib.hid (show W = grow w (#[.cells #[.bool d, .string s, .string y] 65] ++ #[.cells #[.bool f, .string t, .string z] 65]) by rw [hW, alloc_eq_grow, alloc_eq_grow, grow_grow])
  have hs : W.heap.size = w.heap.size + 2 := by rw [hW]; simp
  have f0 : ∀ n os, (grow (W.drewN n) os).cell? ⟨B, 0, none⟩ = some (.func (.func 58) #[] #[]) := cell_grown (by show B < _; omega) (by rw [hW]; exact Lib.cell?_alloc_some _ (Lib.cell?_alloc_some _ hB))
  have f1 : ∀ n os, (grow (W.drewN n) os).cell? ⟨w.heap.size, 0, none⟩ = some (.bool d) := cell_grown (by show w.heap.size < _; omega) (by rw [hW]; simp)
  have f2 : ∀ n os, (grow (W.drewN n) os).cell? ⟨w.heap.size, 1, none⟩ = some (.string s) := cell_grown (by show w.heap.size < _; omega) (by rw [hW]; simp)
  have f3 : ∀ n os, (grow (W.drewN n) os).cell? ⟨w.heap.size, 2, none⟩ = some (.string y) := cell_grown (by show w.heap.size < _; omega) (by rw [hW]; simp)
  have f4 : ∀ n os, (grow (W.drewN n) os).cell? ⟨w.heap.size + 1, 0, none⟩ = some (.bool f) := cell_grown (by show w.heap.size + 1 < _; omega) (by rw [hW]; simp)
  have f5 : ∀ n os, (grow (W.drewN n) os).cell? ⟨w.heap.size + 1, 1, none⟩ = some (.string t) := cell_grown (by show w.heap.size + 1 < _; omega) (by rw [hW]; simp)
  have f6 : ∀ n os, (grow (W.drewN n) os).cell? ⟨w.heap.size + 1, 2, none⟩ = some (.string z) := cell_grown (by show w.heap.size + 1 < _; omega) (by rw [hW]; simp)
  rw [← hW]
  clear hW hs hB hlt
  generalize w.heap.size = g at f1 f2 f3 f4 f5 f6
  go_quiet_grown (first | (go_at_call 58; refine Calls.grown_of (ap1_gS _ _ _ _)) | (go_at_call 61; refine Calls.grown_of (compare_g _ _ _)))
  go_wp2
  go_ret
  exact ⟨rfl, nq, _, by rw [HWG.out]; exact grow_grow (w.drewN nq) _ osq⟩
/-- what the sort asks of the comparison. -/
theorem cmpT_laysS (B blk size : Nat) (w : World) (hB : w.cell? ⟨B, 0, none⟩ = some (.func (.func 58) #[] #[])) (hne : B ≠ blk) :
    CmpLays Tryd.prog 82 #[.pointer (some ⟨B, 0, none⟩)] encTS 3 St.cfP blk 0 size w := fun m os dk _ x y => by
  have hlt : B < w.heap.size := World.block_lt_of_cell? w _ hB
  refine latestT_gS x.2.1 y.2.1 x.1 y.1 x.2.2 y.2.2 B _ ?_
  unfold sortWorldK
  rw [cell?_grow _ _ _ (by rw [size_putRowK]; exact hlt), cell?_putRowK_other encTS 3 _ blk 0 dk _ (by exact hne)]
  exact hB
set_option maxHeartbeats 2000000 in
set_option maxRecDepth 100000 in
theorem cloneT_anyS (A : Option Addr) (n c : Nat) (l : List TpS) (w : World) (hn : n = l.length) (hb : n ≤ 1000000000000) (hA0 : A = none → n = 0 ∧ c = 0) (ha : At w A (tvS l)) :
    Calls Tryd.prog 80 #[.slice A n c] w fun e w' => ∃ v, e = .returned v ∧ w'.ownsRow w.heap.size 65 3 v n (tvS l) ∧ Below w.heap.size w w' := by
  have hl := tv_lenS l
  rw [← hn] at hl
  clear hn
  have HL := Lib.hid hl
  have HA := Lib.hid ha
  clear hl ha
  obtain ⟨i0, hi, hz0, hz1, hz2⟩ := info_parts infoPStpS
  have q22 : ∀ (w : World) (a : Option Addr) (n c n' c' : Nat), (binOp .eql 57 (.slice a n c) (.slice none n' c')).run Tryd.prog w = .ok (.bool a.isNone) w := fun w a n c n' c' => Lib.run_eql_slice_nil w _ _ a n c n' c' Tryd.underlying57
  cases A with
  | none =>
    obtain ⟨rfl, rfl⟩ := hA0 rfl
    go_enter Tryd.func80, Tryd.ntmps80
    go_wp2
    go_ret
    refine ⟨_, rfl, ?_, Below.refl _ _⟩
    have h0 : tvS l = [] := List.eq_nil_of_length_eq_zero (by simpa using HL.out)
    rw [h0]
    exact World.ownsRow_nil _ _ _ _
  | some a =>
    go_enter Tryd.func80, Tryd.ntmps80
    go_wp2_with (at_builtin; refine wpList_append_at rfl _ _ 57 rfl w.heap.size 65 i0 _ 3 40 Tryd.underlying57 hi hz0 hz1 hz2 rfl (by decide) _ 0 [] rfl (own_made w _ rfl (Nat.le_refl _)) (some a) n c (tvS l) rfl (fun h => nomatch h) HL.out (HA.out.alloc _) (tv_oneS l) ?_ ?_ ?_ ?_)
    · unfold maxLen; omega
    · omega
    · simp
    · intro v w1 hown hgrow
      go_wp2
      go_ret
      refine ⟨v, rfl, by simpa using hown, ?_⟩
      exact ((Below.refl _ w).alloc (Nat.le_refl _) _).grown hgrow (by simp) (by intro k hk; simp [Value.ownBlock] at hk; omega)
/-- the library's stable sort at a row of one's own. -/
theorem sortT_ownS (B g n c base : Nat) (l : List TpS) (w : World) (hB : w.cell? ⟨B, 0, none⟩ = some (.func (.func 58) #[] #[])) (hne : B ≠ g) (hb : n ≤ 10000000000)
    (hown : w.ownsRow base 65 3 (.slice (some ⟨g, 0, none⟩) n c) n (tvS l)) (hn : n = l.length) (D : Nat) (hD : D ≤ g) (hDw : D ≤ w.heap.size) :
    Calls Tryd.prog 81 #[.slice (some ⟨g, 0, none⟩) n c, .func (.func 82) #[] #[.pointer (some ⟨B, 0, none⟩)]] w fun e w' =>
      e = .returned (.tuple #[]) ∧ ∃ l' : List TpS, l'.length = n ∧ St.lasts l' = ofP l ∧ At w' (some ⟨g, 0, none⟩) (tvS l') ∧ Below D w w' ∧ (g < w'.heap.size) ∧ w'.cell? ⟨B, 0, none⟩ = some (.func (.func 58) #[] #[]) := by
  subst hn
  obtain ⟨hH, hg⟩ := St.holds_of_own (enc := encTS) (k := 3) encT_lenS hown
  have hlt : B < w.heap.size := World.block_lt_of_cell? w _ hB
  have hs := St.SS.sorts (nm := (Prod.fst : TpS → ByteArray)) encTS St.cfP St.swoP St.neP 82 #[.pointer (some ⟨B, 0, none⟩)] g 0 c l.toArray w
    (enters_of Tryd.func82 (by kernel_rfl) rfl) (cmpT_laysS B g l.toArray.size w hB hne) ⟨encT_lenS, encT_oneS, hH, hg⟩ (by simp; omega)
  rw [show l.toArray.size = l.length from by simp] at hs
  refine hs.mono ?_
  rintro e w' ⟨rfl, d', hk, hs', hw⟩
  have hsz : d'.size = l.length := by have := hk.size; simpa using this
  have hle : g < w'.heap.size := hw.lt hg
  refine ⟨rfl, d'.toList, by simpa using hsz, ?_, ?_, St.swk_below hw hD hDw, hle, ?_⟩
  · have := St.sorted_map (d := l.toArray) (d' := d') (by simpa using hk) (by simpa using hs')
    simpa using this
  · exact St.at_of_holds (enc := encTS) (k := 3) encT_lenS (hw.holds hg hH (by simpa using hsz)) hle
  · obtain ⟨m, os, rfl⟩ := hw
    unfold sortWorldK
    rw [cell?_grow _ _ _ (by rw [size_putRowK]; exact hlt), cell?_putRowK_other encTS 3 _ g 0 d' _ (by exact hne)]
    exact hB
/-- .. and at nil. -/
theorem sortT_anyS (B n base : Nat) (v : Value) (l : List TpS) (w : World) (hB : w.cell? ⟨B, 0, none⟩ = some (.func (.func 58) #[] #[])) (hne : B < base) (hb : n ≤ 10000000000)
    (hown : w.ownsRow base 65 3 v n (tvS l)) (hn : n = l.length) (hbase : base ≤ w.heap.size) :
    Calls Tryd.prog 81 #[v, .func (.func 82) #[] #[.pointer (some ⟨B, 0, none⟩)]] w fun e w' =>
      e = .returned (.tuple #[]) ∧ ∃ (l' : List TpS) (A1 : Option Addr) (c1 : Nat), v = .slice A1 n c1 ∧ l'.length = n ∧ St.lasts l' = ofP l ∧ At w' A1 (tvS l') ∧ Below base w w' ∧ (∀ b off, A1 = some ⟨b, off, none⟩ → b < w'.heap.size) ∧ w'.cell? ⟨B, 0, none⟩ = some (.func (.func 58) #[] #[]) := by
  rcases hown.2 with ⟨rfl, rfl⟩ | ⟨g, c, cur, rfl, hg, _⟩
  · refine (St.SS.sorts_none none 0 (.func (.func 82) #[] #[.pointer (some ⟨B, 0, none⟩)]) w).mono ?_
    rintro e w' ⟨rfl, rfl⟩
    have hl : l = [] := List.eq_nil_of_length_eq_zero hn.symm
    subst hl
    exact ⟨rfl, [], none, 0, rfl, rfl, rfl, At.nil _ _, Below.refl _ _, (fun b off h => nomatch h), hB⟩
  · refine (sortT_ownS B g n c base l w hB (by omega) hb hown hn base hg hbase).mono ?_
    rintro e w' ⟨rfl, l', h1, h2, h3, h4, h5, h6⟩
    exact ⟨rfl, l', _, c, rfl, h1, h2, h3, h4, (fun b off h => by injection h with h; injection h with h; omega), h6⟩
end Go.Proofs.YtibcfmfihcgijaaDoor
/- As PrS9, at texts (made by gen_str.py). -/
namespace Go.Proofs.YtibcfmfihcgijaaDoor
open Go.RowKit Go.Sort M
set_option maxHeartbeats 8000000 in
set_option maxRecDepth 100000 in
theorem latestT_anyS (A : Option Addr) (n c : Nat) (l : List TpS) (w : World) (hn : n = l.length) (hb : n ≤ 100000) (hA0 : A = none → n = 0 ∧ c = 0) (ha : At w A (tvS l)) :
    Calls Tryd.prog 57 #[.slice A n c, .func (.func 58) #[] #[]] w fun e w' => ∃ v, e = .returned v ∧ w'.ownsRow w.heap.size 65 3 v (ofP l).length (tvS (ofP l)) ∧ Below w.heap.size w w' := by
  have mixed : Tryd.prog.follows .mixedOrders = true := by kernel_rfl
  obtain ⟨w1, hw1⟩ : ∃ w1 : World, w1 = w.alloc (.cells #[.func (.func 58) #[] #[]] 89) := ⟨_, rfl⟩
  have hs1 : w1.heap.size = w.heap.size + 1 := by rw [hw1]; simp
  have hBel1 : Below w.heap.size w w1 := by rw [hw1]; exact below_alloc _ _
  have hC1 : w1.cell? ⟨w.heap.size, 0, none⟩ = some (.func (.func 58) #[] #[]) := by rw [hw1]; simp
  have hcl := cloneT_anyS A n c l w1 hn (by omega) hA0 (by rw [hw1]; exact ha.alloc _)
  rw [hs1] at hcl
  have HCL := Lib.hid hcl
  have HN := Lib.hid hn
  have HB1 := Lib.hid hBel1
  have HC1 := Lib.hid hC1
  have HS1 := Lib.hid hs1
  have HW1 := Lib.hid hw1
  clear hcl hn hBel1 hC1 ha hs1
  obtain ⟨i0, hi, hz0, hz1, hz2⟩ := info_parts infoPStpS
  go_enter Tryd.func57, Tryd.ntmps57
  go_wp2_with fail
  rw [← HW1.out]
  clear hw1
  go_wp2_with (go_at_call 80; refine HCL.out.mono ?_; rintro e9 w2 ⟨v, rfl, hown, hbel⟩; have HO := Lib.hid hown; have HB2 := Lib.hid hbel; clear hown hbel HCL)
  have hs2 : w1.heap.size ≤ w2.heap.size := HB2.out.size
  have hso := Lib.hid (sortT_anyS w.heap.size n (w.heap.size + 1) v l w2 ((HB2.out.cell (p := ⟨w.heap.size, 0, none⟩) (by show w.heap.size < _; omega)).trans HC1.out) (by omega) (by omega) HO.out HN.out (by have := HS1.out; omega))
  go_wp2_with (go_at_call 81; refine hso.out.mono ?_; rintro e9 w3 ⟨rfl, l', A1, c1, hv, hln, hlas, hat3, hbel3, hin3, hC3⟩; have HLN := Lib.hid hln; have HL0 := Lib.hid hlas; have HA3 := Lib.hid hat3; have HB3 := Lib.hid hbel3; have HI3 := Lib.hid hin3; have HC3 := Lib.hid hC3; subst hv; clear hln hlas hat3 hbel3 hin3 hC3 hso)
  have HBel := Lib.hid (HB1.out.trans ((HB2.out.mono (by omega)).trans (HB3.out.mono (by omega))))
  have hs3 : w.heap.size + 1 ≤ w3.heap.size := by have h1 := HB3.out.size; have h2 := HS1.out; omega
  clear hs2
  go_loopw [6, 16] (fun v i wr => ∃ (k : Nat) (out : List TpS), k ≤ n ∧ i = .int .i64 k ∧ out.length ≤ k ∧ Hid (wr.ownsRow w.heap.size 65 3 v out.length (tvS out)) ∧ Hid (out ++ St.lasts (l'.drop k) = ofP l) ∧ Hid (At wr A1 (tvS l')) ∧ Hid (wr.cell? ⟨w.heap.size, 0, none⟩ = some (.func (.func 58) #[] #[])) ∧ RowKit.Below w.heap.size w wr ∧ Hid (∀ g, v.ownBlock = some g → w3.heap.size ≤ g) ∧ w3.heap.size ≤ wr.heap.size) (fun _ i _ => n - (intOf i).toNat)
  case atStart => exact ⟨0, [], Nat.zero_le _, rfl, Nat.le_refl _, World.ownsRow_nil _ _ _ _, HL0.out, HA3.out, HC3.out, HBel.out, (fun g h => nomatch h), Nat.le_refl _⟩
  case round =>
    obtain ⟨k, out, hk, rfl, hol, hown, hlast, hat, hfn, hbel, hwhere, hw3⟩ := hrel
    by_cases hlt : k < n
    · have hk1 : k < l'.length := by have := HLN.out; omega
      obtain ⟨b, off, rfl, hlb, hdb, hd0, hd1⟩ := at_tripS hat.out hk1
      have hb3 := HI3.out b off rfl
      have hkn : (k : Int) < (n : Int) := by omega
      obtain ⟨s, hs⟩ : ∃ s, s = l'[k].1 := ⟨_, rfl⟩
      obtain ⟨z, hz⟩ : ∃ z, z = l'[k].2.2 := ⟨_, rfl⟩
      obtain ⟨dr, hdr⟩ : ∃ dr, dr = l'[k].2.1 := ⟨_, rfl⟩
      have HSZ := Lib.hid (show l'[k] = (s, (dr, z)) by rw [hs, hz, hdr])
      rw [← hs] at hd0
      rw [← hz] at hd1
      rw [← hdr] at hdb
      clear hs hz hdr
      have HPP := Lib.hid (show tvS (out ++ [(s, (dr, z))]) = tvS out ++ [.bool dr, .string s, .string z] by rw [tv_appS]; rfl)
      obtain ⟨W, hW⟩ : ∃ W, W = wr.alloc (.cells #[.bool dr, .string s, .string z] 65) := ⟨_, rfl⟩
      have HWS := Lib.hid (show W.heap.size = wr.heap.size + 1 by rw [hW]; simp)
      have HWB := Lib.hid (show RowKit.Below wr.heap.size wr W by rw [hW]; exact below_alloc _ _)
      have HXB := Lib.hid (show W.cell? ⟨wr.heap.size, 0, none⟩ = some (.bool dr) by rw [hW]; simp)
      have HX0 := Lib.hid (show W.cell? ⟨wr.heap.size, 1, none⟩ = some (.string s) by rw [hW]; simp)
      have HX1 := Lib.hid (show W.cell? ⟨wr.heap.size, 2, none⟩ = some (.string z) by rw [hW]; simp)
      have HWE := Lib.hid hW
      clear hW
      have hsz := hbel.size
      have hwr : IntKind.i64.wrap ((k : Int) + 1) = (k : Int) + 1 := by rw [IntKind.wrap_i64]; omega
      have hw0 : (0 : Int) ≤ (k : Int) + 1 := by omega
      have hwn : ((k : Int) + 1).toNat = k + 1 := by omega
      by_cases hend : k + 1 = n
      · have he : ((k : Int) + 1 == (n : Int)) = true := by rw [beq_iff_eq]; omega
        have HX : Hid (out ++ [(s, (dr, z))] ++ St.lasts (l'.drop (k + 1)) = ofP l) := by
          have h1 := hlast.out
          rw [St.lasts_end l' k (by have := HLN.out; omega), HSZ.out] at h1
          show _ = _
          rw [List.drop_of_length_le (by have := HLN.out; omega), h1]
          simp [St.lasts]
        go_wp2_with fail
        rw [← HWE.out]
        go_quiet (fail)
        have G1 := Lib.hid (drewN_below' (RowKit.Below.refl W.heap.size W) nq)
        generalize W.drewN nq = W2 at G1 ⊢
        have G0 := Lib.hid (HWB.out.trans (G1.out.mono (by have := HWS.out; omega)))
        have HO2 := Lib.hid (own_below hown.out G0.out)
        have c0 : W2.cell? ⟨w.heap.size, 0, none⟩ = some (.func (.func 58) #[] #[]) := (G0.out.cell (p := ⟨w.heap.size, 0, none⟩) (by show w.heap.size < _; omega)).trans hfn.out
        have cb : W2.cell? ⟨wr.heap.size, 0, none⟩ = some (.bool dr) := (G1.out.cell (p := ⟨wr.heap.size, 0, none⟩) (by show wr.heap.size < _; have := HWS.out; omega)).trans HXB.out
        have c1 : W2.cell? ⟨wr.heap.size, 1, none⟩ = some (.string s) := (G1.out.cell (p := ⟨wr.heap.size, 1, none⟩) (by show wr.heap.size < _; have := HWS.out; omega)).trans HX0.out
        have c2 : W2.cell? ⟨wr.heap.size, 2, none⟩ = some (.string z) := (G1.out.cell (p := ⟨wr.heap.size, 2, none⟩) (by show wr.heap.size < _; have := HWS.out; omega)).trans HX1.out
        have hbs2 : w.heap.size ≤ W2.heap.size := by have := G0.out.size; omega
        clear nq
        go_wp2_with (at_builtin; refine wpList_append_own_at _ rfl _ _ 57 rfl w.heap.size 65 i0 (.agg #[.bool false, .string { data := #[] }, .string { data := #[] }]) 3 40 Tryd.underlying57 hi hz0 hz1 hz2 rfl (by decide) _ _ _ rfl (HO2.out.alloc _) ⟨_, 0, none⟩ 1 1 [.bool dr, .string s, .string z] rfl rfl (cells_new' _ _ _ _ rfl _ (by simp)) (tv_oneS [(s, (dr, z))]) (by unfold maxLen; omega) (by omega) (by simp; omega) ?_; intro v1 w5 hown1 hgrow1 _hnil1 hloc1; have HO5 := Lib.hid hown1; have HG5 := Lib.hid hgrow1; have HL5 := Lib.hid hloc1; clear hown1 hgrow1 _hnil1 hloc1)
        go_roundw
        case rel => exact ⟨k + 1, out ++ [(s, (dr, z))], by omega, by go_num, by rw [List.length_append]; simp; omega, by show World.ownsRow _ _ _ _ _ _ _; rw [HPP.out, List.length_append]; exact HO5.out, HX.out, ((hat.out.below (G0.out.mono (Nat.le_refl _))).alloc _).grown HG5.out (fun e => by have := hwhere.out b e.symm; omega), HG5.out.cell (Lib.cell?_alloc_some _ c0) (fun e => by have := hwhere.out w.heap.size e.symm; omega), ((hbel.trans (G0.out.mono hsz)).alloc (by have := G0.out.size; omega) _).grown HG5.out (by have := G0.out.size; simp; omega) (own_from hown.out), (fun g h => by rcases HL5.out with e | e; exact hwhere.out g (e.symm.trans h); rw [e] at h; injection h with h; have := G0.out.size; first | omega | (simp at h; omega)), by have h5 := HG5.out.size; have h6 := G0.out.size; simp at h5; omega⟩
        case measure => simp [intOf]; omega
      · have hk2 : k + 1 < l'.length := by have := HLN.out; omega
        have he : ((k : Int) + 1 == (n : Int)) = false := by rw [beq_eq_false_iff_ne]; omega
        have hkn2 : (k : Int) + 1 < (n : Int) := by omega
        obtain ⟨b', off', hbe, _, hdc, hd2, hd3⟩ := at_tripS hat.out hk2
        injection hbe with hbe
        injection hbe with hbe1 hbe2
        subst hbe1 hbe2
        obtain ⟨t, ht⟩ : ∃ t, t = l'[k + 1].1 := ⟨_, rfl⟩
        obtain ⟨y, hy⟩ : ∃ y, y = l'[k + 1].2.2 := ⟨_, rfl⟩
        obtain ⟨dq, hdq⟩ : ∃ dq, dq = l'[k + 1].2.1 := ⟨_, rfl⟩
        rw [← ht] at hd2
        rw [← hy] at hd3
        rw [← hdq] at hdc
        have HT := Lib.hid ht
        clear ht hy hdq
        have f0 : ∀ n os, (grow (W.drewN n) os).cell? ⟨w.heap.size, 0, none⟩ = some (.func (.func 58) #[] #[]) := cell_grown (by show w.heap.size < _; have := HWS.out; omega) ((HWB.out.cell (p := ⟨w.heap.size, 0, none⟩) (by show w.heap.size < _; omega)).trans hfn.out)
        have f1 : ∀ n os, (grow (W.drewN n) os).cell? ⟨wr.heap.size, 0, none⟩ = some (.bool dr) := cell_grown (by show wr.heap.size < _; have := HWS.out; omega) HXB.out
        have f2 : ∀ n os, (grow (W.drewN n) os).cell? ⟨wr.heap.size, 1, none⟩ = some (.string s) := cell_grown (by show wr.heap.size < _; have := HWS.out; omega) HX0.out
        have f3 : ∀ n os, (grow (W.drewN n) os).cell? ⟨wr.heap.size, 2, none⟩ = some (.string z) := cell_grown (by show wr.heap.size < _; have := HWS.out; omega) HX1.out
        have f4 : ∀ n os, (grow (W.drewN n) os).cell? ⟨b, off + (k + 1) * 3, none⟩ = some (.bool dq) := cell_grown (by show b < _; have := HWS.out; omega) ((HWB.out.cell (p := ⟨b, off + (k + 1) * 3, none⟩) hlb).trans hdc)
        have f5 : ∀ n os, (grow (W.drewN n) os).cell? ⟨b, off + (k + 1) * 3 + 1, none⟩ = some (.string t) := cell_grown (by show b < _; have := HWS.out; omega) ((HWB.out.cell (p := ⟨b, off + (k + 1) * 3 + 1, none⟩) hlb).trans hd2)
        have f6 : ∀ n os, (grow (W.drewN n) os).cell? ⟨b, off + (k + 1) * 3 + 2, none⟩ = some (.string y) := cell_grown (by show b < _; have := HWS.out; omega) ((HWB.out.cell (p := ⟨b, off + (k + 1) * 3 + 2, none⟩) hlb).trans hd3)
        clear hd2 hd3 hdc
        have hST := St.lasts_step l' k hk2
        rw [← HT.out, HSZ.out] at hST
        by_cases hst : t = s
        · have h1 := str_yes hst
          have HX : Hid (out ++ St.lasts (l'.drop (k + 1)) = ofP l) := by
            have h1 := hlast.out
            rw [hST, if_pos (by simpa using hst.symm)] at h1
            exact h1
          clear hst hST
          go_wp2_with fail
          rw [← HWE.out]
          go_quiet_grown (first | (go_at_call 58; refine Calls.grown_of (ap1_gS _ _ _ _)))
          clear f0 f1 f2 f3 f4 f5 f6
          have G1 := Lib.hid (St.grow_below (RowKit.Below.refl W.heap.size W) (Nat.le_refl _) nq osq)
          generalize grow (W.drewN nq) osq = W2 at G1 ⊢
          have G0 := Lib.hid (HWB.out.trans (G1.out.mono (by have := HWS.out; omega)))
          have HO2 := Lib.hid (own_below hown.out G0.out)
          have c0 : W2.cell? ⟨w.heap.size, 0, none⟩ = some (.func (.func 58) #[] #[]) := (G0.out.cell (p := ⟨w.heap.size, 0, none⟩) (by show w.heap.size < _; omega)).trans hfn.out
          have cb : W2.cell? ⟨wr.heap.size, 0, none⟩ = some (.bool dr) := (G1.out.cell (p := ⟨wr.heap.size, 0, none⟩) (by show wr.heap.size < _; have := HWS.out; omega)).trans HXB.out
          have c1 : W2.cell? ⟨wr.heap.size, 1, none⟩ = some (.string s) := (G1.out.cell (p := ⟨wr.heap.size, 1, none⟩) (by show wr.heap.size < _; have := HWS.out; omega)).trans HX0.out
          have c2 : W2.cell? ⟨wr.heap.size, 2, none⟩ = some (.string z) := (G1.out.cell (p := ⟨wr.heap.size, 2, none⟩) (by show wr.heap.size < _; have := HWS.out; omega)).trans HX1.out
          have hbs2 : w.heap.size ≤ W2.heap.size := by have := G0.out.size; omega
          clear nq osq
          go_wp2
          go_roundw
          case rel => exact ⟨k + 1, out, by omega, by go_num, by omega, by show World.ownsRow _ _ _ _ _ _ _; exact HO2.out, HX.out, hat.out.below (G0.out.mono (Nat.le_refl _)), c0, hbel.trans (G0.out.mono hsz), hwhere.out, by have := G0.out.size; omega⟩
          case measure => simp [intOf]; omega
        · have h1 := str_no hst
          have HX : Hid (out ++ [(s, (dr, z))] ++ St.lasts (l'.drop (k + 1)) = ofP l) := by
            have h1 := hlast.out
            rw [hST, if_neg (by simpa using fun e => hst e.symm)] at h1
            show _ = _
            rw [← h1]; simp
          clear hst hST
          go_wp2_with fail
          rw [← HWE.out]
          go_quiet_grown (first | (go_at_call 58; refine Calls.grown_of (ap1_gS _ _ _ _)))
          clear f0 f1 f2 f3 f4 f5 f6
          have G1 := Lib.hid (St.grow_below (RowKit.Below.refl W.heap.size W) (Nat.le_refl _) nq osq)
          generalize grow (W.drewN nq) osq = W2 at G1 ⊢
          have G0 := Lib.hid (HWB.out.trans (G1.out.mono (by have := HWS.out; omega)))
          have HO2 := Lib.hid (own_below hown.out G0.out)
          have c0 : W2.cell? ⟨w.heap.size, 0, none⟩ = some (.func (.func 58) #[] #[]) := (G0.out.cell (p := ⟨w.heap.size, 0, none⟩) (by show w.heap.size < _; omega)).trans hfn.out
          have cb : W2.cell? ⟨wr.heap.size, 0, none⟩ = some (.bool dr) := (G1.out.cell (p := ⟨wr.heap.size, 0, none⟩) (by show wr.heap.size < _; have := HWS.out; omega)).trans HXB.out
          have c1 : W2.cell? ⟨wr.heap.size, 1, none⟩ = some (.string s) := (G1.out.cell (p := ⟨wr.heap.size, 1, none⟩) (by show wr.heap.size < _; have := HWS.out; omega)).trans HX0.out
          have c2 : W2.cell? ⟨wr.heap.size, 2, none⟩ = some (.string z) := (G1.out.cell (p := ⟨wr.heap.size, 2, none⟩) (by show wr.heap.size < _; have := HWS.out; omega)).trans HX1.out
          have hbs2 : w.heap.size ≤ W2.heap.size := by have := G0.out.size; omega
          clear nq osq
          go_wp2_with (at_builtin; refine wpList_append_own_at _ rfl _ _ 57 rfl w.heap.size 65 i0 (.agg #[.bool false, .string { data := #[] }, .string { data := #[] }]) 3 40 Tryd.underlying57 hi hz0 hz1 hz2 rfl (by decide) _ _ _ rfl (HO2.out.alloc _) ⟨_, 0, none⟩ 1 1 [.bool dr, .string s, .string z] rfl rfl (cells_new' _ _ _ _ rfl _ (by simp)) (tv_oneS [(s, (dr, z))]) (by unfold maxLen; omega) (by omega) (by simp; omega) ?_; intro v1 w5 hown1 hgrow1 _hnil1 hloc1; have HO5 := Lib.hid hown1; have HG5 := Lib.hid hgrow1; have HL5 := Lib.hid hloc1; clear hown1 hgrow1 _hnil1 hloc1)
          go_roundw
          case rel => exact ⟨k + 1, out ++ [(s, (dr, z))], by omega, by go_num, by rw [List.length_append]; simp; omega, by show World.ownsRow _ _ _ _ _ _ _; rw [HPP.out, List.length_append]; exact HO5.out, HX.out, ((hat.out.below (G0.out.mono (Nat.le_refl _))).alloc _).grown HG5.out (fun e => by have := hwhere.out b e.symm; omega), HG5.out.cell (Lib.cell?_alloc_some _ c0) (fun e => by have := hwhere.out w.heap.size e.symm; omega), ((hbel.trans (G0.out.mono hsz)).alloc (by have := G0.out.size; omega) _).grown HG5.out (by have := G0.out.size; simp; omega) (own_from hown.out), (fun g h => by rcases HL5.out with e | e; exact hwhere.out g (e.symm.trans h); rw [e] at h; injection h with h; have := G0.out.size; first | omega | (simp at h; omega)), by have h5 := HG5.out.size; have h6 := G0.out.size; simp at h5; omega⟩
          case measure => simp [intOf]; omega
    · obtain rfl : k = n := by omega
      go_wp2
      go_ret
      refine ⟨_, rfl, ?_, hbel⟩
      have h1 := hlast.out
      rw [List.drop_of_length_le (by have := HLN.out; omega)] at h1
      have h2 : out = ofP l := by simpa [St.lasts] using h1
      rw [← h2]
      exact hown.out
end Go.Proofs.YtibcfmfihcgijaaDoor
/- As PrSA, at texts (made by gen_str.py). -/
namespace Go.Proofs.YtibcfmfihcgijaaDoor
open Go.RowKit M
def saidX (p : ParS) : TpS := (p.1, (false, p.2))
def saidXX (s : PStpS) : TpS := (s.2.1, (s.1, s.2.2))
theorem laterP_eqS (l : List ParS) (st : List PStpS) : laterP l st = l.map saidX ++ st.map saidXX := rfl
theorem tv_stepsS (st : List PStpS) : tvS (st.map saidXX) = psvS st := by
  unfold tvS psvS
  rw [List.flatMap_map]
  rfl
def keepFS (q : TpS) : Bool := !q.2.1
def keepGS (q : TpS) : ParS := (q.1, q.2.2)
theorem keptP_eqS (m : List TpS) : keptP m = (m.filter keepFS).map keepGS := rfl
set_option maxHeartbeats 8000000 in
set_option maxRecDepth 100000 in
theorem apply_anyS (A B : Option Addr) (n c m d : Nat) (l : List ParS) (steps : List PStpS) (w : World) (hn : n = l.length) (hm : m = steps.length) (hb : n ≤ 10000) (hb2 : m ≤ 10000) (hB0 : B = none → m = 0 ∧ d = 0)
    (ha : At w A (pvS l)) (hs : At w B (psvS steps)) :
    Calls Tryd.prog 33 #[.slice A n c, .slice B m d] w fun e w' => ∃ v, e = .returned v ∧ w'.ownsRow w.heap.size 70 2 v (applyP l steps).length (pvS (applyP l steps)) ∧ RowKit.Below w.heap.size w w' := by
  have HN := Lib.hid hn
  have HM := Lib.hid hm
  have HA := Lib.hid ha
  have HS := Lib.hid hs
  have HB0 := Lib.hid hB0
  have HL := Lib.hid (later_apply l steps)
  have hlen : (laterP l steps).length = n + m := by rw [laterP_eqS, List.length_append, List.length_map, List.length_map, hn, hm]
  have HLL := Lib.hid hlen
  have hlen2 := ofP_len (laterP l steps)
  rw [hlen] at hlen2
  have HLE := Lib.hid (laterP_eqS l steps)
  clear hn hm ha hs hB0 hlen
  obtain ⟨i0, hi, hz0, hz1, hz2⟩ := info_parts infoPStpS
  obtain ⟨i1, hi1, hy0, hy1, hy2⟩ := info_parts infoPParS
  go_enter Tryd.func33, Tryd.ntmps33
  go_wp2
  go_loopw [5, 13] (fun v i wr => ∃ k : Nat, k ≤ n ∧ i = .int .i64 k ∧ Hid (wr.ownsRow w.heap.size 65 3 v k (tvS ((l.take k).map saidX))) ∧ RowKit.Below w.heap.size w wr) (fun _ i _ => n - (intOf i).toNat)
  case atStart => exact ⟨0, Nat.zero_le _, rfl, World.ownsRow_nil _ _ _ _, RowKit.Below.refl _ _⟩
  case round =>
    obtain ⟨k, hk, rfl, hown, hbel⟩ := hrel
    by_cases hlt : k < n
    · have hk1 : k < l.length := by have := HN.out; omega
      obtain ⟨b, off, rfl, hlb, hc0, hc1⟩ := at_pairS HA.out hk1
      have hd0 := (below_cells hbel).1 b (off + k * 2) hlb
      have hd1 := (below_cells hbel).1 b (off + k * 2 + 1) hlb
      rw [hc0] at hd0
      rw [hc1] at hd1
      clear hc0 hc1
      have hX : tvS ((l.take (k + 1)).map saidX) = tvS ((l.take k).map saidX) ++ [.bool false, .string l[k].1, .string l[k].2] := by rw [take_next l k hk1, List.map_append, tv_appS]; rfl
      obtain ⟨x, hx⟩ : ∃ x, x = l[k].1 := ⟨_, rfl⟩
      obtain ⟨z, hz⟩ : ∃ z, z = l[k].2 := ⟨_, rfl⟩
      rw [← hx] at hd0 hX
      rw [← hz] at hd1 hX
      have HX := Lib.hid hX
      clear hx hz hX
      have hsz := hbel.size
      go_wp2_with (at_builtin; refine wpList_append_own _ rfl _ _ 57 rfl w.heap.size 65 i0 (.agg #[.bool false, .string { data := #[] }, .string { data := #[] }]) 3 40 Tryd.underlying57 hi hz0 hz1 hz2 rfl (by decide) _ _ _ rfl ((hown.out.alloc _).alloc _) ⟨_, 0, none⟩ 1 1 [.bool false, .string x, .string z] rfl rfl (cells_new' _ _ _ _ rfl _ (by simp)) (psv_oneS [(false, x, z)]) (by unfold maxLen; omega) (by omega) (by simp; omega) ?_; intro v1 w1 hown1 hgrow1 _hnil1; have HO := Lib.hid hown1; have HG := Lib.hid hgrow1; clear hown1 hgrow1 _hnil1)
      go_roundw
      case rel => exact ⟨k + 1, by omega, by go_num, by show World.ownsRow _ _ _ _ _ _ _; rw [HX.out]; exact HO.out, ((hbel.alloc hsz _).alloc (by simp; omega) _).grown HG.out (by simp; omega) (own_from hown.out)⟩
      case measure => simp [intOf]; omega
    · obtain rfl : k = n := by omega
      have h1 := hown.out
      rw [List.take_of_length_le (by have := HN.out; omega)] at h1
      obtain ⟨A5, c5, rfl, _, _, _⟩ := at_of_own' h1
      have HO1 := Lib.hid h1
      clear h1 hown
      have hsz := hbel.size
      have HPL : Hid ((psvS steps).length = m * 3) := by show _ = _; rw [psv_lenS, HM.out]
      have HAS := Lib.hid (HS.out.below hbel)
      go_wp2_with (at_builtin; refine wpList_append_at rfl _ _ 57 rfl w.heap.size 65 i0 (.agg #[.bool false, .string { data := #[] }, .string { data := #[] }]) 3 40 Tryd.underlying57 hi hz0 hz1 hz2 rfl (by decide) _ k (tvS (l.map saidX)) rfl HO1.out B m d (psvS steps) rfl HB0.out HPL.out HAS.out (psv_oneS _) (by unfold maxLen; omega) (by omega) (by omega) ?_; intro v1 w2 hown2 hgrow2; have HO2 := Lib.hid hown2; have HG2 := Lib.hid hgrow2; clear hown2 hgrow2)
      have hown2 := HO2.out
      rw [← tv_stepsS, ← tv_appS, ← HLE.out] at hown2
      obtain ⟨A6, c6, rfl, _, _, hat6⟩ := at_of_own' hown2
      have HAN6 := Lib.hid (own_addr hown2)
      have HAT6 := Lib.hid hat6
      have HB2 := Lib.hid (hbel.grown HG2.out hsz (own_from HO1.out))
      clear hown2 hat6 HO2
      have hcl := Lib.hid (latestT_anyS A6 (k + m) c6 (laterP l steps) w2 HLL.out.symm (by omega) HAN6.out HAT6.out)
      generalize ofP (laterP l steps) = R at hcl hlen2 HL
      go_wp2_with (go_at_call 57; refine hcl.out.mono ?_; rintro e9 w3 ⟨v3, rfl, hown3, hbel3⟩; obtain ⟨A7, c7, rfl, _, _, hat7⟩ := at_of_own' hown3; have HAT7 := Lib.hid hat7; have HB3 := Lib.hid (HB2.out.trans (hbel3.mono HB2.out.size)); clear hown3 hbel3 hat7 hcl)
      have hs3 := HB3.out.size
      clear hbel hsz
      go_loopw [8, 32] (fun v i wr => ∃ (j : Nat) (out : List ParS), j ≤ R.length ∧ i = .int .i64 j ∧ out.length ≤ j ∧ Hid (wr.ownsRow w3.heap.size 70 2 v out.length (pvS out)) ∧ Hid (out = ((R.take j).filter keepFS).map keepGS) ∧ RowKit.Below w3.heap.size w3 wr) (fun _ i _ => R.length - (intOf i).toNat)
      case atStart => exact ⟨0, [], Nat.zero_le _, rfl, Nat.le_refl _, World.ownsRow_nil _ _ _ _, rfl, RowKit.Below.refl _ _⟩
      case round =>
        obtain ⟨j, out, hj, rfl, hol, hown, hout, hbel⟩ := hrel
        have hsz := hbel.size
        by_cases hlt : j < R.length
        · obtain ⟨b, off, rfl, hlb, hdb, hd0, hd1⟩ := at_tripS (HAT7.out.below hbel) hlt
          have hY := filter_take_yes R keepFS j hlt
          have hZ := filter_take_no R keepFS j hlt
          obtain ⟨s, hs⟩ : ∃ s, s = R[j].1 := ⟨_, rfl⟩
          obtain ⟨z, hz⟩ : ∃ z, z = R[j].2.2 := ⟨_, rfl⟩
          obtain ⟨y, hy⟩ : ∃ y, y = R[j].2.1 := ⟨_, rfl⟩
          have hp : R[j] = (s, (y, z)) := by rw [hs, hz, hy]
          rw [← hs] at hd0
          rw [← hz] at hd1
          rw [← hy] at hdb
          rw [hp] at hY hZ
          have HY := Lib.hid hY
          have HZ := Lib.hid hZ
          clear hs hz hy hp hY hZ
          cases y with
          | true =>
            have HX : Hid (out = ((R.take (j + 1)).filter keepFS).map keepGS) := by
              show _ = _
              rw [HZ.out rfl]
              exact hout.out
            go_wp2
            go_roundw
            case rel => exact ⟨j + 1, out, by omega, by go_num, by omega, hown.out.alloc _, HX.out, hbel.alloc hsz _⟩
            case measure => simp [intOf]; omega
          | false =>
            have HX : Hid (out ++ [(s, z)] = ((R.take (j + 1)).filter keepFS).map keepGS) := by
              show _ = _
              rw [HY.out rfl, List.map_append, ← hout.out]
              rfl
            go_wp2_with (at_builtin; refine wpList_append_own _ rfl _ _ 30 rfl w3.heap.size 70 i1 (.agg #[.string { data := #[] }, .string { data := #[] }]) 2 32 Tryd.underlying30 hi1 hy0 hy1 hy2 rfl (by decide) _ _ _ rfl ((hown.out.alloc _).alloc _) ⟨_, 0, none⟩ 1 1 [.string s, .string z] rfl rfl (cells_new' _ _ _ _ rfl _ (by simp)) (pv_oneS [(s, z)]) (by unfold maxLen; omega) (by omega) (by simp; omega) ?_; intro v1 w6 hown1 hgrow1 _hnil1; have HO6 := Lib.hid hown1; have HG6 := Lib.hid hgrow1; clear hown1 hgrow1 _hnil1)
            go_roundw
            case rel => exact ⟨j + 1, out ++ [(s, z)], by omega, by go_num, by rw [List.length_append]; simp; omega, by show World.ownsRow _ _ _ _ _ _ _; rw [pv_appS, List.length_append]; exact HO6.out, HX.out, ((hbel.alloc hsz _).alloc (by simp; omega) _).grown HG6.out (by simp; omega) (own_from hown.out)⟩
            case measure => simp [intOf]; omega
        · obtain rfl : j = R.length := by omega
          go_wp2
          go_ret
          have h1 := hout.out
          rw [List.take_of_length_le (Nat.le_refl _), ← keptP_eqS, HL.out] at h1
          subst h1
          exact ⟨_, rfl, own_mono hown.out hs3, HB3.out.trans (hbel.mono hs3)⟩
end Go.Proofs.YtibcfmfihcgijaaDoor
