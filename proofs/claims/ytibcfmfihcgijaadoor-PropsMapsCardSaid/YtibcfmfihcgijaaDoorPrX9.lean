/- The walk of PropsMaps. -/
import Derived.Test.YtibcfmfihcgijaaDoorPrV2
import Derived.Test.YtibcfmfihcgijaaDoorPrX1
import Derived.Test.YtibcfmfihcgijaaDoorPrX2
import Derived.Test.YtibcfmfihcgijaaDoorPrX8
namespace Go.Proofs.YtibcfmfihcgijaaDoor
open Go.RowKit M
theorem ofP_sub {V : Type} {l : List (ByteArray × V)} {p : ByteArray × V} (h : p ∈ ofP l) : p ∈ l := by
  have h1 := rises_get (ofP_rises l) h
  rw [ofP_get] at h1
  exact getP_mem h1
theorem texts_filter (l : List Par) (f : ByteArray → Bool) : (textsOf l).filter (fun p => f p.1) = textsOf (l.filter fun p => f p.1) := by
  unfold textsOf
  rw [List.filter_map]
  rfl
theorem texts_drop (X : List Par) (x : ByteArray) : (ofP (textsOf X)).filter (keepN x) = textsOf (dropP X x) := by
  rw [texts_of]
  exact texts_filter (ofP X) (fun s => !decide (s = x))
theorem texts_mine (X : List Par) : (ofP (textsOf X)).filter keepM = textsOf ((ofP X).filter keepM) := by
  rw [texts_of]
  exact texts_filter (ofP X) (fun s => !minB s)
theorem is_yes (A B : Option Addr) (n c m d : Nat) (xs ys : List Par) (w : World) (hn : n = xs.length) (hm : m = ys.length) (h : xs = ys) (hb : n ≤ maxLen) (ha : At w A (pv xs)) (hb' : At w B (pv ys)) :
    Calls Tryd.prog 14 #[.slice A n c, .slice B m d] w fun e w' => e = .returned (.bool true) ∧ Below w.heap.size w w' :=
  (is_any A B n c m d xs ys w hn hm hb (by rw [hm, ← h, ← hn]; exact hb) ha hb').mono fun e w' ⟨he, q, hq⟩ => ⟨by rw [he, decide_eq_true h], by rw [hq]; exact drewN_below' (Below.refl _ _) q⟩
theorem isTexts_yes (A B : Option Addr) (n c m d : Nat) (xs : List ParS) (ys : List Par) (w : World) (hn : n = xs.length) (hm : m = ys.length) (h : xs = textsOf ys) (hb : n ≤ maxLen) (hb2 : m ≤ maxLen) (ha : At w A (pvS xs)) (hb' : At w B (pv ys))
    (hv : ∀ p ∈ ys, (Lit.int .i64 p.2).wf = true) (ht : Tab w) :
    Calls Tryd.prog 17 #[.slice A n c, .slice B m d] w fun e w' => e = .returned (.bool true) ∧ Below w.heap.size w w' :=
  (isTexts_any A B n c m d xs ys w hn hm hb hb2 ha hb' hv ht).mono fun e w' ⟨he, hq⟩ => ⟨by rw [he, decide_eq_true h], hq⟩
theorem get_yes (A : Option Addr) (n c : Nat) (l : List Par) (x : ByteArray) (z : Int) (w : World) (hn : n = l.length) (hb : n ≤ 100000) (hA0 : A = none → n = 0 ∧ c = 0) (ha : At w A (pv l)) (hz : getP l x = some z) :
    Calls Tryd.prog 11 #[.slice A n c, .string x] w fun e w' => e = .returned (.tuple #[.int .i64 z, .bool true]) ∧ Below w.heap.size w w' :=
  (get_any A n c l x w hn hb hA0 ha).mono fun e w' h => by
    rcases h with ⟨z', h1, h2, h3⟩ | ⟨h1, _⟩
    · rw [hz] at h1; injection h1 with h1; subst h1; exact ⟨h2, h3⟩
    · rw [hz] at h1; cases h1
theorem get_no (A : Option Addr) (n c : Nat) (l : List Par) (x : ByteArray) (w : World) (hn : n = l.length) (hb : n ≤ 100000) (hA0 : A = none → n = 0 ∧ c = 0) (ha : At w A (pv l)) (hz : getP l x = none) :
    Calls Tryd.prog 11 #[.slice A n c, .string x] w fun e w' => e = .returned (.tuple #[.int .i64 0, .bool false]) ∧ Below w.heap.size w w' :=
  (get_any A n c l x w hn hb hA0 ha).mono fun e w' h => by
    rcases h with ⟨z', h1, h2, h3⟩ | ⟨h1, h2, h3⟩
    · rw [hz] at h1; cases h1
    · exact ⟨h2, h3⟩
theorem getS_yes (A : Option Addr) (n c : Nat) (l : List ParS) (x : ByteArray) (z : ByteArray) (w : World) (hn : n = l.length) (hb : n ≤ 100000) (hA0 : A = none → n = 0 ∧ c = 0) (ha : At w A (pvS l)) (hz : getP l x = some z) :
    Calls Tryd.prog 13 #[.slice A n c, .string x] w fun e w' => e = .returned (.tuple #[.string z, .bool true]) ∧ Below w.heap.size w w' :=
  (get_anyS A n c l x w hn hb hA0 ha).mono fun e w' h => by
    rcases h with ⟨z', h1, h2, h3⟩ | ⟨h1, _⟩
    · rw [hz] at h1; injection h1 with h1; subst h1; exact ⟨h2, h3⟩
    · rw [hz] at h1; cases h1
theorem getS_no (A : Option Addr) (n c : Nat) (l : List ParS) (x : ByteArray) (w : World) (hn : n = l.length) (hb : n ≤ 100000) (hA0 : A = none → n = 0 ∧ c = 0) (ha : At w A (pvS l)) (hz : getP l x = none) :
    Calls Tryd.prog 13 #[.slice A n c, .string x] w fun e w' => e = .returned (.tuple #[.string { data := #[] }, .bool false]) ∧ Below w.heap.size w w' :=
  (get_anyS A n c l x w hn hb hA0 ha).mono fun e w' h => by
    rcases h with ⟨z', h1, h2, h3⟩ | ⟨h1, h2, h3⟩
    · rw [hz] at h1; cases h1
    · exact ⟨h2, h3⟩
theorem rget_yes (A : Option Addr) (n c : Nat) (l : List Par) (x : ByteArray) (z : Int) (w : World) (hn : n = l.length) (hb : n ≤ 100000) (ha : At w A (pv l)) (hz : getP l x = some z) :
    Calls Tryd.prog 12 #[.slice A n c, .string x] w fun e w' => e = .returned (.tuple #[.int .i64 z, .bool true]) ∧ Below w.heap.size w w' :=
  (rget4_any A n c l x w hn hb ha).mono fun e w' h => by
    rcases h with ⟨z', h1, h2, h3⟩ | ⟨h1, _⟩
    · rw [hz] at h1; injection h1 with h1; subst h1; exact ⟨h2, h3⟩
    · rw [hz] at h1; cases h1
theorem rget_no (A : Option Addr) (n c : Nat) (l : List Par) (x : ByteArray) (w : World) (hn : n = l.length) (hb : n ≤ 100000) (ha : At w A (pv l)) (hz : getP l x = none) :
    Calls Tryd.prog 12 #[.slice A n c, .string x] w fun e w' => e = .returned (.tuple #[.int .i64 0, .bool false]) ∧ Below w.heap.size w w' :=
  (rget4_any A n c l x w hn hb ha).mono fun e w' h => by
    rcases h with ⟨z', h1, h2, h3⟩ | ⟨h1, h2, h3⟩
    · rw [hz] at h1; cases h1
    · exact ⟨h2, h3⟩
set_option maxHeartbeats 8000000 in
set_option maxRecDepth 100000 in
theorem propsMaps_any (A : Option Addr) (n c : Nat) (a : List Par) (x0 : ByteArray) (z0 : Int) (w : World) (hn : n = a.length) (hb : n ≤ maxLen) (ha : At w A (pv a)) (va : ∀ p ∈ a, (Lit.int .i64 p.2).wf = true) (ht : Tab w) :
    Calls Tryd.prog 3 #[.slice A n c, .string x0, .int .i64 z0] w fun e w' => e = .returned (.bool true) ∧ RowKit.Below w.heap.size w w' := by
  obtain ⟨i0, hi, hz0, hz1, hz2⟩ := info_parts infoPar
  have HF1 : Hid (∀ w1 : World, RowKit.Below w.heap.size w w1 → Calls Tryd.prog 7 #[.slice A n c, .int .i64 12] w1 fun e w' => ∃ v, e = .returned v ∧ w'.ownsRow w1.heap.size 38 2 v (fewP a 12).length (pv (fewP a 12)) ∧ RowKit.Below w1.heap.size w1 w') := fun w1 h => few4_any A n c 12 a w1 hn hb (by omega) (by omega) (ha.below h)
  have hl1 := fewP_len a 12
  have HVX := Lib.hid (fewP_wf (k := 12) va)
  have HT := Lib.hid ht
  have HCUT : Hid (∀ w1 : World, Calls Tryd.prog 8 #[.string x0, .int .i64 20] w1 fun e w' => e = .returned (.string (cutS x0 20)) ∧ w1 = w') := fun w1 => cut_any x0 20 w1 (by omega) (by omega)
  clear ha hn hb va ht
  generalize cutS x0 20 = x at HCUT
  generalize fewP a 12 = X at hl1 HF1 HVX
  have hr1 := ofP_len X
  have hr2 := ofP_len (textsOf X)
  rw [textsOf_len] at hr2
  have HVO : Hid (∀ p ∈ ofP X, (Lit.int .i64 p.2).wf = true) := fun p hp => HVX.out p (ofP_sub hp)
  have HVF : Hid (∀ f : Par → Bool, ∀ p ∈ (ofP X).filter f, (Lit.int .i64 p.2).wf = true) := fun f p hp => HVO.out p (List.mem_filter.1 hp).1
  have HFL : Hid (∀ f : Par → Bool, ((ofP X).filter f).length ≤ 12) := fun f => Nat.le_trans (List.length_filter_le _ _) (by omega)
  have HFS : Hid (∀ f : ParS → Bool, ((ofP (textsOf X)).filter f).length ≤ 12) := fun f => Nat.le_trans (List.length_filter_le _ _) (by omega)
  have HTL := Lib.hid (show X.length = (textsOf X).length by rw [textsOf_len])
  have HTL0 := HTL
  go_enter Tryd.func3, Tryd.ntmps3
  go_wp2_with fail
  refine (awake4_any _).mono ?_
  rintro e w1 ⟨rfl, hb1⟩
  have HB1 := Lib.hid hb1
  clear hb1
  go_wp2_with fail
  refine (HF1.out w1 HB1.out).mono ?_
  rintro e w2 ⟨v2, rfl, hown2, hb2⟩
  obtain ⟨A2, c2, rfl, _, _, hat2⟩ := at_of_own' hown2
  have HAT2 := Lib.hid hat2
  have HAN2 := Lib.hid (own_addr hown2)
  have HC2 := Lib.hid hb2
  have HB2 := Lib.hid (HB1.out.trans (hb2.mono HB1.out.size))
  clear hown2 hat2 hb2

  have hl3 : X.length ≤ 12 := hl1
  go_wp2_with fail
  refine (HCUT.out _).mono ?_
  rintro e w3 ⟨rfl, rfl⟩
  go_wp2_with fail
  refine (own4_any A2 _ c2 X _ rfl (by omega) HAT2.out).mono ?_
  rintro e w4 ⟨v4, rfl, hown4, hb4⟩
  obtain ⟨A4, c4, rfl, _, _, hat4⟩ := at_of_own' hown4
  have HAT4 := Lib.hid hat4
  have HMN := Lib.hid (own_addr hown4)
  have HC4 := Lib.hid hb4
  have HB4 := Lib.hid (HB2.out.trans (hb4.mono HB2.out.size))
  clear hown4 hat4 hb4

  go_wp2_with fail
  refine (texts_any A2 _ c2 X _ rfl (by omega) (HAT2.out.below HC4.out) HVX.out (tab_below HT.out HB4.out)).mono ?_
  rintro e w5 ⟨v5, rfl, hown5, hb5⟩
  obtain ⟨A5, c5, rfl, _, _, hat5⟩ := at_of_own' hown5
  have HAT5 := Lib.hid hat5
  have HTN := Lib.hid (own_addr hown5)
  have HC5 := Lib.hid hb5
  have HB5 := Lib.hid (HB4.out.trans (hb5.mono HB4.out.size))
  clear hown5 hat5 hb5

  clear HF1 HCUT HC2 HB1 HB2
  cases hg : getP X x with
  | some z =>
    have HGS : Hid (getP (textsOf X) x = some (itoaB z)) := by show _ = _; rw [show textsOf X = mapV itoaB X from rfl, getP_mapV, hg]; rfl
    have HWZ : Hid ((Lit.int .i64 z).wf = true) := HVX.out (x, z) (getP_mem hg)
    have hzz : (z == z) = true := beq_self_eq_true z
    have hit := str_yes (rfl : itoaB z = itoaB z)
    go_wp2_with fail
    refine (get_yes A4 _ c4 X x z _ rfl (by omega) HMN.out (HAT4.out.below HC5.out) hg).mono ?_
    rintro e w6 ⟨rfl, hb6⟩
    have HC6 := Lib.hid hb6
    have HB6 := Lib.hid (HB5.out.trans (hb6.mono HB5.out.size))
    clear hb6
    go_wp2_with fail
    refine (rget_yes A2 _ c2 X x z _ rfl (by omega) (((HAT2.out.below HC4.out).below HC5.out).below HC6.out) hg).mono ?_
    rintro e w7 ⟨rfl, hb7⟩
    have HC7 := Lib.hid hb7
    have HB7 := Lib.hid (HB6.out.trans (hb7.mono HB6.out.size))
    clear hb7
    go_wp2_with fail
    refine (getS_yes A5 _ c5 (textsOf X) x (itoaB z) _ HTL.out (by omega) HTN.out ((HAT5.out.below HC6.out).below HC7.out) HGS.out).mono ?_
    rintro e w9 ⟨rfl, hb9⟩
    have HC9 := Lib.hid hb9
    have HB9 := Lib.hid (HB7.out.trans (hb9.mono HB7.out.size))
    clear hb9
    have HX9 := Lib.hid (((((HAT2.out.below HC4.out).below HC5.out).below HC6.out).below HC7.out).below HC9.out)
    have HM9 := Lib.hid ((((HAT4.out.below HC5.out).below HC6.out).below HC7.out).below HC9.out)
    have HT9 := Lib.hid (((HAT5.out.below HC6.out).below HC7.out).below HC9.out)
    obtain ⟨nx, hnx⟩ : ∃ nx, nx = X.length := ⟨_, rfl⟩
    rw [← hnx] at hl1
    rw [← hnx]
    have HXL := Lib.hid hnx
    have HN2 : Hid (A2 = none → nx = 0 ∧ c2 = 0) := by show _ → _; rw [hnx]; exact HAN2.out
    have HM2 : Hid (A4 = none → nx = 0 ∧ c4 = 0) := by show _ → _; rw [hnx]; exact HMN.out
    have HT2 : Hid (A5 = none → nx = 0 ∧ c5 = 0) := by show _ → _; rw [hnx]; exact HTN.out
    have HPL : Hid ((pv X).length = nx * 2) := by show _ = _; rw [pv_len, HXL.out]
    clear HAT2 HAT4 HAT5 HC4 HC5 HC6 HC7 HC9 hg hnx HGS HTL0
    have HTL := Lib.hid (show nx = (textsOf X).length by rw [textsOf_len]; exact HXL.out)
    obtain ⟨W, hW⟩ : ∃ W, W = w9.alloc (.cells #[] 38) := ⟨_, rfl⟩
    have OW : Hid (W.ownsRow w9.heap.size 38 2 (.slice (some ⟨w9.heap.size, 0, none⟩) 0 0) 0 []) := by show World.ownsRow _ _ _ _ _ _ _; rw [hW]; exact own_made w9 _ rfl (Nat.le_refl _)
    have BW : Hid (Below w9.heap.size w9 W) := by show Below _ _ _; rw [hW]; exact below_alloc _ _
    have hsW := BW.out.size
    go_wp2_with (first | (rw [← hW]; at_builtin; refine wpList_append_at rfl _ _ 22 rfl w9.heap.size 38 i0 (.agg #[.string { data := #[] }, .int .i64 0]) 2 24 Tryd.underlying22 hi hz0 hz1 hz2 rfl (by decide) _ _ _ rfl OW.out A2 nx c2 (pv X) rfl HN2.out HPL.out (HX9.out.below BW.out) (pv_one X) (by unfold maxLen; omega) (by omega) (hsW) ?_; intro v10 w10 hown10 hgrow10; have O10 := Lib.hid hown10; have G10 := Lib.hid hgrow10; have OX : Hid (w10.ownsRow w9.heap.size 38 2 v10 nx (pv X)) := (by show World.ownsRow _ _ _ _ _ _ _; have h5 := hown10; rw [Nat.zero_add, List.nil_append] at h5; exact h5); have B10 := Lib.hid (BW.out.grown hgrow10 hsW (fun q hq => own_from OW.out q hq)); have hs10 := B10.out.size; clear hown10 hgrow10) | (at_builtin; refine wpList_append_at rfl _ _ 22 rfl w9.heap.size 38 i0 (.agg #[.string { data := #[] }, .int .i64 0]) 2 24 Tryd.underlying22 hi hz0 hz1 hz2 rfl (by decide) _ _ _ rfl (OX.out.alloc _) (some ⟨_, 0, none⟩) 1 1 [.string x, .int .i64 z0] rfl (fun h => nomatch h) rfl (at_new _ _ _ _ rfl _ rfl) (pv_one [(x, z0)]) (by unfold maxLen; omega) (by omega) (by simp; omega) ?_; intro v15 w15 hown15 hgrow15; have OM := Lib.hid hown15; have BM := Lib.hid ((B10.out.alloc hs10 _).grown hgrow15 (by simp; omega) (fun q hq => own_from OX.out q hq)); have O15 := Lib.hid hown15; have G15 := Lib.hid hgrow15; clear hown15 hgrow15))
    obtain ⟨A15, c15, rfl, _, _, hat15⟩ := at_of_own' O15.out
    rename World => wb
    have HX := Lib.hid (HX9.out.below BM.out)
    have HM := Lib.hid (HM9.out.below BM.out)
    have HTX := Lib.hid (HT9.out.below BM.out)
    have HMO : Hid (At wb A15 (pv (X ++ [(x, z0)]))) := by show At _ _ _; rw [pv_app]; exact hat15
    have HBb := Lib.hid (HB9.out.trans (BM.out.mono HB9.out.size))
    have HDb := Lib.hid (Below.refl wb.heap.size wb)
    have HML : Hid (nx + 1 = (X ++ [(x, z0)]).length) := by show _ = _; rw [List.length_append, ← HXL.out]; rfl
    clear hat15 HX9 HM9 HT9 OW BW OX OM O15 B10 BM G10 G15 hsW hs10
    go_wp2_with fail
    refine (of_any A4 _ c4 X _ HXL.out (by omega) HM2.out (HM.out.below HDb.out)).mono ?_
    rintro e w21 ⟨v21, rfl, hown21, hb21⟩
    obtain ⟨A21, c21, rfl, _, _, hat21⟩ := at_of_own' hown21
    have HAT21 := Lib.hid hat21
    have HAN21 := Lib.hid (own_addr hown21)
    have HC21 := Lib.hid hb21
    have HB21 := Lib.hid (HBb.out.trans (hb21.mono HBb.out.size))
    have HD21 := Lib.hid (HDb.out.trans (hb21.mono HDb.out.size))
    clear hown21 hat21 hb21
    go_wp2_with fail
    refine (rof_any A2 _ c2 X _ HXL.out (by omega) (HX.out.below HD21.out)).mono ?_
    rintro e w22 ⟨v22, rfl, hown22, hb22⟩
    obtain ⟨A22, c22, rfl, _, _, hat22⟩ := at_of_own' hown22
    have HAT22 := Lib.hid hat22
    have HAN22 := Lib.hid (own_addr hown22)
    have HC22 := Lib.hid hb22
    have HB22 := Lib.hid (HB21.out.trans (hb22.mono HB21.out.size))
    have HD22 := Lib.hid (HD21.out.trans (hb22.mono HD21.out.size))
    clear hown22 hat22 hb22
    go_wp2_with fail
    refine (is_yes A21 A22 _ c21 _ c22 _ _ _ rfl rfl rfl (by unfold maxLen; omega) (HAT21.out.below HC22.out) HAT22.out).mono ?_
    rintro e w23 ⟨rfl, hb23⟩
    have HC23 := Lib.hid hb23
    have HB23 := Lib.hid (HB22.out.trans (hb23.mono HB22.out.size))
    have HD23 := Lib.hid (HD22.out.trans (hb23.mono HD22.out.size))
    clear hb23
    go_wp2_with fail
    refine (of_anyS A5 _ c5 (textsOf X) _ HTL.out (by omega) HT2.out (HTX.out.below HD23.out)).mono ?_
    rintro e w24 ⟨v24, rfl, hown24, hb24⟩
    obtain ⟨A24, c24, rfl, _, _, hat24⟩ := at_of_own' hown24
    have HAT24 := Lib.hid hat24
    have HAN24 := Lib.hid (own_addr hown24)
    have HC24 := Lib.hid hb24
    have HB24 := Lib.hid (HB23.out.trans (hb24.mono HB23.out.size))
    have HD24 := Lib.hid (HD23.out.trans (hb24.mono HD23.out.size))
    clear hown24 hat24 hb24
    go_wp2_with fail
    refine (rof_any A2 _ c2 X _ HXL.out (by omega) (HX.out.below HD24.out)).mono ?_
    rintro e w25 ⟨v25, rfl, hown25, hb25⟩
    obtain ⟨A25, c25, rfl, _, _, hat25⟩ := at_of_own' hown25
    have HAT25 := Lib.hid hat25
    have HAN25 := Lib.hid (own_addr hown25)
    have HC25 := Lib.hid hb25
    have HB25 := Lib.hid (HB24.out.trans (hb25.mono HB24.out.size))
    have HD25 := Lib.hid (HD24.out.trans (hb25.mono HD24.out.size))
    clear hown25 hat25 hb25
    go_wp2_with fail
    refine (isTexts_yes A24 A25 _ c24 _ c25 _ _ _ rfl rfl (texts_of X) (by unfold maxLen; omega) (by unfold maxLen; omega) (HAT24.out.below HC25.out) HAT25.out HVO.out (tab_below HT.out HB25.out)).mono ?_
    rintro e w26 ⟨rfl, hb26⟩
    have HC26 := Lib.hid hb26
    have HB26 := Lib.hid (HB25.out.trans (hb26.mono HB25.out.size))
    have HD26 := Lib.hid (HD25.out.trans (hb26.mono HD25.out.size))
    clear hb26
    go_wp2_with fail
    refine (itoa_bel z _ HWZ.out (tab_below HT.out HB26.out)).mono ?_
    rintro e w27 ⟨rfl, hb27⟩
    have HC27 := Lib.hid hb27
    have HB27 := Lib.hid (HB26.out.trans (hb27.mono HB26.out.size))
    have HD27 := Lib.hid (HD26.out.trans (hb27.mono HD26.out.size))
    clear hb27
    go_wp2_with fail
    refine (set_any A4 _ c4 X x z0 _ HXL.out (by omega) HM2.out (HM.out.below HD27.out)).mono ?_
    rintro e w28 ⟨v28, rfl, hown28, hb28⟩
    obtain ⟨A28, c28, rfl, _, _, hat28⟩ := at_of_own' hown28
    have HAT28 := Lib.hid hat28
    have HAN28 := Lib.hid (own_addr hown28)
    have HC28 := Lib.hid hb28
    have HB28 := Lib.hid (HB27.out.trans (hb28.mono HB27.out.size))
    have HD28 := Lib.hid (HD27.out.trans (hb28.mono HD27.out.size))
    clear hown28 hat28 hb28
    go_wp2_with fail
    refine (rof_any A15 _ c15 (X ++ [(x, z0)]) _ HML.out (by omega) (HMO.out.below HD28.out)).mono ?_
    rintro e w29 ⟨v29, rfl, hown29, hb29⟩
    obtain ⟨A29, c29, rfl, _, _, hat29⟩ := at_of_own' hown29
    have HAT29 := Lib.hid hat29
    have HAN29 := Lib.hid (own_addr hown29)
    have HC29 := Lib.hid hb29
    have HB29 := Lib.hid (HB28.out.trans (hb29.mono HB28.out.size))
    have HD29 := Lib.hid (HD28.out.trans (hb29.mono HD28.out.size))
    clear hown29 hat29 hb29
    go_wp2_with fail
    refine (is_yes A28 A29 _ c28 _ c29 _ _ _ rfl rfl rfl (by unfold maxLen; have := ofP_len (X ++ [(x, z0)]); simp at this; omega) (HAT28.out.below HC29.out) HAT29.out).mono ?_
    rintro e w30 ⟨rfl, hb30⟩
    have HC30 := Lib.hid hb30
    have HB30 := Lib.hid (HB29.out.trans (hb30.mono HB29.out.size))
    have HD30 := Lib.hid (HD29.out.trans (hb30.mono HD29.out.size))
    clear hb30
    go_wp2_with fail
    refine (drop_any A4 _ c4 X x _ HXL.out (by omega) HM2.out (HM.out.below HD30.out)).mono ?_
    rintro e w31 ⟨A31, c31, rfl, hat31, hb31⟩
    have HAT31 := Lib.hid hat31
    have HC31 := Lib.hid hb31
    have HB31 := Lib.hid (HB30.out.trans (hb31.mono HB30.out.size))
    have HD31 := Lib.hid (HD30.out.trans (hb31.mono HD30.out.size))
    clear hat31 hb31
    go_wp2_with fail
    refine (rdrop4_any A2 _ c2 X x _ HXL.out (by omega) (HX.out.below HD31.out)).mono ?_
    rintro e w32 ⟨v32, rfl, hown32, hb32⟩
    obtain ⟨A32, c32, rfl, _, _, hat32⟩ := at_of_own' hown32
    have HAT32 := Lib.hid hat32
    have HAN32 := Lib.hid (own_addr hown32)
    have HC32 := Lib.hid hb32
    have HB32 := Lib.hid (HB31.out.trans (hb32.mono HB31.out.size))
    have HD32 := Lib.hid (HD31.out.trans (hb32.mono HD31.out.size))
    clear hown32 hat32 hb32
    go_wp2_with fail
    refine (is_yes A31 A32 _ c31 _ c32 _ _ _ rfl rfl rfl (by unfold maxLen; have := HFL.out (keepN x); omega) (HAT31.out.below HC32.out) HAT32.out).mono ?_
    rintro e w33 ⟨rfl, hb33⟩
    have HC33 := Lib.hid hb33
    have HB33 := Lib.hid (HB32.out.trans (hb33.mono HB32.out.size))
    have HD33 := Lib.hid (HD32.out.trans (hb33.mono HD32.out.size))
    clear hb33
    go_wp2_with fail
    refine (drop_anyS A5 _ c5 (textsOf X) x _ HTL.out (by omega) HT2.out (HTX.out.below HD33.out)).mono ?_
    rintro e w34 ⟨A34, c34, rfl, hat34, hb34⟩
    have HAT34 := Lib.hid hat34
    have HC34 := Lib.hid hb34
    have HB34 := Lib.hid (HB33.out.trans (hb34.mono HB33.out.size))
    have HD34 := Lib.hid (HD33.out.trans (hb34.mono HD33.out.size))
    clear hat34 hb34
    go_wp2_with fail
    refine (rdrop4_any A2 _ c2 X x _ HXL.out (by omega) (HX.out.below HD34.out)).mono ?_
    rintro e w35 ⟨v35, rfl, hown35, hb35⟩
    obtain ⟨A35, c35, rfl, _, _, hat35⟩ := at_of_own' hown35
    have HAT35 := Lib.hid hat35
    have HAN35 := Lib.hid (own_addr hown35)
    have HC35 := Lib.hid hb35
    have HB35 := Lib.hid (HB34.out.trans (hb35.mono HB34.out.size))
    have HD35 := Lib.hid (HD34.out.trans (hb35.mono HD34.out.size))
    clear hown35 hat35 hb35
    go_wp2_with fail
    refine (isTexts_yes A34 A35 _ c34 _ c35 _ _ _ rfl rfl (texts_drop X x) (by unfold maxLen; have := HFS.out (keepN x); omega) (by unfold maxLen; have := HFL.out (keepN x); exact Nat.le_trans this (by omega)) (HAT34.out.below HC35.out) HAT35.out (HVF.out _) (tab_below HT.out HB35.out)).mono ?_
    rintro e w36 ⟨rfl, hb36⟩
    have HC36 := Lib.hid hb36
    have HB36 := Lib.hid (HB35.out.trans (hb36.mono HB35.out.size))
    have HD36 := Lib.hid (HD35.out.trans (hb36.mono HD35.out.size))
    clear hb36
    go_wp2_with fail
    refine (mine_any A4 _ c4 X _ HXL.out (by omega) HM2.out (HM.out.below HD36.out)).mono ?_
    rintro e w37 ⟨A37, c37, rfl, hat37, hb37⟩
    have HAT37 := Lib.hid hat37
    have HC37 := Lib.hid hb37
    have HB37 := Lib.hid (HB36.out.trans (hb37.mono HB36.out.size))
    have HD37 := Lib.hid (HD36.out.trans (hb37.mono HD36.out.size))
    clear hat37 hb37
    go_wp2_with fail
    refine (rmine_any A2 _ c2 X _ HXL.out (by omega) (HX.out.below HD37.out)).mono ?_
    rintro e w38 ⟨v38, rfl, hown38, hb38⟩
    obtain ⟨A38, c38, rfl, _, _, hat38⟩ := at_of_own' hown38
    have HAT38 := Lib.hid hat38
    have HAN38 := Lib.hid (own_addr hown38)
    have HC38 := Lib.hid hb38
    have HB38 := Lib.hid (HB37.out.trans (hb38.mono HB37.out.size))
    have HD38 := Lib.hid (HD37.out.trans (hb38.mono HD37.out.size))
    clear hown38 hat38 hb38
    go_wp2_with fail
    refine (is_yes A37 A38 _ c37 _ c38 _ _ _ rfl rfl rfl (by unfold maxLen; have := HFL.out keepM; omega) (HAT37.out.below HC38.out) HAT38.out).mono ?_
    rintro e w39 ⟨rfl, hb39⟩
    have HC39 := Lib.hid hb39
    have HB39 := Lib.hid (HB38.out.trans (hb39.mono HB38.out.size))
    have HD39 := Lib.hid (HD38.out.trans (hb39.mono HD38.out.size))
    clear hb39
    go_wp2_with fail
    refine (mine_anyS A5 _ c5 (textsOf X) _ HTL.out (by omega) HT2.out (HTX.out.below HD39.out)).mono ?_
    rintro e w40 ⟨A40, c40, rfl, hat40, hb40⟩
    have HAT40 := Lib.hid hat40
    have HC40 := Lib.hid hb40
    have HB40 := Lib.hid (HB39.out.trans (hb40.mono HB39.out.size))
    have HD40 := Lib.hid (HD39.out.trans (hb40.mono HD39.out.size))
    clear hat40 hb40
    go_wp2_with fail
    refine (rmine_any A2 _ c2 X _ HXL.out (by omega) (HX.out.below HD40.out)).mono ?_
    rintro e w41 ⟨v41, rfl, hown41, hb41⟩
    obtain ⟨A41, c41, rfl, _, _, hat41⟩ := at_of_own' hown41
    have HAT41 := Lib.hid hat41
    have HAN41 := Lib.hid (own_addr hown41)
    have HC41 := Lib.hid hb41
    have HB41 := Lib.hid (HB40.out.trans (hb41.mono HB40.out.size))
    have HD41 := Lib.hid (HD40.out.trans (hb41.mono HD40.out.size))
    clear hown41 hat41 hb41
    go_wp2_with fail
    refine (isTexts_yes A40 A41 _ c40 _ c41 _ _ _ rfl rfl (texts_mine X) (by unfold maxLen; have := HFS.out keepM; omega) (by unfold maxLen; have := HFL.out keepM; omega) (HAT40.out.below HC41.out) HAT41.out (HVF.out _) (tab_below HT.out HB41.out)).mono ?_
    rintro e w42 ⟨rfl, hb42⟩
    have HC42 := Lib.hid hb42
    have HB42 := Lib.hid (HB41.out.trans (hb42.mono HB41.out.size))
    have HD42 := Lib.hid (HD41.out.trans (hb42.mono HD41.out.size))
    clear hb42
    go_wp2
    go_ret
    exact ⟨rfl, HB42.out⟩
  | none =>
    have HGS : Hid (getP (textsOf X) x = none) := by show _ = _; rw [show textsOf X = mapV itoaB X from rfl, getP_mapV, hg]; rfl
    go_wp2_with fail
    refine (get_no A4 _ c4 X x _ rfl (by omega) HMN.out (HAT4.out.below HC5.out) hg).mono ?_
    rintro e w6 ⟨rfl, hb6⟩
    have HC6 := Lib.hid hb6
    have HB6 := Lib.hid (HB5.out.trans (hb6.mono HB5.out.size))
    clear hb6
    go_wp2_with fail
    refine (rget_no A2 _ c2 X x _ rfl (by omega) (((HAT2.out.below HC4.out).below HC5.out).below HC6.out) hg).mono ?_
    rintro e w7 ⟨rfl, hb7⟩
    have HC7 := Lib.hid hb7
    have HB7 := Lib.hid (HB6.out.trans (hb7.mono HB6.out.size))
    clear hb7
    go_wp2_with fail
    refine (getS_no A5 _ c5 (textsOf X) x _ HTL.out (by omega) HTN.out ((HAT5.out.below HC6.out).below HC7.out) HGS.out).mono ?_
    rintro e w9 ⟨rfl, hb9⟩
    have HC9 := Lib.hid hb9
    have HB9 := Lib.hid (HB7.out.trans (hb9.mono HB7.out.size))
    clear hb9
    have HX9 := Lib.hid (((((HAT2.out.below HC4.out).below HC5.out).below HC6.out).below HC7.out).below HC9.out)
    have HM9 := Lib.hid ((((HAT4.out.below HC5.out).below HC6.out).below HC7.out).below HC9.out)
    have HT9 := Lib.hid (((HAT5.out.below HC6.out).below HC7.out).below HC9.out)
    obtain ⟨nx, hnx⟩ : ∃ nx, nx = X.length := ⟨_, rfl⟩
    rw [← hnx] at hl1
    rw [← hnx]
    have HXL := Lib.hid hnx
    have HN2 : Hid (A2 = none → nx = 0 ∧ c2 = 0) := by show _ → _; rw [hnx]; exact HAN2.out
    have HM2 : Hid (A4 = none → nx = 0 ∧ c4 = 0) := by show _ → _; rw [hnx]; exact HMN.out
    have HT2 : Hid (A5 = none → nx = 0 ∧ c5 = 0) := by show _ → _; rw [hnx]; exact HTN.out
    have HPL : Hid ((pv X).length = nx * 2) := by show _ = _; rw [pv_len, HXL.out]
    clear HAT2 HAT4 HAT5 HC4 HC5 HC6 HC7 HC9 hg hnx HGS HTL0
    have HTL := Lib.hid (show nx = (textsOf X).length by rw [textsOf_len]; exact HXL.out)
    obtain ⟨W, hW⟩ : ∃ W, W = w9.alloc (.cells #[] 38) := ⟨_, rfl⟩
    have OW : Hid (W.ownsRow w9.heap.size 38 2 (.slice (some ⟨w9.heap.size, 0, none⟩) 0 0) 0 []) := by show World.ownsRow _ _ _ _ _ _ _; rw [hW]; exact own_made w9 _ rfl (Nat.le_refl _)
    have BW : Hid (Below w9.heap.size w9 W) := by show Below _ _ _; rw [hW]; exact below_alloc _ _
    have hsW := BW.out.size
    go_wp2_with (first | (rw [← hW]; at_builtin; refine wpList_append_at rfl _ _ 22 rfl w9.heap.size 38 i0 (.agg #[.string { data := #[] }, .int .i64 0]) 2 24 Tryd.underlying22 hi hz0 hz1 hz2 rfl (by decide) _ _ _ rfl OW.out A2 nx c2 (pv X) rfl HN2.out HPL.out (HX9.out.below BW.out) (pv_one X) (by unfold maxLen; omega) (by omega) (hsW) ?_; intro v10 w10 hown10 hgrow10; have O10 := Lib.hid hown10; have G10 := Lib.hid hgrow10; have OX : Hid (w10.ownsRow w9.heap.size 38 2 v10 nx (pv X)) := (by show World.ownsRow _ _ _ _ _ _ _; have h5 := hown10; rw [Nat.zero_add, List.nil_append] at h5; exact h5); have B10 := Lib.hid (BW.out.grown hgrow10 hsW (fun q hq => own_from OW.out q hq)); have hs10 := B10.out.size; clear hown10 hgrow10) | (at_builtin; refine wpList_append_at rfl _ _ 22 rfl w9.heap.size 38 i0 (.agg #[.string { data := #[] }, .int .i64 0]) 2 24 Tryd.underlying22 hi hz0 hz1 hz2 rfl (by decide) _ _ _ rfl (OX.out.alloc _) (some ⟨_, 0, none⟩) 1 1 [.string x, .int .i64 z0] rfl (fun h => nomatch h) rfl (at_new _ _ _ _ rfl _ rfl) (pv_one [(x, z0)]) (by unfold maxLen; omega) (by omega) (by simp; omega) ?_; intro v15 w15 hown15 hgrow15; have OM := Lib.hid hown15; have BM := Lib.hid ((B10.out.alloc hs10 _).grown hgrow15 (by simp; omega) (fun q hq => own_from OX.out q hq)); have O15 := Lib.hid hown15; have G15 := Lib.hid hgrow15; clear hown15 hgrow15))
    obtain ⟨A15, c15, rfl, _, _, hat15⟩ := at_of_own' O15.out
    rename World => wb
    have HX := Lib.hid (HX9.out.below BM.out)
    have HM := Lib.hid (HM9.out.below BM.out)
    have HTX := Lib.hid (HT9.out.below BM.out)
    have HMO : Hid (At wb A15 (pv (X ++ [(x, z0)]))) := by show At _ _ _; rw [pv_app]; exact hat15
    have HBb := Lib.hid (HB9.out.trans (BM.out.mono HB9.out.size))
    have HDb := Lib.hid (Below.refl wb.heap.size wb)
    have HML : Hid (nx + 1 = (X ++ [(x, z0)]).length) := by show _ = _; rw [List.length_append, ← HXL.out]; rfl
    clear hat15 HX9 HM9 HT9 OW BW OX OM O15 B10 BM G10 G15 hsW hs10
    go_wp2_with fail
    refine (of_any A4 _ c4 X _ HXL.out (by omega) HM2.out (HM.out.below HDb.out)).mono ?_
    rintro e w21 ⟨v21, rfl, hown21, hb21⟩
    obtain ⟨A21, c21, rfl, _, _, hat21⟩ := at_of_own' hown21
    have HAT21 := Lib.hid hat21
    have HAN21 := Lib.hid (own_addr hown21)
    have HC21 := Lib.hid hb21
    have HB21 := Lib.hid (HBb.out.trans (hb21.mono HBb.out.size))
    have HD21 := Lib.hid (HDb.out.trans (hb21.mono HDb.out.size))
    clear hown21 hat21 hb21
    go_wp2_with fail
    refine (rof_any A2 _ c2 X _ HXL.out (by omega) (HX.out.below HD21.out)).mono ?_
    rintro e w22 ⟨v22, rfl, hown22, hb22⟩
    obtain ⟨A22, c22, rfl, _, _, hat22⟩ := at_of_own' hown22
    have HAT22 := Lib.hid hat22
    have HAN22 := Lib.hid (own_addr hown22)
    have HC22 := Lib.hid hb22
    have HB22 := Lib.hid (HB21.out.trans (hb22.mono HB21.out.size))
    have HD22 := Lib.hid (HD21.out.trans (hb22.mono HD21.out.size))
    clear hown22 hat22 hb22
    go_wp2_with fail
    refine (is_yes A21 A22 _ c21 _ c22 _ _ _ rfl rfl rfl (by unfold maxLen; omega) (HAT21.out.below HC22.out) HAT22.out).mono ?_
    rintro e w23 ⟨rfl, hb23⟩
    have HC23 := Lib.hid hb23
    have HB23 := Lib.hid (HB22.out.trans (hb23.mono HB22.out.size))
    have HD23 := Lib.hid (HD22.out.trans (hb23.mono HD22.out.size))
    clear hb23
    go_wp2_with fail
    refine (of_anyS A5 _ c5 (textsOf X) _ HTL.out (by omega) HT2.out (HTX.out.below HD23.out)).mono ?_
    rintro e w24 ⟨v24, rfl, hown24, hb24⟩
    obtain ⟨A24, c24, rfl, _, _, hat24⟩ := at_of_own' hown24
    have HAT24 := Lib.hid hat24
    have HAN24 := Lib.hid (own_addr hown24)
    have HC24 := Lib.hid hb24
    have HB24 := Lib.hid (HB23.out.trans (hb24.mono HB23.out.size))
    have HD24 := Lib.hid (HD23.out.trans (hb24.mono HD23.out.size))
    clear hown24 hat24 hb24
    go_wp2_with fail
    refine (rof_any A2 _ c2 X _ HXL.out (by omega) (HX.out.below HD24.out)).mono ?_
    rintro e w25 ⟨v25, rfl, hown25, hb25⟩
    obtain ⟨A25, c25, rfl, _, _, hat25⟩ := at_of_own' hown25
    have HAT25 := Lib.hid hat25
    have HAN25 := Lib.hid (own_addr hown25)
    have HC25 := Lib.hid hb25
    have HB25 := Lib.hid (HB24.out.trans (hb25.mono HB24.out.size))
    have HD25 := Lib.hid (HD24.out.trans (hb25.mono HD24.out.size))
    clear hown25 hat25 hb25
    go_wp2_with fail
    refine (isTexts_yes A24 A25 _ c24 _ c25 _ _ _ rfl rfl (texts_of X) (by unfold maxLen; omega) (by unfold maxLen; omega) (HAT24.out.below HC25.out) HAT25.out HVO.out (tab_below HT.out HB25.out)).mono ?_
    rintro e w26 ⟨rfl, hb26⟩
    have HC26 := Lib.hid hb26
    have HB26 := Lib.hid (HB25.out.trans (hb26.mono HB25.out.size))
    have HD26 := Lib.hid (HD25.out.trans (hb26.mono HD25.out.size))
    clear hb26
    go_wp2_with fail
    refine (set_any A4 _ c4 X x z0 _ HXL.out (by omega) HM2.out (HM.out.below HD26.out)).mono ?_
    rintro e w27 ⟨v27, rfl, hown27, hb27⟩
    obtain ⟨A27, c27, rfl, _, _, hat27⟩ := at_of_own' hown27
    have HAT27 := Lib.hid hat27
    have HAN27 := Lib.hid (own_addr hown27)
    have HC27 := Lib.hid hb27
    have HB27 := Lib.hid (HB26.out.trans (hb27.mono HB26.out.size))
    have HD27 := Lib.hid (HD26.out.trans (hb27.mono HD26.out.size))
    clear hown27 hat27 hb27
    go_wp2_with fail
    refine (rof_any A15 _ c15 (X ++ [(x, z0)]) _ HML.out (by omega) (HMO.out.below HD27.out)).mono ?_
    rintro e w28 ⟨v28, rfl, hown28, hb28⟩
    obtain ⟨A28, c28, rfl, _, _, hat28⟩ := at_of_own' hown28
    have HAT28 := Lib.hid hat28
    have HAN28 := Lib.hid (own_addr hown28)
    have HC28 := Lib.hid hb28
    have HB28 := Lib.hid (HB27.out.trans (hb28.mono HB27.out.size))
    have HD28 := Lib.hid (HD27.out.trans (hb28.mono HD27.out.size))
    clear hown28 hat28 hb28
    go_wp2_with fail
    refine (is_yes A27 A28 _ c27 _ c28 _ _ _ rfl rfl rfl (by unfold maxLen; have := ofP_len (X ++ [(x, z0)]); simp at this; omega) (HAT27.out.below HC28.out) HAT28.out).mono ?_
    rintro e w29 ⟨rfl, hb29⟩
    have HC29 := Lib.hid hb29
    have HB29 := Lib.hid (HB28.out.trans (hb29.mono HB28.out.size))
    have HD29 := Lib.hid (HD28.out.trans (hb29.mono HD28.out.size))
    clear hb29
    go_wp2_with fail
    refine (drop_any A4 _ c4 X x _ HXL.out (by omega) HM2.out (HM.out.below HD29.out)).mono ?_
    rintro e w30 ⟨A30, c30, rfl, hat30, hb30⟩
    have HAT30 := Lib.hid hat30
    have HC30 := Lib.hid hb30
    have HB30 := Lib.hid (HB29.out.trans (hb30.mono HB29.out.size))
    have HD30 := Lib.hid (HD29.out.trans (hb30.mono HD29.out.size))
    clear hat30 hb30
    go_wp2_with fail
    refine (rdrop4_any A2 _ c2 X x _ HXL.out (by omega) (HX.out.below HD30.out)).mono ?_
    rintro e w31 ⟨v31, rfl, hown31, hb31⟩
    obtain ⟨A31, c31, rfl, _, _, hat31⟩ := at_of_own' hown31
    have HAT31 := Lib.hid hat31
    have HAN31 := Lib.hid (own_addr hown31)
    have HC31 := Lib.hid hb31
    have HB31 := Lib.hid (HB30.out.trans (hb31.mono HB30.out.size))
    have HD31 := Lib.hid (HD30.out.trans (hb31.mono HD30.out.size))
    clear hown31 hat31 hb31
    go_wp2_with fail
    refine (is_yes A30 A31 _ c30 _ c31 _ _ _ rfl rfl rfl (by unfold maxLen; have := HFL.out (keepN x); omega) (HAT30.out.below HC31.out) HAT31.out).mono ?_
    rintro e w32 ⟨rfl, hb32⟩
    have HC32 := Lib.hid hb32
    have HB32 := Lib.hid (HB31.out.trans (hb32.mono HB31.out.size))
    have HD32 := Lib.hid (HD31.out.trans (hb32.mono HD31.out.size))
    clear hb32
    go_wp2_with fail
    refine (drop_anyS A5 _ c5 (textsOf X) x _ HTL.out (by omega) HT2.out (HTX.out.below HD32.out)).mono ?_
    rintro e w33 ⟨A33, c33, rfl, hat33, hb33⟩
    have HAT33 := Lib.hid hat33
    have HC33 := Lib.hid hb33
    have HB33 := Lib.hid (HB32.out.trans (hb33.mono HB32.out.size))
    have HD33 := Lib.hid (HD32.out.trans (hb33.mono HD32.out.size))
    clear hat33 hb33
    go_wp2_with fail
    refine (rdrop4_any A2 _ c2 X x _ HXL.out (by omega) (HX.out.below HD33.out)).mono ?_
    rintro e w34 ⟨v34, rfl, hown34, hb34⟩
    obtain ⟨A34, c34, rfl, _, _, hat34⟩ := at_of_own' hown34
    have HAT34 := Lib.hid hat34
    have HAN34 := Lib.hid (own_addr hown34)
    have HC34 := Lib.hid hb34
    have HB34 := Lib.hid (HB33.out.trans (hb34.mono HB33.out.size))
    have HD34 := Lib.hid (HD33.out.trans (hb34.mono HD33.out.size))
    clear hown34 hat34 hb34
    go_wp2_with fail
    refine (isTexts_yes A33 A34 _ c33 _ c34 _ _ _ rfl rfl (texts_drop X x) (by unfold maxLen; have := HFS.out (keepN x); omega) (by unfold maxLen; have := HFL.out (keepN x); exact Nat.le_trans this (by omega)) (HAT33.out.below HC34.out) HAT34.out (HVF.out _) (tab_below HT.out HB34.out)).mono ?_
    rintro e w35 ⟨rfl, hb35⟩
    have HC35 := Lib.hid hb35
    have HB35 := Lib.hid (HB34.out.trans (hb35.mono HB34.out.size))
    have HD35 := Lib.hid (HD34.out.trans (hb35.mono HD34.out.size))
    clear hb35
    go_wp2_with fail
    refine (mine_any A4 _ c4 X _ HXL.out (by omega) HM2.out (HM.out.below HD35.out)).mono ?_
    rintro e w36 ⟨A36, c36, rfl, hat36, hb36⟩
    have HAT36 := Lib.hid hat36
    have HC36 := Lib.hid hb36
    have HB36 := Lib.hid (HB35.out.trans (hb36.mono HB35.out.size))
    have HD36 := Lib.hid (HD35.out.trans (hb36.mono HD35.out.size))
    clear hat36 hb36
    go_wp2_with fail
    refine (rmine_any A2 _ c2 X _ HXL.out (by omega) (HX.out.below HD36.out)).mono ?_
    rintro e w37 ⟨v37, rfl, hown37, hb37⟩
    obtain ⟨A37, c37, rfl, _, _, hat37⟩ := at_of_own' hown37
    have HAT37 := Lib.hid hat37
    have HAN37 := Lib.hid (own_addr hown37)
    have HC37 := Lib.hid hb37
    have HB37 := Lib.hid (HB36.out.trans (hb37.mono HB36.out.size))
    have HD37 := Lib.hid (HD36.out.trans (hb37.mono HD36.out.size))
    clear hown37 hat37 hb37
    go_wp2_with fail
    refine (is_yes A36 A37 _ c36 _ c37 _ _ _ rfl rfl rfl (by unfold maxLen; have := HFL.out keepM; omega) (HAT36.out.below HC37.out) HAT37.out).mono ?_
    rintro e w38 ⟨rfl, hb38⟩
    have HC38 := Lib.hid hb38
    have HB38 := Lib.hid (HB37.out.trans (hb38.mono HB37.out.size))
    have HD38 := Lib.hid (HD37.out.trans (hb38.mono HD37.out.size))
    clear hb38
    go_wp2_with fail
    refine (mine_anyS A5 _ c5 (textsOf X) _ HTL.out (by omega) HT2.out (HTX.out.below HD38.out)).mono ?_
    rintro e w39 ⟨A39, c39, rfl, hat39, hb39⟩
    have HAT39 := Lib.hid hat39
    have HC39 := Lib.hid hb39
    have HB39 := Lib.hid (HB38.out.trans (hb39.mono HB38.out.size))
    have HD39 := Lib.hid (HD38.out.trans (hb39.mono HD38.out.size))
    clear hat39 hb39
    go_wp2_with fail
    refine (rmine_any A2 _ c2 X _ HXL.out (by omega) (HX.out.below HD39.out)).mono ?_
    rintro e w40 ⟨v40, rfl, hown40, hb40⟩
    obtain ⟨A40, c40, rfl, _, _, hat40⟩ := at_of_own' hown40
    have HAT40 := Lib.hid hat40
    have HAN40 := Lib.hid (own_addr hown40)
    have HC40 := Lib.hid hb40
    have HB40 := Lib.hid (HB39.out.trans (hb40.mono HB39.out.size))
    have HD40 := Lib.hid (HD39.out.trans (hb40.mono HD39.out.size))
    clear hown40 hat40 hb40
    go_wp2_with fail
    refine (isTexts_yes A39 A40 _ c39 _ c40 _ _ _ rfl rfl (texts_mine X) (by unfold maxLen; have := HFS.out keepM; omega) (by unfold maxLen; have := HFL.out keepM; omega) (HAT39.out.below HC40.out) HAT40.out (HVF.out _) (tab_below HT.out HB40.out)).mono ?_
    rintro e w41 ⟨rfl, hb41⟩
    have HC41 := Lib.hid hb41
    have HB41 := Lib.hid (HB40.out.trans (hb41.mono HB40.out.size))
    have HD41 := Lib.hid (HD40.out.trans (hb41.mono HD40.out.size))
    clear hb41
    go_wp2
    go_ret
    exact ⟨rfl, HB41.out⟩
end Go.Proofs.YtibcfmfihcgijaaDoor
