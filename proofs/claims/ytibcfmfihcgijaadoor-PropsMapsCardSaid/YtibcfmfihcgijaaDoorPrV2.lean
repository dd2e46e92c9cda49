/- The walk of PropsSame. -/
import Derived.Test.YtibcfmfihcgijaaDoorPrV0
import Derived.Test.YtibcfmfihcgijaaDoorPrV1
import Derived.Test.YtibcfmfihcgijaaDoorPrW3
import Derived.Test.YtibcfmfihcgijaaDoorPrS6
import Derived.Test.YtibcfmfihcgijaaDoorPrSC
import Derived.Test.YtibcfmfihcgijaaDoorPrU3
namespace Go.Proofs.YtibcfmfihcgijaaDoor
open Go.RowKit M
theorem fewP_wf {l : List Par} {k : Nat} (h : ∀ p ∈ l, (Lit.int .i64 p.2).wf = true) : ∀ p ∈ fewP l k, (Lit.int .i64 p.2).wf = true := by
  intro p hp
  obtain ⟨q, hq, rfl⟩ := List.mem_map.1 hp
  exact h q (List.mem_of_mem_take hq)
theorem itoaB_inj (a b : Int) (h : itoaB a = itoaB b) : a = b := by
  unfold itoaB at h
  injection h with h
  exact itoa_inj (by simpa using congrArg Array.toList h)
theorem texts_of (l : List Par) : ofP (textsOf l) = textsOf (ofP l) := ofP_mapV itoaB l
theorem texts_same (a b : List Par) : decide (ofP (textsOf a) = ofP (textsOf b)) = decide (ofP a = ofP b) := by
  rw [texts_of, texts_of, decide_eq_decide]
  exact ⟨fun h => mapV_inj itoaB itoaB_inj h, fun h => by rw [h]⟩
set_option maxHeartbeats 4000000 in
set_option maxRecDepth 100000 in
theorem propsSame_any (A B : Option Addr) (n c m d : Nat) (a b : List Par) (w : World) (hn : n = a.length) (hm : m = b.length) (hb : n ≤ maxLen) (hb2 : m ≤ maxLen) (ha : At w A (pv a)) (hb' : At w B (pv b))
    (va : ∀ p ∈ a, (Lit.int .i64 p.2).wf = true) (vb : ∀ p ∈ b, (Lit.int .i64 p.2).wf = true) (ht : Tab w) :
    Calls Tryd.prog 4 #[.slice A n c, .slice B m d] w fun e w' => e = .returned (.bool true) ∧ RowKit.Below w.heap.size w w' := by
  have HF1 : Hid (∀ w1 : World, RowKit.Below w.heap.size w w1 → Calls Tryd.prog 7 #[.slice A n c, .int .i64 10] w1 fun e w' => ∃ v, e = .returned v ∧ w'.ownsRow w1.heap.size 38 2 v (fewP a 10).length (pv (fewP a 10)) ∧ RowKit.Below w1.heap.size w1 w') := fun w1 h => few4_any A n c 10 a w1 hn hb (by omega) (by omega) (ha.below h)
  have HF2 : Hid (∀ w1 : World, RowKit.Below w.heap.size w w1 → Calls Tryd.prog 7 #[.slice B m d, .int .i64 10] w1 fun e w' => ∃ v, e = .returned v ∧ w'.ownsRow w1.heap.size 38 2 v (fewP b 10).length (pv (fewP b 10)) ∧ RowKit.Below w1.heap.size w1 w') := fun w1 h => few4_any B m d 10 b w1 hm hb2 (by omega) (by omega) (hb'.below h)
  have hl1 := fewP_len a 10
  have hl2 := fewP_len b 10
  have HVX := Lib.hid (fewP_wf (k := 10) va)
  have HVY := Lib.hid (fewP_wf (k := 10) vb)
  have HT := Lib.hid ht
  clear ha hb' hn hm hb hb2 va vb ht
  generalize fewP a 10 = X at hl1 HF1 HVX
  generalize fewP b 10 = Y at hl2 HF2 HVY
  have hr1 := ofP_len X
  have hr2 := ofP_len Y
  have HOO : Hid (decide (ofP X = ofP (ofP X)) = true) := by show _ = _; rw [ofP_of (ofP_rises X)]; simp
  go_enter Tryd.func4, Tryd.ntmps4
  go_wp2_with fail
  refine (awake4_any _).mono ?_
  rintro e w1 ⟨rfl, hb1⟩
  have HB1 := Lib.hid hb1
  clear hb1
  go_wp2_with fail
  refine (HF1.out w1 HB1.out).mono ?_
  rintro e w2 ⟨v2, rfl, hown2, hb2⟩
  obtain ⟨A2, c2, rfl, _, _, hat2⟩ := at_of_own' hown2
  have HAT2 := Lib.hid hat2
  have HAN2 := Lib.hid (own_addr hown2)
  have HC2 := Lib.hid hb2
  have HB2 := Lib.hid (HB1.out.trans (hb2.mono HB1.out.size))
  clear hown2 hat2 hb2
  go_wp2_with fail
  refine (HF2.out w2 HB2.out).mono ?_
  rintro e w3 ⟨v3, rfl, hown3, hb3⟩
  obtain ⟨A3, c3, rfl, _, _, hat3⟩ := at_of_own' hown3
  have HAT3 := Lib.hid hat3
  have HAN3 := Lib.hid (own_addr hown3)
  have HC3 := Lib.hid hb3
  have HB3 := Lib.hid (HB2.out.trans (hb3.mono HB2.out.size))
  clear hown3 hat3 hb3
  go_wp2_with fail
  refine (rof_any A2 _ c2 X _ rfl (by omega) (HAT2.out.below HC3.out)).mono ?_
  rintro e w4 ⟨v4, rfl, hown4, hb4⟩
  obtain ⟨A4, c4, rfl, _, _, hat4⟩ := at_of_own' hown4
  have HAT4 := Lib.hid hat4
  have HAN4 := Lib.hid (own_addr hown4)
  have HC4 := Lib.hid hb4
  have HB4 := Lib.hid (HB3.out.trans (hb4.mono HB3.out.size))
  clear hown4 hat4 hb4
  go_wp2_with fail
  refine (rof_any A3 _ c3 Y _ rfl (by omega) (HAT3.out.below HC4.out)).mono ?_
  rintro e w5 ⟨v5, rfl, hown5, hb5⟩
  obtain ⟨A5, c5, rfl, _, _, hat5⟩ := at_of_own' hown5
  have HAT5 := Lib.hid hat5
  have HAN5 := Lib.hid (own_addr hown5)
  have HC5 := Lib.hid hb5
  have HB5 := Lib.hid (HB4.out.trans (hb5.mono HB4.out.size))
  clear hown5 hat5 hb5

  have HX5 := Lib.hid (((HAT2.out.below HC3.out).below HC4.out).below HC5.out)
  have HY5 := Lib.hid ((HAT3.out.below HC4.out).below HC5.out)
  have HR5 := Lib.hid (HAT4.out.below HC5.out)
  have HS5 := Lib.hid HAT5.out
  clear HAT2 HAT3 HAT4 HAT5 HAN2 HAN3 HAN4 HAN5 HC2 HC3 HC4 HC5 HB1 HB2 HB3 HB4 HF1 HF2
  obtain ⟨R, hR⟩ : ∃ R, R = ofP X := ⟨_, rfl⟩
  obtain ⟨S, hS⟩ : ∃ S, S = ofP Y := ⟨_, rfl⟩
  have HVAL0 : Hid (decide (ofP X = ofP Y) = decide (R = S)) := by show _ = _; rw [hR, hS]
  rw [← hR] at hr1 HR5
  rw [← hS] at hr2 HS5
  rw [← hR, ← hS]
  clear hR hS
  obtain ⟨nr, hnr⟩ : ∃ nr, nr = R.length := ⟨_, rfl⟩
  obtain ⟨ns, hns⟩ : ∃ ns, ns = S.length := ⟨_, rfl⟩
  rw [← hnr] at hr1
  rw [← hns] at hr2
  rw [← hnr, ← hns]
  have HNR := Lib.hid hnr
  have HNS := Lib.hid hns
  clear hnr hns
  by_cases hl : nr = ns
  · subst hl
    go_wp2
    go_loopw [7, 8] (fun s i wr => ∃ (k q : Nat) (f : Bool), k ≤ nr ∧ i = .int .i64 k ∧ s = .bool f ∧ wr = w5.drewN q ∧ Hid (f = decide (R.take k = S.take k)) ∧ Hid (f = false → R ≠ S)) (fun _ i _ => nr - (intOf i).toNat)
    case atStart => exact ⟨0, 0, true, Nat.zero_le _, rfl, by simp, rfl, by show _ = _; simp, fun h => nomatch h⟩
    case round =>
      obtain ⟨k, q, f, hk, rfl, rfl, rfl, hf, hne⟩ := hrel
      cases f with
      | false =>
        have HVAL : Hid (decide (ofP X = ofP Y) = false) := by show _ = _; rw [HVAL0.out]; exact decide_eq_false (hne.out rfl)
        have HBL := Lib.hid (drewN_below' HB5.out q)
        have HDL := Lib.hid (drewN_below' (Below.refl w5.heap.size w5) q)

        clear hf hne
        by_cases hlt : k < nr
        · have hki : (k : Int) < (nr : Int) := by omega
          have HRS : Hid (decide (ofP X = ofP Y) = false) := HVAL
          have HTS : Hid (decide (ofP (textsOf X) = ofP (textsOf Y)) = false) := by show _ = _; rw [texts_same]; exact HVAL
          go_wp2_with fail
          refine (own4_any A2 _ c2 X _ rfl (by omega) (HX5.out.below HDL.out)).mono ?_
          rintro e w6 ⟨v6, rfl, hown6, hb6⟩
          obtain ⟨A6, c6, rfl, _, _, hat6⟩ := at_of_own' hown6
          have HAT6 := Lib.hid hat6
          have HAN6 := Lib.hid (own_addr hown6)
          have HC6 := Lib.hid hb6
          have HB6 := Lib.hid (HBL.out.trans (hb6.mono HBL.out.size))
          have HD6 := Lib.hid (HDL.out.trans (hb6.mono HDL.out.size))
          clear hown6 hat6 hb6
          go_wp2_with fail
          refine (own4_any A3 _ c3 Y _ rfl (by omega) (HY5.out.below HD6.out)).mono ?_
          rintro e w7 ⟨v7, rfl, hown7, hb7⟩
          obtain ⟨A7, c7, rfl, _, _, hat7⟩ := at_of_own' hown7
          have HAT7 := Lib.hid hat7
          have HAN7 := Lib.hid (own_addr hown7)
          have HC7 := Lib.hid hb7
          have HB7 := Lib.hid (HB6.out.trans (hb7.mono HB6.out.size))
          have HD7 := Lib.hid (HD6.out.trans (hb7.mono HD6.out.size))
          clear hown7 hat7 hb7
          go_wp2_with fail
          refine (same_map A6 A7 _ c6 _ c7 X Y _ rfl rfl (by omega) (by omega) HAN6.out HAN7.out (HAT6.out.below HC7.out) HAT7.out).mono ?_
          rintro e w8 ⟨rfl, hb8⟩
          have HC8 := Lib.hid hb8
          have HB8 := Lib.hid (HB7.out.trans (hb8.mono HB7.out.size))
          have HD8 := Lib.hid (HD7.out.trans (hb8.mono HD7.out.size))
          clear hb8
          rw [HRS.out]
          go_wp2_with fail
          refine (texts_any A2 _ c2 X _ rfl (by omega) (HX5.out.below HD8.out) HVX.out (tab_below HT.out HB8.out)).mono ?_
          rintro e w9 ⟨v9, rfl, hown9, hb9⟩
          obtain ⟨A9, c9, rfl, _, _, hat9⟩ := at_of_own' hown9
          have HAT9 := Lib.hid hat9
          have HAN9 := Lib.hid (own_addr hown9)
          have HC9 := Lib.hid hb9
          have HB9 := Lib.hid (HB8.out.trans (hb9.mono HB8.out.size))
          have HD9 := Lib.hid (HD8.out.trans (hb9.mono HD8.out.size))
          clear hown9 hat9 hb9
          go_wp2_with fail
          refine (texts_any A3 _ c3 Y _ rfl (by omega) (HY5.out.below HD9.out) HVY.out (tab_below HT.out HB9.out)).mono ?_
          rintro e w10 ⟨v10, rfl, hown10, hb10⟩
          obtain ⟨A10, c10, rfl, _, _, hat10⟩ := at_of_own' hown10
          have HAT10 := Lib.hid hat10
          have HAN10 := Lib.hid (own_addr hown10)
          have HC10 := Lib.hid hb10
          have HB10 := Lib.hid (HB9.out.trans (hb10.mono HB9.out.size))
          have HD10 := Lib.hid (HD9.out.trans (hb10.mono HD9.out.size))
          clear hown10 hat10 hb10
          go_wp2_with fail
          refine (same_mapS A9 A10 _ c9 _ c10 (textsOf X) (textsOf Y) _ (textsOf_len X).symm (textsOf_len Y).symm (by omega) (by omega) HAN9.out HAN10.out (HAT9.out.below HC10.out) HAT10.out).mono ?_
          rintro e w11 ⟨rfl, hb11⟩
          have HC11 := Lib.hid hb11
          have HB11 := Lib.hid (HB10.out.trans (hb11.mono HB10.out.size))
          have HD11 := Lib.hid (HD10.out.trans (hb11.mono HD10.out.size))
          clear hb11
          rw [HTS.out]
          go_wp2_with fail
          refine (own4_any A2 _ c2 X _ rfl (by omega) (HX5.out.below HD11.out)).mono ?_
          rintro e w12 ⟨v12, rfl, hown12, hb12⟩
          obtain ⟨A12, c12, rfl, _, _, hat12⟩ := at_of_own' hown12
          have HAT12 := Lib.hid hat12
          have HAN12 := Lib.hid (own_addr hown12)
          have HC12 := Lib.hid hb12
          have HB12 := Lib.hid (HB11.out.trans (hb12.mono HB11.out.size))
          have HD12 := Lib.hid (HD11.out.trans (hb12.mono HD11.out.size))
          clear hown12 hat12 hb12
          go_wp2_with fail
          refine (own4_any A2 _ c2 X _ rfl (by omega) (HX5.out.below HD12.out)).mono ?_
          rintro e w13 ⟨v13, rfl, hown13, hb13⟩
          obtain ⟨A13, c13, rfl, _, _, hat13⟩ := at_of_own' hown13
          have HAT13 := Lib.hid hat13
          have HAN13 := Lib.hid (own_addr hown13)
          have HC13 := Lib.hid hb13
          have HB13 := Lib.hid (HB12.out.trans (hb13.mono HB12.out.size))
          have HD13 := Lib.hid (HD12.out.trans (hb13.mono HD12.out.size))
          clear hown13 hat13 hb13
          go_wp2_with fail
          refine (of_any A13 _ c13 X _ rfl (by omega) HAN13.out HAT13.out).mono ?_
          rintro e w14 ⟨v14, rfl, hown14, hb14⟩
          obtain ⟨A14, c14, rfl, _, _, hat14⟩ := at_of_own' hown14
          have HAT14 := Lib.hid hat14
          have HAN14 := Lib.hid (own_addr hown14)
          have HC14 := Lib.hid hb14
          have HB14 := Lib.hid (HB13.out.trans (hb14.mono HB13.out.size))
          have HD14 := Lib.hid (HD13.out.trans (hb14.mono HD13.out.size))
          clear hown14 hat14 hb14
          go_wp2_with fail
          refine (same_map A12 A14 _ c12 _ c14 X (ofP X) _ rfl rfl (by omega) (by have := ofP_len X; omega) HAN12.out HAN14.out ((HAT12.out.below HC13.out).below HC14.out) HAT14.out).mono ?_
          rintro e w15 ⟨rfl, hb15⟩
          have HC15 := Lib.hid hb15
          have HB15 := Lib.hid (HB14.out.trans (hb15.mono HB14.out.size))
          have HD15 := Lib.hid (HD14.out.trans (hb15.mono HD14.out.size))
          clear hb15
          rw [HOO.out]
          go_wp2
          go_ret
          exact ⟨rfl, HB15.out⟩
        · have hki : ¬ (k : Int) < (nr : Int) := by omega
          have HRS : Hid (decide (ofP X = ofP Y) = false) := HVAL
          have HTS : Hid (decide (ofP (textsOf X) = ofP (textsOf Y)) = false) := by show _ = _; rw [texts_same]; exact HVAL
          go_wp2_with fail
          refine (own4_any A2 _ c2 X _ rfl (by omega) (HX5.out.below HDL.out)).mono ?_
          rintro e w6 ⟨v6, rfl, hown6, hb6⟩
          obtain ⟨A6, c6, rfl, _, _, hat6⟩ := at_of_own' hown6
          have HAT6 := Lib.hid hat6
          have HAN6 := Lib.hid (own_addr hown6)
          have HC6 := Lib.hid hb6
          have HB6 := Lib.hid (HBL.out.trans (hb6.mono HBL.out.size))
          have HD6 := Lib.hid (HDL.out.trans (hb6.mono HDL.out.size))
          clear hown6 hat6 hb6
          go_wp2_with fail
          refine (own4_any A3 _ c3 Y _ rfl (by omega) (HY5.out.below HD6.out)).mono ?_
          rintro e w7 ⟨v7, rfl, hown7, hb7⟩
          obtain ⟨A7, c7, rfl, _, _, hat7⟩ := at_of_own' hown7
          have HAT7 := Lib.hid hat7
          have HAN7 := Lib.hid (own_addr hown7)
          have HC7 := Lib.hid hb7
          have HB7 := Lib.hid (HB6.out.trans (hb7.mono HB6.out.size))
          have HD7 := Lib.hid (HD6.out.trans (hb7.mono HD6.out.size))
          clear hown7 hat7 hb7
          go_wp2_with fail
          refine (same_map A6 A7 _ c6 _ c7 X Y _ rfl rfl (by omega) (by omega) HAN6.out HAN7.out (HAT6.out.below HC7.out) HAT7.out).mono ?_
          rintro e w8 ⟨rfl, hb8⟩
          have HC8 := Lib.hid hb8
          have HB8 := Lib.hid (HB7.out.trans (hb8.mono HB7.out.size))
          have HD8 := Lib.hid (HD7.out.trans (hb8.mono HD7.out.size))
          clear hb8
          rw [HRS.out]
          go_wp2_with fail
          refine (texts_any A2 _ c2 X _ rfl (by omega) (HX5.out.below HD8.out) HVX.out (tab_below HT.out HB8.out)).mono ?_
          rintro e w9 ⟨v9, rfl, hown9, hb9⟩
          obtain ⟨A9, c9, rfl, _, _, hat9⟩ := at_of_own' hown9
          have HAT9 := Lib.hid hat9
          have HAN9 := Lib.hid (own_addr hown9)
          have HC9 := Lib.hid hb9
          have HB9 := Lib.hid (HB8.out.trans (hb9.mono HB8.out.size))
          have HD9 := Lib.hid (HD8.out.trans (hb9.mono HD8.out.size))
          clear hown9 hat9 hb9
          go_wp2_with fail
          refine (texts_any A3 _ c3 Y _ rfl (by omega) (HY5.out.below HD9.out) HVY.out (tab_below HT.out HB9.out)).mono ?_
          rintro e w10 ⟨v10, rfl, hown10, hb10⟩
          obtain ⟨A10, c10, rfl, _, _, hat10⟩ := at_of_own' hown10
          have HAT10 := Lib.hid hat10
          have HAN10 := Lib.hid (own_addr hown10)
          have HC10 := Lib.hid hb10
          have HB10 := Lib.hid (HB9.out.trans (hb10.mono HB9.out.size))
          have HD10 := Lib.hid (HD9.out.trans (hb10.mono HD9.out.size))
          clear hown10 hat10 hb10
          go_wp2_with fail
          refine (same_mapS A9 A10 _ c9 _ c10 (textsOf X) (textsOf Y) _ (textsOf_len X).symm (textsOf_len Y).symm (by omega) (by omega) HAN9.out HAN10.out (HAT9.out.below HC10.out) HAT10.out).mono ?_
          rintro e w11 ⟨rfl, hb11⟩
          have HC11 := Lib.hid hb11
          have HB11 := Lib.hid (HB10.out.trans (hb11.mono HB10.out.size))
          have HD11 := Lib.hid (HD10.out.trans (hb11.mono HD10.out.size))
          clear hb11
          rw [HTS.out]
          go_wp2_with fail
          refine (own4_any A2 _ c2 X _ rfl (by omega) (HX5.out.below HD11.out)).mono ?_
          rintro e w12 ⟨v12, rfl, hown12, hb12⟩
          obtain ⟨A12, c12, rfl, _, _, hat12⟩ := at_of_own' hown12
          have HAT12 := Lib.hid hat12
          have HAN12 := Lib.hid (own_addr hown12)
          have HC12 := Lib.hid hb12
          have HB12 := Lib.hid (HB11.out.trans (hb12.mono HB11.out.size))
          have HD12 := Lib.hid (HD11.out.trans (hb12.mono HD11.out.size))
          clear hown12 hat12 hb12
          go_wp2_with fail
          refine (own4_any A2 _ c2 X _ rfl (by omega) (HX5.out.below HD12.out)).mono ?_
          rintro e w13 ⟨v13, rfl, hown13, hb13⟩
          obtain ⟨A13, c13, rfl, _, _, hat13⟩ := at_of_own' hown13
          have HAT13 := Lib.hid hat13
          have HAN13 := Lib.hid (own_addr hown13)
          have HC13 := Lib.hid hb13
          have HB13 := Lib.hid (HB12.out.trans (hb13.mono HB12.out.size))
          have HD13 := Lib.hid (HD12.out.trans (hb13.mono HD12.out.size))
          clear hown13 hat13 hb13
          go_wp2_with fail
          refine (of_any A13 _ c13 X _ rfl (by omega) HAN13.out HAT13.out).mono ?_
          rintro e w14 ⟨v14, rfl, hown14, hb14⟩
          obtain ⟨A14, c14, rfl, _, _, hat14⟩ := at_of_own' hown14
          have HAT14 := Lib.hid hat14
          have HAN14 := Lib.hid (own_addr hown14)
          have HC14 := Lib.hid hb14
          have HB14 := Lib.hid (HB13.out.trans (hb14.mono HB13.out.size))
          have HD14 := Lib.hid (HD13.out.trans (hb14.mono HD13.out.size))
          clear hown14 hat14 hb14
          go_wp2_with fail
          refine (same_map A12 A14 _ c12 _ c14 X (ofP X) _ rfl rfl (by omega) (by have := ofP_len X; omega) HAN12.out HAN14.out ((HAT12.out.below HC13.out).below HC14.out) HAT14.out).mono ?_
          rintro e w15 ⟨rfl, hb15⟩
          have HC15 := Lib.hid hb15
          have HB15 := Lib.hid (HB14.out.trans (hb15.mono HB14.out.size))
          have HD15 := Lib.hid (HD14.out.trans (hb15.mono HD14.out.size))
          clear hb15
          rw [HOO.out]
          go_wp2
          go_ret
          exact ⟨rfl, HB15.out⟩
      | true =>
        have hE : Hid (R.take k = S.take k) := by show _ = _; have := hf.out; exact of_decide_eq_true this.symm
        clear hf hne
        by_cases hlt : k < nr
        · have hk1 : k < R.length := by have := HNR.out; omega
          have hk2 : k < S.length := by have := HNS.out; omega
          obtain ⟨b1, o1, rfl, hb1, hc1, hc1'⟩ := at_pair HR5.out hk1
          obtain ⟨b2, o2, rfl, hb2', hc2, hc2'⟩ := at_pair HS5.out hk2
          have hst0 := take_next R k hk1
          have hst1 := take_next S k hk2
          obtain ⟨p, hp⟩ : ∃ p, p = R[k] := ⟨_, rfl⟩
          obtain ⟨r, hr⟩ : ∃ r, r = S[k] := ⟨_, rfl⟩
          rw [← hp] at hc1 hc1' hst0
          rw [← hr] at hc2 hc2' hst1
          have HP := Lib.hid hp
          have HRR := Lib.hid hr
          have H0 := Lib.hid hst0
          have H1 := Lib.hid hst1
          clear hp hr hst0 hst1
          obtain ⟨s, u⟩ := p
          obtain ⟨t, v⟩ := r
          by_cases hst : s = t
          · have h1 := str_yes hst
            have HX := Lib.hid hst
            clear hst
            by_cases huv : u = v
            · have h2 : (u == v) = true := beq_iff_eq.2 huv
              have HV := Lib.hid huv
              clear huv
              go_wp2
              go_quiet (fail)
              go_wp2
              go_roundw
              case rel => exact ⟨k + 1, _, true, by omega, by go_num, rfl, rfl, by show true = _; rw [eq_comm, decide_eq_true_iff, H0.out, H1.out, hE.out, HX.out, HV.out], fun h => nomatch h⟩
              case measure => simp [intOf]; omega
            · have h2 : (u == v) = false := beq_eq_false_iff_ne.2 huv
              have HV := Lib.hid huv
              clear huv
              go_wp2
              go_quiet (fail)
              go_wp2
              go_roundw
              case rel => exact ⟨k + 1, _, false, by omega, by go_num, rfl, rfl, by show false = _; rw [eq_comm, decide_eq_false_iff_not, H0.out, H1.out, hE.out]; intro e; have := List.append_cancel_left e; simp at this; exact HV.out this.2, fun _ e => HV.out (by subst e; exact congrArg Prod.snd (HP.out.trans HRR.out.symm))⟩
              case measure => simp [intOf]; omega
          · have h1 := str_no hst
            have HX := Lib.hid hst
            clear hst
            go_wp2
            go_quiet (fail)
            go_wp2
            go_roundw
            case rel => exact ⟨k + 1, _, false, by omega, by go_num, rfl, rfl, by show false = _; rw [eq_comm, decide_eq_false_iff_not, H0.out, H1.out, hE.out]; intro e; have := List.append_cancel_left e; simp at this; exact HX.out this.1, fun _ e => HX.out (by subst e; exact congrArg Prod.fst (HP.out.trans HRR.out.symm))⟩
            case measure => simp [intOf]; omega
        · have HVAL : Hid (decide (ofP X = ofP Y) = true) := by
            show _ = _
            rw [HVAL0.out, decide_eq_true_iff]
            have h1 := HNR.out; have h3 := HNS.out; have h2 := hE.out
            rw [List.take_of_length_le (by omega), List.take_of_length_le (by omega)] at h2
            exact h2
          have hki : ¬ (k : Int) < (nr : Int) := by omega
          have HBL := Lib.hid (drewN_below' HB5.out q)
          have HDL := Lib.hid (drewN_below' (Below.refl w5.heap.size w5) q)
          have HRS : Hid (decide (ofP X = ofP Y) = true) := HVAL
          have HTS : Hid (decide (ofP (textsOf X) = ofP (textsOf Y)) = true) := by show _ = _; rw [texts_same]; exact HVAL
          go_wp2_with fail
          refine (own4_any A2 _ c2 X _ rfl (by omega) (HX5.out.below HDL.out)).mono ?_
          rintro e w6 ⟨v6, rfl, hown6, hb6⟩
          obtain ⟨A6, c6, rfl, _, _, hat6⟩ := at_of_own' hown6
          have HAT6 := Lib.hid hat6
          have HAN6 := Lib.hid (own_addr hown6)
          have HC6 := Lib.hid hb6
          have HB6 := Lib.hid (HBL.out.trans (hb6.mono HBL.out.size))
          have HD6 := Lib.hid (HDL.out.trans (hb6.mono HDL.out.size))
          clear hown6 hat6 hb6
          go_wp2_with fail
          refine (own4_any A3 _ c3 Y _ rfl (by omega) (HY5.out.below HD6.out)).mono ?_
          rintro e w7 ⟨v7, rfl, hown7, hb7⟩
          obtain ⟨A7, c7, rfl, _, _, hat7⟩ := at_of_own' hown7
          have HAT7 := Lib.hid hat7
          have HAN7 := Lib.hid (own_addr hown7)
          have HC7 := Lib.hid hb7
          have HB7 := Lib.hid (HB6.out.trans (hb7.mono HB6.out.size))
          have HD7 := Lib.hid (HD6.out.trans (hb7.mono HD6.out.size))
          clear hown7 hat7 hb7
          go_wp2_with fail
          refine (same_map A6 A7 _ c6 _ c7 X Y _ rfl rfl (by omega) (by omega) HAN6.out HAN7.out (HAT6.out.below HC7.out) HAT7.out).mono ?_
          rintro e w8 ⟨rfl, hb8⟩
          have HC8 := Lib.hid hb8
          have HB8 := Lib.hid (HB7.out.trans (hb8.mono HB7.out.size))
          have HD8 := Lib.hid (HD7.out.trans (hb8.mono HD7.out.size))
          clear hb8
          rw [HRS.out]
          go_wp2_with fail
          refine (texts_any A2 _ c2 X _ rfl (by omega) (HX5.out.below HD8.out) HVX.out (tab_below HT.out HB8.out)).mono ?_
          rintro e w9 ⟨v9, rfl, hown9, hb9⟩
          obtain ⟨A9, c9, rfl, _, _, hat9⟩ := at_of_own' hown9
          have HAT9 := Lib.hid hat9
          have HAN9 := Lib.hid (own_addr hown9)
          have HC9 := Lib.hid hb9
          have HB9 := Lib.hid (HB8.out.trans (hb9.mono HB8.out.size))
          have HD9 := Lib.hid (HD8.out.trans (hb9.mono HD8.out.size))
          clear hown9 hat9 hb9
          go_wp2_with fail
          refine (texts_any A3 _ c3 Y _ rfl (by omega) (HY5.out.below HD9.out) HVY.out (tab_below HT.out HB9.out)).mono ?_
          rintro e w10 ⟨v10, rfl, hown10, hb10⟩
          obtain ⟨A10, c10, rfl, _, _, hat10⟩ := at_of_own' hown10
          have HAT10 := Lib.hid hat10
          have HAN10 := Lib.hid (own_addr hown10)
          have HC10 := Lib.hid hb10
          have HB10 := Lib.hid (HB9.out.trans (hb10.mono HB9.out.size))
          have HD10 := Lib.hid (HD9.out.trans (hb10.mono HD9.out.size))
          clear hown10 hat10 hb10
          go_wp2_with fail
          refine (same_mapS A9 A10 _ c9 _ c10 (textsOf X) (textsOf Y) _ (textsOf_len X).symm (textsOf_len Y).symm (by omega) (by omega) HAN9.out HAN10.out (HAT9.out.below HC10.out) HAT10.out).mono ?_
          rintro e w11 ⟨rfl, hb11⟩
          have HC11 := Lib.hid hb11
          have HB11 := Lib.hid (HB10.out.trans (hb11.mono HB10.out.size))
          have HD11 := Lib.hid (HD10.out.trans (hb11.mono HD10.out.size))
          clear hb11
          rw [HTS.out]
          go_wp2_with fail
          refine (own4_any A2 _ c2 X _ rfl (by omega) (HX5.out.below HD11.out)).mono ?_
          rintro e w12 ⟨v12, rfl, hown12, hb12⟩
          obtain ⟨A12, c12, rfl, _, _, hat12⟩ := at_of_own' hown12
          have HAT12 := Lib.hid hat12
          have HAN12 := Lib.hid (own_addr hown12)
          have HC12 := Lib.hid hb12
          have HB12 := Lib.hid (HB11.out.trans (hb12.mono HB11.out.size))
          have HD12 := Lib.hid (HD11.out.trans (hb12.mono HD11.out.size))
          clear hown12 hat12 hb12
          go_wp2_with fail
          refine (own4_any A2 _ c2 X _ rfl (by omega) (HX5.out.below HD12.out)).mono ?_
          rintro e w13 ⟨v13, rfl, hown13, hb13⟩
          obtain ⟨A13, c13, rfl, _, _, hat13⟩ := at_of_own' hown13
          have HAT13 := Lib.hid hat13
          have HAN13 := Lib.hid (own_addr hown13)
          have HC13 := Lib.hid hb13
          have HB13 := Lib.hid (HB12.out.trans (hb13.mono HB12.out.size))
          have HD13 := Lib.hid (HD12.out.trans (hb13.mono HD12.out.size))
          clear hown13 hat13 hb13
          go_wp2_with fail
          refine (of_any A13 _ c13 X _ rfl (by omega) HAN13.out HAT13.out).mono ?_
          rintro e w14 ⟨v14, rfl, hown14, hb14⟩
          obtain ⟨A14, c14, rfl, _, _, hat14⟩ := at_of_own' hown14
          have HAT14 := Lib.hid hat14
          have HAN14 := Lib.hid (own_addr hown14)
          have HC14 := Lib.hid hb14
          have HB14 := Lib.hid (HB13.out.trans (hb14.mono HB13.out.size))
          have HD14 := Lib.hid (HD13.out.trans (hb14.mono HD13.out.size))
          clear hown14 hat14 hb14
          go_wp2_with fail
          refine (same_map A12 A14 _ c12 _ c14 X (ofP X) _ rfl rfl (by omega) (by have := ofP_len X; omega) HAN12.out HAN14.out ((HAT12.out.below HC13.out).below HC14.out) HAT14.out).mono ?_
          rintro e w15 ⟨rfl, hb15⟩
          have HC15 := Lib.hid hb15
          have HB15 := Lib.hid (HB14.out.trans (hb15.mono HB14.out.size))
          have HD15 := Lib.hid (HD14.out.trans (hb15.mono HD14.out.size))
          clear hb15
          rw [HOO.out]
          go_wp2
          go_ret
          exact ⟨rfl, HB15.out⟩
  · have hl' : ((nr : Int) == (ns : Int)) = false := by rw [beq_eq_false_iff_ne]; omega
    have HVAL : Hid (decide (ofP X = ofP Y) = false) := by
      show _ = _
      rw [HVAL0.out, decide_eq_false_iff_not]
      intro e; subst e; exact hl (HNR.out.trans HNS.out.symm)
    clear hl
    have HBL := HB5
    have HDL := Lib.hid (Below.refl w5.heap.size w5)
    go_wp2
    refine wp_loop_rounds 1 ?_
    rw [rounds_succ]
    by_cases hz : 0 < nr
    · have hki : (0 : Int) < (nr : Int) := by omega
      have HRS : Hid (decide (ofP X = ofP Y) = false) := HVAL
      have HTS : Hid (decide (ofP (textsOf X) = ofP (textsOf Y)) = false) := by show _ = _; rw [texts_same]; exact HVAL
      go_wp2_with fail
      refine (own4_any A2 _ c2 X _ rfl (by omega) (HX5.out.below HDL.out)).mono ?_
      rintro e w6 ⟨v6, rfl, hown6, hb6⟩
      obtain ⟨A6, c6, rfl, _, _, hat6⟩ := at_of_own' hown6
      have HAT6 := Lib.hid hat6
      have HAN6 := Lib.hid (own_addr hown6)
      have HC6 := Lib.hid hb6
      have HB6 := Lib.hid (HBL.out.trans (hb6.mono HBL.out.size))
      have HD6 := Lib.hid (HDL.out.trans (hb6.mono HDL.out.size))
      clear hown6 hat6 hb6
      go_wp2_with fail
      refine (own4_any A3 _ c3 Y _ rfl (by omega) (HY5.out.below HD6.out)).mono ?_
      rintro e w7 ⟨v7, rfl, hown7, hb7⟩
      obtain ⟨A7, c7, rfl, _, _, hat7⟩ := at_of_own' hown7
      have HAT7 := Lib.hid hat7
      have HAN7 := Lib.hid (own_addr hown7)
      have HC7 := Lib.hid hb7
      have HB7 := Lib.hid (HB6.out.trans (hb7.mono HB6.out.size))
      have HD7 := Lib.hid (HD6.out.trans (hb7.mono HD6.out.size))
      clear hown7 hat7 hb7
      go_wp2_with fail
      refine (same_map A6 A7 _ c6 _ c7 X Y _ rfl rfl (by omega) (by omega) HAN6.out HAN7.out (HAT6.out.below HC7.out) HAT7.out).mono ?_
      rintro e w8 ⟨rfl, hb8⟩
      have HC8 := Lib.hid hb8
      have HB8 := Lib.hid (HB7.out.trans (hb8.mono HB7.out.size))
      have HD8 := Lib.hid (HD7.out.trans (hb8.mono HD7.out.size))
      clear hb8
      rw [HRS.out]
      go_wp2_with fail
      refine (texts_any A2 _ c2 X _ rfl (by omega) (HX5.out.below HD8.out) HVX.out (tab_below HT.out HB8.out)).mono ?_
      rintro e w9 ⟨v9, rfl, hown9, hb9⟩
      obtain ⟨A9, c9, rfl, _, _, hat9⟩ := at_of_own' hown9
      have HAT9 := Lib.hid hat9
      have HAN9 := Lib.hid (own_addr hown9)
      have HC9 := Lib.hid hb9
      have HB9 := Lib.hid (HB8.out.trans (hb9.mono HB8.out.size))
      have HD9 := Lib.hid (HD8.out.trans (hb9.mono HD8.out.size))
      clear hown9 hat9 hb9
      go_wp2_with fail
      refine (texts_any A3 _ c3 Y _ rfl (by omega) (HY5.out.below HD9.out) HVY.out (tab_below HT.out HB9.out)).mono ?_
      rintro e w10 ⟨v10, rfl, hown10, hb10⟩
      obtain ⟨A10, c10, rfl, _, _, hat10⟩ := at_of_own' hown10
      have HAT10 := Lib.hid hat10
      have HAN10 := Lib.hid (own_addr hown10)
      have HC10 := Lib.hid hb10
      have HB10 := Lib.hid (HB9.out.trans (hb10.mono HB9.out.size))
      have HD10 := Lib.hid (HD9.out.trans (hb10.mono HD9.out.size))
      clear hown10 hat10 hb10
      go_wp2_with fail
      refine (same_mapS A9 A10 _ c9 _ c10 (textsOf X) (textsOf Y) _ (textsOf_len X).symm (textsOf_len Y).symm (by omega) (by omega) HAN9.out HAN10.out (HAT9.out.below HC10.out) HAT10.out).mono ?_
      rintro e w11 ⟨rfl, hb11⟩
      have HC11 := Lib.hid hb11
      have HB11 := Lib.hid (HB10.out.trans (hb11.mono HB10.out.size))
      have HD11 := Lib.hid (HD10.out.trans (hb11.mono HD10.out.size))
      clear hb11
      rw [HTS.out]
      go_wp2_with fail
      refine (own4_any A2 _ c2 X _ rfl (by omega) (HX5.out.below HD11.out)).mono ?_
      rintro e w12 ⟨v12, rfl, hown12, hb12⟩
      obtain ⟨A12, c12, rfl, _, _, hat12⟩ := at_of_own' hown12
      have HAT12 := Lib.hid hat12
      have HAN12 := Lib.hid (own_addr hown12)
      have HC12 := Lib.hid hb12
      have HB12 := Lib.hid (HB11.out.trans (hb12.mono HB11.out.size))
      have HD12 := Lib.hid (HD11.out.trans (hb12.mono HD11.out.size))
      clear hown12 hat12 hb12
      go_wp2_with fail
      refine (own4_any A2 _ c2 X _ rfl (by omega) (HX5.out.below HD12.out)).mono ?_
      rintro e w13 ⟨v13, rfl, hown13, hb13⟩
      obtain ⟨A13, c13, rfl, _, _, hat13⟩ := at_of_own' hown13
      have HAT13 := Lib.hid hat13
      have HAN13 := Lib.hid (own_addr hown13)
      have HC13 := Lib.hid hb13
      have HB13 := Lib.hid (HB12.out.trans (hb13.mono HB12.out.size))
      have HD13 := Lib.hid (HD12.out.trans (hb13.mono HD12.out.size))
      clear hown13 hat13 hb13
      go_wp2_with fail
      refine (of_any A13 _ c13 X _ rfl (by omega) HAN13.out HAT13.out).mono ?_
      rintro e w14 ⟨v14, rfl, hown14, hb14⟩
      obtain ⟨A14, c14, rfl, _, _, hat14⟩ := at_of_own' hown14
      have HAT14 := Lib.hid hat14
      have HAN14 := Lib.hid (own_addr hown14)
      have HC14 := Lib.hid hb14
      have HB14 := Lib.hid (HB13.out.trans (hb14.mono HB13.out.size))
      have HD14 := Lib.hid (HD13.out.trans (hb14.mono HD13.out.size))
      clear hown14 hat14 hb14
      go_wp2_with fail
      refine (same_map A12 A14 _ c12 _ c14 X (ofP X) _ rfl rfl (by omega) (by have := ofP_len X; omega) HAN12.out HAN14.out ((HAT12.out.below HC13.out).below HC14.out) HAT14.out).mono ?_
      rintro e w15 ⟨rfl, hb15⟩
      have HC15 := Lib.hid hb15
      have HB15 := Lib.hid (HB14.out.trans (hb15.mono HB14.out.size))
      have HD15 := Lib.hid (HD14.out.trans (hb15.mono HD14.out.size))
      clear hb15
      rw [HOO.out]
      go_wp2
      go_ret
      exact ⟨rfl, HB15.out⟩
    · have hki : ¬ (0 : Int) < (nr : Int) := by omega
      have HRS : Hid (decide (ofP X = ofP Y) = false) := HVAL
      have HTS : Hid (decide (ofP (textsOf X) = ofP (textsOf Y)) = false) := by show _ = _; rw [texts_same]; exact HVAL
      go_wp2_with fail
      refine (own4_any A2 _ c2 X _ rfl (by omega) (HX5.out.below HDL.out)).mono ?_
      rintro e w6 ⟨v6, rfl, hown6, hb6⟩
      obtain ⟨A6, c6, rfl, _, _, hat6⟩ := at_of_own' hown6
      have HAT6 := Lib.hid hat6
      have HAN6 := Lib.hid (own_addr hown6)
      have HC6 := Lib.hid hb6
      have HB6 := Lib.hid (HBL.out.trans (hb6.mono HBL.out.size))
      have HD6 := Lib.hid (HDL.out.trans (hb6.mono HDL.out.size))
      clear hown6 hat6 hb6
      go_wp2_with fail
      refine (own4_any A3 _ c3 Y _ rfl (by omega) (HY5.out.below HD6.out)).mono ?_
      rintro e w7 ⟨v7, rfl, hown7, hb7⟩
      obtain ⟨A7, c7, rfl, _, _, hat7⟩ := at_of_own' hown7
      have HAT7 := Lib.hid hat7
      have HAN7 := Lib.hid (own_addr hown7)
      have HC7 := Lib.hid hb7
      have HB7 := Lib.hid (HB6.out.trans (hb7.mono HB6.out.size))
      have HD7 := Lib.hid (HD6.out.trans (hb7.mono HD6.out.size))
      clear hown7 hat7 hb7
      go_wp2_with fail
      refine (same_map A6 A7 _ c6 _ c7 X Y _ rfl rfl (by omega) (by omega) HAN6.out HAN7.out (HAT6.out.below HC7.out) HAT7.out).mono ?_
      rintro e w8 ⟨rfl, hb8⟩
      have HC8 := Lib.hid hb8
      have HB8 := Lib.hid (HB7.out.trans (hb8.mono HB7.out.size))
      have HD8 := Lib.hid (HD7.out.trans (hb8.mono HD7.out.size))
      clear hb8
      rw [HRS.out]
      go_wp2_with fail
      refine (texts_any A2 _ c2 X _ rfl (by omega) (HX5.out.below HD8.out) HVX.out (tab_below HT.out HB8.out)).mono ?_
      rintro e w9 ⟨v9, rfl, hown9, hb9⟩
      obtain ⟨A9, c9, rfl, _, _, hat9⟩ := at_of_own' hown9
      have HAT9 := Lib.hid hat9
      have HAN9 := Lib.hid (own_addr hown9)
      have HC9 := Lib.hid hb9
      have HB9 := Lib.hid (HB8.out.trans (hb9.mono HB8.out.size))
      have HD9 := Lib.hid (HD8.out.trans (hb9.mono HD8.out.size))
      clear hown9 hat9 hb9
      go_wp2_with fail
      refine (texts_any A3 _ c3 Y _ rfl (by omega) (HY5.out.below HD9.out) HVY.out (tab_below HT.out HB9.out)).mono ?_
      rintro e w10 ⟨v10, rfl, hown10, hb10⟩
      obtain ⟨A10, c10, rfl, _, _, hat10⟩ := at_of_own' hown10
      have HAT10 := Lib.hid hat10
      have HAN10 := Lib.hid (own_addr hown10)
      have HC10 := Lib.hid hb10
      have HB10 := Lib.hid (HB9.out.trans (hb10.mono HB9.out.size))
      have HD10 := Lib.hid (HD9.out.trans (hb10.mono HD9.out.size))
      clear hown10 hat10 hb10
      go_wp2_with fail
      refine (same_mapS A9 A10 _ c9 _ c10 (textsOf X) (textsOf Y) _ (textsOf_len X).symm (textsOf_len Y).symm (by omega) (by omega) HAN9.out HAN10.out (HAT9.out.below HC10.out) HAT10.out).mono ?_
      rintro e w11 ⟨rfl, hb11⟩
      have HC11 := Lib.hid hb11
      have HB11 := Lib.hid (HB10.out.trans (hb11.mono HB10.out.size))
      have HD11 := Lib.hid (HD10.out.trans (hb11.mono HD10.out.size))
      clear hb11
      rw [HTS.out]
      go_wp2_with fail
      refine (own4_any A2 _ c2 X _ rfl (by omega) (HX5.out.below HD11.out)).mono ?_
      rintro e w12 ⟨v12, rfl, hown12, hb12⟩
      obtain ⟨A12, c12, rfl, _, _, hat12⟩ := at_of_own' hown12
      have HAT12 := Lib.hid hat12
      have HAN12 := Lib.hid (own_addr hown12)
      have HC12 := Lib.hid hb12
      have HB12 := Lib.hid (HB11.out.trans (hb12.mono HB11.out.size))
      have HD12 := Lib.hid (HD11.out.trans (hb12.mono HD11.out.size))
      clear hown12 hat12 hb12
      go_wp2_with fail
      refine (own4_any A2 _ c2 X _ rfl (by omega) (HX5.out.below HD12.out)).mono ?_
      rintro e w13 ⟨v13, rfl, hown13, hb13⟩
      obtain ⟨A13, c13, rfl, _, _, hat13⟩ := at_of_own' hown13
      have HAT13 := Lib.hid hat13
      have HAN13 := Lib.hid (own_addr hown13)
      have HC13 := Lib.hid hb13
      have HB13 := Lib.hid (HB12.out.trans (hb13.mono HB12.out.size))
      have HD13 := Lib.hid (HD12.out.trans (hb13.mono HD12.out.size))
      clear hown13 hat13 hb13
      go_wp2_with fail
      refine (of_any A13 _ c13 X _ rfl (by omega) HAN13.out HAT13.out).mono ?_
      rintro e w14 ⟨v14, rfl, hown14, hb14⟩
      obtain ⟨A14, c14, rfl, _, _, hat14⟩ := at_of_own' hown14
      have HAT14 := Lib.hid hat14
      have HAN14 := Lib.hid (own_addr hown14)
      have HC14 := Lib.hid hb14
      have HB14 := Lib.hid (HB13.out.trans (hb14.mono HB13.out.size))
      have HD14 := Lib.hid (HD13.out.trans (hb14.mono HD13.out.size))
      clear hown14 hat14 hb14
      go_wp2_with fail
      refine (same_map A12 A14 _ c12 _ c14 X (ofP X) _ rfl rfl (by omega) (by have := ofP_len X; omega) HAN12.out HAN14.out ((HAT12.out.below HC13.out).below HC14.out) HAT14.out).mono ?_
      rintro e w15 ⟨rfl, hb15⟩
      have HC15 := Lib.hid hb15
      have HB15 := Lib.hid (HB14.out.trans (hb15.mono HB14.out.size))
      have HD15 := Lib.hid (HD14.out.trans (hb15.mono HD14.out.size))
      clear hb15
      rw [HOO.out]
      go_wp2
      go_ret
      exact ⟨rfl, HB15.out⟩
end Go.Proofs.YtibcfmfihcgijaaDoor
