/- The walk of PropsLeast. -/
import Derived.Test.YtibcfmfihcgijaaPrS4
import Derived.Test.YtibcfmfihcgijaaPrS5
import Derived.Test.YtibcfmfihcgijaaPrS6
namespace Go.Proofs.Ytibcfmfihcgijaa
open Go.RowKit M
theorem infoRPStp : (Try.prog.info? 45).map (fun i => (i.zero, i.size, i.bytes)) = some (some (.agg #[.bool false, .string { data := #[] }, .int .i64 0]), 3, 32) := by kernel_rfl
set_option maxHeartbeats 8000000 in
set_option maxRecDepth 100000 in
theorem propsLeast_any (A B D : Option Addr) (n c m d k0 d0 : Nat) (a b : List Par) (st : List PStp) (w : World) (hn : n = a.length) (hm : m = b.length) (hb : n ≤ maxLen) (hb2 : m ≤ maxLen) (ha : At w A (pv a)) (hb' : At w B (pv b)) (hk0 : k0 = st.length) (_hkd : k0 ≤ d0) (_hdm : d0 ≤ maxLen) (hd : At w D (psv st)) :
    Calls Try.prog 8 #[.slice A n c, .slice B m d, .slice D k0 d0] w fun e w' => e = .returned (.bool true) ∧ RowKit.Below w.heap.size w w' := by
  have HF1 : Hid (∀ w1 : World, RowKit.Below w.heap.size w w1 → Calls Try.prog 30 #[.slice A n c, .int .i64 8] w1 fun e w' => ∃ v, e = .returned v ∧ w'.ownsRow w1.heap.size 78 2 v (fewP a 8).length (pv (fewP a 8)) ∧ RowKit.Below w1.heap.size w1 w') := fun w1 h => few4_any A n c 8 a w1 hn hb (by omega) (by omega) (ha.below h)
  have HF2 : Hid (∀ w1 : World, RowKit.Below w.heap.size w w1 → Calls Try.prog 30 #[.slice B m d, .int .i64 8] w1 fun e w' => ∃ v, e = .returned v ∧ w'.ownsRow w1.heap.size 78 2 v (fewP b 8).length (pv (fewP b 8)) ∧ RowKit.Below w1.heap.size w1 w') := fun w1 h => few4_any B m d 8 b w1 hm hb2 (by omega) (by omega) (hb'.below h)
  have hl1 := fewP_len a 8
  have hl2 := fewP_len b 8
  have HK0 := Lib.hid hk0
  have HD := Lib.hid hd
  unfold maxLen at _hdm
  clear ha hb' hn hm hb hb2 hk0 hd
  generalize fewP a 8 = X at hl1 HF1
  generalize fewP b 8 = Y at hl2 HF2
  obtain ⟨i0, hi, hz0, hz1, hz2⟩ := info_parts infoRPStp
  go_enter Try.func8, Try.ntmps8
  go_wp2_with fail
  refine (awake4_any _).mono ?_
  rintro e w1 ⟨rfl, hb⟩
  have HB1 := Lib.hid hb
  clear hb
  go_wp2_with fail
  refine (HF1.out _ HB1.out).mono ?_
  rintro e w2 ⟨v2, rfl, hown, hb⟩
  obtain ⟨A2, c2, rfl, _, _, hat2⟩ := at_of_own' hown
  have HAT2 := Lib.hid hat2
  have HB2 := Lib.hid (HB1.out.trans (hb.mono HB1.out.size))
  clear hown hat2 hb
  go_wp2_with fail
  refine (HF2.out _ HB2.out).mono ?_
  rintro e w3 ⟨v3, rfl, hown, hb⟩
  obtain ⟨A3, c3, rfl, _, _, hat3⟩ := at_of_own' hown
  have HAT3 := Lib.hid hat3
  have HAT4 := Lib.hid (HAT2.out.below hb)
  have HB3 := Lib.hid (HB2.out.trans (hb.mono HB2.out.size))
  clear hown hat3 hb
  have HDD := Lib.hid (HD.out.below HB3.out)
  go_wp2
  go_loopw [7, 8] (fun v i wr => ∃ (k : Nat) (L : List PStp), k ≤ k0 ∧ k ≤ 16 ∧ i = .int .i64 k ∧ L.length ≤ k ∧ Hid (wr.ownsRow w3.heap.size 45 3 v L.length (psv L)) ∧ RowKit.Below w3.heap.size w3 wr) (fun _ i _ => 16 - (intOf i).toNat)
  case atStart => exact ⟨0, [], Nat.zero_le _, by omega, rfl, Nat.le_refl _, World.ownsRow_nil _ _ _ _, RowKit.Below.refl _ _⟩
  case round =>
    obtain ⟨k, L, hk, hk20, rfl, hLk, hown, hbel⟩ := hrel
    obtain ⟨A7, c7, rfl, _, _, hat7⟩ := at_of_own' hown.out
    have HAT7 := Lib.hid hat7
    clear hat7
    by_cases hlt1 : k < k0
    · by_cases hlt2 : k < 16
      · have hkL : k < st.length := by have := HK0.out; omega
        obtain ⟨b1, o1, rfl, hlb1, hc10, hc11, hc12⟩ := at_pstep HDD.out hkL
        rename World => wr
        have hd0 := (below_cells hbel).1 b1 (o1 + k * 3) hlb1
        have hd1 := (below_cells hbel).1 b1 (o1 + k * 3 + 1) hlb1
        have hd2 := (below_cells hbel).1 b1 (o1 + k * 3 + 2) hlb1
        rw [hc10] at hd0
        rw [hc11] at hd1
        rw [hc12] at hd2
        clear hc10 hc11 hc12
        obtain ⟨y, hy⟩ : ∃ y, y = st[k].1 := ⟨_, rfl⟩
        obtain ⟨x, hx⟩ : ∃ x, x = st[k].2.1 := ⟨_, rfl⟩
        obtain ⟨z, hz⟩ : ∃ z, z = st[k].2.2 := ⟨_, rfl⟩
        rw [← hy] at hd0
        rw [← hx] at hd1
        rw [← hz] at hd2
        clear hx hy hz
        have hsz := hbel.size
        have hkk : (0 : Int) ≤ (k : Int) := by omega
        have hkk2 : (k : Int) < (k0 : Int) := by omega
        have hkk3 : (k : Int) < 16 := by omega
        have hbn := Lib.hid (show some b1 ≠ (Value.slice A7 L.length c7).ownBlock from fun e => by have := own_from hown.out b1 e.symm; omega)
        go_wp2
        go_region_held3 (fun w' => w'.cell? ⟨b1, o1 + k * 3, none⟩ = some (.bool y) ∧ w'.cell? ⟨b1, o1 + k * 3 + 1, none⟩ = some (.string x) ∧ w'.cell? ⟨b1, o1 + k * 3 + 2, none⟩ = some (.int .i64 z)) (first | go_keep | (refine ⟨?_, ?_, ?_⟩ <;> first | assumption | go_keep)) (first | (go_at_call 13; refine (cut_any x 20 _ (by omega) (by omega)).mono ?_; rintro e w' ⟨rfl, rfl⟩) | (refine step_append_at (by rfl) (.tmp 26) (.tmp 44) 42 (by rfl) w3.heap.size 45 i0 _ 3 32 Try.underlying42 hi hz0 hz1 hz2 rfl (by decide) (.slice A7 L.length c7) L.length (psv L) (by rfl) ?_ (some ⟨_, 0, none⟩) 1 1 [.bool y, .string (cutS x 20), .int .i64 z] (by rfl) (fun h => nomatch h) rfl ?_ (psv_one [(y, cutS x 20, z)]) ?_ ?_ ?_ ?_; (exact own_heap (hown.out.alloc _) rfl); (exact at_push1 wr.heap #[.bool y, .string (cutS x 20), .int .i64 z] 45 wr.heap.size _ rfl rfl rfl); (unfold maxLen; omega); omega; (simp <;> omega); intro v8 w8 hown8 hgrow8; have hb80 : w8.cell? ⟨b1, o1 + k * 3, none⟩ = some (.bool y) := (by refine hgrow8.cell ?_ hbn.out; exact cell_heap (Lib.cell?_alloc_some _ hd0) rfl); have hb81 : w8.cell? ⟨b1, o1 + k * 3 + 1, none⟩ = some (.string x) := (by refine hgrow8.cell ?_ hbn.out; exact cell_heap (Lib.cell?_alloc_some _ hd1) rfl); have hb82 : w8.cell? ⟨b1, o1 + k * 3 + 2, none⟩ = some (.int .i64 z) := (by refine hgrow8.cell ?_ hbn.out; exact cell_heap (Lib.cell?_alloc_some _ hd2) rfl)))
        all_goals
          have b8 : RowKit.Below w3.heap.size w3 w8 := by
            refine RowKit.Below.grown ?_ hgrow8 (by simp <;> omega) (fun q hq => by have h5 := own_from hown.out q hq; omega)
            first
            | exact hbel.alloc hsz _
            | exact Below_drew (hbel.alloc hsz _)
            | exact Below_drew (Below_drew (hbel.alloc hsz _))
          have B8 := Lib.hid b8
          have O8 := Lib.hid hown8
          clear b8 hown8 hgrow8 hb80 hb81 hb82
          go_wp2
          go_roundw
          case rel => exact ⟨k + 1, L ++ [(y, cutS x 20, z)], by omega, by omega, by go_num, by simp; omega, by show World.ownsRow _ _ _ _ _ _ _; rw [psv_app, List.length_append]; exact O8.out, B8.out⟩
          case measure => simp [intOf]; omega
      · have hlt3 : (16 : Int) ≤ (k : Int) := by omega
        have hlt4 : (k : Int) < (k0 : Int) := by omega
        have hlt5 : ¬ (k : Int) < 16 := by omega
        by_cases hE : applyP X L = ofP Y
        · have HB0 := Lib.hid hbel
          have HATL := HAT7
          have HEQ : Hid (decide (applyP X L = ofP Y) = true) := decide_eq_true hE
          have hle := turnP_least X Y L hE
          have hlx := ofP_len X
          have hly := ofP_len Y
          have hla := applyP_len X L
          have hlt9 := turnP_len X Y
          clear hE
          go_wp2_with fail
          refine (own4_any A2 _ c2 X _ rfl (by omega) (HAT4.out.below HB0.out)).mono ?_
          rintro e9 w10 ⟨v10, rfl, hown10, hb10⟩
          obtain ⟨A10, c10, rfl, _, _, hat10⟩ := at_of_own' hown10
          have HAT10 := Lib.hid hat10
          have HAN10 := Lib.hid (own_addr hown10)
          have HB10 := Lib.hid (HB0.out.trans (hb10.mono HB0.out.size))
          have HC10 := Lib.hid hb10
          clear hown10 hb10 hat10
          go_wp2_with fail
          refine (own4_any A3 _ c3 Y _ rfl (by omega) (HAT3.out.below HB10.out)).mono ?_
          rintro e9 w11 ⟨v11, rfl, hown11, hb11⟩
          obtain ⟨A11, c11, rfl, _, _, hat11⟩ := at_of_own' hown11
          have HAT11 := Lib.hid hat11
          have HAN11 := Lib.hid (own_addr hown11)
          have HAT12 := Lib.hid (HAT10.out.below hb11)
          have HB11 := Lib.hid (HB10.out.trans (hb11.mono HB10.out.size))
          have HC11 := Lib.hid (HC10.out.trans (hb11.mono HC10.out.size))
          clear hown11 hb11 hat11
          go_wp2_with fail
          refine (turn_any A10 A11 _ c10 _ c11 X Y _ rfl rfl (by omega) (by omega) HAN10.out HAN11.out HAT12.out HAT11.out).mono ?_
          rintro e9 w12 ⟨v12, rfl, hown12, hb12⟩
          obtain ⟨A12, c12, rfl, _, _, hat12⟩ := at_of_own' hown12
          have HB12 := Lib.hid (HB11.out.trans (hb12.mono HB11.out.size))
          have HC12 := Lib.hid (HC11.out.trans (hb12.mono HC11.out.size))
          clear hown12 hb12 hat12
          go_wp2_with fail
          refine (rapply4_any A2 A7 _ c2 _ c7 X L _ rfl rfl (by omega) (by omega) (HAT4.out.below HB12.out) (HATL.out.below HC12.out)).mono ?_
          rintro e9 w13 ⟨v13, rfl, hown13, hb13⟩
          obtain ⟨A13, c13, rfl, _, _, hat13⟩ := at_of_own' hown13
          have HAT13 := Lib.hid hat13
          have HB13 := Lib.hid (HB12.out.trans (hb13.mono HB12.out.size))
          clear hown13 hb13 hat13
          go_wp2_with fail
          refine (own4_any A13 _ c13 (applyP X L) _ rfl (by omega) HAT13.out).mono ?_
          rintro e9 w14 ⟨v14, rfl, hown14, hb14⟩
          obtain ⟨A14, c14, rfl, _, _, hat14⟩ := at_of_own' hown14
          have HAT14 := Lib.hid hat14
          have HB14 := Lib.hid (HB13.out.trans (hb14.mono HB13.out.size))
          clear hown14 hb14 hat14
          go_wp2_with fail
          refine (rof_any A3 _ c3 Y _ rfl (by omega) (HAT3.out.below HB14.out)).mono ?_
          rintro e9 w15 ⟨v15, rfl, hown15, hb15⟩
          obtain ⟨A15, c15, rfl, _, _, hat15⟩ := at_of_own' hown15
          have HAT15 := Lib.hid hat15
          have HAT16 := Lib.hid (HAT14.out.below hb15)
          have HB15 := Lib.hid (HB14.out.trans (hb15.mono HB14.out.size))
          clear hown15 hb15 hat15
          go_wp2_with fail
          refine (is_any A14 A15 _ c14 _ c15 (applyP X L) (ofP Y) _ rfl rfl (by unfold maxLen; omega) (by unfold maxLen; omega) HAT16.out HAT15.out).mono ?_
          rintro e9 w16 ⟨rfl, q16, rfl⟩
          rw [HEQ.out]
          have HB16 := Lib.hid (drewN_below' HB15.out q16)
          go_wp2
          go_ret
          exact ⟨ret_bool' (by simp <;> omega), HB3.out.trans (HB16.out.mono HB3.out.size)⟩
        · have HB0 := Lib.hid hbel
          have HATL := HAT7
          have HEQ : Hid (decide (applyP X L = ofP Y) = false) := decide_eq_false hE
          have hle := turnP_len X Y
          have hlx := ofP_len X
          have hly := ofP_len Y
          have hla := applyP_len X L
          have hlt9 := turnP_len X Y
          clear hE
          go_wp2_with fail
          refine (own4_any A2 _ c2 X _ rfl (by omega) (HAT4.out.below HB0.out)).mono ?_
          rintro e9 w10 ⟨v10, rfl, hown10, hb10⟩
          obtain ⟨A10, c10, rfl, _, _, hat10⟩ := at_of_own' hown10
          have HAT10 := Lib.hid hat10
          have HAN10 := Lib.hid (own_addr hown10)
          have HB10 := Lib.hid (HB0.out.trans (hb10.mono HB0.out.size))
          have HC10 := Lib.hid hb10
          clear hown10 hb10 hat10
          go_wp2_with fail
          refine (own4_any A3 _ c3 Y _ rfl (by omega) (HAT3.out.below HB10.out)).mono ?_
          rintro e9 w11 ⟨v11, rfl, hown11, hb11⟩
          obtain ⟨A11, c11, rfl, _, _, hat11⟩ := at_of_own' hown11
          have HAT11 := Lib.hid hat11
          have HAN11 := Lib.hid (own_addr hown11)
          have HAT12 := Lib.hid (HAT10.out.below hb11)
          have HB11 := Lib.hid (HB10.out.trans (hb11.mono HB10.out.size))
          have HC11 := Lib.hid (HC10.out.trans (hb11.mono HC10.out.size))
          clear hown11 hb11 hat11
          go_wp2_with fail
          refine (turn_any A10 A11 _ c10 _ c11 X Y _ rfl rfl (by omega) (by omega) HAN10.out HAN11.out HAT12.out HAT11.out).mono ?_
          rintro e9 w12 ⟨v12, rfl, hown12, hb12⟩
          obtain ⟨A12, c12, rfl, _, _, hat12⟩ := at_of_own' hown12
          have HB12 := Lib.hid (HB11.out.trans (hb12.mono HB11.out.size))
          have HC12 := Lib.hid (HC11.out.trans (hb12.mono HC11.out.size))
          clear hown12 hb12 hat12
          go_wp2_with fail
          refine (rapply4_any A2 A7 _ c2 _ c7 X L _ rfl rfl (by omega) (by omega) (HAT4.out.below HB12.out) (HATL.out.below HC12.out)).mono ?_
          rintro e9 w13 ⟨v13, rfl, hown13, hb13⟩
          obtain ⟨A13, c13, rfl, _, _, hat13⟩ := at_of_own' hown13
          have HAT13 := Lib.hid hat13
          have HB13 := Lib.hid (HB12.out.trans (hb13.mono HB12.out.size))
          clear hown13 hb13 hat13
          go_wp2_with fail
          refine (own4_any A13 _ c13 (applyP X L) _ rfl (by omega) HAT13.out).mono ?_
          rintro e9 w14 ⟨v14, rfl, hown14, hb14⟩
          obtain ⟨A14, c14, rfl, _, _, hat14⟩ := at_of_own' hown14
          have HAT14 := Lib.hid hat14
          have HB14 := Lib.hid (HB13.out.trans (hb14.mono HB13.out.size))
          clear hown14 hb14 hat14
          go_wp2_with fail
          refine (rof_any A3 _ c3 Y _ rfl (by omega) (HAT3.out.below HB14.out)).mono ?_
          rintro e9 w15 ⟨v15, rfl, hown15, hb15⟩
          obtain ⟨A15, c15, rfl, _, _, hat15⟩ := at_of_own' hown15
          have HAT15 := Lib.hid hat15
          have HAT16 := Lib.hid (HAT14.out.below hb15)
          have HB15 := Lib.hid (HB14.out.trans (hb15.mono HB14.out.size))
          clear hown15 hb15 hat15
          go_wp2_with fail
          refine (is_any A14 A15 _ c14 _ c15 (applyP X L) (ofP Y) _ rfl rfl (by unfold maxLen; omega) (by unfold maxLen; omega) HAT16.out HAT15.out).mono ?_
          rintro e9 w16 ⟨rfl, q16, rfl⟩
          rw [HEQ.out]
          have HB16 := Lib.hid (drewN_below' HB15.out q16)
          go_wp2_with fail
          refine (rof_any A2 _ c2 X _ rfl (by omega) (HAT4.out.below HB16.out)).mono ?_
          rintro e9 w17 ⟨v17, rfl, hown17, hb17⟩
          obtain ⟨A17, c17, rfl, _, _, hat17⟩ := at_of_own' hown17
          have HB17 := Lib.hid (HB16.out.trans (hb17.mono HB16.out.size))
          clear hown17 hb17 hat17
          go_wp2_with fail
          refine (rof_any A3 _ c3 Y _ rfl (by omega) (HAT3.out.below HB17.out)).mono ?_
          rintro e9 w18 ⟨v18, rfl, hown18, hb18⟩
          obtain ⟨A18, c18, rfl, _, _, hat18⟩ := at_of_own' hown18
          have HB18 := Lib.hid (HB17.out.trans (hb18.mono HB17.out.size))
          clear hown18 hb18 hat18
          go_wp2
          go_ret
          exact ⟨ret_bool' (by simp <;> omega), HB3.out.trans (HB18.out.mono HB3.out.size)⟩
    · have hlt3 : (k0 : Int) ≤ (k : Int) := by omega
      have hlt4 : ¬ (k : Int) < (k0 : Int) := by omega
      by_cases hE : applyP X L = ofP Y
      · have HB0 := Lib.hid hbel
        have HATL := HAT7
        have HEQ : Hid (decide (applyP X L = ofP Y) = true) := decide_eq_true hE
        have hle := turnP_least X Y L hE
        have hlx := ofP_len X
        have hly := ofP_len Y
        have hla := applyP_len X L
        have hlt9 := turnP_len X Y
        clear hE
        go_wp2_with fail
        refine (own4_any A2 _ c2 X _ rfl (by omega) (HAT4.out.below HB0.out)).mono ?_
        rintro e9 w10 ⟨v10, rfl, hown10, hb10⟩
        obtain ⟨A10, c10, rfl, _, _, hat10⟩ := at_of_own' hown10
        have HAT10 := Lib.hid hat10
        have HAN10 := Lib.hid (own_addr hown10)
        have HB10 := Lib.hid (HB0.out.trans (hb10.mono HB0.out.size))
        have HC10 := Lib.hid hb10
        clear hown10 hb10 hat10
        go_wp2_with fail
        refine (own4_any A3 _ c3 Y _ rfl (by omega) (HAT3.out.below HB10.out)).mono ?_
        rintro e9 w11 ⟨v11, rfl, hown11, hb11⟩
        obtain ⟨A11, c11, rfl, _, _, hat11⟩ := at_of_own' hown11
        have HAT11 := Lib.hid hat11
        have HAN11 := Lib.hid (own_addr hown11)
        have HAT12 := Lib.hid (HAT10.out.below hb11)
        have HB11 := Lib.hid (HB10.out.trans (hb11.mono HB10.out.size))
        have HC11 := Lib.hid (HC10.out.trans (hb11.mono HC10.out.size))
        clear hown11 hb11 hat11
        go_wp2_with fail
        refine (turn_any A10 A11 _ c10 _ c11 X Y _ rfl rfl (by omega) (by omega) HAN10.out HAN11.out HAT12.out HAT11.out).mono ?_
        rintro e9 w12 ⟨v12, rfl, hown12, hb12⟩
        obtain ⟨A12, c12, rfl, _, _, hat12⟩ := at_of_own' hown12
        have HB12 := Lib.hid (HB11.out.trans (hb12.mono HB11.out.size))
        have HC12 := Lib.hid (HC11.out.trans (hb12.mono HC11.out.size))
        clear hown12 hb12 hat12
        go_wp2_with fail
        refine (rapply4_any A2 A7 _ c2 _ c7 X L _ rfl rfl (by omega) (by omega) (HAT4.out.below HB12.out) (HATL.out.below HC12.out)).mono ?_
        rintro e9 w13 ⟨v13, rfl, hown13, hb13⟩
        obtain ⟨A13, c13, rfl, _, _, hat13⟩ := at_of_own' hown13
        have HAT13 := Lib.hid hat13
        have HB13 := Lib.hid (HB12.out.trans (hb13.mono HB12.out.size))
        clear hown13 hb13 hat13
        go_wp2_with fail
        refine (own4_any A13 _ c13 (applyP X L) _ rfl (by omega) HAT13.out).mono ?_
        rintro e9 w14 ⟨v14, rfl, hown14, hb14⟩
        obtain ⟨A14, c14, rfl, _, _, hat14⟩ := at_of_own' hown14
        have HAT14 := Lib.hid hat14
        have HB14 := Lib.hid (HB13.out.trans (hb14.mono HB13.out.size))
        clear hown14 hb14 hat14
        go_wp2_with fail
        refine (rof_any A3 _ c3 Y _ rfl (by omega) (HAT3.out.below HB14.out)).mono ?_
        rintro e9 w15 ⟨v15, rfl, hown15, hb15⟩
        obtain ⟨A15, c15, rfl, _, _, hat15⟩ := at_of_own' hown15
        have HAT15 := Lib.hid hat15
        have HAT16 := Lib.hid (HAT14.out.below hb15)
        have HB15 := Lib.hid (HB14.out.trans (hb15.mono HB14.out.size))
        clear hown15 hb15 hat15
        go_wp2_with fail
        refine (is_any A14 A15 _ c14 _ c15 (applyP X L) (ofP Y) _ rfl rfl (by unfold maxLen; omega) (by unfold maxLen; omega) HAT16.out HAT15.out).mono ?_
        rintro e9 w16 ⟨rfl, q16, rfl⟩
        rw [HEQ.out]
        have HB16 := Lib.hid (drewN_below' HB15.out q16)
        go_wp2
        go_ret
        exact ⟨ret_bool' (by simp <;> omega), HB3.out.trans (HB16.out.mono HB3.out.size)⟩
      · have HB0 := Lib.hid hbel
        have HATL := HAT7
        have HEQ : Hid (decide (applyP X L = ofP Y) = false) := decide_eq_false hE
        have hle := turnP_len X Y
        have hlx := ofP_len X
        have hly := ofP_len Y
        have hla := applyP_len X L
        have hlt9 := turnP_len X Y
        clear hE
        go_wp2_with fail
        refine (own4_any A2 _ c2 X _ rfl (by omega) (HAT4.out.below HB0.out)).mono ?_
        rintro e9 w10 ⟨v10, rfl, hown10, hb10⟩
        obtain ⟨A10, c10, rfl, _, _, hat10⟩ := at_of_own' hown10
        have HAT10 := Lib.hid hat10
        have HAN10 := Lib.hid (own_addr hown10)
        have HB10 := Lib.hid (HB0.out.trans (hb10.mono HB0.out.size))
        have HC10 := Lib.hid hb10
        clear hown10 hb10 hat10
        go_wp2_with fail
        refine (own4_any A3 _ c3 Y _ rfl (by omega) (HAT3.out.below HB10.out)).mono ?_
        rintro e9 w11 ⟨v11, rfl, hown11, hb11⟩
        obtain ⟨A11, c11, rfl, _, _, hat11⟩ := at_of_own' hown11
        have HAT11 := Lib.hid hat11
        have HAN11 := Lib.hid (own_addr hown11)
        have HAT12 := Lib.hid (HAT10.out.below hb11)
        have HB11 := Lib.hid (HB10.out.trans (hb11.mono HB10.out.size))
        have HC11 := Lib.hid (HC10.out.trans (hb11.mono HC10.out.size))
        clear hown11 hb11 hat11
        go_wp2_with fail
        refine (turn_any A10 A11 _ c10 _ c11 X Y _ rfl rfl (by omega) (by omega) HAN10.out HAN11.out HAT12.out HAT11.out).mono ?_
        rintro e9 w12 ⟨v12, rfl, hown12, hb12⟩
        obtain ⟨A12, c12, rfl, _, _, hat12⟩ := at_of_own' hown12
        have HB12 := Lib.hid (HB11.out.trans (hb12.mono HB11.out.size))
        have HC12 := Lib.hid (HC11.out.trans (hb12.mono HC11.out.size))
        clear hown12 hb12 hat12
        go_wp2_with fail
        refine (rapply4_any A2 A7 _ c2 _ c7 X L _ rfl rfl (by omega) (by omega) (HAT4.out.below HB12.out) (HATL.out.below HC12.out)).mono ?_
        rintro e9 w13 ⟨v13, rfl, hown13, hb13⟩
        obtain ⟨A13, c13, rfl, _, _, hat13⟩ := at_of_own' hown13
        have HAT13 := Lib.hid hat13
        have HB13 := Lib.hid (HB12.out.trans (hb13.mono HB12.out.size))
        clear hown13 hb13 hat13
        go_wp2_with fail
        refine (own4_any A13 _ c13 (applyP X L) _ rfl (by omega) HAT13.out).mono ?_
        rintro e9 w14 ⟨v14, rfl, hown14, hb14⟩
        obtain ⟨A14, c14, rfl, _, _, hat14⟩ := at_of_own' hown14
        have HAT14 := Lib.hid hat14
        have HB14 := Lib.hid (HB13.out.trans (hb14.mono HB13.out.size))
        clear hown14 hb14 hat14
        go_wp2_with fail
        refine (rof_any A3 _ c3 Y _ rfl (by omega) (HAT3.out.below HB14.out)).mono ?_
        rintro e9 w15 ⟨v15, rfl, hown15, hb15⟩
        obtain ⟨A15, c15, rfl, _, _, hat15⟩ := at_of_own' hown15
        have HAT15 := Lib.hid hat15
        have HAT16 := Lib.hid (HAT14.out.below hb15)
        have HB15 := Lib.hid (HB14.out.trans (hb15.mono HB14.out.size))
        clear hown15 hb15 hat15
        go_wp2_with fail
        refine (is_any A14 A15 _ c14 _ c15 (applyP X L) (ofP Y) _ rfl rfl (by unfold maxLen; omega) (by unfold maxLen; omega) HAT16.out HAT15.out).mono ?_
        rintro e9 w16 ⟨rfl, q16, rfl⟩
        rw [HEQ.out]
        have HB16 := Lib.hid (drewN_below' HB15.out q16)
        go_wp2_with fail
        refine (rof_any A2 _ c2 X _ rfl (by omega) (HAT4.out.below HB16.out)).mono ?_
        rintro e9 w17 ⟨v17, rfl, hown17, hb17⟩
        obtain ⟨A17, c17, rfl, _, _, hat17⟩ := at_of_own' hown17
        have HB17 := Lib.hid (HB16.out.trans (hb17.mono HB16.out.size))
        clear hown17 hb17 hat17
        go_wp2_with fail
        refine (rof_any A3 _ c3 Y _ rfl (by omega) (HAT3.out.below HB17.out)).mono ?_
        rintro e9 w18 ⟨v18, rfl, hown18, hb18⟩
        obtain ⟨A18, c18, rfl, _, _, hat18⟩ := at_of_own' hown18
        have HB18 := Lib.hid (HB17.out.trans (hb18.mono HB17.out.size))
        clear hown18 hb18 hat18
        go_wp2
        go_ret
        exact ⟨ret_bool' (by simp <;> omega), HB3.out.trans (HB18.out.mono HB3.out.size)⟩
end Go.Proofs.Ytibcfmfihcgijaa
