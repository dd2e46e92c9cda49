/- The walk of ClassesLeast. -/
import Derived.Test.YtibcfmfihcgijaaClL3
import Derived.Deep.DeepCutAuto
namespace Go.Proofs.Ytibcfmfihcgijaa
open Go.RowKit M
set_option maxHeartbeats 8000000 in
set_option maxRecDepth 100000 in
theorem classesLeast_any (A B D : Option Addr) (n c m d k0 d0 : Nat) (a b : List ByteArray) (st : List Stp) (w : World) (hn : n = a.length) (hm : m = b.length) (hb : n ≤ maxLen) (hb2 : m ≤ maxLen) (ha : At w A (sv a)) (hb' : At w B (sv b)) (hk0 : k0 = st.length) (_hkd : k0 ≤ d0) (_hdm : d0 ≤ maxLen) (hd : At w D (stv st)) :
    Calls Try.prog 6 #[.slice A n c, .slice B m d, .slice D k0 d0] w fun e w' => e = .returned (.bool true) ∧ Below w.heap.size w w' := by
  have HF1 : Hid (∀ w1 : World, Below w.heap.size w w1 → Calls Try.prog 12 #[.slice A n c, .int .i64 10] w1 fun e w' => ∃ v, e = .returned v ∧ w'.ownsRow w1.heap.size 9 1 v (few a 10).length (sv (few a 10)) ∧ Below w1.heap.size w1 w') := fun w1 h => few_any A n c 10 a w1 hn hb (by omega) (by omega) (ha.below h)
  have HF2 : Hid (∀ w1 : World, Below w.heap.size w w1 → Calls Try.prog 12 #[.slice B m d, .int .i64 10] w1 fun e w' => ∃ v, e = .returned v ∧ w'.ownsRow w1.heap.size 9 1 v (few b 10).length (sv (few b 10)) ∧ Below w1.heap.size w1 w') := fun w1 h => few_any B m d 10 b w1 hm hb2 (by omega) (by omega) (hb'.below h)
  have hl1 := few_len a 10
  have hl2 := few_len b 10
  have HSM1 := Lib.hid (few_small a 10)
  have HSM2 := Lib.hid (few_small b 10)
  have HK0 := Lib.hid hk0
  have HD := Lib.hid hd
  unfold maxLen at _hdm
  clear ha hb' hn hm hb hb2 hk0 hd
  generalize few a 10 = X at hl1 HF1 HSM1
  generalize few b 10 = Y at hl2 HF2 HSM2
  obtain ⟨i1, hi', hz0', hz1', hz2'⟩ := info_parts infoRStep
  go_enter Try.func6, Try.ntmps6
  go_wp2_with (first | (go_at_call 11; refine (awake_any _).mono ?_; rintro e w1 ⟨rfl, hb⟩; have HB1 := Lib.hid hb; clear hb) | (go_at_call 12; (with_reducible refine (HF1.out _ HB1.out).mono ?_); rintro e w2 ⟨v2, rfl, hown, hb⟩; obtain ⟨A2, c2, rfl, hc2, hm2, hat2⟩ := at_of_own hown; have HAT2 := Lib.hid hat2; have HB2 := Lib.hid (HB1.out.trans (hb.mono HB1.out.size)); clear hown hat2 hb) | (go_at_call 12; (with_reducible refine (HF2.out _ HB2.out).mono ?_); rintro e w3 ⟨v3, rfl, hown, hb⟩; obtain ⟨A3, c3, rfl, hc3, hm3, hat3⟩ := at_of_own hown; have HAT3 := Lib.hid hat3; have HAT4 := Lib.hid (HAT2.out.below hb); have HB3 := Lib.hid (HB2.out.trans (hb.mono HB2.out.size)); clear hown hat3 hb))
  have HDD := Lib.hid (HD.out.below HB3.out)
  go_loopw [7, 8] (fun v i wr => ∃ (k : Nat) (L : List Stp), k ≤ k0 ∧ k ≤ 20 ∧ i = .int .i64 k ∧ L.length ≤ k ∧ Hid (M.Form L) ∧ Hid (wr.ownsRow w3.heap.size 35 2 v L.length (stv L)) ∧ Below w3.heap.size w3 wr) (fun _ i _ => 20 - (intOf i).toNat)
  case atStart => exact ⟨0, [], Nat.zero_le _, by omega, rfl, Nat.le_refl _, form_nil, World.ownsRow_nil _ _ _ _, Below.refl _ _⟩
  case round =>
    obtain ⟨k, L, hk, hk20, rfl, hLk, hform, hown, hbel⟩ := hrel
    obtain ⟨A7, c7, rfl, hc7, hm7, hat7⟩ := at_of_own hown.out
    have HAT7 := Lib.hid hat7
    clear hat7
    by_cases hlt : k < k0 ∧ k < 20
    · obtain ⟨hlt1, hlt2⟩ := hlt
      have hkL : k < st.length := by have := HK0.out; omega
      obtain ⟨b1, o1, rfl, hlb1, hc10, hc11⟩ := at_step HDD.out hkL
      rename World => wr
      have hd0 := (below_cells hbel).1 b1 (o1 + k * 2) hlb1
      have hd1 := (below_cells hbel).1 b1 (o1 + k * 2 + 1) hlb1
      rw [hc10] at hd0
      rw [hc11] at hd1
      clear hc10 hc11
      obtain ⟨y, hy⟩ : ∃ y, y = st[k].1 := ⟨_, rfl⟩
      obtain ⟨x, hx⟩ : ∃ x, x = st[k].2 := ⟨_, rfl⟩
      rw [← hy] at hd0
      rw [← hx] at hd1
      clear hx hy
      have hsz := hbel.size
      have hkk : (0 : Int) ≤ (k : Int) := by omega
      have hkk2 : (k : Int) < (k0 : Int) := by omega
      go_upto_region 8 with fail
      go_cut [9] (fun p wx => ∃ g : Nat, p = .pointer (some ⟨g, 0, none⟩) ∧ wx.cell? ⟨g, 0, none⟩ = some (.bool y) ∧ wx.cell? ⟨g, 1, none⟩ = some (.string (cutS x 20)) ∧ Hid (wx.ownsRow w3.heap.size 35 2 (.slice A7 L.length c7) L.length (stv L)) ∧ Below w3.heap.size w3 wx ∧ Below wr.heap.size wr wx)
      case first =>
        go_region_held3 (fun w' => w'.cell? ⟨b1, o1 + k * 2, none⟩ = some (.bool y) ∧ w'.cell? ⟨b1, o1 + k * 2 + 1, none⟩ = some (.string x)) (first | go_keep | (refine ⟨?_, ?_⟩ <;> go_keep)) (first | (go_at_call 13; refine (cut_any x 20 _ (by omega) (by omega)).mono ?_; rintro e w' ⟨rfl, rfl⟩) | fail)
        all_goals (go_wp2_with fail; go_meet; exact ⟨wr.heap.size, rfl, by simp, by simp, hown.out.alloc _, Below_drew (hbel.alloc hsz _), Below_drew (below_alloc _ _)⟩)
      case rest =>
        obtain ⟨g, rfl, hg0, hg1, hownx, hbelx, hbr⟩ := hcut
        rename World => wx
        have hszx := hbelx.size
        generalize cutS x 20 = s1 at hg1
        cases y with
        | false =>
          go_wp2_with (at_builtin; refine wpList_append_own _ rfl _ _ 32 rfl w3.heap.size 35 i1 (.agg #[.bool false, .string { data := #[] }]) 2 24 Try.underlying32 hi' hz0' hz1' hz2' rfl (by decide) _ _ _ rfl (hownx.out.alloc _) ⟨_, 0, none⟩ 1 1 [.bool false, .string s1] rfl rfl (cells_new _ _ _ _ rfl) (stv_one [(false, s1)]) (by unfold maxLen; omega) (by omega) (by simp; omega) ?_; intro v1 w5 hown1 hgrow1 _hnil1; have HO := Lib.hid hown1; have HG1 := Lib.hid hgrow1; clear hown1 hgrow1 _hnil1)
          go_roundw
          case rel => exact ⟨k + 1, L ++ [(false, s1)], by omega, by omega, by go_num, by simp; omega, form_add hform.out s1, by show World.ownsRow _ _ _ _ _ _ _; rw [stv_app, List.length_append]; exact HO.out, (hbelx.alloc hszx _).grown HG1.out (by simp; omega) (own_from hownx.out)⟩
          case measure => simp [intOf]; omega
        | true =>
          by_cases hL0 : 0 < L.length
          · have hatx := HAT7.out.below hbr
            obtain ⟨b7, o7, rfl, hlb7, hc70, hc71⟩ := at_step hatx (k := L.length - 1) (by omega)
            clear hatx hc71
            obtain ⟨z, hz⟩ : ∃ z, z = L[L.length - 1].1 := ⟨_, rfl⟩
            rw [← hz] at hc70
            cases z with
            | true =>
              have HZ : Hid (∃ q, L.getLast? = some (true, q)) := ⟨L[L.length - 1].2, by rw [List.getLast?_eq_getElem?, List.getElem?_eq_getElem (by omega)]; rw [hz]⟩
              clear hz
              go_wp2_with (at_builtin; refine wpList_append_own _ rfl _ _ 32 rfl w3.heap.size 35 i1 (.agg #[.bool false, .string { data := #[] }]) 2 24 Try.underlying32 hi' hz0' hz1' hz2' rfl (by decide) _ _ _ rfl (hownx.out.alloc _) ⟨_, 0, none⟩ 1 1 [.bool true, .string s1] rfl rfl (cells_new _ _ _ _ rfl) (stv_one [(true, s1)]) (by unfold maxLen; omega) (by omega) (by simp; omega) ?_; intro v1 w5 hown1 hgrow1 _hnil1; have HO := Lib.hid hown1; have HG1 := Lib.hid hgrow1; clear hown1 hgrow1 _hnil1)
              go_roundw
              case rel => exact ⟨k + 1, L ++ [(true, s1)], by omega, by omega, by go_num, by simp; omega, form_drop hform.out s1 (.inr HZ.out), by show World.ownsRow _ _ _ _ _ _ _; rw [stv_app, List.length_append]; exact HO.out, (hbelx.alloc hszx _).grown HG1.out (by simp; omega) (own_from hownx.out)⟩
              case measure => simp [intOf]; omega
            | false =>
              clear hz
              have HB0 := Lib.hid hbelx
              have HATL : Hid (At wx (some ⟨b7, o7, none⟩) (stv L)) := HAT7.out.below hbr
              have hcx := clean_len X
              have hcy := clean_len Y
              by_cases hE : apply X L = clean Y
              · have HEQ : Hid (decide (apply X L = clean Y) = true) := decide_eq_true hE
                have hle := least X Y L hform.out hE
                have hcl5 : (apply X L).length ≤ 10 := by rw [hE]; omega
                clear hE
                go_wp2_with (first | (go_at_call 28; (with_reducible refine (rapply_any A2 (some ⟨b7, o7, none⟩) _ c2 _ c7 X L _ rfl hc2 hm2 rfl (by omega) (by omega) (HAT4.out.below HB0.out) HATL.out).mono ?_); rintro e w10 ⟨v10, rfl, hown10, hb10⟩; obtain ⟨A10, c10, rfl, hc10, hm10, hat10⟩ := at_of_own hown10; have HAT10 := Lib.hid hat10; have HB10 := Lib.hid (HB0.out.trans (hb10.mono HB0.out.size)); clear hown10 hb10 hat10) | (go_at_call 17; (with_reducible refine (rclean_any A3 _ c3 Y _ rfl hc3 hm3 (by omega) (HAT3.out.below HB10.out)).mono ?_); rintro e w11 ⟨v11, rfl, hown11, hb11⟩; obtain ⟨A11, c11, rfl, hc11, hm11, hat11⟩ := at_of_own hown11; have HAT11 := Lib.hid hat11; have HAT12 := Lib.hid (HAT10.out.below hb11); have HB11 := Lib.hid (HB10.out.trans (hb11.mono HB10.out.size)); clear hown11 hb11 hat11) | (go_at_call 15; (with_reducible refine (same_any A10 A11 _ _ _ _ (apply X L) (clean Y) _ rfl rfl (by unfold maxLen; omega) (by unfold maxLen; omega) HAT12.out HAT11.out).mono ?_); rintro e w' ⟨rfl, q12, rfl⟩; rw [HEQ.out]) | (go_at_call 25; (with_reducible refine (cturn_any A2 A3 _ c2 _ c3 X Y _ rfl rfl (by omega) (by omega) (At.drewN (HAT4.out.below HB11.out) _) (At.drewN (HAT3.out.below HB11.out) _) HSM1.out HSM2.out).mono ?_); rintro e w13 ⟨v13, rfl, hown13, hb13⟩; obtain ⟨A13, c13, rfl, hc13, hm13, hat13⟩ := at_of_own hown13; have HAT13 := Lib.hid hat13; have HB13 := Lib.hid (HB11.out.trans ((drewN_left hb13).mono HB11.out.size)); clear hown13 hb13 hat13))
                go_ret
                exact ⟨ret_bool' (by simp <;> omega), HB3.out.trans (HB13.out.mono HB3.out.size)⟩
              · have HEQ : Hid (decide (apply X L = clean Y) = false) := decide_eq_false hE
                have hle := turn_len X Y
                have hcl5 := apply_len X L
                clear hE
                go_wp2_with (first | (go_at_call 28; (with_reducible refine (rapply_any A2 (some ⟨b7, o7, none⟩) _ c2 _ c7 X L _ rfl hc2 hm2 rfl (by omega) (by omega) (HAT4.out.below HB0.out) HATL.out).mono ?_); rintro e w10 ⟨v10, rfl, hown10, hb10⟩; obtain ⟨A10, c10, rfl, hc10, hm10, hat10⟩ := at_of_own hown10; have HAT10 := Lib.hid hat10; have HB10 := Lib.hid (HB0.out.trans (hb10.mono HB0.out.size)); clear hown10 hb10 hat10) | (go_at_call 17; (with_reducible refine (rclean_any A3 _ c3 Y _ rfl hc3 hm3 (by omega) (HAT3.out.below HB10.out)).mono ?_); rintro e w11 ⟨v11, rfl, hown11, hb11⟩; obtain ⟨A11, c11, rfl, hc11, hm11, hat11⟩ := at_of_own hown11; have HAT11 := Lib.hid hat11; have HAT12 := Lib.hid (HAT10.out.below hb11); have HB11 := Lib.hid (HB10.out.trans (hb11.mono HB10.out.size)); clear hown11 hb11 hat11) | (go_at_call 15; (with_reducible refine (same_any A10 A11 _ _ _ _ (apply X L) (clean Y) _ rfl rfl (by unfold maxLen; omega) (by unfold maxLen; omega) HAT12.out HAT11.out).mono ?_); rintro e w' ⟨rfl, q12, rfl⟩; rw [HEQ.out]) | (go_at_call 25; (with_reducible refine (cturn_any A2 A3 _ c2 _ c3 X Y _ rfl rfl (by omega) (by omega) (At.drewN (HAT4.out.below HB11.out) _) (At.drewN (HAT3.out.below HB11.out) _) HSM1.out HSM2.out).mono ?_); rintro e w13 ⟨v13, rfl, hown13, hb13⟩; obtain ⟨A13, c13, rfl, hc13, hm13, hat13⟩ := at_of_own hown13; have HAT13 := Lib.hid hat13; have HB13 := Lib.hid (HB11.out.trans ((drewN_left hb13).mono HB11.out.size)); clear hown13 hb13 hat13) | (go_at_call 17; (with_reducible refine (rclean_any A2 _ c2 X _ rfl hc2 hm2 (by omega) (HAT4.out.below HB13.out)).mono ?_); rintro e w14 ⟨v14, rfl, hown14, hb14⟩; obtain ⟨A14, c14, rfl, hc14, hm14, hat14⟩ := at_of_own hown14; have HAT14 := Lib.hid hat14; have HB14 := Lib.hid (HB13.out.trans (hb14.mono HB13.out.size)); clear hown14 hb14 hat14) | (go_at_call 17; (with_reducible refine (rclean_any A3 _ c3 Y _ rfl hc3 hm3 (by omega) (HAT3.out.below HB14.out)).mono ?_); rintro e w15 ⟨v15, rfl, hown15, hb15⟩; obtain ⟨A15, c15, rfl, hc15, hm15, hat15⟩ := at_of_own hown15; have HAT15 := Lib.hid hat15; have HB15 := Lib.hid (HB14.out.trans (hb15.mono HB14.out.size)); clear hown15 hb15 hat15))
                go_ret
                exact ⟨ret_bool' (by simp <;> omega), HB3.out.trans (HB15.out.mono HB3.out.size)⟩
          · have HZ : Hid (L = []) := List.eq_nil_of_length_eq_zero (by omega)
            go_wp2_with (at_builtin; refine wpList_append_own _ rfl _ _ 32 rfl w3.heap.size 35 i1 (.agg #[.bool false, .string { data := #[] }]) 2 24 Try.underlying32 hi' hz0' hz1' hz2' rfl (by decide) _ _ _ rfl (hownx.out.alloc _) ⟨_, 0, none⟩ 1 1 [.bool true, .string s1] rfl rfl (cells_new _ _ _ _ rfl) (stv_one [(true, s1)]) (by unfold maxLen; omega) (by omega) (by simp; omega) ?_; intro v1 w5 hown1 hgrow1 _hnil1; have HO := Lib.hid hown1; have HG1 := Lib.hid hgrow1; clear hown1 hgrow1 _hnil1)
            go_roundw
            case rel => exact ⟨k + 1, L ++ [(true, s1)], by omega, by omega, by go_num, by simp; omega, form_drop hform.out s1 (.inl HZ.out), by show World.ownsRow _ _ _ _ _ _ _; rw [stv_app, List.length_append]; exact HO.out, (hbelx.alloc hszx _).grown HG1.out (by simp; omega) (own_from hownx.out)⟩
            case measure => simp [intOf]; omega
    · have HB0 := Lib.hid hbel
      have HATL := HAT7
      have hcx := clean_len X
      have hcy := clean_len Y
      by_cases hlt1 : k < k0
      · have hlt2 : ¬ k < 20 := fun h => hlt ⟨hlt1, h⟩
        have hlt3 : (20 : Int) ≤ (k : Int) := by omega
        have hlt4 : (k : Int) < (k0 : Int) := by omega
        clear hlt
        by_cases hE : apply X L = clean Y
        · have HEQ : Hid (decide (apply X L = clean Y) = true) := decide_eq_true hE
          have hle := least X Y L hform.out hE
          have hcl5 : (apply X L).length ≤ 10 := by rw [hE]; omega
          clear hE
          go_wp2_with (first | (go_at_call 28; (with_reducible refine (rapply_any A2 A7 _ c2 _ c7 X L _ rfl hc2 hm2 rfl (by omega) (by omega) (HAT4.out.below HB0.out) HATL.out).mono ?_); rintro e w10 ⟨v10, rfl, hown10, hb10⟩; obtain ⟨A10, c10, rfl, hc10, hm10, hat10⟩ := at_of_own hown10; have HAT10 := Lib.hid hat10; have HB10 := Lib.hid (HB0.out.trans (hb10.mono HB0.out.size)); clear hown10 hb10 hat10) | (go_at_call 17; (with_reducible refine (rclean_any A3 _ c3 Y _ rfl hc3 hm3 (by omega) (HAT3.out.below HB10.out)).mono ?_); rintro e w11 ⟨v11, rfl, hown11, hb11⟩; obtain ⟨A11, c11, rfl, hc11, hm11, hat11⟩ := at_of_own hown11; have HAT11 := Lib.hid hat11; have HAT12 := Lib.hid (HAT10.out.below hb11); have HB11 := Lib.hid (HB10.out.trans (hb11.mono HB10.out.size)); clear hown11 hb11 hat11) | (go_at_call 15; (with_reducible refine (same_any A10 A11 _ _ _ _ (apply X L) (clean Y) _ rfl rfl (by unfold maxLen; omega) (by unfold maxLen; omega) HAT12.out HAT11.out).mono ?_); rintro e w' ⟨rfl, q12, rfl⟩; rw [HEQ.out]) | (go_at_call 25; (with_reducible refine (cturn_any A2 A3 _ c2 _ c3 X Y _ rfl rfl (by omega) (by omega) (At.drewN (HAT4.out.below HB11.out) _) (At.drewN (HAT3.out.below HB11.out) _) HSM1.out HSM2.out).mono ?_); rintro e w13 ⟨v13, rfl, hown13, hb13⟩; obtain ⟨A13, c13, rfl, hc13, hm13, hat13⟩ := at_of_own hown13; have HAT13 := Lib.hid hat13; have HB13 := Lib.hid (HB11.out.trans ((drewN_left hb13).mono HB11.out.size)); clear hown13 hb13 hat13))
          go_ret
          exact ⟨ret_bool' (by simp <;> omega), HB3.out.trans (HB13.out.mono HB3.out.size)⟩
        · have HEQ : Hid (decide (apply X L = clean Y) = false) := decide_eq_false hE
          have hle := turn_len X Y
          have hcl5 := apply_len X L
          clear hE
          go_wp2_with (first | (go_at_call 28; (with_reducible refine (rapply_any A2 A7 _ c2 _ c7 X L _ rfl hc2 hm2 rfl (by omega) (by omega) (HAT4.out.below HB0.out) HATL.out).mono ?_); rintro e w10 ⟨v10, rfl, hown10, hb10⟩; obtain ⟨A10, c10, rfl, hc10, hm10, hat10⟩ := at_of_own hown10; have HAT10 := Lib.hid hat10; have HB10 := Lib.hid (HB0.out.trans (hb10.mono HB0.out.size)); clear hown10 hb10 hat10) | (go_at_call 17; (with_reducible refine (rclean_any A3 _ c3 Y _ rfl hc3 hm3 (by omega) (HAT3.out.below HB10.out)).mono ?_); rintro e w11 ⟨v11, rfl, hown11, hb11⟩; obtain ⟨A11, c11, rfl, hc11, hm11, hat11⟩ := at_of_own hown11; have HAT11 := Lib.hid hat11; have HAT12 := Lib.hid (HAT10.out.below hb11); have HB11 := Lib.hid (HB10.out.trans (hb11.mono HB10.out.size)); clear hown11 hb11 hat11) | (go_at_call 15; (with_reducible refine (same_any A10 A11 _ _ _ _ (apply X L) (clean Y) _ rfl rfl (by unfold maxLen; omega) (by unfold maxLen; omega) HAT12.out HAT11.out).mono ?_); rintro e w' ⟨rfl, q12, rfl⟩; rw [HEQ.out]) | (go_at_call 25; (with_reducible refine (cturn_any A2 A3 _ c2 _ c3 X Y _ rfl rfl (by omega) (by omega) (At.drewN (HAT4.out.below HB11.out) _) (At.drewN (HAT3.out.below HB11.out) _) HSM1.out HSM2.out).mono ?_); rintro e w13 ⟨v13, rfl, hown13, hb13⟩; obtain ⟨A13, c13, rfl, hc13, hm13, hat13⟩ := at_of_own hown13; have HAT13 := Lib.hid hat13; have HB13 := Lib.hid (HB11.out.trans ((drewN_left hb13).mono HB11.out.size)); clear hown13 hb13 hat13) | (go_at_call 17; (with_reducible refine (rclean_any A2 _ c2 X _ rfl hc2 hm2 (by omega) (HAT4.out.below HB13.out)).mono ?_); rintro e w14 ⟨v14, rfl, hown14, hb14⟩; obtain ⟨A14, c14, rfl, hc14, hm14, hat14⟩ := at_of_own hown14; have HAT14 := Lib.hid hat14; have HB14 := Lib.hid (HB13.out.trans (hb14.mono HB13.out.size)); clear hown14 hb14 hat14) | (go_at_call 17; (with_reducible refine (rclean_any A3 _ c3 Y _ rfl hc3 hm3 (by omega) (HAT3.out.below HB14.out)).mono ?_); rintro e w15 ⟨v15, rfl, hown15, hb15⟩; obtain ⟨A15, c15, rfl, hc15, hm15, hat15⟩ := at_of_own hown15; have HAT15 := Lib.hid hat15; have HB15 := Lib.hid (HB14.out.trans (hb15.mono HB14.out.size)); clear hown15 hb15 hat15))
          go_ret
          exact ⟨ret_bool' (by simp <;> omega), HB3.out.trans (HB15.out.mono HB3.out.size)⟩
      · have hlt3 : (k0 : Int) ≤ (k : Int) := by omega
        clear hlt
        by_cases hE : apply X L = clean Y
        · have HEQ : Hid (decide (apply X L = clean Y) = true) := decide_eq_true hE
          have hle := least X Y L hform.out hE
          have hcl5 : (apply X L).length ≤ 10 := by rw [hE]; omega
          clear hE
          go_wp2_with (first | (go_at_call 28; (with_reducible refine (rapply_any A2 A7 _ c2 _ c7 X L _ rfl hc2 hm2 rfl (by omega) (by omega) (HAT4.out.below HB0.out) HATL.out).mono ?_); rintro e w10 ⟨v10, rfl, hown10, hb10⟩; obtain ⟨A10, c10, rfl, hc10, hm10, hat10⟩ := at_of_own hown10; have HAT10 := Lib.hid hat10; have HB10 := Lib.hid (HB0.out.trans (hb10.mono HB0.out.size)); clear hown10 hb10 hat10) | (go_at_call 17; (with_reducible refine (rclean_any A3 _ c3 Y _ rfl hc3 hm3 (by omega) (HAT3.out.below HB10.out)).mono ?_); rintro e w11 ⟨v11, rfl, hown11, hb11⟩; obtain ⟨A11, c11, rfl, hc11, hm11, hat11⟩ := at_of_own hown11; have HAT11 := Lib.hid hat11; have HAT12 := Lib.hid (HAT10.out.below hb11); have HB11 := Lib.hid (HB10.out.trans (hb11.mono HB10.out.size)); clear hown11 hb11 hat11) | (go_at_call 15; (with_reducible refine (same_any A10 A11 _ _ _ _ (apply X L) (clean Y) _ rfl rfl (by unfold maxLen; omega) (by unfold maxLen; omega) HAT12.out HAT11.out).mono ?_); rintro e w' ⟨rfl, q12, rfl⟩; rw [HEQ.out]) | (go_at_call 25; (with_reducible refine (cturn_any A2 A3 _ c2 _ c3 X Y _ rfl rfl (by omega) (by omega) (At.drewN (HAT4.out.below HB11.out) _) (At.drewN (HAT3.out.below HB11.out) _) HSM1.out HSM2.out).mono ?_); rintro e w13 ⟨v13, rfl, hown13, hb13⟩; obtain ⟨A13, c13, rfl, hc13, hm13, hat13⟩ := at_of_own hown13; have HAT13 := Lib.hid hat13; have HB13 := Lib.hid (HB11.out.trans ((drewN_left hb13).mono HB11.out.size)); clear hown13 hb13 hat13))
          go_ret
          exact ⟨ret_bool' (by simp <;> omega), HB3.out.trans (HB13.out.mono HB3.out.size)⟩
        · have HEQ : Hid (decide (apply X L = clean Y) = false) := decide_eq_false hE
          have hle := turn_len X Y
          have hcl5 := apply_len X L
          clear hE
          go_wp2_with (first | (go_at_call 28; (with_reducible refine (rapply_any A2 A7 _ c2 _ c7 X L _ rfl hc2 hm2 rfl (by omega) (by omega) (HAT4.out.below HB0.out) HATL.out).mono ?_); rintro e w10 ⟨v10, rfl, hown10, hb10⟩; obtain ⟨A10, c10, rfl, hc10, hm10, hat10⟩ := at_of_own hown10; have HAT10 := Lib.hid hat10; have HB10 := Lib.hid (HB0.out.trans (hb10.mono HB0.out.size)); clear hown10 hb10 hat10) | (go_at_call 17; (with_reducible refine (rclean_any A3 _ c3 Y _ rfl hc3 hm3 (by omega) (HAT3.out.below HB10.out)).mono ?_); rintro e w11 ⟨v11, rfl, hown11, hb11⟩; obtain ⟨A11, c11, rfl, hc11, hm11, hat11⟩ := at_of_own hown11; have HAT11 := Lib.hid hat11; have HAT12 := Lib.hid (HAT10.out.below hb11); have HB11 := Lib.hid (HB10.out.trans (hb11.mono HB10.out.size)); clear hown11 hb11 hat11) | (go_at_call 15; (with_reducible refine (same_any A10 A11 _ _ _ _ (apply X L) (clean Y) _ rfl rfl (by unfold maxLen; omega) (by unfold maxLen; omega) HAT12.out HAT11.out).mono ?_); rintro e w' ⟨rfl, q12, rfl⟩; rw [HEQ.out]) | (go_at_call 25; (with_reducible refine (cturn_any A2 A3 _ c2 _ c3 X Y _ rfl rfl (by omega) (by omega) (At.drewN (HAT4.out.below HB11.out) _) (At.drewN (HAT3.out.below HB11.out) _) HSM1.out HSM2.out).mono ?_); rintro e w13 ⟨v13, rfl, hown13, hb13⟩; obtain ⟨A13, c13, rfl, hc13, hm13, hat13⟩ := at_of_own hown13; have HAT13 := Lib.hid hat13; have HB13 := Lib.hid (HB11.out.trans ((drewN_left hb13).mono HB11.out.size)); clear hown13 hb13 hat13) | (go_at_call 17; (with_reducible refine (rclean_any A2 _ c2 X _ rfl hc2 hm2 (by omega) (HAT4.out.below HB13.out)).mono ?_); rintro e w14 ⟨v14, rfl, hown14, hb14⟩; obtain ⟨A14, c14, rfl, hc14, hm14, hat14⟩ := at_of_own hown14; have HAT14 := Lib.hid hat14; have HB14 := Lib.hid (HB13.out.trans (hb14.mono HB13.out.size)); clear hown14 hb14 hat14) | (go_at_call 17; (with_reducible refine (rclean_any A3 _ c3 Y _ rfl hc3 hm3 (by omega) (HAT3.out.below HB14.out)).mono ?_); rintro e w15 ⟨v15, rfl, hown15, hb15⟩; obtain ⟨A15, c15, rfl, hc15, hm15, hat15⟩ := at_of_own hown15; have HAT15 := Lib.hid hat15; have HB15 := Lib.hid (HB14.out.trans (hb15.mono HB14.out.size)); clear hown15 hb15 hat15))
          go_ret
          exact ⟨ret_bool' (by simp <;> omega), HB3.out.trans (HB15.out.mono HB3.out.size)⟩
end Go.Proofs.Ytibcfmfihcgijaa
