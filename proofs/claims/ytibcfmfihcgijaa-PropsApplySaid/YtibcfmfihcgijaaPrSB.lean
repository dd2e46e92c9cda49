/- The walk of PropsApply. -/
import Derived.Test.YtibcfmfihcgijaaPrS6
import Derived.Test.YtibcfmfihcgijaaPrS7
import Derived.Test.YtibcfmfihcgijaaPrSA
import Derived.Deep.DeepCutAuto
namespace Go.Proofs.Ytibcfmfihcgijaa
open Go.RowKit M
set_option maxHeartbeats 16000000 in
set_option maxRecDepth 100000 in
theorem propsApply_any (A D : Option Addr) (n c k0 d0 : Nat) (a : List Par) (st : List PStp) (w : World) (hn : n = a.length) (hb : n ≤ maxLen) (ha : At w A (pv a)) (hk0 : k0 = st.length) (_hkd : k0 ≤ d0) (_hdm : d0 ≤ maxLen) (hd : At w D (psv st)) :
    Calls Try.prog 9 #[.slice A n c, .slice D k0 d0] w fun e w' => e = .returned (.bool true) ∧ RowKit.Below w.heap.size w w' := by
  have HF1 : Hid (∀ w1 : World, RowKit.Below w.heap.size w w1 → Calls Try.prog 30 #[.slice A n c, .int .i64 10] w1 fun e w' => ∃ v, e = .returned v ∧ w'.ownsRow w1.heap.size 78 2 v (fewP a 10).length (pv (fewP a 10)) ∧ RowKit.Below w1.heap.size w1 w') := fun w1 h => few4_any A n c 10 a w1 hn hb (by omega) (by omega) (ha.below h)
  have hl1 := fewP_len a 10
  have HK0 := Lib.hid hk0
  have HD := Lib.hid hd
  unfold maxLen at _hdm
  clear ha hn hb hk0 hd
  generalize fewP a 10 = X at hl1 HF1
  obtain ⟨i1, hi1, hz10, hz11, hz12⟩ := info_parts infoPStp
  obtain ⟨i2, hi2, hz20, hz21, hz22⟩ := info_parts infoRPStp
  go_enter Try.func9, Try.ntmps9
  go_wp2_with fail
  refine (awake4_any _).mono ?_
  rintro e w1 ⟨rfl, hb⟩
  have HB1 := Lib.hid hb
  clear hb
  go_wp2_with fail
  refine (HF1.out _ HB1.out).mono ?_
  rintro e w2 ⟨v2, rfl, hown, hb⟩
  obtain ⟨A2, c2, rfl, _, _, hat2⟩ := at_of_own' hown
  have HAT2 := Lib.hid hat2
  have HB2 := Lib.hid (HB1.out.trans (hb.mono HB1.out.size))
  clear hown hat2 hb
  have HDD := Lib.hid (HD.out.below HB2.out)
  go_wp2
  go_loopw [5, 6, 7] (fun v u i wr => ∃ (k : Nat) (L : List PStp), k ≤ k0 ∧ k ≤ 16 ∧ i = .int .i64 k ∧ L.length ≤ k ∧ Hid (wr.ownsRow w2.heap.size 55 3 v L.length (psv L)) ∧ Hid (wr.ownsRow w2.heap.size 45 3 u L.length (psv L)) ∧ RowKit.Below w2.heap.size w2 wr) (fun _ _ i _ => 16 - (intOf i).toNat)
  case atStart => exact ⟨0, [], Nat.zero_le _, by omega, rfl, Nat.le_refl _, World.ownsRow_nil _ _ _ _, World.ownsRow_nil _ _ _ _, RowKit.Below.refl _ _⟩
  case round =>
    obtain ⟨k, L, hk, hk20, rfl, hLk, hown, hownu, hbel⟩ := hrel
    obtain ⟨A7, c7, rfl, _, _, hat7⟩ := at_of_own' hown.out
    obtain ⟨A8, c8, rfl, _, _, hat8⟩ := at_of_own' hownu.out
    have HAT7 := Lib.hid hat7
    have HAT8 := Lib.hid hat8
    clear hat7 hat8
    by_cases hlt1 : k < k0
    · by_cases hlt2 : k < 16
      · have hkL : k < st.length := by have := HK0.out; omega
        obtain ⟨b1, o1, rfl, hlb1, hc10, hc11, hc12⟩ := at_pstep HDD.out hkL
        rename World => wr
        have hd0 := (below_cells hbel).1 b1 (o1 + k * 3) hlb1
        have hd1 := (below_cells hbel).1 b1 (o1 + k * 3 + 1) hlb1
        have hd2 := (below_cells hbel).1 b1 (o1 + k * 3 + 2) hlb1
        rw [hc10] at hd0
        rw [hc11] at hd1
        rw [hc12] at hd2
        clear hc10 hc11 hc12
        obtain ⟨y, hy⟩ : ∃ y, y = st[k].1 := ⟨_, rfl⟩
        obtain ⟨x, hx⟩ : ∃ x, x = st[k].2.1 := ⟨_, rfl⟩
        obtain ⟨z, hz⟩ : ∃ z, z = st[k].2.2 := ⟨_, rfl⟩
        rw [← hy] at hd0
        rw [← hx] at hd1
        rw [← hz] at hd2
        clear hx hy hz
        have hsz := hbel.size
        have hkk : (0 : Int) ≤ (k : Int) := by omega
        have hkk2 : (k : Int) < (k0 : Int) := by omega
        have hkk3 : (k : Int) < 16 := by omega
        go_upto_region 9 with fail
        go_cut [8] (fun p wx => ∃ g : Nat, p = .pointer (some ⟨g, 0, none⟩) ∧ wx.cell? ⟨g, 0, none⟩ = some (.bool y) ∧ wx.cell? ⟨g, 1, none⟩ = some (.string (cutS x 20)) ∧ wx.cell? ⟨g, 2, none⟩ = some (.int .i64 z) ∧ Hid (wx.ownsRow w2.heap.size 55 3 (.slice A7 L.length c7) L.length (psv L)) ∧ Hid (wx.ownsRow w2.heap.size 45 3 (.slice A8 L.length c8) L.length (psv L)) ∧ RowKit.Below w2.heap.size w2 wx ∧ Hid ((Value.slice A7 L.length c7).ownBlock ≠ some g) ∧ Hid ((Value.slice A8 L.length c8).ownBlock ≠ some g))
        case first =>
          go_region_held3 (fun w' => w'.cell? ⟨b1, o1 + k * 3, none⟩ = some (.bool y) ∧ w'.cell? ⟨b1, o1 + k * 3 + 1, none⟩ = some (.string x) ∧ w'.cell? ⟨b1, o1 + k * 3 + 2, none⟩ = some (.int .i64 z)) (first | go_keep | (refine ⟨?_, ?_, ?_⟩ <;> go_keep)) (first | (go_at_call 13; refine (cut_any x 20 _ (by omega) (by omega)).mono ?_; rintro e w' ⟨rfl, rfl⟩) | fail)
          all_goals (go_wp2_with fail; go_meet; exact ⟨wr.heap.size, rfl, by simp, by simp, by simp, hown.out.alloc _, hownu.out.alloc _, Below_drew (hbel.alloc hsz _), (fun e => Nat.lt_irrefl _ (hown.out.lt _ e).2), (fun e => Nat.lt_irrefl _ (hownu.out.lt _ e).2)⟩)
        case rest =>
          obtain ⟨g, rfl, hg0, hg1, hg2, hownA, hownX, hbelx, HNG, HNX⟩ := hcut
          rename World => wx
          have hszx := hbelx.size
          generalize cutS x 20 = s1 at hg1
          have HNE := Lib.hid (own_ne hownX.out hownA.out (by decide))
          have HLT : Hid (∀ h, (Value.slice A7 L.length c7).ownBlock = some h → h < wx.heap.size) := fun h e => (hownA.out.lt h e).2
          have HLX : Hid (∀ h, (Value.slice A8 L.length c8).ownBlock = some h → h < wx.heap.size) := fun h e => (hownX.out.lt h e).2
          go_upto_region 10 with fail
          have hga0 : ∀ o, (wx.alloc o).cell? ⟨g, 0, none⟩ = some (.bool y) := fun o => Lib.cell?_alloc_some _ hg0
          have hgb0 : ∀ o o2, ((wx.alloc o).alloc o2).cell? ⟨g, 0, none⟩ = some (.bool y) := fun o o2 => Lib.cell?_alloc_some _ (hga0 o)
          have hga1 : ∀ o, (wx.alloc o).cell? ⟨g, 1, none⟩ = some (.string s1) := fun o => Lib.cell?_alloc_some _ hg1
          have hgb1 : ∀ o o2, ((wx.alloc o).alloc o2).cell? ⟨g, 1, none⟩ = some (.string s1) := fun o o2 => Lib.cell?_alloc_some _ (hga1 o)
          have hga2 : ∀ o, (wx.alloc o).cell? ⟨g, 2, none⟩ = some (.int .i64 z) := fun o => Lib.cell?_alloc_some _ hg2
          have hgb2 : ∀ o o2, ((wx.alloc o).alloc o2).cell? ⟨g, 2, none⟩ = some (.int .i64 z) := fun o o2 => Lib.cell?_alloc_some _ (hga2 o)
          go_region_law (first | (refine step_append_at (by rfl) (.tmp 40) (.tmp 42) 46 (by rfl) w2.heap.size 55 i1 _ 3 32 Try.underlying46 hi1 hz10 hz11 hz12 rfl (by decide) (.slice A7 L.length c7) L.length (psv L) (by rfl) ?_ (some ⟨_, 0, none⟩) 1 1 [.bool y, .string s1, .int .i64 z] (by rfl) (fun h => nomatch h) rfl ?_ (psv_one [(y, s1, z)]) ?_ ?_ ?_ ?_; (first | exact own_heap (hownA.out.alloc _) rfl | exact own_heap ((hownA.out.alloc _).alloc _) rfl); (first | exact at_push1 wx.heap #[.bool y, .string s1, .int .i64 z] 55 wx.heap.size [.bool y, .string s1, .int .i64 z] rfl rfl rfl | exact at_push2 wx.heap #[.bool y, .string s1, .int .i64 z] 55 (.cells #[.bool y, .string s1, .int .i64 z] 45) wx.heap.size [.bool y, .string s1, .int .i64 z] rfl rfl rfl | (refine at_push1 (wx.heap.push (.cells #[.bool y, .string s1, .int .i64 z] 45)) #[.bool y, .string s1, .int .i64 z] 55 (wx.heap.size + 1) [.bool y, .string s1, .int .i64 z] rfl ?_ rfl; simp)); (unfold maxLen; omega); omega; (simp <;> omega); intro v8 w8 hown8 hgrow8; have hb80 : w8.cell? ⟨g, 0, none⟩ = some (.bool y) := (by refine hgrow8.cell ?_ HNG.out.symm; first | exact cell_heap (Lib.cell?_alloc_some _ hg0) rfl | exact cell_heap (Lib.cell?_alloc_some _ (Lib.cell?_alloc_some _ hg0)) rfl); have hb81 : w8.cell? ⟨g, 1, none⟩ = some (.string s1) := (by refine hgrow8.cell ?_ HNG.out.symm; first | exact cell_heap (Lib.cell?_alloc_some _ hg1) rfl | exact cell_heap (Lib.cell?_alloc_some _ (Lib.cell?_alloc_some _ hg1)) rfl); have hb82 : w8.cell? ⟨g, 2, none⟩ = some (.int .i64 z) := (by refine hgrow8.cell ?_ HNG.out.symm; first | exact cell_heap (Lib.cell?_alloc_some _ hg2) rfl | exact cell_heap (Lib.cell?_alloc_some _ (Lib.cell?_alloc_some _ hg2)) rfl)) | (refine step_append_at (by rfl) (.tmp 44) (.tmp 46) 42 (by rfl) w2.heap.size 45 i2 _ 3 32 Try.underlying42 hi2 hz20 hz21 hz22 rfl (by decide) (.slice A8 L.length c8) L.length (psv L) (by rfl) ?_ (some ⟨_, 0, none⟩) 1 1 [.bool y, .string s1, .int .i64 z] (by rfl) (fun h => nomatch h) rfl ?_ (psv_one [(y, s1, z)]) ?_ ?_ ?_ ?_; (first | (refine own_heap (World.ownsRow.alloc (World.ownsRow.kept ?_ hgrow8 HNE.out) _) rfl; exact own_heap (hownX.out.alloc _) rfl) | (refine own_heap (World.ownsRow.kept ?_ hgrow8 HNE.out) rfl; exact own_heap ((hownX.out.alloc _).alloc _) rfl)); (first | exact at_push1 w8.heap #[.bool y, .string s1, .int .i64 z] 45 w8.heap.size [.bool y, .string s1, .int .i64 z] rfl rfl rfl | (refine at_new_grown hgrow8 (wx.heap.push (.cells #[.bool y, .string s1, .int .i64 z] 55)) #[.bool y, .string s1, .int .i64 z] 45 (wx.heap.size + 1) [.bool y, .string s1, .int .i64 z] rfl ?_ rfl ?_; simp; (intro e; have h5 := HLT.out _ e.symm; omega)) | (refine at_new_alloc_grown hgrow8 wx.heap #[.bool y, .string s1, .int .i64 z] 45 (.cells #[.bool y, .string s1, .int .i64 z] 55) wx.heap.size [.bool y, .string s1, .int .i64 z] rfl rfl rfl ?_; (intro e; have h5 := HLT.out _ e.symm; omega))); (unfold maxLen; omega); omega; (have h5 := hgrow8.size; simp at h5 ⊢ <;> omega); intro v9 w9 hown9 hgrow9))
          all_goals
            have b8 : RowKit.Below w2.heap.size w2 w8 := by
              refine RowKit.Below.grown ?_ hgrow8 (by simp <;> omega) (fun q hq => by have h5 := own_from hownA.out q hq; omega)
              first
              | exact Below_drew (hbelx.alloc hszx _)
              | exact Below_drew ((hbelx.alloc hszx _).alloc (by simp; omega) _)
              | exact Below_drew (Below_drew (hbelx.alloc hszx _))
              | exact Below_drew (Below_drew ((hbelx.alloc hszx _).alloc (by simp; omega) _))
              | exact hbelx.alloc hszx _
              | exact (hbelx.alloc hszx _).alloc (by simp; omega) _
            have h58 := b8.size
            have b9 : RowKit.Below w2.heap.size w2 w9 := by
              refine RowKit.Below.grown ?_ hgrow9 (by first | exact h58 | (simp; omega)) (fun q hq => by have h5 := own_from hownX.out q hq; omega)
              first
              | exact b8
              | exact b8.alloc h58 _
              | exact Below_drew b8
              | exact Below_drew (b8.alloc h58 _)
            have X8 : w8.ownsRow w2.heap.size 45 3 (.slice A8 L.length c8) L.length (psv L) := by
              refine World.ownsRow.kept ?_ hgrow8 HNE.out
              first | exact own_heap (hownX.out.alloc _) rfl | exact own_heap ((hownX.out.alloc _).alloc _) rfl
            have o8 : w9.ownsRow w2.heap.size 55 3 v8 (L.length + 1) (psv L ++ [.bool y, .string s1, .int .i64 z]) := by
              first
              | (refine World.ownsRow.kept ?_ hgrow9 (own_ne (w := w8) hown8 X8 (by decide)); first | exact own_heap (hown8.alloc _) rfl | exact hown8)
            have O8 := Lib.hid o8
            have O9 := Lib.hid hown9
            have B9 := Lib.hid b9
            clear b8 b9 o8 hb80 hb81 hb82 hown8 hown9 hgrow8 hgrow9 h58
            go_wp2
            go_roundw
            case rel => exact ⟨k + 1, L ++ [(y, s1, z)], by omega, by omega, by go_num, by simp; omega, by show World.ownsRow _ _ _ _ _ _ _; rw [List.length_append, psv_app]; exact O8.out, by show World.ownsRow _ _ _ _ _ _ _; rw [List.length_append, psv_app]; exact O9.out, B9.out⟩
            case measure => simp [intOf]; omega
      · have hlt3 : (16 : Int) ≤ (k : Int) := by omega
        have hlt4 : (k : Int) < (k0 : Int) := by omega
        have hlt5 : ¬ (k : Int) < 16 := by omega
        have HB0 := Lib.hid hbel
        have HAN7 := Lib.hid (own_addr hown.out)
        have hal := applyP_len X L
        have hlx := ofP_len X
        go_wp2_with fail
        refine (own4_any A2 _ c2 X _ rfl (by omega) (HAT2.out.below HB0.out)).mono ?_
        rintro e9 w10 ⟨v10, rfl, hown10, hb10⟩
        obtain ⟨A10, c10, rfl, _, _, hat10⟩ := at_of_own' hown10
        have HAT10 := Lib.hid hat10
        have HC10 := Lib.hid hb10
        have HB10 := Lib.hid (HB0.out.trans (hb10.mono HB0.out.size))
        clear hown10 hb10 hat10
        go_wp2_with fail
        refine (apply_any A10 A7 _ c10 _ c7 X L _ rfl rfl (by omega) (by omega) HAN7.out HAT10.out (HAT7.out.below HC10.out)).mono ?_
        rintro e9 w11 ⟨v11, rfl, hown11, hb11⟩
        obtain ⟨A11, c11, rfl, _, _, hat11⟩ := at_of_own' hown11
        have HAT11 := Lib.hid hat11
        have HC11 := Lib.hid (HC10.out.trans (hb11.mono HC10.out.size))
        have HB11 := Lib.hid (HB10.out.trans (hb11.mono HB10.out.size))
        clear hown11 hb11 hat11
        go_wp2_with fail
        refine (rapply4_any A2 A8 _ c2 _ c8 X L _ rfl rfl (by omega) (by omega) (HAT2.out.below HB11.out) (HAT8.out.below HC11.out)).mono ?_
        rintro e9 w12 ⟨v12, rfl, hown12, hb12⟩
        obtain ⟨A12, c12, rfl, _, _, hat12⟩ := at_of_own' hown12
        have HAT12 := Lib.hid hat12
        have HAT13 := Lib.hid (HAT11.out.below hb12)
        have HB12 := Lib.hid (HB11.out.trans (hb12.mono HB11.out.size))
        clear hown12 hb12 hat12
        go_wp2_with fail
        refine (is_any A11 A12 _ c11 _ c12 (applyP X L) (applyP X L) _ rfl rfl (by unfold maxLen; omega) (by unfold maxLen; omega) HAT13.out HAT12.out).mono ?_
        rintro e9 w14 ⟨rfl, q14, rfl⟩
        go_wp2
        go_ret
        exact ⟨ret_bool' (by simp), drewN_below' (HB2.out.trans (HB12.out.mono HB2.out.size)) q14⟩
    · have hlt3 : (k0 : Int) ≤ (k : Int) := by omega
      have hlt4 : ¬ (k : Int) < (k0 : Int) := by omega
      have HB0 := Lib.hid hbel
      have HAN7 := Lib.hid (own_addr hown.out)
      have hal := applyP_len X L
      have hlx := ofP_len X
      go_wp2_with fail
      refine (own4_any A2 _ c2 X _ rfl (by omega) (HAT2.out.below HB0.out)).mono ?_
      rintro e9 w10 ⟨v10, rfl, hown10, hb10⟩
      obtain ⟨A10, c10, rfl, _, _, hat10⟩ := at_of_own' hown10
      have HAT10 := Lib.hid hat10
      have HC10 := Lib.hid hb10
      have HB10 := Lib.hid (HB0.out.trans (hb10.mono HB0.out.size))
      clear hown10 hb10 hat10
      go_wp2_with fail
      refine (apply_any A10 A7 _ c10 _ c7 X L _ rfl rfl (by omega) (by omega) HAN7.out HAT10.out (HAT7.out.below HC10.out)).mono ?_
      rintro e9 w11 ⟨v11, rfl, hown11, hb11⟩
      obtain ⟨A11, c11, rfl, _, _, hat11⟩ := at_of_own' hown11
      have HAT11 := Lib.hid hat11
      have HC11 := Lib.hid (HC10.out.trans (hb11.mono HC10.out.size))
      have HB11 := Lib.hid (HB10.out.trans (hb11.mono HB10.out.size))
      clear hown11 hb11 hat11
      go_wp2_with fail
      refine (rapply4_any A2 A8 _ c2 _ c8 X L _ rfl rfl (by omega) (by omega) (HAT2.out.below HB11.out) (HAT8.out.below HC11.out)).mono ?_
      rintro e9 w12 ⟨v12, rfl, hown12, hb12⟩
      obtain ⟨A12, c12, rfl, _, _, hat12⟩ := at_of_own' hown12
      have HAT12 := Lib.hid hat12
      have HAT13 := Lib.hid (HAT11.out.below hb12)
      have HB12 := Lib.hid (HB11.out.trans (hb12.mono HB11.out.size))
      clear hown12 hb12 hat12
      go_wp2_with fail
      refine (is_any A11 A12 _ c11 _ c12 (applyP X L) (applyP X L) _ rfl rfl (by unfold maxLen; omega) (by unfold maxLen; omega) HAT13.out HAT12.out).mono ?_
      rintro e9 w14 ⟨rfl, q14, rfl⟩
      go_wp2
      go_ret
      exact ⟨ret_bool' (by simp), drewN_below' (HB2.out.trans (HB12.out.mono HB2.out.size)) q14⟩
end Go.Proofs.Ytibcfmfihcgijaa
