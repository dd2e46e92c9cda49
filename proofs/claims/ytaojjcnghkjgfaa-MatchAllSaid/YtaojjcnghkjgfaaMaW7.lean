/- Contracts of the document's Gone, Front, Back, and of the fixed fact of layer 11. -/
import Derived.Test.YtaojjcnghkjgfaaMaW6
namespace Go.Proofs.Ytaojjcnghkjgfaa
open Go.RowKit Ma
set_option maxHeartbeats 2000000 in
set_option maxRecDepth 100000 in
theorem rgone_any (A B : Option Addr) (n c m d : Nat) (old new : List Kd) (w : World) (hn : n = old.length) (hm : m = new.length) (h1 : n ≤ 1000) (h2 : m ≤ 1000) (hnc : n ≤ c) (hcm : c ≤ maxLen) (hmd : m ≤ d) (hdm : d ≤ maxLen) (hA : A = none → n = 0 ∧ c = 0) (hB : B = none → m = 0 ∧ d = 0) (ha : At w A (kc old)) (hb : At w B (kc new)) :
    Calls Try.prog 17 #[.slice A n c, .slice B m d] w fun e w' => ∃ v, e = .returned v ∧ w'.ownsRow w.heap.size 3 1 v (goneTo old new n).length (nv (goneTo old new n)) ∧ Below w.heap.size w w' := by
  have HM := Lib.hid hm
  have C1 := Lib.hid (rpair_any A B n c m d old new w hn hm h1 h2 hnc hcm hmd hdm hA hB ha hb)
  obtain ⟨i0, hi, hz0, hz1, hz2⟩ := info_parts infoInt
  clear hn hm ha hb hnc hcm hmd hdm hA hB
  go_enter Try.func17, Try.ntmps17
  go_wp2_with fail
  refine C1.out.mono ?_
  rintro e w6 ⟨v, rfl, hown, hb6⟩
  obtain ⟨A6, c6, rfl, hc6, hm6⟩ := own_slice hown
  have HT6 := Lib.hid (At.own hown)
  have HB6 := Lib.hid hb6
  clear hown hb6 C1
  go_wp2_with fail
  go_loopw [6, 17] (fun v i wr => ∃ j : Nat, j ≤ n ∧ i = .int .i64 j ∧ Hid (wr.ownsRow w6.heap.size 3 1 v (goneTo old new j).length (nv (goneTo old new j))) ∧ Hid (Below w6.heap.size w6 wr)) (fun _ i _ => n - (intOf i).toNat)
  case atStart => exact ⟨0, Nat.zero_le _, rfl, own_made w6 w6.heap.size rfl (Nat.le_refl _), below_alloc _ _⟩
  case round =>
    obtain ⟨j, hj, rfl, hown, hbel⟩ := hrel
    by_cases hjn : j < n
    · have HTX := Lib.hid (HT6.out.below hbel.out)
      go_wp2_with fail
      go_loop [8, 22] (fun s8 i => ∃ (e : Nat) (b : Bool), e ≤ m ∧ i = .int .i64 e ∧ s8 = .bool b ∧ Hid (b = true ↔ ∃ i', i' < e ∧ pairF old new i' = (j : Int))) (fun _ i => m - (intOf i).toNat)
      case atStart => exact ⟨0, false, Nat.zero_le _, rfl, rfl, Lib.hid ⟨fun h => (by cases h), fun ⟨i', h, _⟩ => absurd h (Nat.not_lt_zero _)⟩⟩
      case round =>
        obtain ⟨e, b, he, rfl, rfl, hb⟩ := hrel
        by_cases hem : e < m
        · have hen : e < new.length := by have := HM.out; omega
          obtain ⟨b3, o3, rfl, hb3, hc5⟩ := HTX.out.one (iv_at (pairs old new) e (by rw [pairs_len]; exact hen))
          rw [ats_pairs _ _ _ hen] at hc5
          obtain ⟨P, hP⟩ : ∃ P, P = pairF old new e := ⟨_, rfl⟩
          rw [← hP] at hc5
          have HP := Lib.hid hP
          clear hP
          cases b
          · by_cases hPp : P = (j : Int)
            · have g1 : (P == (j : Int)) = true := beq_iff_eq.2 hPp
              have HPP := Lib.hid hPp
              clear hPp
              go_wp2_with fail
              go_round
              case rel => exact ⟨e + 1, true, by omega, by go_num, rfl, Lib.hid ⟨fun _ => ⟨e, by omega, HP.out.symm.trans HPP.out⟩, fun _ => rfl⟩⟩
              case measure => simp [intOf]; omega
            · have g1 : (P == (j : Int)) = false := beq_eq_false_iff_ne.2 hPp
              have HPP := Lib.hid hPp
              clear hPp
              go_wp2_with fail
              go_round
              case rel => exact ⟨e + 1, false, by omega, by go_num, rfl, Lib.hid ⟨fun h => (by cases h), fun ⟨i', h, h'⟩ => by
                by_cases ei : i' = e
                · subst ei; exact absurd (HP.out.trans h') HPP.out
                · exact hb.out.2 ⟨i', by omega, h'⟩⟩⟩
              case measure => simp [intOf]; omega
          · go_wp2_with fail
            go_round
            case rel => exact ⟨e + 1, true, by omega, by go_num, rfl, Lib.hid ⟨fun _ => by obtain ⟨i', h, h'⟩ := hb.out.1 rfl; exact ⟨i', by omega, h'⟩, fun _ => rfl⟩⟩
            case measure => simp [intOf]; omega
        · obtain rfl : e = m := by omega
          have hmem : Hid (b = true ↔ (j : Int) ∈ pairs old new) := by
            show _ ↔ _
            rw [hb.out]
            unfold pairs
            rw [← HM.out]
            simp
          have hgl := goneTo_le old new j
          have hwr := hbel.out.size
          cases b
          · have hG := Lib.hid (goneTo_yes (old := old) (new := new) (k := j) (fun h => by have := hmem.out.2 h; cases this))
            obtain ⟨AE, cE, rfl, hcE, hcE2⟩ := own_slice hown.out
            go_wp2_with (at_builtin; refine wpList_append_own _ rfl _ _ 28 rfl w6.heap.size 3 i0 (.int .i64 0) 1 8 Try.underlying28 hi hz0 hz1 hz2 rfl (by decide) _ _ _ rfl (hown.out.alloc _) ⟨_, 0, none⟩ 1 1 [.int .i64 (j : Int)] rfl rfl (cell_one_new _ _ _) (nv_one [j]) (by unfold maxLen; omega) (by omega) (by simp; omega) ?_; intro v1 w1 hown1 hgrow1 _hnil1; have HO1 := Lib.hid hown1; have HG1 := Lib.hid hgrow1; clear hown1 hgrow1 _hnil1)
            go_roundw
            case rel => exact ⟨j + 1, by omega, by go_num, by show World.ownsRow _ _ _ _ _ _ _; rw [hG.out, List.length_append, nv_app]; exact HO1.out, (hbel.out.alloc hwr _).grown HG1.out (by simp; omega) (own_from hown.out)⟩
            case measure => simp [intOf]; omega
          · have hG := Lib.hid (goneTo_no (hmem.out.1 rfl))
            go_wp2_with fail
            go_roundw
            case rel => exact ⟨j + 1, by omega, by go_num, by show World.ownsRow _ _ _ _ _ _ _; rw [hG.out]; exact hown.out, hbel⟩
            case measure => simp [intOf]; omega
    · obtain rfl : j = n := by omega
      go_wp2
      go_ret
      exact ⟨_, rfl, own_mono hown.out HB6.out.size, HB6.out.trans (hbel.out.mono HB6.out.size)⟩
set_option maxHeartbeats 1000000 in
theorem rfront_any (A B : Option Addr) (n c m d F : Nat) (old new : List Kd) (w : World) (hn : n = old.length) (hm : m = new.length) (h1 : n ≤ 1000) (h2 : m ≤ 1000) (hnc : n ≤ c) (hcm : c ≤ maxLen) (hmd : m ≤ d) (hdm : d ≤ maxLen) (hA : A = none → n = 0 ∧ c = 0) (hB : B = none → m = 0 ∧ d = 0) (ha : At w A (kc old)) (hb : At w B (kc new)) (hF : IsFront (pairs old new) F) :
    Calls Try.prog 19 #[.slice A n c, .slice B m d] w fun e w' => e = .returned (.int .i64 F) ∧ Below w.heap.size w w' := by
  have HM := Lib.hid hm
  have HF := Lib.hid hF
  have C1 := Lib.hid (rpair_any A B n c m d old new w hn hm h1 h2 hnc hcm hmd hdm hA hB ha hb)
  clear hn hm ha hb hnc hcm hmd hdm hA hB hF
  go_enter Try.func19, Try.ntmps19
  go_wp2_with fail
  refine C1.out.mono ?_
  rintro e w6 ⟨v, rfl, hown, hb6⟩
  obtain ⟨A6, c6, rfl, hc6, hm6⟩ := own_slice hown
  have HT6 := Lib.hid (At.own hown)
  have HB6 := Lib.hid hb6
  clear hown hb6 C1
  go_wp2_with fail
  go_loop [6] (fun i => ∃ k : Nat, k ≤ m ∧ i = .int .i64 k ∧ Hid (∀ i, i < k → (pairs old new).getD i 0 = (i : Int))) (fun i => m - (intOf i).toNat)
  case atStart => exact ⟨0, Nat.zero_le _, rfl, Lib.hid fun i h => absurd h (Nat.not_lt_zero _)⟩
  case round =>
    obtain ⟨k, hk, rfl, hx⟩ := hrel
    by_cases hlt : k < m
    · obtain ⟨b1, o1, rfl, hb1, hc1⟩ := HT6.out.one (iv_at (pairs old new) k (by rw [pairs_len]; have := HM.out; omega))
      obtain ⟨y, hy⟩ : ∃ y, y = ats (pairs old new) k := ⟨_, rfl⟩
      rw [← hy] at hc1
      have HY := Lib.hid hy
      clear hy
      by_cases hyk : y = (k : Int)
      · have HE := Lib.hid hyk
        have h2 : (y == (k : Int)) = true := beq_iff_eq.2 hyk
        clear hyk
        go_wp2
        go_round
        case rel => exact ⟨k + 1, by omega, by go_num, Lib.hid (fun i hi => by
          by_cases e : i = k
          · subst e; exact HY.out.symm.trans HE.out
          · exact hx.out i (by omega))⟩
        case measure => simp [intOf]; omega
      · have HE := Lib.hid hyk
        have h2 : (y == (k : Int)) = false := beq_eq_false_iff_ne.2 hyk
        clear hyk
        go_wp2
        go_ret
        have hk2 : k = F := IsFront.uniq ⟨by rw [pairs_len]; have := HM.out; omega, hx.out, fun _ e => HE.out (HY.out.trans e)⟩ HF.out
        exact ⟨by rw [hk2]; rfl, HB6.out⟩
    · obtain rfl : k = m := by omega
      go_wp2
      go_ret
      have hk2 : k = F := IsFront.uniq ⟨by rw [pairs_len]; have := HM.out; omega, hx.out, fun h => by rw [pairs_len] at h; have := HM.out; omega⟩ HF.out
      exact ⟨by rw [hk2]; rfl, HB6.out⟩
set_option maxHeartbeats 2000000 in
theorem rback_any (A B : Option Addr) (n c m d F R : Nat) (old new : List Kd) (w : World) (hn : n = old.length) (hm : m = new.length) (h1 : n ≤ 1000) (h2 : m ≤ 1000) (hnc : n ≤ c) (hcm : c ≤ maxLen) (hmd : m ≤ d) (hdm : d ≤ maxLen) (hA : A = none → n = 0 ∧ c = 0) (hB : B = none → m = 0 ∧ d = 0) (ha : At w A (kc old)) (hb : At w B (kc new)) (hF : IsFront (pairs old new) F) (hR : IsBack (pairs old new) n m (min n m - F) R) :
    Calls Try.prog 21 #[.slice A n c, .slice B m d] w fun e w' => e = .returned (.int .i64 R) ∧ Below w.heap.size w w' := by
  have HM := Lib.hid hm
  have HR := Lib.hid hR
  have C1 := Lib.hid (rpair_any A B n c m d old new w hn hm h1 h2 hnc hcm hmd hdm hA hB ha hb)
  have C2 := Lib.hid (fun W (hW : Below w.heap.size w W) => rfront_any A B n c m d F old new W hn hm h1 h2 hnc hcm hmd hdm hA hB (ha.below hW) (hb.below hW) hF)
  obtain ⟨hf1, hf2⟩ := hF.le_old
  rw [← hn] at hf1
  rw [← hm] at hf2
  clear hn hm ha hb hnc hcm hmd hdm hA hB hF hR
  go_enter Try.func21, Try.ntmps21
  go_wp2_with fail
  refine C1.out.mono ?_
  rintro e w6 ⟨v, rfl, hown, hb6⟩
  obtain ⟨A6, c6, rfl, hc6, hm6⟩ := own_slice hown
  have HT6 := Lib.hid (At.own hown)
  have HB6 := Lib.hid hb6
  clear hown hb6 C1
  go_wp2_with fail
  refine (C2.out _ HB6.out).mono ?_
  rintro e w7 ⟨rfl, hb7⟩
  have HT7 := Lib.hid (HT6.out.below hb7)
  have HB7 := Lib.hid (HB6.out.trans (hb7.mono HB6.out.size))
  clear hb7 HT6 HB6 C2
  obtain ⟨l, hl⟩ : ∃ l, l = min n m - F := ⟨_, rfl⟩
  rw [← hl] at HR
  have hl1 : F + l ≤ m := by omega
  have hl2 : F + l ≤ n := by omega
  have hl3 : F + l = n ∨ F + l = m := by omega
  clear hl
  go_wp2_with fail
  go_loop [7] (fun i => ∃ k : Nat, k ≤ l ∧ i = .int .i64 k ∧ Hid (∀ i, i < k → (pairs old new).getD (m - 1 - i) 0 = (n : Int) - 1 - i)) (fun i => l - (intOf i).toNat)
  case atStart => exact ⟨0, Nat.zero_le _, rfl, Lib.hid fun i h => absurd h (Nat.not_lt_zero _)⟩
  case round =>
    obtain ⟨k, hk, rfl, hx⟩ := hrel
    by_cases hlt : k < l
    · have t1 : (F : Int) + (k : Int) < (n : Int) := by omega
      have t2 : (F : Int) + (k : Int) < (m : Int) := by omega
      obtain ⟨q, hq⟩ : ∃ q, q = m - 1 - k := ⟨_, rfl⟩
      have hqi : (m : Int) - (k : Int) - 1 = (q : Int) := by omega
      have hqm : q < m := by omega
      obtain ⟨b1, o1, rfl, hb1, hc1⟩ := HT7.out.one (iv_at (pairs old new) q (by rw [pairs_len, ← HM.out]; exact hqm))
      obtain ⟨y, hy⟩ : ∃ y, y = ats (pairs old new) q := ⟨_, rfl⟩
      rw [← hy] at hc1
      have HY := Lib.hid hy
      have HQ := Lib.hid hq
      clear hy hq
      by_cases hyk : y = (n : Int) - (k : Int) - 1
      · have HE := Lib.hid hyk
        have h2 : (y == (n : Int) - (k : Int) - 1) = true := beq_iff_eq.2 hyk
        clear hyk
        go_wp2
        go_round
        case rel => exact ⟨k + 1, by omega, by go_num, Lib.hid (fun i hi => by
          by_cases e : i = k
          · subst e; rw [← HQ.out]; have h8 := HY.out.symm.trans HE.out; show ats _ _ = _; omega
          · exact hx.out i (by omega))⟩
        case measure => simp [intOf]; omega
      · have HE := Lib.hid hyk
        have h2 : (y == (n : Int) - (k : Int) - 1) = false := beq_eq_false_iff_ne.2 hyk
        clear hyk
        go_wp2
        go_ret
        have hk2 : k = R := IsBack.uniq ⟨by omega, hx.out, fun _ e => HE.out (HY.out.trans (by rw [HQ.out]; have h8 : ats (pairs old new) (m - 1 - k) = (n : Int) - 1 - k := e; omega))⟩ HR.out
        exact ⟨by rw [hk2]; rfl, HB7.out⟩
    · obtain rfl : k = l := by omega
      have hk2 : Hid (k = R) := IsBack.uniq ⟨Nat.le_refl _, hx.out, fun h => by omega⟩ HR.out
      rcases hl3 with h3 | h3
      · have t1 : ¬ (F : Int) + (k : Int) < (n : Int) := by omega
        clear h3
        go_wp2
        go_ret
        exact ⟨by rw [hk2.out]; rfl, HB7.out⟩
      · have t1 : ¬ (F : Int) + (k : Int) < (m : Int) := by omega
        by_cases t2 : (F : Int) + (k : Int) < (n : Int)
        · clear h3
          go_wp2
          go_ret
          exact ⟨by rw [hk2.out]; rfl, HB7.out⟩
        · clear h3
          go_wp2
          go_ret
          exact ⟨by rw [hk2.out]; rfl, HB7.out⟩
end Go.Proofs.Ytaojjcnghkjgfaa
