/- The walk of MatchAll. -/
import Derived.Test.YtaojjcnghkjgfaaMaW9
namespace Go.Proofs.Ytaojjcnghkjgfaa
open Go.RowKit Ma
def Dup (l : List Kd) (i j : Nat) : Prop := (g l i).2 ≠ ByteArray.empty ∧ (g l i).2 = (g l j).2
def NoDup (l : List Kd) (n : Nat) : Prop := ∀ i, i < n → ∀ j, j < i → ¬ Dup l i j
theorem paired_once {X Y : List Kd} (hX : NoDup X X.length) (hY : NoDup Y Y.length) {i j : Nat} (hi : i < Y.length) (hj : j < X.length) (hk : (g Y i).2 ≠ ByteArray.empty) (h : g X j = g Y i) : pairF X Y i = (j : Int) := by
  have key : ∀ (l : List Kd) (k : Nat), NoDup l l.length → k < l.length → (g l k).2 ≠ ByteArray.empty → ∀ k', k' < k → canon (g l k') ≠ canon (g l k) := by
    intro l k hl hk2 he k' hk' e
    rw [canon_key he] at e
    have := canon_eq_key he e
    exact hl k hk2 k' hk' ⟨he, by rw [this]⟩
  exact pair_once hi hj h (key X j hX hj (by rw [h]; exact hk)) (key Y i hY hi hk)
set_option maxHeartbeats 8000000 in
set_option maxRecDepth 100000 in
theorem matchAll_any (A B : Option Addr) (n c m d : Nat) (L L2 : List Kd) (w : World) (hn : n = L.length) (hm : m = L2.length) (hb : n ≤ maxLen) (hb2 : m ≤ maxLen) (ha : At w A (kc L)) (ha2 : At w B (kc L2)) (ho : ∀ k ∈ L, OkK k) (hw : ∀ k ∈ L2, OkK k) :
    Calls Try.prog 6 #[.slice A n c, .slice B m d] w fun e w' => e = .returned (.bool true) ∧ Below w.heap.size w w' := by
  have C1 := Lib.hid (fun W (hW : Below w.heap.size w W) => both_any A n c 20 L W hn hb (by omega) (ha.below hW))
  have C2 := Lib.hid (fun W (hW : Below w.heap.size w W) => both_any B m d 20 L2 W hm hb2 (by omega) (ha2.below hW))
  have OX := Lib.hid (bothK_ok L 20 ho)
  have OY := Lib.hid (bothK_ok L2 20 hw)
  have LX : Hid (min 20 n = (bothK L 20).length) := by show _ = _; rw [bothK_len, hn]
  have LY : Hid (min 20 m = (bothK L2 20).length) := by show _ = _; rw [bothK_len, hm]
  have hx1 : min 20 n ≤ 100 := by omega
  have hy1 : min 20 m ≤ 100 := by omega
  generalize bothK L 20 = X at *
  generalize bothK L2 20 = Y at *
  generalize min 20 n = N at *
  generalize min 20 m = M at *
  clear hn hm hb hb2 ha ha2 ho hw
  go_enter Try.func6, Try.ntmps6
  go_wp2_with fail
  refine (awake11_any _).mono ?_
  rintro e w1 ⟨rfl, hb1⟩
  have HB1 := Lib.hid hb1
  clear hb1
  go_wp2_with fail
  refine (C1.out _ HB1.out).mono ?_
  rintro e w2 ⟨v5, v6, rfl, ho5, ho6, hb2⟩
  obtain ⟨A5, c5, rfl, hc5, hm5⟩ := own_slice ho5
  obtain ⟨A6, c6, rfl, hc6, hm6⟩ := own_slice ho6
  have T5 := Lib.hid (At.own ho5)
  have T6 := Lib.hid (At.own ho6)
  have N6 := Lib.hid (own_addr ho6)
  have HB2 := Lib.hid (HB1.out.trans (hb2.mono HB1.out.size))
  clear ho5 ho6 hb2
  go_wp2_with fail
  refine (C2.out _ HB2.out).mono ?_
  rintro e w3 ⟨v7, v8, rfl, ho7, ho8, hb3⟩
  obtain ⟨A7, c7, rfl, hc7, hm7⟩ := own_slice ho7
  obtain ⟨A8, c8, rfl, hc8, hm8⟩ := own_slice ho8
  have U5 := Lib.hid (T5.out.below hb3)
  have U6 := Lib.hid (T6.out.below hb3)
  have U7 := Lib.hid (At.own ho7)
  have U8 := Lib.hid (At.own ho8)
  have N8 := Lib.hid (own_addr ho8)
  have HB3 := Lib.hid (HB2.out.trans (hb3.mono HB2.out.size))
  clear ho7 ho8 hb3 T5 T6 C1 C2
  have D1 := Lib.hid (fun W (hW : Below w3.heap.size w3 W) => pair_any A5 A7 N c5 M c7 X Y W LX.out LY.out (by omega) (by omega) (U5.out.below hW) (U7.out.below hW) OX.out OY.out)
  have W6 := Lib.hid (U6.out.alloc (.cells #[.slice A6 N c6, .slice A8 M c8] 22))
  have W8 := Lib.hid (U8.out.alloc (.cells #[.slice A6 N c6, .slice A8 M c8] 22))
  have WB := Lib.hid (below_alloc w3 (.cells #[.slice A6 N c6, .slice A8 M c8] 22))
  have WC := heap_alloc_new w3 (.cells #[.slice A6 N c6, .slice A8 M c8] 22)
  go_wp2_with fail
  generalize w3.alloc (.cells #[.slice A6 N c6, .slice A8 M c8] 22) = W at *
  have hbox0 : W.cell? ⟨w3.heap.size, 0, none⟩ = some (.slice A6 N c6) := by rw [cell_of_row W _ 0 _ _ (0, 0) WC]; rfl
  have hbox1 : W.cell? ⟨w3.heap.size, 1, none⟩ = some (.slice A8 M c8) := by rw [cell_of_row W _ 1 _ _ (0, 0) WC]; rfl
  have HBW := Lib.hid (HB3.out.trans (WB.out.mono HB3.out.size))
  clear WC
  go_loopw [34] (fun i wr => ∃ (t q : Nat), t ≤ 2 ∧ i = .int .i64 t ∧ wr = W.drewN q ∧ Hid ((0 < t → NoDup X N) ∧ (1 < t → NoDup Y M))) (fun i _ => 2 - (intOf i).toNat)
  case atStart => exact ⟨0, 0, by omega, rfl, rfl, ⟨fun h => absurd h (by omega), fun h => absurd h (by omega)⟩⟩
  case round =>
    obtain ⟨t, q, ht, rfl, rfl, hnds⟩ := hrel
    have hbox0' : (W.drewN q).cell? ⟨w3.heap.size, 0, none⟩ = some (.slice A6 N c6) := hbox0
    have hbox1' : (W.drewN q).cell? ⟨w3.heap.size, 1, none⟩ = some (.slice A8 M c8) := hbox1
    rcases (by omega : t = 0 ∨ t = 1 ∨ t = 2) with rfl | rfl | rfl
    · clear hbox1
      rw [show ((0 : Nat) : Int) = 0 from rfl]
      go_wp2_with fail
      go_loopw [40] (fun i wr => ∃ (i0 q : Nat), i0 ≤ N ∧ i = .int .i64 i0 ∧ wr = W.drewN q ∧ Hid (NoDup X i0)) (fun i _ => N - (intOf i).toNat)
      case atStart => exact ⟨0, q, Nat.zero_le _, rfl, rfl, fun i h => absurd h (Nat.not_lt_zero _)⟩
      case round =>
        obtain ⟨i0, q, hi0, rfl, rfl, hnd⟩ := hrel
        by_cases hin : i0 < N
        · have hiX : i0 < X.length := by have := LX.out; omega
          go_wp2_with fail
          go_loopw [44] (fun j wr => ∃ (j0 q2 : Nat), j0 ≤ i0 ∧ j = .int .i64 j0 ∧ wr = W.drewN q2 ∧ Hid (∀ j', j' < j0 → ¬ Dup X i0 j')) (fun j _ => i0 - (intOf j).toNat)
          case atStart => exact ⟨0, q, Nat.zero_le _, rfl, rfl, fun i h => absurd h (Nat.not_lt_zero _)⟩
          case round =>
            obtain ⟨j0, q2, hj0, rfl, rfl, hin2⟩ := hrel
            by_cases hjn : j0 < i0
            · obtain ⟨b2, o2, rfl, hb2, hc3, hc4⟩ := at_kid W6.out hiX
              obtain ⟨b3, o3, e3, hb3, hc5, hc6⟩ := at_kid W6.out (show j0 < X.length by omega)
              injection e3 with e3
              injection e3 with e31 e32
              subst e31 e32
              have hc4' : W.cell? ⟨b2, o2 + i0 * 2 + 1, none⟩ = some (.string (g X i0).2) := hc4
              have hc6' : W.cell? ⟨b2, o2 + j0 * 2 + 1, none⟩ = some (.string (g X j0).2) := hc6
              obtain ⟨s, hs⟩ : ∃ s, s = (g X i0).2 := ⟨_, rfl⟩
              obtain ⟨t, ht⟩ : ∃ t, t = (g X j0).2 := ⟨_, rfl⟩
              rw [← hs] at hc4'
              rw [← ht] at hc6'
              have HS := Lib.hid hs
              have HT := Lib.hid ht
              have hi1 : (0 : Int) ≤ (i0 : Int) := by omega
              have hi2 : (i0 : Int) < (N : Int) := by omega
              have hi3 : (0 : Int) ≤ (j0 : Int) := by omega
              have hi4 : (j0 : Int) < (N : Int) := by omega
              clear hs ht hc3 hc4 hc5 hc6
              by_cases hE : s = ByteArray.empty
              · have f1 : s.toList.isEmpty = true := by rw [hE, emp_toList]; rfl
                have HE := Lib.hid hE
                clear hE
                go_wp2_with fail
                go_big_quiet (fail)
                go_wp2_with fail
                go_roundw
                case rel => exact ⟨j0 + 1, _, by omega, by go_num, rfl, Lib.hid (fun j' h' => by
                  by_cases ej : j' = j0
                  · subst ej; exact fun hd => hd.1 (HS.out.symm.trans HE.out)
                  · exact hin2.out j' (by omega))⟩
                case measure => simp [intOf]; omega
              · have f1 : s.toList.isEmpty = false := str_ne hE
                have HE := Lib.hid hE
                clear hE
                by_cases hST : s = t
                · have f2 := Go.Proofs.Ytaojjcnghkjgfaa.M.str_yes hST
                  clear hST
                  go_wp2_with fail
                  go_big_quiet (fail)
                  go_wp2_with fail
                  go_ret
                  exact ⟨rfl, HBW.out.trans (drewN_below (drewN_below (Below.refl _ _) _) _)⟩
                · have f2 := Go.Proofs.Ytaojjcnghkjgfaa.M.str_no hST
                  have HST := Lib.hid hST
                  clear hST
                  go_wp2_with fail
                  go_big_quiet (fail)
                  go_wp2_with fail
                  go_roundw
                  case rel => exact ⟨j0 + 1, _, by omega, by go_num, rfl, Lib.hid (fun j' h' => by
                    by_cases ej : j' = j0
                    · subst ej; exact fun hd => HST.out (HS.out.trans (hd.2.trans HT.out.symm))
                    · exact hin2.out j' (by omega))⟩
                  case measure => simp [intOf]; omega
            · obtain rfl : j0 = i0 := by omega
              go_wp2_with fail
              go_roundw
              case rel => exact ⟨j0 + 1, q2, by omega, by go_num, rfl, Lib.hid (fun i' h' j' h'' => by
                by_cases ei : i' = j0
                · subst ei; exact hin2.out j' h''
                · exact hnd.out i' (by omega) j' h'')⟩
              case measure => simp [intOf]; omega
        · obtain rfl : i0 = N := by omega
          go_wp2_with fail
          go_roundw
          case rel => exact ⟨1, q, by omega, rfl, rfl, ⟨fun _ => hnd.out, fun h => absurd h (by omega)⟩⟩
          case measure => simp [intOf]
    · clear hbox0
      rw [show ((1 : Nat) : Int) = 1 from rfl]
      go_wp2_with fail
      go_loopw [40] (fun i wr => ∃ (i0 q : Nat), i0 ≤ M ∧ i = .int .i64 i0 ∧ wr = W.drewN q ∧ Hid (NoDup Y i0)) (fun i _ => M - (intOf i).toNat)
      case atStart => exact ⟨0, q, Nat.zero_le _, rfl, rfl, fun i h => absurd h (Nat.not_lt_zero _)⟩
      case round =>
        obtain ⟨i0, q, hi0, rfl, rfl, hnd⟩ := hrel
        by_cases hin : i0 < M
        · have hiX : i0 < Y.length := by have := LY.out; omega
          go_wp2_with fail
          go_loopw [44] (fun j wr => ∃ (j0 q2 : Nat), j0 ≤ i0 ∧ j = .int .i64 j0 ∧ wr = W.drewN q2 ∧ Hid (∀ j', j' < j0 → ¬ Dup Y i0 j')) (fun j _ => i0 - (intOf j).toNat)
          case atStart => exact ⟨0, q, Nat.zero_le _, rfl, rfl, fun i h => absurd h (Nat.not_lt_zero _)⟩
          case round =>
            obtain ⟨j0, q2, hj0, rfl, rfl, hin2⟩ := hrel
            by_cases hjn : j0 < i0
            · obtain ⟨b2, o2, rfl, hb2, hc3, hc4⟩ := at_kid W8.out hiX
              obtain ⟨b3, o3, e3, hb3, hc5, hc6⟩ := at_kid W8.out (show j0 < Y.length by omega)
              injection e3 with e3
              injection e3 with e31 e32
              subst e31 e32
              have hc4' : W.cell? ⟨b2, o2 + i0 * 2 + 1, none⟩ = some (.string (g Y i0).2) := hc4
              have hc6' : W.cell? ⟨b2, o2 + j0 * 2 + 1, none⟩ = some (.string (g Y j0).2) := hc6
              obtain ⟨s, hs⟩ : ∃ s, s = (g Y i0).2 := ⟨_, rfl⟩
              obtain ⟨t, ht⟩ : ∃ t, t = (g Y j0).2 := ⟨_, rfl⟩
              rw [← hs] at hc4'
              rw [← ht] at hc6'
              have HS := Lib.hid hs
              have HT := Lib.hid ht
              have hi1 : (0 : Int) ≤ (i0 : Int) := by omega
              have hi2 : (i0 : Int) < (M : Int) := by omega
              have hi3 : (0 : Int) ≤ (j0 : Int) := by omega
              have hi4 : (j0 : Int) < (M : Int) := by omega
              clear hs ht hc3 hc4 hc5 hc6
              by_cases hE : s = ByteArray.empty
              · have f1 : s.toList.isEmpty = true := by rw [hE, emp_toList]; rfl
                have HE := Lib.hid hE
                clear hE
                go_wp2_with fail
                go_big_quiet (fail)
                go_wp2_with fail
                go_roundw
                case rel => exact ⟨j0 + 1, _, by omega, by go_num, rfl, Lib.hid (fun j' h' => by
                  by_cases ej : j' = j0
                  · subst ej; exact fun hd => hd.1 (HS.out.symm.trans HE.out)
                  · exact hin2.out j' (by omega))⟩
                case measure => simp [intOf]; omega
              · have f1 : s.toList.isEmpty = false := str_ne hE
                have HE := Lib.hid hE
                clear hE
                by_cases hST : s = t
                · have f2 := Go.Proofs.Ytaojjcnghkjgfaa.M.str_yes hST
                  clear hST
                  go_wp2_with fail
                  go_big_quiet (fail)
                  go_wp2_with fail
                  go_ret
                  exact ⟨rfl, HBW.out.trans (drewN_below (drewN_below (Below.refl _ _) _) _)⟩
                · have f2 := Go.Proofs.Ytaojjcnghkjgfaa.M.str_no hST
                  have HST := Lib.hid hST
                  clear hST
                  go_wp2_with fail
                  go_big_quiet (fail)
                  go_wp2_with fail
                  go_roundw
                  case rel => exact ⟨j0 + 1, _, by omega, by go_num, rfl, Lib.hid (fun j' h' => by
                    by_cases ej : j' = j0
                    · subst ej; exact fun hd => HST.out (HS.out.trans (hd.2.trans HT.out.symm))
                    · exact hin2.out j' (by omega))⟩
                  case measure => simp [intOf]; omega
            · obtain rfl : j0 = i0 := by omega
              go_wp2_with fail
              go_roundw
              case rel => exact ⟨j0 + 1, q2, by omega, by go_num, rfl, Lib.hid (fun i' h' j' h'' => by
                by_cases ei : i' = j0
                · subst ei; exact hin2.out j' h''
                · exact hnd.out i' (by omega) j' h'')⟩
              case measure => simp [intOf]; omega
        · obtain rfl : i0 = M := by omega
          go_wp2_with fail
          go_roundw
          case rel => exact ⟨2, q, by omega, rfl, rfl, ⟨fun _ => hnds.out.1 (by omega), fun _ => hnd.out⟩⟩
          case measure => simp [intOf]
    · have NX : Hid (NoDup X X.length) := by have h9 := hnds.out.1 (by omega); rw [LX.out] at h9; exact h9
      have NY : Hid (NoDup Y Y.length) := by have h9 := hnds.out.2 (by omega); rw [LY.out] at h9; exact h9
      have HQ := Lib.hid (drewN_below WB.out q)
      have Q6 := Lib.hid (W6.out.drewN q)
      have Q8 := Lib.hid (W8.out.drewN q)
      clear hnds hbox0 hbox1 hbox0' hbox1'
      rw [show ((2 : Nat) : Int) = 2 from rfl]
      go_wp2_with fail
      refine (D1.out _ HQ.out).mono ?_
      rintro e w4 ⟨v, rfl, hown, hb4⟩
      obtain ⟨B4, e4, rfl, _, _⟩ := own_slice hown
      have P4 := Lib.hid (At.own hown)
      have HB4 := Lib.hid (HQ.out.trans (hb4.mono HQ.out.size))
      have R6 := Lib.hid (Q6.out.below hb4)
      have R8 := Lib.hid (Q8.out.below hb4)
      clear hown hb4 Q6 Q8 HQ W6 W8 WB HBW
      go_wp2_with fail
      go_loopw [79] (fun i wr => ∃ k : Nat, k ≤ M ∧ i = .int .i64 k ∧ Hid (Below w4.heap.size w4 wr)) (fun i _ => M - (intOf i).toNat)
      case atStart => exact ⟨0, Nat.zero_le _, rfl, Below.refl _ _⟩
      case round =>
        obtain ⟨k, hk, rfl, hbel⟩ := hrel
        by_cases hlt : k < M
        · have hkn : k < Y.length := by have := LY.out; omega
          obtain ⟨b1, o1, rfl, hb1, hc1, hc2⟩ := at_kid (R8.out.below hbel.out) hkn
          obtain ⟨x, hx⟩ : ∃ x, x = g Y k := ⟨_, rfl⟩
          rw [← hx] at hc1 hc2
          have HX := Lib.hid hx
          clear hx
          obtain ⟨z, s⟩ := x
          have hszr := hbel.out.size
          have WB := Lib.hid (hbel.out.alloc hszr (.cells #[.int .i64 z, .string s] 36))
          have WC : (wr.alloc (.cells #[.int .i64 z, .string s] 36)).heap[wr.heap.size]? = some (.cells #[.int .i64 z, .string s] 36 (0, 0)) := heap_alloc_new _ _
          have WS : wr.heap.size < (wr.alloc (.cells #[.int .i64 z, .string s] 36)).heap.size := by simp
          clear hbel hszr
          go_wp2_with fail
          clear hc1 hc2
          generalize wr.alloc (.cells #[.int .i64 z, .string s] 36) = V at *
          generalize wr.heap.size = gb at *
          have HWC := Lib.hid WC
          clear WC
          go_loopw [86] (fun j wr => ∃ p : Nat, p ≤ N ∧ j = .int .i64 p ∧ Hid (Below V.heap.size V wr)) (fun j _ => N - (intOf j).toNat)
          case atStart => exact ⟨0, Nat.zero_le _, rfl, Below.refl _ _⟩
          case round =>
            obtain ⟨p, hp, rfl, hbw⟩ := hrel
            have HBW := Lib.hid (WB.out.trans (hbw.out.mono WB.out.size))
            have hwr := hbw.out.size
            by_cases hpN : p < N
            · have hpX : p < X.length := by have := LX.out; omega
              obtain ⟨b2, o2, rfl, hb2, hc3, hc4⟩ := at_kid (R6.out.below HBW.out) hpX
              obtain ⟨y, hy⟩ : ∃ y, y = g X p := ⟨_, rfl⟩
              rw [← hy] at hc3 hc4
              have HY := Lib.hid hy
              clear hy
              obtain ⟨u, t⟩ := y
              have hd5 : wr.cell? ⟨gb, 0, none⟩ = some (.int .i64 z) := (hbw.out.cell (p := ⟨gb, 0, none⟩) WS).trans (by rw [cell_of_row V gb 0 _ _ (0, 0) HWC.out]; rfl)
              have hd6 : wr.cell? ⟨gb, 1, none⟩ = some (.string s) := (hbw.out.cell (p := ⟨gb, 1, none⟩) WS).trans (by rw [cell_of_row V gb 1 _ _ (0, 0) HWC.out]; rfl)
              have hgw : gb < wr.heap.size := Nat.lt_of_lt_of_le WS hwr
              have hga0 : (wr.alloc (.cells #[.int .i64 u, .string t] 36)).cell? ⟨gb, 0, none⟩ = some (.int .i64 z) := Lib.cell?_alloc_some _ hd5
              have hga1 : (wr.alloc (.cells #[.int .i64 u, .string t] 36)).cell? ⟨gb, 1, none⟩ = some (.string s) := Lib.cell?_alloc_some _ hd6
              have hREL : Hid (Below V.heap.size V (wr.alloc (.cells #[.int .i64 u, .string t] 36))) := hbw.out.alloc hwr _
              by_cases hE : s = ByteArray.empty
              · have f1 : s.toList.isEmpty = true := by rw [hE, emp_toList]; rfl
                clear hE
                go_wp2_with fail
                go_roundw
                case rel => exact ⟨p + 1, by omega, by go_num, hREL⟩
                case measure => simp [intOf]; omega
              · have f1 : s.toList.isEmpty = false := str_ne hE
                have HE := Lib.hid hE
                clear hE
                by_cases e1 : u = z
                · by_cases e2 : t = s
                  · subst e1 e2
                    have hpp := paired_once NX.out NY.out hkn hpX (by rw [← HX.out]; exact HE.out) (HY.out.symm.trans HX.out)
                    obtain ⟨b4, o4, rfl, hb4, hc5⟩ := (P4.out.below HBW.out).one (iv_at (pairs X Y) k (by rw [pairs_len]; exact hkn))
                    rw [ats_pairs _ _ _ hkn, hpp] at hc5
                    have hc6 : (wr.alloc (.cells #[.int .i64 u, .string t] 36)).cell? ⟨b4, o4 + k, none⟩ = some (.int .i64 p) := Lib.cell?_alloc_some _ hc5
                    have f4 : ((p : Int) == (p : Int)) = true := beq_iff_eq.2 rfl
                    clear hpp
                    go_wp2_with fail
                    go_roundw
                    case rel => exact ⟨p + 1, by omega, by go_num, hREL⟩
                    case measure => simp [intOf]; omega
                  · have f2 := Go.Proofs.Ytaojjcnghkjgfaa.M.str_no e2
                    have f3 : (u == z) = true := beq_iff_eq.2 e1
                    clear e1 e2
                    go_wp2_with fail
                    go_roundw
                    case rel => exact ⟨p + 1, by omega, by go_num, hREL⟩
                    case measure => simp [intOf]; omega
                · have f3 : (u == z) = false := beq_eq_false_iff_ne.2 e1
                  clear e1
                  go_wp2_with fail
                  go_roundw
                  case rel => exact ⟨p + 1, by omega, by go_num, hREL⟩
                  case measure => simp [intOf]; omega
            · obtain rfl : p = N := by omega
              go_wp2_with fail
              go_roundw
              case rel => exact ⟨k + 1, by omega, by go_num, HBW⟩
              case measure => simp [intOf]; omega
        · obtain rfl : k = M := by omega
          go_wp2_with fail
          go_ret
          exact ⟨rfl, HB3.out.trans ((HB4.out.trans (hbel.out.mono HB4.out.size)).mono HB3.out.size)⟩
end Go.Proofs.Ytaojjcnghkjgfaa
