/- The fixed fact of layer 11; the walks of MatchPairs and MatchEnds. -/
import Derived.Test.YtaojjcnghkjgfaaMaW7
namespace Go.Proofs.Ytaojjcnghkjgfaa
open Go.RowKit Ma
theorem drewN_below {B : Nat} {a w : World} (h : Below B a w) (q : Nat) : Below B a (w.drewN q) := ⟨h.os, h.tape, h.output, h.size, h.block⟩
def aOld : List Kd := [(2, ⟨#[97]⟩), (1, ⟨#[]⟩), (2, ⟨#[98]⟩)]
def aNew : List Kd := [(1, ⟨#[]⟩), (2, ⟨#[98]⟩), (2, ⟨#[99]⟩)]
theorem aPairs : pairs aOld aNew = [1, 2, -1] := by
  have h0 : pairF aOld aNew 0 = 1 := pairF_eq (.inr ⟨1, by decide, rfl, by decide +kernel⟩)
  have h1 : pairF aOld aNew 1 = 2 := pairF_eq (.inr ⟨2, by decide, rfl, by decide +kernel⟩)
  have h2 : pairF aOld aNew 2 = -1 := pairF_eq (.inl ⟨rfl, by
    intro j hj
    have : j = 0 ∨ j = 1 ∨ j = 2 := by have : aOld.length = 3 := rfl; omega
    rcases this with rfl | rfl | rfl <;> decide +kernel⟩)
  show (List.range 3).map _ = _
  simp [List.range_succ, h0, h1, h2]
theorem ok_old : ∀ k ∈ aOld, OkK k := by
  intro k hk
  simp [aOld] at hk
  rcases hk with rfl | rfl | rfl <;> exact ⟨by decide, by decide⟩
theorem ok_new : ∀ k ∈ aNew, OkK k := by
  intro k hk
  simp [aNew] at hk
  rcases hk with rfl | rfl | rfl <;> exact ⟨by decide, by decide⟩
set_option maxHeartbeats 1000000 in
theorem awake11_any (w : World) : Calls Try.prog 11 #[] w fun e w' => e = .returned (.bool true) ∧ Below w.heap.size w w' := by
  have HA0 := at_new w #[.int .i64 2, .string ⟨#[97]⟩, .int .i64 1, .string ⟨#[]⟩, .int .i64 2, .string ⟨#[98]⟩] 54 w.heap.size rfl (kc aOld) rfl
  have HA1 := Lib.hid (HA0.alloc (.cells #[.int .i64 1, .string ⟨#[]⟩, .int .i64 2, .string ⟨#[98]⟩, .int .i64 2, .string ⟨#[99]⟩] 54))
  have HA2 := Lib.hid (at_new (w.alloc (.cells #[.int .i64 2, .string ⟨#[97]⟩, .int .i64 1, .string ⟨#[]⟩, .int .i64 2, .string ⟨#[98]⟩] 54)) #[.int .i64 1, .string ⟨#[]⟩, .int .i64 2, .string ⟨#[98]⟩, .int .i64 2, .string ⟨#[99]⟩] 54 (w.heap.size + 1) (by simp) (kc aNew) rfl)
  have HB := Lib.hid ((below_alloc w (.cells #[.int .i64 2, .string ⟨#[97]⟩, .int .i64 1, .string ⟨#[]⟩, .int .i64 2, .string ⟨#[98]⟩] 54)).alloc (by simp) (.cells #[.int .i64 1, .string ⟨#[]⟩, .int .i64 2, .string ⟨#[98]⟩, .int .i64 2, .string ⟨#[99]⟩] 54))
  have C1 := Lib.hid (pair_any (some ⟨w.heap.size, 0, none⟩) (some ⟨w.heap.size + 1, 0, none⟩) 3 3 3 3 aOld aNew _ rfl rfl (by omega) (by omega) HA1.out HA2.out ok_old ok_new)
  clear HA0
  go_enter Try.func11, Try.ntmps11
  go_wp2_with fail
  refine C1.out.mono ?_
  rintro e w6 ⟨v, rfl, hown, hb6⟩
  rw [aPairs] at hown
  obtain ⟨A6, c6, rfl, hc6, hm6⟩ := own_slice hown
  have HT6 := Lib.hid ((At.own hown).alloc (.cells #[.int .i64 1, .int .i64 2, .int .i64 (-1)] 3))
  have HB6 := Lib.hid (HB.out.trans (hb6.mono HB.out.size))
  have HT7 := Lib.hid (at_new w6 #[.int .i64 1, .int .i64 2, .int .i64 (-1)] 3 w6.heap.size rfl (iv [1, 2, -1]) rfl)
  clear hown hb6 C1
  go_wp2_with (refine (numbersI_any A6 _ 3 c6 3 3 [1, 2, -1] [1, 2, -1] _ rfl rfl (by omega) (by omega) HT6.out HT7.out).mono ?_; rintro e w7 ⟨rfl, q, rfl⟩)
  go_ret
  exact ⟨ret_bool' (by simp), drewN_below (HB6.out.alloc HB6.out.size _) _⟩
set_option maxHeartbeats 4000000 in
set_option maxRecDepth 100000 in
theorem matchPairs_any (A B : Option Addr) (n c m d : Nat) (L L2 : List Kd) (w : World) (hn : n = L.length) (hm : m = L2.length) (hb : n ≤ maxLen) (hb2 : m ≤ maxLen) (ha : At w A (kc L)) (ha2 : At w B (kc L2)) (ho : ∀ k ∈ L, OkK k) (hw : ∀ k ∈ L2, OkK k) :
    Calls Try.prog 3 #[.slice A n c, .slice B m d] w fun e w' => e = .returned (.bool true) ∧ Below w.heap.size w w' := by
  have C1 := Lib.hid (fun W (hW : Below w.heap.size w W) => both_any A n c 25 L W hn hb (by omega) (ha.below hW))
  have C2 := Lib.hid (fun W (hW : Below w.heap.size w W) => both_any B m d 25 L2 W hm hb2 (by omega) (ha2.below hW))
  have OX := Lib.hid (bothK_ok L 25 ho)
  have OY := Lib.hid (bothK_ok L2 25 hw)
  have LX : Hid (min 25 n = (bothK L 25).length) := by show _ = _; rw [bothK_len, hn]
  have LY : Hid (min 25 m = (bothK L2 25).length) := by show _ = _; rw [bothK_len, hm]
  have hx1 : min 25 n ≤ 100 := by omega
  have hy1 : min 25 m ≤ 100 := by omega
  generalize bothK L 25 = X at *
  generalize bothK L2 25 = Y at *
  generalize min 25 n = N at *
  generalize min 25 m = M at *
  clear hn hm hb hb2 ha ha2 ho hw
  go_enter Try.func3, Try.ntmps3
  go_wp2_with fail
  refine (awake11_any _).mono ?_
  rintro e w1 ⟨rfl, hb1⟩
  have HB1 := Lib.hid hb1
  clear hb1
  go_wp2_with fail
  refine (C1.out _ HB1.out).mono ?_
  rintro e w2 ⟨v5, v6, rfl, ho5, ho6, hb2⟩
  obtain ⟨A5, c5, rfl, hc5, hm5⟩ := own_slice ho5
  obtain ⟨A6, c6, rfl, hc6, hm6⟩ := own_slice ho6
  have T5 := Lib.hid (At.own ho5)
  have T6 := Lib.hid (At.own ho6)
  have N6 := Lib.hid (own_addr ho6)
  have HB2 := Lib.hid (HB1.out.trans (hb2.mono HB1.out.size))
  clear ho5 ho6 hb2
  go_wp2_with fail
  refine (C2.out _ HB2.out).mono ?_
  rintro e w3 ⟨v7, v8, rfl, ho7, ho8, hb3⟩
  obtain ⟨A7, c7, rfl, hc7, hm7⟩ := own_slice ho7
  obtain ⟨A8, c8, rfl, hc8, hm8⟩ := own_slice ho8
  have U5 := Lib.hid (T5.out.below hb3)
  have U6 := Lib.hid (T6.out.below hb3)
  have U7 := Lib.hid (At.own ho7)
  have U8 := Lib.hid (At.own ho8)
  have N8 := Lib.hid (own_addr ho8)
  have HB3 := Lib.hid (HB2.out.trans (hb3.mono HB2.out.size))
  clear ho7 ho8 hb3 T5 T6 C1 C2
  have D1 := Lib.hid (fun W (hW : Below w3.heap.size w3 W) => pair_any A5 A7 N c5 M c7 X Y W LX.out LY.out (by omega) (by omega) (U5.out.below hW) (U7.out.below hW) OX.out OY.out)
  have D2 := Lib.hid (fun W (hW : Below w3.heap.size w3 W) => rpair_any A6 A8 N c6 M c8 X Y W LX.out LY.out (by omega) (by omega) hc6 hm6 hc8 hm8 N6.out N8.out (U6.out.below hW) (U8.out.below hW))
  have D3 := Lib.hid (fun W (hW : Below w3.heap.size w3 W) => gone_any A5 A7 N c5 M c7 X Y W LX.out LY.out (by omega) (by omega) (U5.out.below hW) (U7.out.below hW) OX.out OY.out)
  have D4 := Lib.hid (fun W (hW : Below w3.heap.size w3 W) => rgone_any A6 A8 N c6 M c8 X Y W LX.out LY.out (by omega) (by omega) hc6 hm6 hc8 hm8 N6.out N8.out (U6.out.below hW) (U8.out.below hW))
  go_wp2_with fail
  refine (D1.out _ (Below.refl _ _)).mono ?_
  rintro e w4 ⟨v, rfl, hown, hb4⟩
  obtain ⟨B4, e4, rfl, _, _⟩ := own_slice hown
  have P4 := Lib.hid (At.own hown)
  have HB4 := Lib.hid hb4
  clear hown hb4
  go_wp2_with fail
  refine (D2.out _ HB4.out).mono ?_
  rintro e w5 ⟨v, rfl, hown, hb5⟩
  obtain ⟨B5, e5, rfl, _, _⟩ := own_slice hown
  have P5 := Lib.hid (At.own hown)
  have P45 := Lib.hid (P4.out.below hb5)
  have HB5 := Lib.hid (HB4.out.trans (hb5.mono HB4.out.size))
  clear hown hb5
  have hpl : Hid (M = (pairs X Y).length) := by show _ = _; rw [pairs_len]; exact LY.out
  go_wp2_with fail
  refine (numbersI_any B4 B5 M e4 M e5 (pairs X Y) (pairs X Y) _ hpl.out hpl.out (by omega) (by omega) P45.out P5.out).mono ?_
  rintro e w6 ⟨rfl, q, rfl⟩
  have HB6 := Lib.hid (drewN_below HB5.out q)
  have hd : decide (pairs X Y = pairs X Y) = true := decide_eq_true rfl
  rw [hd]
  clear hd
  go_wp2_with fail
  refine (D3.out _ HB6.out).mono ?_
  rintro e w7 ⟨v, rfl, hown, hb7⟩
  obtain ⟨B7, e7, rfl, _, _⟩ := own_slice hown
  have P7 := Lib.hid (At.own hown)
  have HB7 := Lib.hid (HB6.out.trans (hb7.mono HB6.out.size))
  clear hown hb7
  go_wp2_with fail
  refine (D4.out _ HB7.out).mono ?_
  rintro e w8 ⟨v, rfl, hown, hb8⟩
  obtain ⟨B8, e8, rfl, _, _⟩ := own_slice hown
  have P8 := Lib.hid (At.own hown)
  have P78 := Lib.hid (P7.out.below hb8)
  have HB8 := Lib.hid (HB7.out.trans (hb8.mono HB7.out.size))
  clear hown hb8
  have hgl := goneTo_le X Y N
  rw [nv_iv] at P8 P78
  go_wp2_with fail
  refine (numbersI_any B7 B8 (goneTo X Y N).length e7 (goneTo X Y N).length e8 _ _ _ (by simp) (by simp) (by omega) (by omega) P78.out P8.out).mono ?_
  rintro e w9 ⟨rfl, q2, rfl⟩
  rw [decide_eq_true rfl]
  go_wp2_with fail
  go_ret
  exact ⟨rfl, HB3.out.trans ((drewN_below HB8.out q2).mono HB3.out.size)⟩
set_option maxHeartbeats 4000000 in
set_option maxRecDepth 100000 in
theorem matchEnds_any (A B : Option Addr) (n c m d : Nat) (L L2 : List Kd) (w : World) (hn : n = L.length) (hm : m = L2.length) (hb : n ≤ maxLen) (hb2 : m ≤ maxLen) (ha : At w A (kc L)) (ha2 : At w B (kc L2)) (ho : ∀ k ∈ L, OkK k) (hw : ∀ k ∈ L2, OkK k) :
    Calls Try.prog 4 #[.slice A n c, .slice B m d] w fun e w' => e = .returned (.bool true) ∧ Below w.heap.size w w' := by
  have C1 := Lib.hid (fun W (hW : Below w.heap.size w W) => both_any A n c 25 L W hn hb (by omega) (ha.below hW))
  have C2 := Lib.hid (fun W (hW : Below w.heap.size w W) => both_any B m d 25 L2 W hm hb2 (by omega) (ha2.below hW))
  have OX := Lib.hid (bothK_ok L 25 ho)
  have OY := Lib.hid (bothK_ok L2 25 hw)
  have LX : Hid (min 25 n = (bothK L 25).length) := by show _ = _; rw [bothK_len, hn]
  have LY : Hid (min 25 m = (bothK L2 25).length) := by show _ = _; rw [bothK_len, hm]
  have hx1 : min 25 n ≤ 100 := by omega
  have hy1 : min 25 m ≤ 100 := by omega
  generalize bothK L 25 = X at *
  generalize bothK L2 25 = Y at *
  generalize min 25 n = N at *
  generalize min 25 m = M at *
  clear hn hm hb hb2 ha ha2 ho hw
  go_enter Try.func4, Try.ntmps4
  go_wp2_with fail
  refine (awake11_any _).mono ?_
  rintro e w1 ⟨rfl, hb1⟩
  have HB1 := Lib.hid hb1
  clear hb1
  go_wp2_with fail
  refine (C1.out _ HB1.out).mono ?_
  rintro e w2 ⟨v5, v6, rfl, ho5, ho6, hb2⟩
  obtain ⟨A5, c5, rfl, hc5, hm5⟩ := own_slice ho5
  obtain ⟨A6, c6, rfl, hc6, hm6⟩ := own_slice ho6
  have T5 := Lib.hid (At.own ho5)
  have T6 := Lib.hid (At.own ho6)
  have N6 := Lib.hid (own_addr ho6)
  have HB2 := Lib.hid (HB1.out.trans (hb2.mono HB1.out.size))
  clear ho5 ho6 hb2
  go_wp2_with fail
  refine (C2.out _ HB2.out).mono ?_
  rintro e w3 ⟨v7, v8, rfl, ho7, ho8, hb3⟩
  obtain ⟨A7, c7, rfl, hc7, hm7⟩ := own_slice ho7
  obtain ⟨A8, c8, rfl, hc8, hm8⟩ := own_slice ho8
  have U5 := Lib.hid (T5.out.below hb3)
  have U6 := Lib.hid (T6.out.below hb3)
  have U7 := Lib.hid (At.own ho7)
  have U8 := Lib.hid (At.own ho8)
  have N8 := Lib.hid (own_addr ho8)
  have HB3 := Lib.hid (HB2.out.trans (hb3.mono HB2.out.size))
  clear ho7 ho8 hb3 T5 T6 C1 C2
  obtain ⟨F, hF⟩ := isFront_has (pairs X Y)
  obtain ⟨R, hR⟩ := isBack_has (pairs X Y) N M (min N M - F)
  have FX : IsFront (pairs X X) N := by rw [LX.out]; exact front_self X
  have FY : IsFront (pairs Y Y) M := by rw [LY.out]; exact front_self Y
  have RY : IsBack (pairs Y Y) M M (min M M - M) 0 := ⟨Nat.zero_le _, fun i h => absurd h (Nat.not_lt_zero _), fun h => by omega⟩
  have D1 := Lib.hid (frontP_any A5 A7 N c5 M c7 F X Y w3 LX.out LY.out (by omega) (by omega) U5.out U7.out OX.out OY.out hF)
  have D2 := Lib.hid (fun W (hW : Below w3.heap.size w3 W) => rfront_any A6 A8 N c6 M c8 F X Y W LX.out LY.out (by omega) (by omega) hc6 hm6 hc8 hm8 N6.out N8.out (U6.out.below hW) (U8.out.below hW) hF)
  have D3 := Lib.hid (fun W (hW : Below w3.heap.size w3 W) => backP_any A5 A7 N c5 M c7 F R X Y W LX.out LY.out (by omega) (by omega) (U5.out.below hW) (U7.out.below hW) OX.out OY.out hF hR)
  have D4 := Lib.hid (fun W (hW : Below w3.heap.size w3 W) => rback_any A6 A8 N c6 M c8 F R X Y W LX.out LY.out (by omega) (by omega) hc6 hm6 hc8 hm8 N6.out N8.out (U6.out.below hW) (U8.out.below hW) hF hR)
  have D5 := Lib.hid (fun W (hW : Below w3.heap.size w3 W) => frontP_any A5 A5 N c5 N c5 N X X W LX.out LX.out (by omega) (by omega) (U5.out.below hW) (U5.out.below hW) OX.out OX.out FX)
  have D6 := Lib.hid (fun W (hW : Below w3.heap.size w3 W) => backP_any A7 A7 M c7 M c7 M 0 Y Y W LY.out LY.out (by omega) (by omega) (U7.out.below hW) (U7.out.below hW) OY.out OY.out FY RY)
  clear hF hR FX FY RY
  go_wp2_with fail
  refine D1.out.mono ?_
  rintro e w4 ⟨rfl, hb4⟩
  have HB4 := Lib.hid hb4
  clear hb4
  go_wp2_with fail
  refine (D2.out _ HB4.out).mono ?_
  rintro e w5 ⟨rfl, hb5⟩
  have HB5 := Lib.hid (HB4.out.trans (hb5.mono HB4.out.size))
  clear hb5
  go_wp2_with fail
  refine (D3.out _ HB5.out).mono ?_
  rintro e w6 ⟨rfl, hb6⟩
  have HB6 := Lib.hid (HB5.out.trans (hb6.mono HB5.out.size))
  clear hb6
  go_wp2_with fail
  refine (D4.out _ HB6.out).mono ?_
  rintro e w7 ⟨rfl, hb7⟩
  have HB7 := Lib.hid (HB6.out.trans (hb7.mono HB6.out.size))
  clear hb7
  go_wp2_with fail
  refine (D5.out _ HB7.out).mono ?_
  rintro e w8 ⟨rfl, hb8⟩
  have HB8 := Lib.hid (HB7.out.trans (hb8.mono HB7.out.size))
  clear hb8
  go_wp2_with fail
  refine (D6.out _ HB8.out).mono ?_
  rintro e w9 ⟨rfl, hb9⟩
  have HB9 := Lib.hid (HB8.out.trans (hb9.mono HB8.out.size))
  clear hb9
  go_wp2_with fail
  go_ret
  exact ⟨rfl, HB3.out.trans (HB9.out.mono HB3.out.size)⟩
end Go.Proofs.Ytaojjcnghkjgfaa
