/- The fixed facts of layer 26; SlotNext. -/
import Derived.Test.YtfapghekakdpgaaSlOwn
import Derived.Test.YtfapghekakdpgaaGrP
namespace Go.Proofs.Ytfapghekakdpgaa
open Go.RowKit Gr Sl
open M (cutS)
set_option linter.unusedVariables false
def sA : List Sk := [(⟨#[97]⟩, 0)]
theorem sA1 : plan0 sA ⟨#[98]⟩ 1 = ⟨[1], -1, 2⟩ := by
  have h1 : (plan0 sA ⟨#[98]⟩ 1).each = [1] := by decide +kernel
  have h2 : (plan0 sA ⟨#[98]⟩ 1).take = -1 := by decide +kernel
  have h3 : (plan0 sA ⟨#[98]⟩ 1).start = 2 := by decide +kernel
  generalize plan0 sA ⟨#[98]⟩ 1 = p at *
  cases p
  simp at h1 h2 h3
  rw [h1, h2, h3]
theorem sA2 : plan0 sA ⟨#[98]⟩ 2 = ⟨[2], -1, 1⟩ := by
  have h1 : (plan0 sA ⟨#[98]⟩ 2).each = [2] := by decide +kernel
  have h2 : (plan0 sA ⟨#[98]⟩ 2).take = -1 := by decide +kernel
  have h3 : (plan0 sA ⟨#[98]⟩ 2).start = 1 := by decide +kernel
  generalize plan0 sA ⟨#[98]⟩ 2 = p at *
  cases p
  simp at h1 h2 h3
  rw [h1, h2, h3]
theorem sofA (mode : Int) (E : List Int) (tk st : Int) (hp : plan0 sA ⟨#[98]⟩ mode = ⟨E, tk, st⟩) (b : Nat) (w : World) (ha : At w (some ⟨b, 0, none⟩) (scs sA)) :
    Calls Try.prog 26 #[.slice (some ⟨b, 0, none⟩) 1 1, .string ⟨#[98]⟩, .int .i64 mode] w fun e w' => ∃ v1 v2 k, e = .returned (.agg #[v1, .int .i64 tk, .int .i64 st, v2]) ∧ w'.ownsRow w.heap.size 3 1 v1 1 (iv E) ∧ (∃ A c, v2 = .slice A k c) ∧ Below w.heap.size w w' := by
  refine (sof_any (some ⟨b, 0, none⟩) 1 1 sA ⟨#[98]⟩ mode w rfl (by omega) ha).mono ?_
  rintro e w' ⟨v1, v2, rfl, o1, o2, hb⟩
  rw [hp] at o1 o2 ⊢
  obtain ⟨A2, c2, rfl, _, _⟩ := own_slice o2
  exact ⟨v1, _, _, rfl, o1, ⟨A2, c2, rfl⟩, hb⟩
set_option maxHeartbeats 4000000 in
set_option maxRecDepth 100000 in
theorem awake26_any (w : World) : Calls Try.prog 23 #[] w fun e w' => e = .returned (.bool true) ∧ Below w.heap.size w w' := by
  obtain ⟨U, hU⟩ : ∃ W, W = w.alloc (.cells #[.string ⟨#[97]⟩, .int .i64 0] 86) := ⟨_, rfl⟩
  have C1 := Lib.hid (sofA 1 [1] (-1) 2 sA1 w.heap.size U (by rw [hU]; exact at_new w #[.string ⟨#[97]⟩, .int .i64 0] 86 w.heap.size rfl (scs sA) rfl))
  have HBU := Lib.hid (show Below w.heap.size w U by rw [hU]; exact below_alloc w _)
  have HU := Lib.hid hU
  clear hU
  go_enter Try.func23, Try.ntmps23
  go_wp2_with fail
  rw [← HU.out]
  refine C1.out.mono ?_
  rintro e w1 ⟨v1, v2, k2, rfl, o1, ⟨A2, c2, rfl⟩, hb1⟩
  obtain ⟨A1, c1, rfl, _, _⟩ := own_slice o1
  obtain ⟨g1, hg1⟩ : ∃ g, g = w1.heap.size := ⟨_, rfl⟩
  obtain ⟨W1, hW1⟩ : ∃ W, W = w1.alloc (.cells #[.slice A1 1 c1, .int .i64 (-1), .int .i64 2, .slice A2 k2 c2] 50) := ⟨_, rfl⟩
  have hb2 : Below w1.heap.size w1 W1 := by rw [hW1]; exact below_alloc w1 _
  have K1 := Lib.hid (show Blk W1 g1 50 #[.slice A1 1 c1, .int .i64 (-1), .int .i64 2, .slice A2 k2 c2] by rw [hW1, hg1]; exact Blk.new w1 _ _)
  have T1 := Lib.hid ((At.own o1).below hb2)
  have HB1 := Lib.hid ((HBU.out.trans (hb1.mono HBU.out.size)).trans (hb2.mono (Nat.le_trans HBU.out.size hb1.size)))
  have HW1 := Lib.hid hW1
  have HG1 := Lib.hid hg1
  clear o1 hb1 hb2 hW1 hg1 C1
  go_upto_region 2 with fail
  rw [← HW1.out, ← HG1.out]
  obtain ⟨W2, hW2⟩ : ∃ W, W = W1.alloc (.cells #[.string ⟨#[97]⟩, .int .i64 0] 86) := ⟨_, rfl⟩
  have C2 := Lib.hid (sofA 2 [2] (-1) 1 sA2 W1.heap.size W2 (by rw [hW2]; exact at_new W1 #[.string ⟨#[97]⟩, .int .i64 0] 86 W1.heap.size rfl (scs sA) rfl))
  have hb3 : Below W1.heap.size W1 W2 := by rw [hW2]; exact below_alloc W1 _
  have K2 := Lib.hid (K1.out.below hb3)
  have T2 := Lib.hid (T1.out.below hb3)
  have HB2 := Lib.hid (HB1.out.trans (hb3.mono HB1.out.size))
  have HW2 := Lib.hid hW2
  clear hb3 hW2 K1 T1
  go_wp2_with fail
  rw [← HW2.out]
  refine C2.out.mono ?_
  rintro e w3 ⟨v3, v4, k4, rfl, o3, ⟨A4, c4, rfl⟩, hb4⟩
  obtain ⟨A3, c3, rfl, _, _⟩ := own_slice o3
  obtain ⟨g3, hg3⟩ : ∃ g, g = w3.heap.size := ⟨_, rfl⟩
  obtain ⟨W4, hW4⟩ : ∃ W, W = w3.alloc (.cells #[.slice A3 1 c3, .int .i64 (-1), .int .i64 1, .slice A4 k4 c4] 50) := ⟨_, rfl⟩
  have hb5 : Below w3.heap.size w3 W4 := by rw [hW4]; exact below_alloc w3 _
  have hb24 : Below W2.heap.size W2 W4 := hb4.trans (hb5.mono hb4.size)
  have K3 := Lib.hid (show Blk W4 g3 50 #[.slice A3 1 c3, .int .i64 (-1), .int .i64 1, .slice A4 k4 c4] by rw [hW4, hg3]; exact Blk.new w3 _ _)
  have T3 := Lib.hid ((At.own o3).below hb5)
  have K14 := Lib.hid (K2.out.below hb24)
  have T14 := Lib.hid (T2.out.below hb24)
  have HB4 := Lib.hid (HB2.out.trans (hb24.mono HB2.out.size))
  have HW4 := Lib.hid hW4
  have HG3 := Lib.hid hg3
  clear o3 hb4 hb5 hb24 hW4 hg3 C2 K2 T2 HB2 HB1
  go_upto_region 3 with fail
  rw [← HW4.out, ← HG3.out]
  have k0 := K14.out.cell 0 (v := .slice A1 1 c1) rfl
  have HN1 := Lib.hid (at_new W4 #[.int .i64 1] 3 W4.heap.size rfl (iv [1]) rfl)
  go_wp2_with fail
  refine (numbersT A1 _ 1 c1 1 1 [1] _ rfl rfl (by omega) (T14.out.alloc _) HN1.out).mono ?_
  rintro e W5 ⟨rfl, hb5⟩
  have hb45 : Below W4.heap.size W4 W5 := (below_alloc W4 _).trans (hb5.mono (by simp))
  have k1 := (K14.out.below hb45).cell 1 (v := .int .i64 (-1)) rfl
  have k2 := (K14.out.below hb45).cell 2 (v := .int .i64 2) rfl
  have k3 := (K3.out.below hb45).cell 0 (v := .slice A3 1 c3) rfl
  have T35 := Lib.hid (T3.out.below hb45)
  have K35 := Lib.hid (K3.out.below hb45)
  have HB5 := Lib.hid (HB4.out.trans (hb45.mono HB4.out.size))
  have HN2 := Lib.hid (at_new W5 #[.int .i64 2] 3 W5.heap.size rfl (iv [2]) rfl)
  clear hb5 hb45 k0 HN1
  go_wp2_with fail
  refine (numbersT A3 _ 1 c3 1 1 [2] _ rfl rfl (by omega) (T35.out.alloc _) HN2.out).mono ?_
  rintro e W6 ⟨rfl, hb6⟩
  have hb56 : Below W5.heap.size W5 W6 := (below_alloc W5 _).trans (hb6.mono (by simp))
  have k4 := (K35.out.below hb56).cell 2 (v := .int .i64 1) rfl
  have HB6 := Lib.hid (HB5.out.trans (hb56.mono HB5.out.size))
  clear hb6 hb56 k1 k2 k3 HN2
  go_wp2
  go_ret
  exact ⟨rfl, HB6.out⟩
set_option maxHeartbeats 4000000 in
set_option maxRecDepth 100000 in
theorem slotNext_any (A : Option Addr) (n c : Nat) (L : List Sk) (w : World) (hn : n = L.length) (hb : n ≤ maxLen) (ha : At w A (scs L)) :
    Calls Try.prog 7 #[.slice A n c] w fun e w' => e = .returned (.bool true) ∧ Below w.heap.size w w' := by
  have C1 := Lib.hid (fun W (hW : Below w.heap.size w W) => sown_any A n c L W hn hb (ha.below hW))
  have LX : Hid (min 15 n = (sownK L 15).length) := by show _ = _; rw [sownK_len, hn]
  have hx1 : min 15 n ≤ 15 := by omega
  generalize sownK L 15 = X at *
  generalize min 15 n = N at *
  have hnl : (nextL X).length ≤ 15 := by
    have h1 := wh_le X.length (nextQ X)
    have h2 := LX.out
    unfold nextL
    split
    · omega
    · split
      · simp
      · omega
  clear hn hb ha
  go_enter Try.func7, Try.ntmps7
  go_wp2_with fail
  refine (awake26_any _).mono ?_
  rintro e w1 ⟨rfl, hb1⟩
  have HB1 := Lib.hid hb1
  clear hb1
  go_wp2_with fail
  refine (C1.out _ HB1.out).mono ?_
  rintro e w2 ⟨v5, v6, rfl, ho5, ho6, hb2⟩
  obtain ⟨A5, c5, rfl, hc5, hm5⟩ := own_slice ho5
  obtain ⟨A6, c6, rfl, hc6, hm6⟩ := own_slice ho6
  have T5 := Lib.hid (At.own ho5)
  have T6 := Lib.hid (At.own ho6)
  have HB2 := Lib.hid (HB1.out.trans (hb2.mono HB1.out.size))
  have C3 := Lib.hid (snext_any A5 N c5 X w2 LX.out (by omega) T5.out)
  clear ho5 ho6 hb2 C1
  go_wp2_with fail
  refine C3.out.mono ?_
  rintro e w3 ⟨v7, rfl, ho7, hb3⟩
  obtain ⟨A7, c7, rfl, _, _⟩ := own_slice ho7
  have T7 := Lib.hid (At.own ho7)
  have HB3 := Lib.hid (HB2.out.trans (hb3.mono HB2.out.size))
  have C4 := Lib.hid (rnext_any A6 N c6 X w3 LX.out (by omega) (T6.out.below hb3))
  clear ho7 hb3 C3
  go_wp2_with fail
  refine C4.out.mono ?_
  rintro e w4 ⟨v8, rfl, ho8, hb4⟩
  obtain ⟨A8, c8, rfl, _, _⟩ := own_slice ho8
  have T8 := Lib.hid (At.own ho8)
  have T74 := Lib.hid (T7.out.below hb4)
  have HB4 := Lib.hid (HB3.out.trans (hb4.mono HB3.out.size))
  clear ho8 hb4 C4
  generalize nextB X = b at *
  generalize hNL : nextL X = LN at *
  clear hNL
  go_wp2_with fail
  refine (numbersV A7 A8 _ c7 _ c8 LN w4 rfl rfl (by omega) T74.out T8.out).mono ?_
  rintro e w5 ⟨rfl, hb5⟩
  have HB5 := Lib.hid (HB4.out.trans (hb5.mono HB4.out.size))
  clear hb5
  cases b
  all_goals
    go_wp2
    go_ret
    exact ⟨ret_bool' (by simp), HB5.out⟩
theorem slotNext_arg (w : World) (v0 : Value) (h0 : SksArg w v0) :
    Calls Try.prog 7 #[v0] w fun e w' => e = .returned (.bool true) ∧ Below w.heap.size w w' := by
  obtain ⟨A, n, c, L, rfl, hL⟩ := h0
  obtain ⟨e0, e1, e2, e3, e4, _⟩ := hL
  exact slotNext_any A n c L w e0 (by omega) e3
end Go.Proofs.Ytfapghekakdpgaa
