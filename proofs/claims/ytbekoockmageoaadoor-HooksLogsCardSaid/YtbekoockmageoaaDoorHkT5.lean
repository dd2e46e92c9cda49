/- HooksLogs: the walk. -/
import Derived.Test.YtbekoockmageoaaDoorHkT3
import Derived.Test.YtbekoockmageoaaDoorHkT4
import Derived.Test.YtbekoockmageoaaDoorHkW6
namespace Go.Proofs.YtbekoockmageoaaDoor
open Go.RowKit Hk
set_option linter.unusedVariables false
theorem below_drewN {B : Nat} {a w : World} (h : Below B a w) (n : Nat) : Below B a (w.drewN n) := ⟨h.os, h.tape, h.output, h.size, h.block⟩
set_option maxHeartbeats 4000000 in
set_option maxRecDepth 100000 in
theorem hooksLogs_any (A : Option Addr) (n c : Nat) (L : List En) (g : Int) (key : ByteArray) (w : World) (hn : n = L.length) (hb : n ≤ maxLen) (ha : At w A (ecs L)) (hok : ∀ e ∈ L, OkE e) (htb : Tab w) (ht : TrIs w) (hm : NmIs w) :
    Calls Tryd.prog 5 #[.slice A n c, .int .i64 g, .string key] w fun e w' => e = .returned (.bool true) ∧ Below w.heap.size w w' := by
  have HN := Lib.hid hn
  have HA := Lib.hid ha
  have HTB := Lib.hid htb
  have HT := Lib.hid ht
  have HM := Lib.hid hm
  have HBN := Lib.hid hb
  have HOK := Lib.hid (ownE_ok L 40 hok)
  have HOS := Lib.hid (ownE_okS L 40 hok)
  have hlen := ownE_len L 40
  rw [← hn] at hlen
  have HLEN := Lib.hid hlen
  have h40 : min 40 n ≤ 40 := Nat.min_le_left _ _
  clear hn ha hok htb ht hm hb hlen
  go_enter Tryd.func5, Tryd.ntmps5
  go_wp2_with fail
  (with_reducible refine (awake_any _ HT.out HM.out).mono ?_)
  rintro e w1 ⟨rfl, hb1⟩
  have HB1 := Lib.hid hb1
  clear hb1
  go_wp2_with fail
  refine (own_any A n c 40 L w1 HN.out HBN.out (by omega) (HA.out.below HB1.out)).mono ?_
  rintro e w2 ⟨v, u, rfl, hownA, hownB, hb2⟩
  have HB2 := Lib.hid (HB1.out.trans (hb2.mono HB1.out.size))
  clear hb2
  generalize ownE L 40 = LL at hownA hownB HOK HOS HLEN
  generalize hMM : min 40 n = k at hownA hownB HLEN h40
  clear hMM
  obtain ⟨A3, c3, rfl, _, _, hat3⟩ := at_of_own' hownA
  obtain ⟨A4, c4, rfl, _, _, hat4⟩ := at_of_own' hownB
  have HAT3 := Lib.hid hat3
  have HAT4 := Lib.hid hat4
  clear hat3 hat4 hownA hownB
  go_wp2_with fail
  (with_reducible refine (cut_any key 20 _ (by omega) (by omega)).mono ?_)
  rintro e w3 ⟨rfl, rfl⟩
  generalize Go.Proofs.YtbekoockmageoaaDoor.M.cutS key (Int.toNat 20) = x
  go_wp2_with fail
  (with_reducible refine (of_any A3 k c3 LL g x _ HLEN.out.symm (by omega) HAT3.out).mono ?_)
  rintro e w4 ⟨v4, rfl, hown4, hb4⟩
  obtain ⟨A5, c5, rfl, _, _, hat5⟩ := at_of_own' hown4
  have HAT5 := Lib.hid hat5
  have HC4 := Lib.hid hb4
  clear hown4 hat5 hb4
  go_wp2_with fail
  (with_reducible refine (rof_any A4 k c4 LL g x _ HLEN.out.symm (by omega) (HAT4.out.below HC4.out)).mono ?_)
  rintro e w5 ⟨v5, rfl, hown5, hb5⟩
  obtain ⟨A6, c6, rfl, _, _, hat6⟩ := at_of_own' hown5
  have HAT6 := Lib.hid hat6
  have HAT5' := Lib.hid (HAT5.out.below hb5)
  have HC5 := Lib.hid (HC4.out.trans (hb5.mono HC4.out.size))
  have hlh := hooks_le LL (g, x)
  rw [HLEN.out] at hlh
  clear hown5 hat6 hb5
  go_wp2_with fail
  (with_reducible refine (numbersI_any A5 A6 _ c5 _ c6 (hooksOf LL (g, x)) (hooksOf LL (g, x)) _ rfl rfl (by omega) (by omega) HAT5'.out HAT6.out).mono ?_)
  rintro e w6 ⟨rfl, q6, rfl⟩
  rw [show decide (hooksOf LL (g, x) = hooksOf LL (g, x)) = true by simp]
  have HC6 := Lib.hid (below_drewN HC5.out q6)
  generalize w5.drewN q6 = w6 at HC6 ⊢
  go_wp2_with fail
  (with_reducible refine (check_any A3 k c3 LL _ HLEN.out.symm (by omega) (HAT3.out.below HC6.out) HOK.out ((HT.out.below HB2.out).below HC6.out)).mono ?_)
  rintro e w7 ⟨rfl, hb7⟩
  have HC7 := Lib.hid (HC6.out.trans (hb7.mono HC6.out.size))
  clear hb7
  go_wp2_with fail
  (with_reducible refine (rcheck_any A4 k c4 LL _ HLEN.out.symm (by omega) (HAT4.out.below HC7.out)).mono ?_)
  rintro e w8 ⟨rfl, hb8⟩
  have HC8 := Lib.hid (HC7.out.trans (hb8.mono HC7.out.size))
  clear hb8
  generalize okB LL = ok
  have hok : (ok == ok) = true := by simp
  go_wp2_with fail
  (with_reducible refine (text_any A3 k c3 LL _ HLEN.out.symm (by omega) (HAT3.out.below HC8.out) HOS.out (tab_below (tab_below HTB.out HB2.out) HC8.out) ((HM.out.below HB2.out).below HC8.out)).mono ?_)
  rintro e w9 ⟨rfl, hb9⟩
  have HC9 := Lib.hid (HC8.out.trans (hb9.mono HC8.out.size))
  clear hb9
  go_wp2_with fail
  (with_reducible refine (rtext_any A4 k c4 LL _ HLEN.out.symm (by omega) (HAT4.out.below HC9.out) HOS.out (tab_below (tab_below HTB.out HB2.out) HC9.out)).mono ?_)
  rintro e w10 ⟨rfl, hb10⟩
  have HC10 := Lib.hid (HB2.out.trans ((HC9.out.trans (hb10.mono HC9.out.size)).mono HB2.out.size))
  clear hb10
  generalize textB LL = tt
  go_wp2
  go_ret
  exact ⟨rfl, HC10.out⟩
end Go.Proofs.YtbekoockmageoaaDoor
