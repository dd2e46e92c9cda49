/- The fixed facts of dress. -/
import Derived.Test.YtcboeehmhpkodaaDsPut
import Derived.Deep.RegionHeld3
namespace Go.Proofs.Ytcboeehmhpkodaa
open Go.RowKit M Ds
set_option linter.unusedVariables false
set_option linter.unusedSimpArgs false
set_option linter.unnecessarySimpa false
namespace Ds
theorem cl_on : clean ([tOn] ++ marks 6 0) = [tOn, tLA, tLT] := by rfl
theorem at6 : attrsM 6 = [(tGh, ⟨#[]⟩)] := by rfl
theorem may6 : mayB 6 0 0 0 = true := by decide
theorem gh6 : ghost 6 = true := by decide
set_option maxHeartbeats 8000000 in
set_option maxRecDepth 100000 in
theorem awake_any (w : World) : Calls Try.prog 5 #[] w fun e w' => e = .returned (.bool true) ∧ Below w.heap.size w w' := by
  obtain ⟨V, hV⟩ : ∃ V, V = (w.alloc (.cells #[.int .i64 6, .int .i64 0, .int .i64 0, .int .i64 0] 25)).alloc (.cells #[.string ⟨#[111, 110]⟩] 9) := ⟨_, rfl⟩
  have hb0 : Below w.heap.size w V := by rw [hV]; exact below_more (below_alloc w _) _
  have hl0 : Blk V w.heap.size 25 #[.int .i64 6, .int .i64 0, .int .i64 0, .int .i64 0] := by rw [hV]; exact (Blk.new w _ _).alloc _
  have C := put_any 6 0 0 0 (some ⟨w.heap.size + 1, 0, none⟩) 1 1 [tOn] V rfl (by omega) (by intro s hs; simp at hs; subst hs; decide) (fun h => nomatch h) (by rw [hV]; exact at_new (w.alloc _) #[.string ⟨#[111, 110]⟩] 9 _ (by simp) _ rfl)
  rw [cl_on, at6] at C
  have HC := Lib.hid C
  have HV := Lib.hid hV
  have HB0 := Lib.hid hb0
  have HL0 := Lib.hid hl0
  have CM := Lib.hid (fun W => may_any 6 0 0 0 W)
  rw [may6] at CM
  have CG := Lib.hid (fun W => ghost_any 6 0 0 0 W)
  rw [gh6] at CG
  clear C hV hb0 hl0
  go_enter Try.func5, Try.ntmps5
  go_wp2_with fail
  rw [← HV.out]
  (with_reducible refine HC.out.mono ?_)
  rintro e w1 ⟨va, vs, vt, rfl, ha, hs, ht, hb1⟩
  obtain ⟨Aa, ca, rfl, hca, hma, hata⟩ := at_of_own' ha
  obtain ⟨As, cs, rfl, hcs, hms, hats⟩ := at_of_own' hs
  obtain ⟨At', ct, rfl, _, _, _⟩ := at_of_own' ht
  obtain ⟨W1, hW1⟩ : ∃ W, W = w1.alloc (.cells #[.slice Aa 3 ca, .slice As 1 cs, .slice At' (stylesM 0 0 0).length ct] 36) := ⟨_, rfl⟩
  have hl1 : Blk W1 w.heap.size 25 #[.int .i64 6, .int .i64 0, .int .i64 0, .int .i64 0] := by rw [hW1]; exact (HL0.out.below hb1).alloc _
  have hw1 : Blk W1 w1.heap.size 36 #[.slice Aa 3 ca, .slice As 1 cs, .slice At' (stylesM 0 0 0).length ct] := by rw [hW1]; exact Blk.new _ _ _
  have hbw : Below w.heap.size w W1 := by rw [hW1]; exact below_more (HB0.out.trans (hb1.mono HB0.out.size)) _
  have HATA : Hid (At W1 Aa (sv [tOn, tLA, tLT])) := by show At _ _ _; rw [hW1]; exact hata.alloc _
  have hatS : At W1 As (pvS [(tGh, (⟨#[]⟩ : ByteArray))]) := by rw [hW1]; exact hats.alloc _
  obtain ⟨bs0, os0, rfl, hbs, hcS⟩ := hatS (by intro h; cases h)
  have hs0 := hcS 0 _ rfl
  have HW1 := Lib.hid hW1
  have HBW := Lib.hid hbw
  obtain ⟨g1, hg1⟩ : ∃ g, g = w1.heap.size := ⟨_, rfl⟩
  rw [← hg1] at hw1
  have HG1 := Lib.hid hg1
  have HS0 := Lib.hid hs0
  have HBS := Lib.hid hbs
  have HL1 := Lib.hid hl1
  have HWW := Lib.hid hw1
  have x0 := hl1.cell 0 (v := .int .i64 6) rfl
  have x1 := hl1.cell 1 (v := .int .i64 0) rfl
  have x2 := hl1.cell 2 (v := .int .i64 0) rfl
  have x3 := hl1.cell 3 (v := .int .i64 0) rfl
  clear ha hs ht hata hats hb1 hl1 hw1 hbw hW1 hg1 hcS hs0 hbs HC
  go_upto_region 3 with fail
  rw [show w1.alloc (.cells #[.slice Aa 3 ca, .slice (some ⟨bs0, os0, none⟩) 1 cs, .slice At' (stylesM 0 0 0).length ct] 36) = W1 from HW1.out.symm, ← HG1.out]
  go_wp2_with fail
  (with_reducible refine (CM.out _).mono ?_)
  rintro e w3 ⟨rfl, hb3⟩
  have hl3 := HL1.out.below hb3
  have hw3 := HWW.out.below hb3
  have hs3 := (hb3.cell (p := ⟨bs0, os0 + 0, none⟩) HBS.out).trans HS0.out
  have HA3 := Lib.hid (HATA.out.below hb3)
  have HB3 := Lib.hid (HBW.out.trans (hb3.mono HBW.out.size))
  have HBS3 := Lib.hid (Nat.lt_of_lt_of_le HBS.out hb3.size)
  have y0 := hl3.cell 0 (v := .int .i64 6) rfl
  have y1 := hl3.cell 1 (v := .int .i64 0) rfl
  have y2 := hl3.cell 2 (v := .int .i64 0) rfl
  have y3 := hl3.cell 3 (v := .int .i64 0) rfl
  have HWW3 := Lib.hid hw3
  have HS3 := Lib.hid hs3
  clear x0 x1 x2 x3 hl3 hw3 hb3 hs3
  go_wp2_with fail
  (with_reducible refine (CG.out _).mono ?_)
  rintro e w4 ⟨rfl, hb4⟩
  have hw4 := HWW3.out.below hb4
  have hs4 := (hb4.cell (p := ⟨bs0, os0 + 0, none⟩) HBS3.out).trans HS3.out
  have HA4 := Lib.hid (HA3.out.below hb4)
  have HB4 := Lib.hid (HB3.out.trans (hb4.mono HB3.out.size))
  obtain ⟨⟨d0, d1, d2⟩, _⟩ := cells3 hw4
  rw [Nat.add_zero] at hs4
  clear y0 y1 y2 y3 hb4
  have hd : decide ([tOn, tLA, tLT] = [tOn, tLA, tLT]) = true := by simp
  have CS := Lib.hid (fun (W : World) (hA : At W Aa (sv [tOn, tLA, tLT])) (b : Nat) (hB : At W (some ⟨b, 0, none⟩) (sv [tOn, tLA, tLT])) => same_any Aa (some ⟨b, 0, none⟩) 3 ca 3 3 [tOn, tLA, tLT] [tOn, tLA, tLT] W rfl rfl (by unfold maxLen; omega) (by unfold maxLen; omega) hA hB)
  rw [hd] at CS
  have d1' : (w4.alloc (.cells #[.string ⟨#[111, 110]⟩, .string ⟨#[116, 45, 108, 101, 97, 118, 101, 45, 97, 99, 116, 105, 118, 101]⟩, .string ⟨#[116, 45, 108, 101, 97, 118, 101, 45, 116, 111]⟩] 9)).cell? ⟨g1, 1, none⟩ = some (.slice (some ⟨bs0, os0, none⟩) 1 cs) := Lib.cell?_alloc_some _ d1
  have hs4' : (w4.alloc (.cells #[.string ⟨#[111, 110]⟩, .string ⟨#[116, 45, 108, 101, 97, 118, 101, 45, 97, 99, 116, 105, 118, 101]⟩, .string ⟨#[116, 45, 108, 101, 97, 118, 101, 45, 116, 111]⟩] 9)).cell? ⟨bs0, os0, none⟩ = some (.string tGh) := Lib.cell?_alloc_some _ hs4
  have q1' : ∀ q, ((w4.alloc (.cells #[.string ⟨#[111, 110]⟩, .string ⟨#[116, 45, 108, 101, 97, 118, 101, 45, 97, 99, 116, 105, 118, 101]⟩, .string ⟨#[116, 45, 108, 101, 97, 118, 101, 45, 116, 111]⟩] 9)).drewN q).cell? ⟨g1, 1, none⟩ = some (.slice (some ⟨bs0, os0, none⟩) 1 cs) := fun _ => d1'
  have q2' : ∀ q, ((w4.alloc (.cells #[.string ⟨#[111, 110]⟩, .string ⟨#[116, 45, 108, 101, 97, 118, 101, 45, 97, 99, 116, 105, 118, 101]⟩, .string ⟨#[116, 45, 108, 101, 97, 118, 101, 45, 116, 111]⟩] 9)).drewN q).cell? ⟨bs0, os0, none⟩ = some (.string tGh) := fun _ => hs4'
  go_wp2_with fail
  (with_reducible refine (CS.out _ (HA4.out.alloc _) _ (at_new _ #[.string ⟨#[111, 110]⟩, .string ⟨#[116, 45, 108, 101, 97, 118, 101, 45, 97, 99, 116, 105, 118, 101]⟩, .string ⟨#[116, 45, 108, 101, 97, 118, 101, 45, 116, 111]⟩] 9 _ rfl _ rfl)).mono ?_)
  rintro e w5 ⟨rfl, q, rfl⟩
  have q1 := q1' q
  have q2 := q2' q
  go_wp2
  go_ret
  have h9 := below_more HB4.out (.cells #[.string ⟨#[111, 110]⟩, .string ⟨#[116, 45, 108, 101, 97, 118, 101, 45, 97, 99, 116, 105, 118, 101]⟩, .string ⟨#[116, 45, 108, 101, 97, 118, 101, 45, 116, 111]⟩] 9)
  exact ⟨rfl, ⟨h9.os, h9.tape, h9.output, h9.size, h9.block⟩⟩
end Ds
end Go.Proofs.Ytcboeehmhpkodaa
