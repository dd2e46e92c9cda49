/- The walk of ScrimTurns. -/
import Derived.Test.YtibcfmfihcgijaaPrS6
import Derived.Test.YtibcfmfihcgijaaPrSA
import Derived.Test.YtibcfmfihcgijaaPrSC
import Derived.Test.YtibcfmfihcgijaaClL4
namespace Go.Proofs.Ytibcfmfihcgijaa
open Go.RowKit M
theorem below_more {a w : World} (h : RowKit.Below a.heap.size a w) (o : Obj) : RowKit.Below a.heap.size a (w.alloc o) := h.alloc h.size o
theorem cell_new2 (w : World) (u v : Value) (t : TypeId) (b : Nat) (hb : w.heap.size = b) : (w.alloc (.cells #[u, v] t)).cell? ⟨b, 0, none⟩ = some u ∧ (w.alloc (.cells #[u, v] t)).cell? ⟨b, 1, none⟩ = some v := by
  subst hb
  exact ⟨by simp, by simp⟩
theorem turnX : (turn [] [(⟨#[120]⟩ : ByteArray)]).length = 1 := by
  have h := turn_len [] [(⟨#[120]⟩ : ByteArray)]
  have h1 : (clean [(⟨#[120]⟩ : ByteArray)]).length = 1 := by simp [clean, add]
  have h2 : clean ([] : List ByteArray) = [] := rfl
  have h3 := gd_len ([] : List ByteArray) (clean [(⟨#[120]⟩ : ByteArray)])
  rw [h2, h1] at h
  simp at h h3
  omega
theorem turnW : (turnP ([] : List Par) (ofP [((⟨#[119]⟩ : ByteArray), (0 : Int))])).length = 1 := by
  have h : ofP [((⟨#[119]⟩ : ByteArray), (0 : Int))] = [((⟨#[119]⟩ : ByteArray), (0 : Int))] := by simp [ofP, setP]
  rw [h, turnP_eq, h]
  simp [ofP, setsF, getP]
theorem namesT_of {a b : List Par} {x : ByteArray} (h : ¬ getP a x = getP b x) : x ∈ namesT a b := by
  refine Classical.byContradiction fun hx => h ?_
  have h1 : getP (applyP a (turnP a b)) x = getP (ofP a) x := foldl_other _ x (ofP a) (ofP_rises a) fun s hs e => hx (List.mem_map.2 ⟨s, hs, e⟩)
  rw [turnP_leads, ofP_get, ofP_get] at h1
  exact h1.symm
theorem turnP_sym (a b : List Par) : (turnP a b).length = (turnP b a).length := by
  have h : ∀ a b : List Par, (turnP a b).length ≤ (turnP b a).length := fun a b => by
    have := nodup_le (namesT_nodup a b) (m := namesT b a) fun x hx => namesT_of fun e => namesT_diff hx e.symm
    simpa [namesT] using this
  exact Nat.le_antisymm (h a b) (h b a)
theorem turnP_tri (a b c : List Par) : (turnP a b).length ≤ (turnP a c).length + (turnP c b).length := by
  have h : applyP a (turnP a c ++ turnP c b) = ofP b := by
    have h1 : applyP a (turnP a c ++ turnP c b) = (turnP c b).foldl stepP (applyP a (turnP a c)) := by unfold applyP; rw [List.foldl_append]
    rw [h1, turnP_leads]
    exact turnP_leads c b
  have h2 := turnP_least a b _ h
  rw [List.length_append] at h2
  exact h2
theorem turn_self (a : List ByteArray) : (turn a a).length = 0 := by
  have := least a a [] form_nil rfl
  exact Nat.le_zero.1 this
set_option maxHeartbeats 1000000 in
set_option maxRecDepth 100000 in
theorem scrimTurns_any (A0 A1 A2 B0 B1 B2 : Option Addr) (n0 n1 n2 c0 c1 c2 m0 m1 m2 d0 d1 d2 : Nat) (a0 a1 a2 : List ByteArray) (s0 s1 s2 : List Par) (w : World)
    (hn0 : n0 = a0.length) (hn1 : n1 = a1.length) (hn2 : n2 = a2.length) (hb0 : n0 ≤ maxLen) (hb1 : n1 ≤ maxLen) (hb2 : n2 ≤ maxLen) (ha0 : At w A0 (sv a0)) (ha1 : At w A1 (sv a1)) (ha2 : At w A2 (sv a2))
    (hm0 : m0 = s0.length) (hm1 : m1 = s1.length) (hm2 : m2 = s2.length) (hd0 : m0 ≤ maxLen) (hd1 : m1 ≤ maxLen) (hd2 : m2 ≤ maxLen) (hs0 : At w B0 (pv s0)) (hs1 : At w B1 (pv s1)) (hs2 : At w B2 (pv s2)) :
    Calls Try.prog 10 #[.agg #[.slice A0 n0 c0, .slice B0 m0 d0], .agg #[.slice A1 n1 c1, .slice B1 m1 d1], .agg #[.slice A2 n2 c2, .slice B2 m2 d2]] w fun e w' => e = .returned (.bool true) ∧ RowKit.Below w.heap.size w w' := by
  have HA0 := Lib.hid ha0
  have HA1 := Lib.hid ha1
  have HA2 := Lib.hid ha2
  have HS0 := Lib.hid hs0
  have HS1 := Lib.hid hs1
  have HS2 := Lib.hid hs2
  clear ha0 ha1 ha2 hs0 hs1 hs2
  have HN := Lib.hid (And.intro hn0 (And.intro hn1 hn2))
  have HM := Lib.hid (And.intro hm0 (And.intro hm1 hm2))
  clear hn0 hn1 hn2 hm0 hm1 hm2
  go_enter Try.func10, Try.ntmps10
  go_wp2_with fail
  obtain ⟨W0, hW0⟩ : ∃ W, W = w.alloc (.cells #[.slice A0 n0 c0, .slice B0 m0 d0] 59) := ⟨_, rfl⟩
  obtain ⟨W1, hW1⟩ : ∃ W, W = W0.alloc (.cells #[.slice A1 n1 c1, .slice B1 m1 d1] 59) := ⟨_, rfl⟩
  obtain ⟨W, hW⟩ : ∃ W, W = W1.alloc (.cells #[.slice A2 n2 c2, .slice B2 m2 d2] 59) := ⟨_, rfl⟩
  have z0 : W0.heap.size = w.heap.size + 1 := by rw [hW0]; simp
  have z1 : W1.heap.size = w.heap.size + 1 + 1 := by rw [hW1]; simp; exact z0
  have z2 : W.heap.size = w.heap.size + 1 + 1 + 1 := by rw [hW]; simp; exact z1
  have HWB := Lib.hid (show RowKit.Below w.heap.size w W by
    have e0 : RowKit.Below w.heap.size w W0 := by rw [hW0]; exact below_alloc w _
    have e1 : RowKit.Below w.heap.size w W1 := by rw [hW1]; exact e0.alloc (by omega) _
    rw [hW]; exact e1.alloc (by omega) _)
  have u0 := cell_new2 w (.slice A0 n0 c0) (.slice B0 m0 d0) 59 _ rfl
  rw [← hW0] at u0
  have u1 := cell_new2 W0 (.slice A1 n1 c1) (.slice B1 m1 d1) 59 _ z0
  rw [← hW1] at u1
  have u2 := cell_new2 W1 (.slice A2 n2 c2) (.slice B2 m2 d2) 59 _ z1
  rw [← hW] at u2
  have v0 : W1.cell? ⟨w.heap.size, 0, none⟩ = some (.slice A0 n0 c0) := by rw [hW1]; exact Lib.cell?_alloc_some _ u0.1
  have v1 : W1.cell? ⟨w.heap.size, 1, none⟩ = some (.slice B0 m0 d0) := by rw [hW1]; exact Lib.cell?_alloc_some _ u0.2
  have HWS := Lib.hid z2
  have Q0 := Lib.hid (show W.cell? ⟨w.heap.size, 0, none⟩ = some (.slice A0 n0 c0) by rw [hW]; exact Lib.cell?_alloc_some _ v0)
  have Q1 := Lib.hid (show W.cell? ⟨w.heap.size, 1, none⟩ = some (.slice B0 m0 d0) by rw [hW]; exact Lib.cell?_alloc_some _ v1)
  have Q2 := Lib.hid (show W.cell? ⟨w.heap.size + 1, 0, none⟩ = some (.slice A1 n1 c1) by rw [hW]; exact Lib.cell?_alloc_some _ u1.1)
  have Q3 := Lib.hid (show W.cell? ⟨w.heap.size + 1, 1, none⟩ = some (.slice B1 m1 d1) by rw [hW]; exact Lib.cell?_alloc_some _ u1.2)
  have Q4 := Lib.hid u2.1
  have Q5 := Lib.hid u2.2
  rw [← hW0, ← hW1, ← hW, ← z2]
  clear hW0 hW1 hW z0 z1 z2 u0 u1 u2 v0 v1
  refine (cturn_any none (some ⟨_, 0, none⟩) 0 0 1 1 [] [⟨#[120]⟩] _ rfl rfl (by omega) (by omega) (At.nil _ _) (at_new W _ _ _ rfl _ rfl) (fun _ h => nomatch h) (fun s h => by rw [List.mem_singleton.1 h]; decide)).mono ?_
  rintro e9 w1 ⟨v1, rfl, hown1, hb1'⟩
  rw [turnX] at hown1
  obtain ⟨AX, cX, rfl, _, _, _⟩ := at_of_own' hown1
  have HV1 := Lib.hid ((below_alloc W _).trans (hb1'.mono (by simp)))
  clear hown1 hb1'
  go_wp2_with fail
  refine (of_any (some ⟨_, 0, none⟩) 1 1 [(⟨#[119]⟩, 0)] _ rfl (by omega) (fun h => nomatch h) (at_new w1 _ _ _ rfl _ rfl)).mono ?_
  rintro e9 w2 ⟨v2, rfl, hown2, hb2'⟩
  obtain ⟨AY, cY, rfl, _, _, hatY⟩ := at_of_own' hown2
  have HANY := Lib.hid (own_addr hown2)
  have HATY := Lib.hid hatY
  have HV2 := Lib.hid (HV1.out.trans (((below_alloc w1 _).trans (hb2'.mono (by simp))).mono HV1.out.size))
  clear hown2 hb2' hatY
  have hly := ofP_len [((⟨#[119]⟩ : ByteArray), (0 : Int))]
  simp only [List.length_cons, List.length_nil] at hly
  go_wp2_with fail
  refine (turn_any none AY 0 0 _ cY [] (ofP [(⟨#[119]⟩, 0)]) _ rfl rfl (by omega) (by omega) (fun _ => ⟨rfl, rfl⟩) HANY.out (At.nil _ _) HATY.out).mono ?_
  rintro e9 wT ⟨vT, rfl, hownT, hbT⟩
  have turnW2 : (turnP ([] : List Par) (ofP (ofP [((⟨#[119]⟩ : ByteArray), (0 : Int))]))).length = 1 := by rw [ofP_of (ofP_rises _)]; exact turnW
  first
  | rw [turnW] at hownT
  | rw [turnW2] at hownT
  obtain ⟨AT, cT, rfl, _, _, _⟩ := at_of_own' hownT
  have HVT := Lib.hid (HV2.out.trans (hbT.mono HV2.out.size))
  clear hownT hbT turnW2 hly
  have HT := Lib.hid (HWB.out.trans (HVT.out.mono HWB.out.size))
  obtain ⟨g, hg⟩ : ∃ g, g = w.heap.size := ⟨_, rfl⟩
  rw [← hg] at Q0 Q1 Q2 Q3 Q4 Q5 HWS
  rw [← hg]
  have HG := Lib.hid hg
  have l0 : g < wT.heap.size := by have := HWS.out; have := HVT.out.size; omega
  have l1 : g + 1 < wT.heap.size := by have := HWS.out; have := HVT.out.size; omega
  have l2 : g + 1 + 1 < wT.heap.size := by have := HWS.out; have := HVT.out.size; omega
  have q0 := (HVT.out.cell (p := ⟨g, 0, none⟩) (by show g < _; have := HWS.out; omega)).trans Q0.out
  have q1 := Lib.hid ((HVT.out.cell (p := ⟨g, 1, none⟩) (by show g < _; have := HWS.out; omega)).trans Q1.out)
  have q2 := (HVT.out.cell (p := ⟨g + 1, 0, none⟩) (by show g + 1 < _; have := HWS.out; omega)).trans Q2.out
  have q3 := Lib.hid ((HVT.out.cell (p := ⟨g + 1, 1, none⟩) (by show g + 1 < _; have := HWS.out; omega)).trans Q3.out)
  have q4 := (HVT.out.cell (p := ⟨g + 1 + 1, 0, none⟩) (by show g + 1 + 1 < _; have := HWS.out; omega)).trans Q4.out
  have q5 := Lib.hid ((HVT.out.cell (p := ⟨g + 1 + 1, 1, none⟩) (by show g + 1 + 1 < _; have := HWS.out; omega)).trans Q5.out)
  have HA0T := Lib.hid (HA0.out.below HT.out)
  have HA1T := Lib.hid (HA1.out.below HT.out)
  have HA2T := Lib.hid (HA2.out.below HT.out)
  have HS0T := Lib.hid (HS0.out.below HT.out)
  have HS1T := Lib.hid (HS1.out.below HT.out)
  have HS2T := Lib.hid (HS2.out.below HT.out)
  clear hg Q0 Q1 Q2 Q3 Q4 Q5 HA0 HA1 HA2 HS0 HS1 HS2
  have HF0 : Hid (∀ w1 : World, RowKit.Below wT.heap.size wT w1 → Calls Try.prog 12 #[.slice A0 n0 c0, .int .i64 8] w1 fun e w' => ∃ v, e = .returned v ∧ w'.ownsRow w1.heap.size 9 1 v (few a0 8).length (sv (few a0 8)) ∧ RowKit.Below w1.heap.size w1 w') := fun w1 h => few_any A0 n0 c0 8 a0 w1 HN.out.1 hb0 (by omega) (by omega) (HA0T.out.below h)
  have HP0 : Hid (∀ w1 : World, RowKit.Below wT.heap.size wT w1 → Calls Try.prog 30 #[.slice B0 m0 d0, .int .i64 8] w1 fun e w' => ∃ v, e = .returned v ∧ w'.ownsRow w1.heap.size 78 2 v (fewP s0 8).length (pv (fewP s0 8)) ∧ RowKit.Below w1.heap.size w1 w') := fun w1 h => few4_any B0 m0 d0 8 s0 w1 HM.out.1 hd0 (by omega) (by omega) (HS0T.out.below h)
  have hlx0 := few_len a0 8
  have hly0 := fewP_len s0 8
  have HSM0 := Lib.hid (few_small a0 8)
  generalize few a0 8 = X0 at HF0 hlx0 HSM0
  generalize fewP s0 8 = Y0 at HP0 hly0
  have HF1 : Hid (∀ w1 : World, RowKit.Below wT.heap.size wT w1 → Calls Try.prog 12 #[.slice A1 n1 c1, .int .i64 8] w1 fun e w' => ∃ v, e = .returned v ∧ w'.ownsRow w1.heap.size 9 1 v (few a1 8).length (sv (few a1 8)) ∧ RowKit.Below w1.heap.size w1 w') := fun w1 h => few_any A1 n1 c1 8 a1 w1 HN.out.2.1 hb1 (by omega) (by omega) (HA1T.out.below h)
  have HP1 : Hid (∀ w1 : World, RowKit.Below wT.heap.size wT w1 → Calls Try.prog 30 #[.slice B1 m1 d1, .int .i64 8] w1 fun e w' => ∃ v, e = .returned v ∧ w'.ownsRow w1.heap.size 78 2 v (fewP s1 8).length (pv (fewP s1 8)) ∧ RowKit.Below w1.heap.size w1 w') := fun w1 h => few4_any B1 m1 d1 8 s1 w1 HM.out.2.1 hd1 (by omega) (by omega) (HS1T.out.below h)
  have hlx1 := few_len a1 8
  have hly1 := fewP_len s1 8
  have HSM1 := Lib.hid (few_small a1 8)
  generalize few a1 8 = X1 at HF1 hlx1 HSM1
  generalize fewP s1 8 = Y1 at HP1 hly1
  have HF2 : Hid (∀ w1 : World, RowKit.Below wT.heap.size wT w1 → Calls Try.prog 12 #[.slice A2 n2 c2, .int .i64 8] w1 fun e w' => ∃ v, e = .returned v ∧ w'.ownsRow w1.heap.size 9 1 v (few a2 8).length (sv (few a2 8)) ∧ RowKit.Below w1.heap.size w1 w') := fun w1 h => few_any A2 n2 c2 8 a2 w1 HN.out.2.2 hb2 (by omega) (by omega) (HA2T.out.below h)
  have HP2 : Hid (∀ w1 : World, RowKit.Below wT.heap.size wT w1 → Calls Try.prog 30 #[.slice B2 m2 d2, .int .i64 8] w1 fun e w' => ∃ v, e = .returned v ∧ w'.ownsRow w1.heap.size 78 2 v (fewP s2 8).length (pv (fewP s2 8)) ∧ RowKit.Below w1.heap.size w1 w') := fun w1 h => few4_any B2 m2 d2 8 s2 w1 HM.out.2.2 hd2 (by omega) (by omega) (HS2T.out.below h)
  have hlx2 := few_len a2 8
  have hly2 := fewP_len s2 8
  have HSM2 := Lib.hid (few_small a2 8)
  generalize few a2 8 = X2 at HF2 hlx2 HSM2
  generalize fewP s2 8 = Y2 at HP2 hly2
  clear HA0T HA1T HA2T HS0T HS1T HS2T
  have HBB := RowKit.Below.refl wT.heap.size wT
  go_wp2_with fail
  go_region_held3 (fun w' => w'.cell? ⟨g, 0, none⟩ = some (.slice A0 n0 c0) ∧ w'.cell? ⟨g + 1, 0, none⟩ = some (.slice A1 n1 c1) ∧ w'.cell? ⟨g + 1 + 1, 0, none⟩ = some (.slice A2 n2 c2) ∧ RowKit.Below wT.heap.size wT w') (first | (refine ⟨?_, ?_, ?_, ?_⟩ <;> first | assumption | (refine below_more ?_ _; assumption) | (refine Lib.cell?_alloc_some _ ?_; assumption) | exact Below_drew HBB | exact below_heap HBB rfl rfl rfl rfl) | go_keep | exact below_heap HBB rfl rfl rfl rfl) (first | (go_at_call 12; go_split_ands; (with_reducible refine (HF0.out _ ?_).mono ?_); (assumption); rintro e9 w10 ⟨v10, rfl, hown10, hb10⟩; obtain ⟨A10, c10, rfl, _, _, hat10⟩ := at_of_own' hown10; have HAT10 := Lib.hid hat10; have HAN10 := Lib.hid (own_addr hown10); clear hat10 hown10; have Bw10 : RowKit.Below wT.heap.size wT w10 := below_join (by assumption) hb10; have HBw10 := Lib.hid Bw10; have rw100 := (Bw10.cell (p := ⟨g, 0, none⟩) l0).trans q0; have rw101 := (Bw10.cell (p := ⟨g + 1, 0, none⟩) l1).trans q2; have rw102 := (Bw10.cell (p := ⟨g + 1 + 1, 0, none⟩) l2).trans q4) | (go_at_call 12; go_split_ands; (with_reducible refine (HF1.out _ ?_).mono ?_); (assumption); rintro e9 w11 ⟨v11, rfl, hown11, hb11⟩; obtain ⟨A11, c11, rfl, _, _, hat11⟩ := at_of_own' hown11; have HAT11 := Lib.hid hat11; have HAN11 := Lib.hid (own_addr hown11); clear hat11 hown11; have Bw11 : RowKit.Below wT.heap.size wT w11 := below_join (by assumption) hb11; have HBw11 := Lib.hid Bw11; have rw110 := (Bw11.cell (p := ⟨g, 0, none⟩) l0).trans q0; have rw111 := (Bw11.cell (p := ⟨g + 1, 0, none⟩) l1).trans q2; have rw112 := (Bw11.cell (p := ⟨g + 1 + 1, 0, none⟩) l2).trans q4) | (go_at_call 12; go_split_ands; (with_reducible refine (HF2.out _ ?_).mono ?_); (assumption); rintro e9 w12 ⟨v12, rfl, hown12, hb12⟩; obtain ⟨A12, c12, rfl, _, _, hat12⟩ := at_of_own' hown12; have HAT12 := Lib.hid hat12; have HAN12 := Lib.hid (own_addr hown12); clear hat12 hown12; have Bw12 : RowKit.Below wT.heap.size wT w12 := below_join (by assumption) hb12; have HBw12 := Lib.hid Bw12; have rw120 := (Bw12.cell (p := ⟨g, 0, none⟩) l0).trans q0; have rw121 := (Bw12.cell (p := ⟨g + 1, 0, none⟩) l1).trans q2; have rw122 := (Bw12.cell (p := ⟨g + 1 + 1, 0, none⟩) l2).trans q4))
  go_wp2_with fail
  obtain ⟨lb, hlb⟩ : ∃ lb, lb = w12.heap.size := ⟨_, rfl⟩
  have hlS : w12.heap.size = lb := hlb.symm
  have lc0 : (w12.alloc (.cells #[.slice A10 X0.length c10, .slice A11 X1.length c11, .slice A12 X2.length c12] 22)).cell? ⟨lb, 0, none⟩ = some (.slice A10 X0.length c10) := by rw [hlb]; simp
  have lc1 : (w12.alloc (.cells #[.slice A10 X0.length c10, .slice A11 X1.length c11, .slice A12 X2.length c12] 22)).cell? ⟨lb, 1, none⟩ = some (.slice A11 X1.length c11) := by rw [hlb]; simp
  have lc2 : (w12.alloc (.cells #[.slice A10 X0.length c10, .slice A11 X1.length c11, .slice A12 X2.length c12] 22)).cell? ⟨lb, 2, none⟩ = some (.slice A12 X2.length c12) := by rw [hlb]; simp
  have hWLs : (w12.alloc (.cells #[.slice A10 X0.length c10, .slice A11 X1.length c11, .slice A12 X2.length c12] 22)).heap.size = lb + 1 := by rw [hlb]; simp
  have hWLb := below_more HBw12.out (.cells #[.slice A10 X0.length c10, .slice A11 X1.length c11, .slice A12 X2.length c12] 22)
  have HX0L := Lib.hid (((HAT10.out.below hb11).below hb12).alloc (.cells #[.slice A10 X0.length c10, .slice A11 X1.length c11, .slice A12 X2.length c12] 22))
  have HX1L := Lib.hid ((HAT11.out.below hb12).alloc (.cells #[.slice A10 X0.length c10, .slice A11 X1.length c11, .slice A12 X2.length c12] 22))
  have HX2L := Lib.hid (HAT12.out.alloc (.cells #[.slice A10 X0.length c10, .slice A11 X1.length c11, .slice A12 X2.length c12] 22))
  rw [hlS]
  clear hlS hlb
  generalize w12.alloc (.cells #[.slice A10 X0.length c10, .slice A11 X1.length c11, .slice A12 X2.length c12] 22) = WL at lc0 lc1 lc2 hWLs hWLb HX0L HX1L HX2L ⊢
  have HWL := Lib.hid hWLb
  have LC0 := Lib.hid lc0
  have LC1 := Lib.hid lc1
  have HLS := Lib.hid hWLs
  have k0 : g < WL.heap.size := by have := HWL.out.size; omega
  have k1 : g + 1 < WL.heap.size := by have := HWL.out.size; omega
  have k2 : g + 1 + 1 < WL.heap.size := by have := HWL.out.size; omega
  have p1 := (HWL.out.cell (p := ⟨g, 1, none⟩) l0).trans q1.out
  have p3 := (HWL.out.cell (p := ⟨g + 1, 1, none⟩) l1).trans q3.out
  have p5 := (HWL.out.cell (p := ⟨g + 1 + 1, 1, none⟩) l2).trans q5.out
  have HPL0 : Hid (∀ w1 : World, RowKit.Below WL.heap.size WL w1 → Calls Try.prog 30 #[.slice B0 m0 d0, .int .i64 8] w1 fun e w' => ∃ v, e = .returned v ∧ w'.ownsRow w1.heap.size 78 2 v Y0.length (pv Y0) ∧ RowKit.Below w1.heap.size w1 w') := fun w1 h => HP0.out w1 (HWL.out.trans (h.mono HWL.out.size))
  have HPL1 : Hid (∀ w1 : World, RowKit.Below WL.heap.size WL w1 → Calls Try.prog 30 #[.slice B1 m1 d1, .int .i64 8] w1 fun e w' => ∃ v, e = .returned v ∧ w'.ownsRow w1.heap.size 78 2 v Y1.length (pv Y1) ∧ RowKit.Below w1.heap.size w1 w') := fun w1 h => HP1.out w1 (HWL.out.trans (h.mono HWL.out.size))
  have HPL2 : Hid (∀ w1 : World, RowKit.Below WL.heap.size WL w1 → Calls Try.prog 30 #[.slice B2 m2 d2, .int .i64 8] w1 fun e w' => ∃ v, e = .returned v ∧ w'.ownsRow w1.heap.size 78 2 v Y2.length (pv Y2) ∧ RowKit.Below w1.heap.size w1 w') := fun w1 h => HP2.out w1 (HWL.out.trans (h.mono HWL.out.size))
  clear lc0 lc1 lc2 hWLs hWLb q0 q1 q2 q3 q4 q5 l0 l1 l2 HP0 HP1 HP2 HF0 HF1 HF2 hb10 hb11 hb12 HAT10 HAT11 HAT12 HBB Bw10 Bw11 Bw12 rw100 rw101 rw102 rw110 rw111 rw112 rw120 rw121 rw122
  have HBB := RowKit.Below.refl WL.heap.size WL
  go_region_held3 (fun w' => w'.cell? ⟨g, 1, none⟩ = some (.slice B0 m0 d0) ∧ w'.cell? ⟨g + 1, 1, none⟩ = some (.slice B1 m1 d1) ∧ w'.cell? ⟨g + 1 + 1, 1, none⟩ = some (.slice B2 m2 d2) ∧ RowKit.Below WL.heap.size WL w') (first | (refine ⟨?_, ?_, ?_, ?_⟩ <;> first | assumption | (refine below_more ?_ _; assumption) | (refine Lib.cell?_alloc_some _ ?_; assumption) | exact Below_drew HBB | exact below_heap HBB rfl rfl rfl rfl) | go_keep | exact below_heap HBB rfl rfl rfl rfl) (first | (go_at_call 30; go_split_ands; (with_reducible refine (HPL0.out _ ?_).mono ?_); (assumption); rintro e9 w20 ⟨v20, rfl, hown20, hb20⟩; obtain ⟨A20, c20, rfl, _, _, hat20⟩ := at_of_own' hown20; have HAT20 := Lib.hid hat20; have HAN20 := Lib.hid (own_addr hown20); clear hat20 hown20; have Bw20 : RowKit.Below WL.heap.size WL w20 := below_join (by assumption) hb20; have HBw20 := Lib.hid Bw20; have rw200 := (Bw20.cell (p := ⟨g, 1, none⟩) k0).trans p1; have rw201 := (Bw20.cell (p := ⟨g + 1, 1, none⟩) k1).trans p3; have rw202 := (Bw20.cell (p := ⟨g + 1 + 1, 1, none⟩) k2).trans p5) | (go_at_call 32; go_split_ands; (with_reducible refine (own4_any A20 _ c20 Y0 _ rfl (by omega) ?_).mono ?_); (first | exact HAT20.out | exact At.drewN HAT20.out _ | (refine HAT20.out.below ?_; assumption)); rintro e9 w30 ⟨v30, rfl, hown30, hb30⟩; obtain ⟨A30, c30, rfl, _, _, hat30⟩ := at_of_own' hown30; have HAT30 := Lib.hid hat30; have HAN30 := Lib.hid (own_addr hown30); clear hat30 hown30; have Bw30 : RowKit.Below WL.heap.size WL w30 := below_join (by assumption) hb30; have HBw30 := Lib.hid Bw30; have rw300 := (Bw30.cell (p := ⟨g, 1, none⟩) k0).trans p1; have rw301 := (Bw30.cell (p := ⟨g + 1, 1, none⟩) k1).trans p3; have rw302 := (Bw30.cell (p := ⟨g + 1 + 1, 1, none⟩) k2).trans p5) | (go_at_call 37; go_split_ands; (with_reducible refine (of_any A30 _ c30 Y0 _ rfl (by omega) HAN30.out ?_).mono ?_); (first | exact HAT30.out | exact At.drewN HAT30.out _ | (refine HAT30.out.below ?_; assumption)); rintro e9 w40 ⟨v40, rfl, hown40, hb40⟩; obtain ⟨A40, c40, rfl, _, _, hat40⟩ := at_of_own' hown40; have HAT40 := Lib.hid hat40; have HAN40 := Lib.hid (own_addr hown40); clear hat40 hown40; have Bw40 : RowKit.Below WL.heap.size WL w40 := below_join (by assumption) hb40; have HBw40 := Lib.hid Bw40; have rw400 := (Bw40.cell (p := ⟨g, 1, none⟩) k0).trans p1; have rw401 := (Bw40.cell (p := ⟨g + 1, 1, none⟩) k1).trans p3; have rw402 := (Bw40.cell (p := ⟨g + 1 + 1, 1, none⟩) k2).trans p5) | (go_at_call 30; go_split_ands; (with_reducible refine (HPL1.out _ ?_).mono ?_); (assumption); rintro e9 w21 ⟨v21, rfl, hown21, hb21⟩; obtain ⟨A21, c21, rfl, _, _, hat21⟩ := at_of_own' hown21; have HAT21 := Lib.hid hat21; have HAN21 := Lib.hid (own_addr hown21); clear hat21 hown21; have Bw21 : RowKit.Below WL.heap.size WL w21 := below_join (by assumption) hb21; have HBw21 := Lib.hid Bw21; have rw210 := (Bw21.cell (p := ⟨g, 1, none⟩) k0).trans p1; have rw211 := (Bw21.cell (p := ⟨g + 1, 1, none⟩) k1).trans p3; have rw212 := (Bw21.cell (p := ⟨g + 1 + 1, 1, none⟩) k2).trans p5) | (go_at_call 32; go_split_ands; (with_reducible refine (own4_any A21 _ c21 Y1 _ rfl (by omega) ?_).mono ?_); (first | exact HAT21.out | exact At.drewN HAT21.out _ | (refine HAT21.out.below ?_; assumption)); rintro e9 w31 ⟨v31, rfl, hown31, hb31⟩; obtain ⟨A31, c31, rfl, _, _, hat31⟩ := at_of_own' hown31; have HAT31 := Lib.hid hat31; have HAN31 := Lib.hid (own_addr hown31); clear hat31 hown31; have Bw31 : RowKit.Below WL.heap.size WL w31 := below_join (by assumption) hb31; have HBw31 := Lib.hid Bw31; have rw310 := (Bw31.cell (p := ⟨g, 1, none⟩) k0).trans p1; have rw311 := (Bw31.cell (p := ⟨g + 1, 1, none⟩) k1).trans p3; have rw312 := (Bw31.cell (p := ⟨g + 1 + 1, 1, none⟩) k2).trans p5) | (go_at_call 37; go_split_ands; (with_reducible refine (of_any A31 _ c31 Y1 _ rfl (by omega) HAN31.out ?_).mono ?_); (first | exact HAT31.out | exact At.drewN HAT31.out _ | (refine HAT31.out.below ?_; assumption)); rintro e9 w41 ⟨v41, rfl, hown41, hb41⟩; obtain ⟨A41, c41, rfl, _, _, hat41⟩ := at_of_own' hown41; have HAT41 := Lib.hid hat41; have HAN41 := Lib.hid (own_addr hown41); clear hat41 hown41; have Bw41 : RowKit.Below WL.heap.size WL w41 := below_join (by assumption) hb41; have HBw41 := Lib.hid Bw41; have rw410 := (Bw41.cell (p := ⟨g, 1, none⟩) k0).trans p1; have rw411 := (Bw41.cell (p := ⟨g + 1, 1, none⟩) k1).trans p3; have rw412 := (Bw41.cell (p := ⟨g + 1 + 1, 1, none⟩) k2).trans p5) | (go_at_call 30; go_split_ands; (with_reducible refine (HPL2.out _ ?_).mono ?_); (assumption); rintro e9 w22 ⟨v22, rfl, hown22, hb22⟩; obtain ⟨A22, c22, rfl, _, _, hat22⟩ := at_of_own' hown22; have HAT22 := Lib.hid hat22; have HAN22 := Lib.hid (own_addr hown22); clear hat22 hown22; have Bw22 : RowKit.Below WL.heap.size WL w22 := below_join (by assumption) hb22; have HBw22 := Lib.hid Bw22; have rw220 := (Bw22.cell (p := ⟨g, 1, none⟩) k0).trans p1; have rw221 := (Bw22.cell (p := ⟨g + 1, 1, none⟩) k1).trans p3; have rw222 := (Bw22.cell (p := ⟨g + 1 + 1, 1, none⟩) k2).trans p5) | (go_at_call 32; go_split_ands; (with_reducible refine (own4_any A22 _ c22 Y2 _ rfl (by omega) ?_).mono ?_); (first | exact HAT22.out | exact At.drewN HAT22.out _ | (refine HAT22.out.below ?_; assumption)); rintro e9 w32 ⟨v32, rfl, hown32, hb32⟩; obtain ⟨A32, c32, rfl, _, _, hat32⟩ := at_of_own' hown32; have HAT32 := Lib.hid hat32; have HAN32 := Lib.hid (own_addr hown32); clear hat32 hown32; have Bw32 : RowKit.Below WL.heap.size WL w32 := below_join (by assumption) hb32; have HBw32 := Lib.hid Bw32; have rw320 := (Bw32.cell (p := ⟨g, 1, none⟩) k0).trans p1; have rw321 := (Bw32.cell (p := ⟨g + 1, 1, none⟩) k1).trans p3; have rw322 := (Bw32.cell (p := ⟨g + 1 + 1, 1, none⟩) k2).trans p5) | (go_at_call 37; go_split_ands; (with_reducible refine (of_any A32 _ c32 Y2 _ rfl (by omega) HAN32.out ?_).mono ?_); (first | exact HAT32.out | exact At.drewN HAT32.out _ | (refine HAT32.out.below ?_; assumption)); rintro e9 w42 ⟨v42, rfl, hown42, hb42⟩; obtain ⟨A42, c42, rfl, _, _, hat42⟩ := at_of_own' hown42; have HAT42 := Lib.hid hat42; have HAN42 := Lib.hid (own_addr hown42); clear hat42 hown42; have Bw42 : RowKit.Below WL.heap.size WL w42 := below_join (by assumption) hb42; have HBw42 := Lib.hid Bw42; have rw420 := (Bw42.cell (p := ⟨g, 1, none⟩) k0).trans p1; have rw421 := (Bw42.cell (p := ⟨g + 1, 1, none⟩) k1).trans p3; have rw422 := (Bw42.cell (p := ⟨g + 1 + 1, 1, none⟩) k2).trans p5))
  go_wp2_with fail
  have HZL0 := ofP_len Y0
  have HZL1 := ofP_len Y1
  have HZL2 := ofP_len Y2
  have HRZ0 := Lib.hid (ofP_rises Y0)
  have HRZ1 := Lib.hid (ofP_rises Y1)
  have HRZ2 := Lib.hid (ofP_rises Y2)
  have hz0m := ((((((HAT40.out.below hb21).below hb31).below hb41).below hb22).below hb32).below hb42)
  have hz1m := (((HAT41.out.below hb22).below hb32).below hb42)
  have hz2m := HAT42.out
  generalize ofP Y0 = Z0 at HZL0 HRZ0 hz0m HAN40 ⊢
  generalize ofP Y1 = Z1 at HZL1 HRZ1 hz1m HAN41 ⊢
  generalize ofP Y2 = Z2 at HZL2 HRZ2 hz2m HAN42 ⊢
  obtain ⟨mb, hmb⟩ : ∃ mb, mb = w42.heap.size := ⟨_, rfl⟩
  have hmS : w42.heap.size = mb := hmb.symm
  have e2 : (w42.alloc (.cells #[.slice A40 Z0.length c40, .slice A41 Z1.length c41, .slice A42 Z2.length c42] 49)).cell? ⟨mb, 0, none⟩ = some (.slice A40 Z0.length c40) := by rw [hmb]; simp
  have e3 : (w42.alloc (.cells #[.slice A40 Z0.length c40, .slice A41 Z1.length c41, .slice A42 Z2.length c42] 49)).cell? ⟨mb, 1, none⟩ = some (.slice A41 Z1.length c41) := by rw [hmb]; simp
  have e4 : (w42.alloc (.cells #[.slice A40 Z0.length c40, .slice A41 Z1.length c41, .slice A42 Z2.length c42] 49)).cell? ⟨mb, 2, none⟩ = some (.slice A42 Z2.length c42) := by rw [hmb]; simp
  have hWMs : (w42.alloc (.cells #[.slice A40 Z0.length c40, .slice A41 Z1.length c41, .slice A42 Z2.length c42] 49)).heap.size = mb + 1 := by rw [hmb]; simp
  have hWMb := below_more HBw42.out (.cells #[.slice A40 Z0.length c40, .slice A41 Z1.length c41, .slice A42 Z2.length c42] 49)
  have hm42 : WL.heap.size ≤ mb := by rw [hmb]; exact HBw42.out.size
  have HZ0M := Lib.hid (hz0m.alloc (.cells #[.slice A40 Z0.length c40, .slice A41 Z1.length c41, .slice A42 Z2.length c42] 49))
  have HZ1M := Lib.hid (hz1m.alloc (.cells #[.slice A40 Z0.length c40, .slice A41 Z1.length c41, .slice A42 Z2.length c42] 49))
  have HZ2M := Lib.hid (hz2m.alloc (.cells #[.slice A40 Z0.length c40, .slice A41 Z1.length c41, .slice A42 Z2.length c42] 49))
  rw [hmS]
  clear hmS hmb hz0m hz1m hz2m
  generalize w42.alloc (.cells #[.slice A40 Z0.length c40, .slice A41 Z1.length c41, .slice A42 Z2.length c42] 49) = WM at e2 e3 e4 hWMs hWMb HZ0M HZ1M HZ2M ⊢
  have HWM := Lib.hid hWMb
  have j0 : lb < WM.heap.size := by have := HLS.out; omega
  have j1 : mb < WM.heap.size := by omega
  have e0 := (HWM.out.cell (p := ⟨lb, 0, none⟩) (by show lb < _; have := HLS.out; omega)).trans LC0.out
  have e1 := (HWM.out.cell (p := ⟨lb, 1, none⟩) (by show lb < _; have := HLS.out; omega)).trans LC1.out
  have E0 := Lib.hid e0
  have E1 := Lib.hid e1
  have E2 := Lib.hid e2
  have E3 := Lib.hid e3
  have E4 := Lib.hid e4
  have HX0M := Lib.hid (HX0L.out.below HWM.out)
  have HX1M := Lib.hid (HX1L.out.below HWM.out)
  have HWW := Lib.hid (HT.out.trans ((HWL.out.trans (HWM.out.mono HWL.out.size)).mono HT.out.size))
  clear hWMs hWMb k0 k1 k2 p1 p3 p5 HPL0 HPL1 HPL2 HBB hm42 LC0 LC1 HX0L HX1L HX2L HWL HWM HT
  clear hb20 HAT20 Bw20 hb21 HAT21 Bw21 hb22 HAT22 Bw22 hb30 HAT30 Bw30 hb31 HAT31 Bw31 hb32 HAT32 Bw32 hb40 HAT40 Bw40 hb41 HAT41 Bw41 hb42 HAT42 Bw42 rw200 rw201 rw202 rw210 rw211 rw212 rw220 rw221 rw222 rw300 rw301 rw302 rw310 rw311 rw312 rw320 rw321 rw322 rw400 rw401 rw402 rw410 rw411 rw412 rw420 rw421 rw422 HBw20 HBw21 HBw22 HBw30 HBw31 HBw32 HBw40 HBw41 HBw42 HAN20 HAN21 HAN22 HAN30 HAN31 HAN32
  have hcl0 := clean_len X0
  have hcl1 := clean_len X1
  have ht01 : (turn X0 X1).length ≤ 16 := by have := turn_len X0 X1; omega
  have ht10 : (turn X1 X0).length ≤ 16 := by have := turn_len X1 X0; omega
  have hp01 : (turnP Z0 Z1).length ≤ 16 := by have := turnP_len Z0 Z1; have := ofP_len Z0; have := ofP_len Z1; omega
  have hp10 : (turnP Z1 Z0).length ≤ 16 := by have := turnP_len Z1 Z0; have := ofP_len Z0; have := ofP_len Z1; omega
  have HTS01 : Hid (∀ s ∈ turn X0 X1, s.2.size ≤ maxLen) := turn_small HSM0.out HSM1.out
  have HTS10 : Hid (∀ s ∈ turn X1 X0, s.2.size ≤ maxLen) := turn_small HSM1.out HSM0.out
  have HSC1 : Hid (∀ s ∈ clean X1, s.size ≤ maxLen) := fun s hs => HSM1.out s ((mem_clean X1 s).1 hs)
  have EA : Hid (apply X0 (turn X0 X1) = clean X1) := apply_turn X0 X1
  have EB : Hid (apply (clean X1) (turn X1 X0) = clean X0) := by
    show _ = _
    have h1 := apply_turn X1 X0
    unfold apply at h1 ⊢
    rw [clean_clean]
    exact h1
  have EP : Hid (applyP Z0 (turnP Z0 Z1) = Z1) := by show _ = _; rw [turnP_leads, ofP_of HRZ1.out]
  have EQ : Hid (applyP Z1 (turnP Z1 Z0) = Z0) := by show _ = _; rw [turnP_leads, ofP_of HRZ0.out]
  have HXY := Lib.hid (turnP_sym Z0 Z1)
  have HTRI := Lib.hid (turnP_tri Z0 Z1 Z2)
  have HSELF := Lib.hid (turn_self X0)
  have HLE := Lib.hid (turn_len X0 X1)
  have HBB := RowKit.Below.refl WM.heap.size WM
  go_wp2_with fail
  go_region_held3 (fun w' => w'.cell? ⟨lb, 0, none⟩ = some (.slice A10 X0.length c10) ∧ w'.cell? ⟨lb, 1, none⟩ = some (.slice A11 X1.length c11) ∧ w'.cell? ⟨mb, 0, none⟩ = some (.slice A40 Z0.length c40) ∧ w'.cell? ⟨mb, 1, none⟩ = some (.slice A41 Z1.length c41) ∧ w'.cell? ⟨mb, 2, none⟩ = some (.slice A42 Z2.length c42) ∧ RowKit.Below WM.heap.size WM w') (first | (refine ⟨?_, ?_, ?_, ?_, ?_, ?_⟩ <;> first | assumption | (refine below_more ?_ _; assumption) | (refine Lib.cell?_alloc_some _ ?_; assumption) | exact Below_drew HBB | exact below_heap HBB rfl rfl rfl rfl) | go_keep | exact below_heap HBB rfl rfl rfl rfl) (first | (go_at_call 25; go_split_ands; (with_reducible refine (cturn_any A10 A11 _ c10 _ c11 X0 X1 _ rfl rfl (by omega) (by omega) ?_ ?_ HSM0.out HSM1.out).mono ?_); (refine HX0M.out.below ?_; assumption); (refine HX1M.out.below ?_; assumption); rintro e9 w50 ⟨v50, rfl, hown50, hb50⟩; obtain ⟨A50, c50, rfl, _, _, hat50⟩ := at_of_own' hown50; have HAT50 := Lib.hid hat50; have HAN50 := Lib.hid (own_addr hown50); clear hat50 hown50; have Bw50 : RowKit.Below WM.heap.size WM w50 := below_join (by assumption) hb50; have HBw50 := Lib.hid Bw50; have rw500 := (Bw50.cell (p := ⟨lb, 0, none⟩) j0).trans E0.out; have rw501 := (Bw50.cell (p := ⟨lb, 1, none⟩) j0).trans E1.out; have rw502 := (Bw50.cell (p := ⟨mb, 0, none⟩) j1).trans E2.out; have rw503 := (Bw50.cell (p := ⟨mb, 1, none⟩) j1).trans E3.out; have rw504 := (Bw50.cell (p := ⟨mb, 2, none⟩) j1).trans E4.out) | (go_at_call 25; go_split_ands; (with_reducible refine (cturn_any A11 A10 _ c11 _ c10 X1 X0 _ rfl rfl (by omega) (by omega) ?_ ?_ HSM1.out HSM0.out).mono ?_); (refine HX1M.out.below ?_; assumption); (refine HX0M.out.below ?_; assumption); rintro e9 w51 ⟨v51, rfl, hown51, hb51⟩; obtain ⟨A51, c51, rfl, _, _, hat51⟩ := at_of_own' hown51; have HAT51 := Lib.hid hat51; have HAN51 := Lib.hid (own_addr hown51); clear hat51 hown51; have Bw51 : RowKit.Below WM.heap.size WM w51 := below_join (by assumption) hb51; have HBw51 := Lib.hid Bw51; have rw510 := (Bw51.cell (p := ⟨lb, 0, none⟩) j0).trans E0.out; have rw511 := (Bw51.cell (p := ⟨lb, 1, none⟩) j0).trans E1.out; have rw512 := (Bw51.cell (p := ⟨mb, 0, none⟩) j1).trans E2.out; have rw513 := (Bw51.cell (p := ⟨mb, 1, none⟩) j1).trans E3.out; have rw514 := (Bw51.cell (p := ⟨mb, 2, none⟩) j1).trans E4.out))
  clear HBB e0 e1 e2 e3 e4 rw500 rw501 rw502 rw503 rw504 Bw50 hb50
  have HBB := HBw51.out
  go_wp2_with fail
  go_region_held3 (fun w' => w'.cell? ⟨lb, 0, none⟩ = some (.slice A10 X0.length c10) ∧ w'.cell? ⟨lb, 1, none⟩ = some (.slice A11 X1.length c11) ∧ w'.cell? ⟨mb, 0, none⟩ = some (.slice A40 Z0.length c40) ∧ w'.cell? ⟨mb, 1, none⟩ = some (.slice A41 Z1.length c41) ∧ w'.cell? ⟨mb, 2, none⟩ = some (.slice A42 Z2.length c42) ∧ RowKit.Below WM.heap.size WM w') (first | (refine ⟨?_, ?_, ?_, ?_, ?_, ?_⟩ <;> first | assumption | (refine below_more ?_ _; assumption) | (refine Lib.cell?_alloc_some _ ?_; assumption) | exact Below_drew HBB | exact below_heap HBB rfl rfl rfl rfl) | go_keep | exact below_heap HBB rfl rfl rfl rfl) (first | (go_at_call 27; go_split_ands; (with_reducible refine (capply_any A10 A50 _ c10 _ c50 X0 (turn X0 X1) _ rfl rfl (by omega) (by omega) ?_ ?_ HAN50.out HSM0.out HTS01.out).mono ?_); (refine HX0M.out.below ?_; assumption); (first | exact HAT50.out.below hb51 | exact (HAT50.out.below hb51).drewN _); rintro e9 w60 ⟨v60, rfl, hown60, hb60⟩; rw [EA.out] at hown60; obtain ⟨A60, c60, rfl, _, _, hat60⟩ := at_of_own' hown60; have HAT60 := Lib.hid hat60; have HAN60 := Lib.hid (own_addr hown60); clear hat60 hown60; have Bw60 : RowKit.Below WM.heap.size WM w60 := below_join (by assumption) hb60; have HBw60 := Lib.hid Bw60; have rw600 := (Bw60.cell (p := ⟨lb, 0, none⟩) j0).trans E0.out; have rw601 := (Bw60.cell (p := ⟨lb, 1, none⟩) j0).trans E1.out; have rw602 := (Bw60.cell (p := ⟨mb, 0, none⟩) j1).trans E2.out; have rw603 := (Bw60.cell (p := ⟨mb, 1, none⟩) j1).trans E3.out; have rw604 := (Bw60.cell (p := ⟨mb, 2, none⟩) j1).trans E4.out) | (go_at_call 27; go_split_ands; (with_reducible refine (capply_any A60 A51 _ c60 _ c51 (clean X1) (turn X1 X0) _ rfl rfl (by omega) (by omega) ?_ ?_ HAN51.out HSC1.out HTS10.out).mono ?_); (first | exact HAT60.out | exact HAT60.out.drewN _); (first | exact HAT51.out.below hb60 | exact (HAT51.out.drewN _).below hb60); rintro e9 w61 ⟨v61, rfl, hown61, hb61⟩; rw [EB.out] at hown61; obtain ⟨A61, c61, rfl, _, _, hat61⟩ := at_of_own' hown61; have HAT61 := Lib.hid hat61; have HAN61 := Lib.hid (own_addr hown61); clear hat61 hown61; have Bw61 : RowKit.Below WM.heap.size WM w61 := below_join (by assumption) hb61; have HBw61 := Lib.hid Bw61; have rw610 := (Bw61.cell (p := ⟨lb, 0, none⟩) j0).trans E0.out; have rw611 := (Bw61.cell (p := ⟨lb, 1, none⟩) j0).trans E1.out; have rw612 := (Bw61.cell (p := ⟨mb, 0, none⟩) j1).trans E2.out; have rw613 := (Bw61.cell (p := ⟨mb, 1, none⟩) j1).trans E3.out; have rw614 := (Bw61.cell (p := ⟨mb, 2, none⟩) j1).trans E4.out) | (go_at_call 16; go_split_ands; (with_reducible refine (cclean_any A10 _ c10 X0 _ rfl (by omega) ?_ HSM0.out).mono ?_); (refine HX0M.out.below ?_; assumption); rintro e9 w62 ⟨v62, rfl, hown62, hb62⟩; obtain ⟨A62, c62, rfl, _, _, hat62⟩ := at_of_own' hown62; have HAT62 := Lib.hid hat62; have HAN62 := Lib.hid (own_addr hown62); clear hat62 hown62; have Bw62 : RowKit.Below WM.heap.size WM w62 := below_join (by assumption) hb62; have HBw62 := Lib.hid Bw62; have rw620 := (Bw62.cell (p := ⟨lb, 0, none⟩) j0).trans E0.out; have rw621 := (Bw62.cell (p := ⟨lb, 1, none⟩) j0).trans E1.out; have rw622 := (Bw62.cell (p := ⟨mb, 0, none⟩) j1).trans E2.out; have rw623 := (Bw62.cell (p := ⟨mb, 1, none⟩) j1).trans E3.out; have rw624 := (Bw62.cell (p := ⟨mb, 2, none⟩) j1).trans E4.out) | (go_at_call 24; go_split_ands; (with_reducible refine (csame_any A61 A62 _ c61 _ c62 (clean X0) (clean X0) _ rfl rfl (by unfold maxLen; omega) (by unfold maxLen; omega) ?_ ?_).mono ?_); (first | exact HAT61.out.below hb62 | exact (HAT61.out.drewN _).below hb62); (first | exact HAT62.out | exact HAT62.out.drewN _); rintro e9 w63 ⟨rfl, q63, rfl⟩; have Bw63 : RowKit.Below WM.heap.size WM (w62.drewN q63) := drewN_below' Bw62 q63; have HBw63 := Lib.hid Bw63; have rw630 := (show (w62.drewN q63).cell? ⟨lb, 0, none⟩ = some (.slice A10 X0.length c10) from rw620); have rw631 := (show (w62.drewN q63).cell? ⟨lb, 1, none⟩ = some (.slice A11 X1.length c11) from rw621); have rw632 := (show (w62.drewN q63).cell? ⟨mb, 0, none⟩ = some (.slice A40 Z0.length c40) from rw622); have rw633 := (show (w62.drewN q63).cell? ⟨mb, 1, none⟩ = some (.slice A41 Z1.length c41) from rw623); have rw634 := (show (w62.drewN q63).cell? ⟨mb, 2, none⟩ = some (.slice A42 Z2.length c42) from rw624)))
  clear HBB rw510 rw511 rw512 rw513 rw514 rw600 rw601 rw602 rw603 rw604 rw610 rw611 rw612 rw613 rw614 rw620 rw621 rw622 rw623 rw624 Bw51 Bw60 Bw61 Bw62 hb51 hb60 hb61 hb62
  have HBB := HBw63.out
  go_wp2_with fail
  go_region_held3 (fun w' => w'.cell? ⟨lb, 0, none⟩ = some (.slice A10 X0.length c10) ∧ w'.cell? ⟨lb, 1, none⟩ = some (.slice A11 X1.length c11) ∧ w'.cell? ⟨mb, 0, none⟩ = some (.slice A40 Z0.length c40) ∧ w'.cell? ⟨mb, 1, none⟩ = some (.slice A41 Z1.length c41) ∧ w'.cell? ⟨mb, 2, none⟩ = some (.slice A42 Z2.length c42) ∧ RowKit.Below WM.heap.size WM w') (first | (refine ⟨?_, ?_, ?_, ?_, ?_, ?_⟩ <;> first | assumption | (refine below_more ?_ _; assumption) | (refine Lib.cell?_alloc_some _ ?_; assumption) | exact Below_drew HBB | exact below_heap HBB rfl rfl rfl rfl) | go_keep | exact below_heap HBB rfl rfl rfl rfl) (first | (go_at_call 31; go_split_ands; (with_reducible refine (turn_any A40 A41 _ c40 _ c41 Z0 Z1 _ rfl rfl (by omega) (by omega) HAN40.out HAN41.out ?_ ?_).mono ?_); (refine HZ0M.out.below ?_; assumption); (refine HZ1M.out.below ?_; assumption); rintro e9 w80 ⟨v80, rfl, hown80, hb80⟩; obtain ⟨A80, c80, rfl, _, _, hat80⟩ := at_of_own' hown80; have HAT80 := Lib.hid hat80; have HAN80 := Lib.hid (own_addr hown80); clear hat80 hown80; have Bw80 : RowKit.Below WM.heap.size WM w80 := below_join (by assumption) hb80; have HBw80 := Lib.hid Bw80; have rw800 := (Bw80.cell (p := ⟨lb, 0, none⟩) j0).trans E0.out; have rw801 := (Bw80.cell (p := ⟨lb, 1, none⟩) j0).trans E1.out; have rw802 := (Bw80.cell (p := ⟨mb, 0, none⟩) j1).trans E2.out; have rw803 := (Bw80.cell (p := ⟨mb, 1, none⟩) j1).trans E3.out; have rw804 := (Bw80.cell (p := ⟨mb, 2, none⟩) j1).trans E4.out) | (go_at_call 31; go_split_ands; (with_reducible refine (turn_any A41 A40 _ c41 _ c40 Z1 Z0 _ rfl rfl (by omega) (by omega) HAN41.out HAN40.out ?_ ?_).mono ?_); (refine HZ1M.out.below ?_; assumption); (refine HZ0M.out.below ?_; assumption); rintro e9 w81 ⟨v81, rfl, hown81, hb81⟩; obtain ⟨A81, c81, rfl, _, _, hat81⟩ := at_of_own' hown81; have HAT81 := Lib.hid hat81; have HAN81 := Lib.hid (own_addr hown81); clear hat81 hown81; have Bw81 : RowKit.Below WM.heap.size WM w81 := below_join (by assumption) hb81; have HBw81 := Lib.hid Bw81; have rw810 := (Bw81.cell (p := ⟨lb, 0, none⟩) j0).trans E0.out; have rw811 := (Bw81.cell (p := ⟨lb, 1, none⟩) j0).trans E1.out; have rw812 := (Bw81.cell (p := ⟨mb, 0, none⟩) j1).trans E2.out; have rw813 := (Bw81.cell (p := ⟨mb, 1, none⟩) j1).trans E3.out; have rw814 := (Bw81.cell (p := ⟨mb, 2, none⟩) j1).trans E4.out))
  clear HBB rw630 rw631 rw632 rw633 rw634 rw800 rw801 rw802 rw803 rw804 Bw63 Bw80 hb80
  have HBB := HBw81.out
  have hxy1 : (turnP Z0 Z1).length ≤ (turnP Z1 Z0).length := Nat.le_of_eq HXY.out
  have hxy2 : (turnP Z1 Z0).length ≤ (turnP Z0 Z1).length := Nat.le_of_eq HXY.out.symm
  have htri : ((turnP Z0 Z1).length : Int) ≤ ((turnP Z0 Z2).length : Int) + ((turnP Z2 Z1).length : Int) := by have := HTRI.out; omega
  have hself : (turn X0 X0).length ≤ 0 := Nat.le_of_eq HSELF.out
  have hle : ((turn X0 X1).length : Int) ≤ ((clean X0).length : Int) + ((clean X1).length : Int) := by have := HLE.out; omega
  go_wp2_with fail
  go_region_held3 (fun w' => w'.cell? ⟨lb, 0, none⟩ = some (.slice A10 X0.length c10) ∧ w'.cell? ⟨lb, 1, none⟩ = some (.slice A11 X1.length c11) ∧ w'.cell? ⟨mb, 0, none⟩ = some (.slice A40 Z0.length c40) ∧ w'.cell? ⟨mb, 1, none⟩ = some (.slice A41 Z1.length c41) ∧ w'.cell? ⟨mb, 2, none⟩ = some (.slice A42 Z2.length c42) ∧ RowKit.Below WM.heap.size WM w') (first | (refine ⟨?_, ?_, ?_, ?_, ?_, ?_⟩ <;> first | assumption | (refine below_more ?_ _; assumption) | (refine Lib.cell?_alloc_some _ ?_; assumption) | exact Below_drew HBB | exact below_heap HBB rfl rfl rfl rfl) | go_keep | exact below_heap HBB rfl rfl rfl rfl) (first | (go_at_call 36; go_split_ands; (with_reducible refine (apply_any A40 A80 _ c40 _ c80 Z0 (turnP Z0 Z1) _ rfl rfl (by omega) (by omega) HAN80.out ?_ ?_).mono ?_); (refine HZ0M.out.below ?_; assumption); (first | exact HAT80.out.below hb81 | exact (HAT80.out.below hb81).drewN _); rintro e9 w90 ⟨v90, rfl, hown90, hb90⟩; rw [EP.out] at hown90; obtain ⟨A90, c90, rfl, _, _, hat90⟩ := at_of_own' hown90; have HAT90 := Lib.hid hat90; have HAN90 := Lib.hid (own_addr hown90); clear hat90 hown90; have Bw90 : RowKit.Below WM.heap.size WM w90 := below_join (by assumption) hb90; have HBw90 := Lib.hid Bw90; have rw900 := (Bw90.cell (p := ⟨lb, 0, none⟩) j0).trans E0.out; have rw901 := (Bw90.cell (p := ⟨lb, 1, none⟩) j0).trans E1.out; have rw902 := (Bw90.cell (p := ⟨mb, 0, none⟩) j1).trans E2.out; have rw903 := (Bw90.cell (p := ⟨mb, 1, none⟩) j1).trans E3.out; have rw904 := (Bw90.cell (p := ⟨mb, 2, none⟩) j1).trans E4.out) | (go_at_call 36; go_split_ands; (with_reducible refine (apply_any A90 A81 _ c90 _ c81 Z1 (turnP Z1 Z0) _ rfl rfl (by omega) (by omega) HAN81.out ?_ ?_).mono ?_); (first | exact HAT90.out | exact HAT90.out.drewN _); (first | exact HAT81.out.below hb90 | exact (HAT81.out.drewN _).below hb90); rintro e9 w91 ⟨v91, rfl, hown91, hb91⟩; rw [EQ.out] at hown91; obtain ⟨A91, c91, rfl, _, _, hat91⟩ := at_of_own' hown91; have HAT91 := Lib.hid hat91; have HAN91 := Lib.hid (own_addr hown91); clear hat91 hown91; have Bw91 : RowKit.Below WM.heap.size WM w91 := below_join (by assumption) hb91; have HBw91 := Lib.hid Bw91; have rw910 := (Bw91.cell (p := ⟨lb, 0, none⟩) j0).trans E0.out; have rw911 := (Bw91.cell (p := ⟨lb, 1, none⟩) j0).trans E1.out; have rw912 := (Bw91.cell (p := ⟨mb, 0, none⟩) j1).trans E2.out; have rw913 := (Bw91.cell (p := ⟨mb, 1, none⟩) j1).trans E3.out; have rw914 := (Bw91.cell (p := ⟨mb, 2, none⟩) j1).trans E4.out) | (go_at_call 38; go_split_ands; (with_reducible refine (same_map A91 A40 _ c91 _ c40 Z0 Z0 _ rfl rfl (by omega) (by omega) HAN91.out HAN40.out ?_ ?_).mono ?_); (first | exact HAT91.out | exact HAT91.out.drewN _); (refine HZ0M.out.below ?_; assumption); rintro e9 w92 ⟨rfl, hb92⟩; have Bw92 : RowKit.Below WM.heap.size WM w92 := below_join (by assumption) hb92; have HBw92 := Lib.hid Bw92; have rw920 := (Bw92.cell (p := ⟨lb, 0, none⟩) j0).trans E0.out; have rw921 := (Bw92.cell (p := ⟨lb, 1, none⟩) j0).trans E1.out; have rw922 := (Bw92.cell (p := ⟨mb, 0, none⟩) j1).trans E2.out; have rw923 := (Bw92.cell (p := ⟨mb, 1, none⟩) j1).trans E3.out; have rw924 := (Bw92.cell (p := ⟨mb, 2, none⟩) j1).trans E4.out))
  clear HBB rw810 rw811 rw812 rw813 rw814 rw900 rw901 rw902 rw903 rw904 rw910 rw911 rw912 rw913 rw914 Bw81 Bw90 Bw91 hb81 hb90 hb91 hb92
  have HBB := HBw92.out
  have hp02 : (turnP Z0 Z2).length ≤ 16 := by have := turnP_len Z0 Z2; have := ofP_len Z0; have := ofP_len Z2; omega
  have hp21 : (turnP Z2 Z1).length ≤ 16 := by have := turnP_len Z2 Z1; have := ofP_len Z2; have := ofP_len Z1; omega
  have hws1 : IntKind.i64.wrap (((turnP Z0 Z2).length : Int) + ((turnP Z2 Z1).length : Int)) = ((turnP Z0 Z2).length : Int) + ((turnP Z2 Z1).length : Int) := by rw [IntKind.wrap_i64]; omega
  have hws2 : IntKind.i64.wrap (((clean X0).length : Int) + ((clean X1).length : Int)) = ((clean X0).length : Int) + ((clean X1).length : Int) := by rw [IntKind.wrap_i64]; omega
  have hself0 : ((turn X0 X0).length : Int) = 0 := by omega
  clear hself
  go_wp2_with fail
  go_region_held3 (fun w' => w'.cell? ⟨lb, 0, none⟩ = some (.slice A10 X0.length c10) ∧ w'.cell? ⟨lb, 1, none⟩ = some (.slice A11 X1.length c11) ∧ w'.cell? ⟨mb, 0, none⟩ = some (.slice A40 Z0.length c40) ∧ w'.cell? ⟨mb, 1, none⟩ = some (.slice A41 Z1.length c41) ∧ w'.cell? ⟨mb, 2, none⟩ = some (.slice A42 Z2.length c42) ∧ RowKit.Below WM.heap.size WM w') (first | (refine ⟨?_, ?_, ?_, ?_, ?_, ?_⟩ <;> first | assumption | (refine below_more ?_ _; assumption) | (refine Lib.cell?_alloc_some _ ?_; assumption) | exact Below_drew HBB | exact below_heap HBB rfl rfl rfl rfl) | go_keep | exact below_heap HBB rfl rfl rfl rfl) (first | (go_at_call 31; go_split_ands; (with_reducible refine (turn_any A40 A42 _ c40 _ c42 Z0 Z2 _ rfl rfl (by omega) (by omega) HAN40.out HAN42.out ?_ ?_).mono ?_); (refine HZ0M.out.below ?_; assumption); (refine HZ2M.out.below ?_; assumption); rintro e9 w110 ⟨v110, rfl, hown110, hb110⟩; obtain ⟨A110, c110, rfl, _, _, hat110⟩ := at_of_own' hown110; have HAT110 := Lib.hid hat110; have HAN110 := Lib.hid (own_addr hown110); clear hat110 hown110; have Bw110 : RowKit.Below WM.heap.size WM w110 := below_join (by assumption) hb110; have HBw110 := Lib.hid Bw110; have rw1100 := (Bw110.cell (p := ⟨lb, 0, none⟩) j0).trans E0.out; have rw1101 := (Bw110.cell (p := ⟨lb, 1, none⟩) j0).trans E1.out; have rw1102 := (Bw110.cell (p := ⟨mb, 0, none⟩) j1).trans E2.out; have rw1103 := (Bw110.cell (p := ⟨mb, 1, none⟩) j1).trans E3.out; have rw1104 := (Bw110.cell (p := ⟨mb, 2, none⟩) j1).trans E4.out) | (go_at_call 31; go_split_ands; (with_reducible refine (turn_any A42 A41 _ c42 _ c41 Z2 Z1 _ rfl rfl (by omega) (by omega) HAN42.out HAN41.out ?_ ?_).mono ?_); (refine HZ2M.out.below ?_; assumption); (refine HZ1M.out.below ?_; assumption); rintro e9 w111 ⟨v111, rfl, hown111, hb111⟩; obtain ⟨A111, c111, rfl, _, _, hat111⟩ := at_of_own' hown111; have HAT111 := Lib.hid hat111; have HAN111 := Lib.hid (own_addr hown111); clear hat111 hown111; have Bw111 : RowKit.Below WM.heap.size WM w111 := below_join (by assumption) hb111; have HBw111 := Lib.hid Bw111; have rw1110 := (Bw111.cell (p := ⟨lb, 0, none⟩) j0).trans E0.out; have rw1111 := (Bw111.cell (p := ⟨lb, 1, none⟩) j0).trans E1.out; have rw1112 := (Bw111.cell (p := ⟨mb, 0, none⟩) j1).trans E2.out; have rw1113 := (Bw111.cell (p := ⟨mb, 1, none⟩) j1).trans E3.out; have rw1114 := (Bw111.cell (p := ⟨mb, 2, none⟩) j1).trans E4.out) | (go_at_call 25; go_split_ands; (with_reducible refine (cturn_any A10 A10 _ c10 _ c10 X0 X0 _ rfl rfl (by omega) (by omega) ?_ ?_ HSM0.out HSM0.out).mono ?_); (refine HX0M.out.below ?_; assumption); (refine HX0M.out.below ?_; assumption); rintro e9 w112 ⟨v112, rfl, hown112, hb112⟩; obtain ⟨A112, c112, rfl, _, _, hat112⟩ := at_of_own' hown112; have HAT112 := Lib.hid hat112; have HAN112 := Lib.hid (own_addr hown112); clear hat112 hown112; have Bw112 : RowKit.Below WM.heap.size WM w112 := below_join (by assumption) hb112; have HBw112 := Lib.hid Bw112; have rw1120 := (Bw112.cell (p := ⟨lb, 0, none⟩) j0).trans E0.out; have rw1121 := (Bw112.cell (p := ⟨lb, 1, none⟩) j0).trans E1.out; have rw1122 := (Bw112.cell (p := ⟨mb, 0, none⟩) j1).trans E2.out; have rw1123 := (Bw112.cell (p := ⟨mb, 1, none⟩) j1).trans E3.out; have rw1124 := (Bw112.cell (p := ⟨mb, 2, none⟩) j1).trans E4.out) | (go_at_call 16; go_split_ands; (with_reducible refine (cclean_any A10 _ c10 X0 _ rfl (by omega) ?_ HSM0.out).mono ?_); (refine HX0M.out.below ?_; assumption); rintro e9 w113 ⟨v113, rfl, hown113, hb113⟩; obtain ⟨A113, c113, rfl, _, _, hat113⟩ := at_of_own' hown113; have HAT113 := Lib.hid hat113; have HAN113 := Lib.hid (own_addr hown113); clear hat113 hown113; have Bw113 : RowKit.Below WM.heap.size WM w113 := below_join (by assumption) hb113; have HBw113 := Lib.hid Bw113; have rw1130 := (Bw113.cell (p := ⟨lb, 0, none⟩) j0).trans E0.out; have rw1131 := (Bw113.cell (p := ⟨lb, 1, none⟩) j0).trans E1.out; have rw1132 := (Bw113.cell (p := ⟨mb, 0, none⟩) j1).trans E2.out; have rw1133 := (Bw113.cell (p := ⟨mb, 1, none⟩) j1).trans E3.out; have rw1134 := (Bw113.cell (p := ⟨mb, 2, none⟩) j1).trans E4.out) | (go_at_call 16; go_split_ands; (with_reducible refine (cclean_any A11 _ c11 X1 _ rfl (by omega) ?_ HSM1.out).mono ?_); (refine HX1M.out.below ?_; assumption); rintro e9 w114 ⟨v114, rfl, hown114, hb114⟩; obtain ⟨A114, c114, rfl, _, _, hat114⟩ := at_of_own' hown114; have HAT114 := Lib.hid hat114; have HAN114 := Lib.hid (own_addr hown114); clear hat114 hown114; have Bw114 : RowKit.Below WM.heap.size WM w114 := below_join (by assumption) hb114; have HBw114 := Lib.hid Bw114; have rw1140 := (Bw114.cell (p := ⟨lb, 0, none⟩) j0).trans E0.out; have rw1141 := (Bw114.cell (p := ⟨lb, 1, none⟩) j0).trans E1.out; have rw1142 := (Bw114.cell (p := ⟨mb, 0, none⟩) j1).trans E2.out; have rw1143 := (Bw114.cell (p := ⟨mb, 1, none⟩) j1).trans E3.out; have rw1144 := (Bw114.cell (p := ⟨mb, 2, none⟩) j1).trans E4.out))
  go_wp2
  go_ret
  exact ⟨ret_bool' (by simp), HWW.out.trans (HBw114.out.mono HWW.out.size)⟩
end Go.Proofs.Ytibcfmfihcgijaa
