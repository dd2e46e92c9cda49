/- Contract of flip's between: how far one lies from where it was, of two rising lists. -/
import Derived.Test.YtdaohjimfgdmbaaFpW1
namespace Go.Proofs.Ytdaohjimfgdmbaa
open Go.RowKit Sn
/-- o is what R has of a number. -/
def Look (R : List En) (id : Int) (o : Option En) : Prop := match o with
  | some e => ∃ k, k < R.length ∧ el R k = e ∧ e.id = id
  | none => ∀ k, k < R.length → (el R k).id ≠ id
theorem look_of {L R : List En} (h : Is En.id L R) (id : Int) : Look R id (lastAt En.id L id) := by
  cases hl : lastAt En.id L id with
  | none =>
    intro k hk e
    have := h.mem.1 (el_mem hk)
    rw [e, hl] at this
    cases this
  | some e =>
    obtain ⟨_, he⟩ := lastAt_some hl
    have hm : e ∈ R := h.mem.2 (by rw [he]; exact hl)
    obtain ⟨k, hk, hk2⟩ := mem_el hm
    exact ⟨k, hk, hk2, he⟩
/-- how far. -/
def dxy (p q : Option En) : Int × Int := match p, q with
  | some a, some b => (sb a.x b.x, sb a.y b.y)
  | _, _ => (0, 0)
set_option maxHeartbeats 4000000 in
set_option maxRecDepth 100000 in
theorem between_any (A B : Option Addr) (n c m d : Nat) (R S : List En) (id : Int) (p q : Option En) (w : World) (hn : n = R.length) (hm : m = S.length) (hb : n ≤ 100000) (hb2 : m ≤ 100000) (ha : At w A (ecs R)) (ha2 : At w B (ecs S)) (hu : Up En.id R) (hv : Up En.id S) (hp : Look R id p) (hq : Look S id q) :
    Calls Try.prog 47 #[.slice A n c, .slice B m d, .int .i64 id] w fun e w' => e = .returned (.agg #[.int .i64 id, .int .i64 (dxy p q).1, .int .i64 (dxy p q).2]) ∧ Below w.heap.size w w' := by
  obtain ⟨g, hg⟩ : ∃ g, g = w.heap.size := ⟨_, rfl⟩
  obtain ⟨W0, hW0⟩ : ∃ W, W = w.alloc (.cells #[.int .i64 0, .int .i64 0, .int .i64 0] 59) := ⟨_, rfl⟩
  have B0 : Blk W0 g 59 #[.int .i64 0, .int .i64 0, .int .i64 0] := by rw [hW0, hg]; exact Blk.new w _ _
  have hB0 : Below w.heap.size w W0 := by rw [hW0]; exact below_alloc w _
  have HK := Lib.hid B0
  have HB := Lib.hid hB0
  have HAT1 := Lib.hid (fun W (h : Below W0.heap.size W0 W) => (ha.below hB0).below h)
  have HAT2 := Lib.hid (fun W (h : Below W0.heap.size W0 W) => (ha2.below hB0).below h)
  have HG := Lib.hid hg
  have HW0 := Lib.hid hW0
  have HN := Lib.hid hn
  have HM := Lib.hid hm
  have HU := Lib.hid hu
  have HV := Lib.hid hv
  clear hg hW0 B0 hB0 ha ha2 hn hm hu hv
  cases p with
  | none =>
    have C1 := Lib.hid (find_no A n c R id W0 HN.out hb (HAT1.out _ (Below.refl _ _)) HU.out hp)
    clear hp
    have C2 : Hid (∀ W, Below W0.heap.size W0 W → Calls Try.prog 49 #[.slice B m d, .int .i64 id] W fun e w' => ∃ (k : Nat) (t : Bool), e = .returned (.tuple #[.int .i64 (k : Nat), .bool t]) ∧ Below W.heap.size W w') := by
      intro W h
      cases q with
      | none =>
        refine (find_no B m d S id W HM.out hb2 (HAT2.out W h) HV.out hq).mono ?_
        rintro e w' ⟨k, rfl, hb⟩
        exact ⟨k, _, rfl, hb⟩
      | some e2 =>
        obtain ⟨k2, hk2, he2, hi2⟩ := hq
        refine (find_yes B m d S id W HM.out hb2 (HAT2.out W h) HV.out k2 (by have := HM.out; omega) (by rw [he2]; exact hi2)).mono ?_
        rintro e w' ⟨rfl, hb⟩
        exact ⟨k2, _, rfl, hb⟩
    have HD : Hid (dxy none q = (0, 0)) := by show dxy none q = (0, 0); cases q <;> rfl
    rw [HD.out]
    clear hq
    go_enter Try.func47, Try.ntmps47
    go_upto_region 1 with fail
    rw [← HW0.out, ← HG.out]
    go_wp2_with fail
    refine C1.out.mono ?_
    rintro e w1 ⟨k1, rfl, hb1⟩
    go_wp2_with fail
    refine (C2.out _ hb1).mono ?_
    rintro e w3 ⟨k2, t2, rfl, hb2'⟩
    have hb3 := below_joinS hb1 hb2'
    have HK3 := Lib.hid (HK.out.below hb3)
    have HB3 := Lib.hid (HB.out.trans (hb3.mono HB.out.size))
    have r0 := HK3.out.cell 0 (v := .int .i64 0) rfl
    have r1 := HK3.out.cell 1 (v := .int .i64 0) rfl
    have r2 := HK3.out.cell 2 (v := .int .i64 0) rfl
    have f0 := HK3.out.frozen 0
    have f1 := HK3.out.frozen 1
    have f2 := HK3.out.frozen 2
    clear hb1 hb2' hb3 C1 C2 HK HB
    cases t2
    all_goals
      go_wp2
      obtain ⟨V, hV⟩ : ∃ V, V = ((w3.setCell ⟨g, 0, none⟩ (.int .i64 id)).setCell ⟨g, 1, none⟩ (.int .i64 0)).setCell ⟨g, 2, none⟩ (.int .i64 0) := ⟨_, rfl⟩
      rw [← hV]
      have hgw : w.heap.size ≤ g := by have := HG.out; omega
      have K3 : Blk V g 59 #[.int .i64 id, .int .i64 0, .int .i64 0] := by rw [hV]; exact ((HK3.out.set 0 _).set 1 _).set 2 _
      have BV : Below w.heap.size w V := by rw [hV]; exact ((HB3.out.setCell (p := ⟨g, 0, none⟩) hgw _).setCell (p := ⟨g, 1, none⟩) hgw _).setCell (p := ⟨g, 2, none⟩) hgw _
      clear hV
      exact bodyPost_ret (results_mid rfl _ _ g 0 [.int .i64 id, .int .i64 0, .int .i64 0] _ rfl (blk_rangeS K3) Try.underlying59 rfl (by kernel_rfl)) rfl ⟨rfl, BV⟩
  | some e1 =>
    obtain ⟨k1, hk1, he1, hi1⟩ := hp
    have C1 := Lib.hid (find_yes A n c R id W0 HN.out hb (HAT1.out _ (Below.refl _ _)) HU.out k1 (by have := HN.out; omega) (by rw [he1]; exact hi1))
    cases q with
    | none =>
      have C2 := Lib.hid (fun W (h : Below W0.heap.size W0 W) => find_no B m d S id W HM.out hb2 (HAT2.out W h) HV.out hq)
      clear hq hk1 he1 hi1
      go_enter Try.func47, Try.ntmps47
      go_upto_region 1 with fail
      rw [← HW0.out, ← HG.out]
      go_wp2_with fail
      refine C1.out.mono ?_
      rintro e w1 ⟨rfl, hb1⟩
      go_wp2_with fail
      refine (C2.out _ hb1).mono ?_
      rintro e w3 ⟨k2, rfl, hb2'⟩
      have hb3 := below_joinS hb1 hb2'
      have HK3 := Lib.hid (HK.out.below hb3)
      have HB3 := Lib.hid (HB.out.trans (hb3.mono HB.out.size))
      have r0 := HK3.out.cell 0 (v := .int .i64 0) rfl
      have r1 := HK3.out.cell 1 (v := .int .i64 0) rfl
      have r2 := HK3.out.cell 2 (v := .int .i64 0) rfl
      have f0 := HK3.out.frozen 0
      have f1 := HK3.out.frozen 1
      have f2 := HK3.out.frozen 2
      clear hb1 hb2' hb3 C1 C2 HK HB
      go_wp2
      obtain ⟨V, hV⟩ : ∃ V, V = ((w3.setCell ⟨g, 0, none⟩ (.int .i64 id)).setCell ⟨g, 1, none⟩ (.int .i64 0)).setCell ⟨g, 2, none⟩ (.int .i64 0) := ⟨_, rfl⟩
      rw [← hV]
      have hgw : w.heap.size ≤ g := by have := HG.out; omega
      have K3 : Blk V g 59 #[.int .i64 id, .int .i64 0, .int .i64 0] := by rw [hV]; exact ((HK3.out.set 0 _).set 1 _).set 2 _
      have BV : Below w.heap.size w V := by rw [hV]; exact ((HB3.out.setCell (p := ⟨g, 0, none⟩) hgw _).setCell (p := ⟨g, 1, none⟩) hgw _).setCell (p := ⟨g, 2, none⟩) hgw _
      clear hV
      exact bodyPost_ret (results_mid rfl _ _ g 0 [.int .i64 id, .int .i64 0, .int .i64 0] _ rfl (blk_rangeS K3) Try.underlying59 rfl (by kernel_rfl)) rfl ⟨rfl, BV⟩
    | some e2 =>
      obtain ⟨k2, hk2, he2, hi2⟩ := hq
      have C2 := Lib.hid (fun W (h : Below W0.heap.size W0 W) => find_yes B m d S id W HM.out hb2 (HAT2.out W h) HV.out k2 (by have := HM.out; omega) (by rw [he2]; exact hi2))
      have hk1n : k1 < n := by have := HN.out; omega
      have hk2m : k2 < m := by have := HM.out; omega
      have HK1 := Lib.hid hk1
      have HK2 := Lib.hid hk2
      have HE1 := Lib.hid he1
      have HE2 := Lib.hid he2
      clear hk1 hk2 he1 he2 hi1 hi2
      go_enter Try.func47, Try.ntmps47
      go_upto_region 1 with fail
      rw [← HW0.out, ← HG.out]
      go_wp2_with fail
      refine C1.out.mono ?_
      rintro e w1 ⟨rfl, hb1⟩
      go_wp2_with fail
      refine (C2.out _ hb1).mono ?_
      rintro e w4 ⟨rfl, hb2'⟩
      have hb4 := below_joinS hb1 hb2'
      have HB4 := Lib.hid hb4
      obtain ⟨b1, o1, rfl, hb1l, c0, c1, c2, c3, c4⟩ := at_en (HAT1.out _ hb4) HK1.out
      obtain ⟨b2, o2, rfl, hb2l, d0, d1, d2, d3, d4⟩ := at_en (HAT2.out _ hb4) HK2.out
      rw [HE1.out] at c1 c2 c3 c4
      rw [HE2.out] at d1 d2 d3 d4
      clear hb1 hb2' hb4 C1 C2 c0 d0
      obtain ⟨i1, z1, z2, z3, z4⟩ := e1
      obtain ⟨i2, y1, y2, y3, y4⟩ := e2
      dsimp only at c1 c2 c3 c4 d1 d2 d3 d4
      have CO := Lib.hid (fun W => offset_any z1 z2 z3 z4 y1 y2 y3 y4 W)
      go_upto_region 5 with fail
      go_region_held3 (fun w' => w'.cell? ⟨b1, o1 + k1 * 5 + 1, none⟩ = some (.int .i64 z1) ∧ w'.cell? ⟨b1, o1 + k1 * 5 + 2, none⟩ = some (.int .i64 z2) ∧ w'.cell? ⟨b1, o1 + k1 * 5 + 3, none⟩ = some (.int .i64 z3) ∧ w'.cell? ⟨b1, o1 + k1 * 5 + 4, none⟩ = some (.int .i64 z4) ∧ w'.cell? ⟨b2, o2 + k2 * 5 + 1, none⟩ = some (.int .i64 y1) ∧ w'.cell? ⟨b2, o2 + k2 * 5 + 2, none⟩ = some (.int .i64 y2) ∧ w'.cell? ⟨b2, o2 + k2 * 5 + 3, none⟩ = some (.int .i64 y3) ∧ w'.cell? ⟨b2, o2 + k2 * 5 + 4, none⟩ = some (.int .i64 y4) ∧ Below w4.heap.size w4 w') (first | (refine ⟨?_, ?_, ?_, ?_, ?_, ?_, ?_, ?_, ?_⟩ <;> first | with_reducible assumption | exact Below_drew (Below.refl _ _) | go_keep) | go_keep) (first | (go_at_call 31; (with_reducible refine (CO.out _).mono ?_); rintro e9 w5 ⟨rfl, hb9⟩; go_split_ands; have B9 : Below w4.heap.size w4 w5 := below_joinS (by first | with_reducible assumption | exact Below_drew (Below.refl _ _)) hb9; have q0 := (B9.cell (p := ⟨b1, o1 + k1 * 5 + 1, none⟩) hb1l).trans c1; have q1 := (B9.cell (p := ⟨b1, o1 + k1 * 5 + 2, none⟩) hb1l).trans c2; have q2 := (B9.cell (p := ⟨b1, o1 + k1 * 5 + 3, none⟩) hb1l).trans c3; have q3 := (B9.cell (p := ⟨b1, o1 + k1 * 5 + 4, none⟩) hb1l).trans c4; have q4 := (B9.cell (p := ⟨b2, o2 + k2 * 5 + 1, none⟩) hb2l).trans d1; have q5 := (B9.cell (p := ⟨b2, o2 + k2 * 5 + 2, none⟩) hb2l).trans d2; have q6 := (B9.cell (p := ⟨b2, o2 + k2 * 5 + 3, none⟩) hb2l).trans d3; have q7 := (B9.cell (p := ⟨b2, o2 + k2 * 5 + 4, none⟩) hb2l).trans d4))
      all_goals
        go_split_ands
        have hb3 : Below W0.heap.size W0 w5 := below_joinS HB4.out B9
        clear B9
        have HK3 := Lib.hid (HK.out.below hb3)
        have HB3 := Lib.hid (HB.out.trans (hb3.mono HB.out.size))
        have r0 := HK3.out.cell 0 (v := .int .i64 0) rfl
        have r1 := HK3.out.cell 1 (v := .int .i64 0) rfl
        have r2 := HK3.out.cell 2 (v := .int .i64 0) rfl
        have f0 := HK3.out.frozen 0
        have f1 := HK3.out.frozen 1
        have f2 := HK3.out.frozen 2
        clear hb3 HK HB c1 c2 c3 c4 d1 d2 d3 d4 q0 q1 q2 q3 q4 q5 q6 q7
        go_wp2
        obtain ⟨V, hV⟩ : ∃ V, V = ((w5.setCell ⟨g, 0, none⟩ (.int .i64 id)).setCell ⟨g, 1, none⟩ (.int .i64 (sb z1 y1))).setCell ⟨g, 2, none⟩ (.int .i64 (sb z2 y2)) := ⟨_, rfl⟩
        rw [← hV]
        have hgw : w.heap.size ≤ g := by have := HG.out; omega
        have K3 : Blk V g 59 #[.int .i64 id, .int .i64 (sb z1 y1), .int .i64 (sb z2 y2)] := by rw [hV]; exact ((HK3.out.set 0 _).set 1 _).set 2 _
        have BV : Below w.heap.size w V := by rw [hV]; exact ((HB3.out.setCell (p := ⟨g, 0, none⟩) hgw _).setCell (p := ⟨g, 1, none⟩) hgw _).setCell (p := ⟨g, 2, none⟩) hgw _
        clear hV
        exact bodyPost_ret (results_mid rfl _ _ g 0 [.int .i64 id, .int .i64 (sb z1 y1), .int .i64 (sb z2 y2)] _ rfl (blk_rangeS K3) Try.underlying59 rfl (by kernel_rfl)) rfl ⟨rfl, BV⟩
end Go.Proofs.Ytdaohjimfgdmbaa
