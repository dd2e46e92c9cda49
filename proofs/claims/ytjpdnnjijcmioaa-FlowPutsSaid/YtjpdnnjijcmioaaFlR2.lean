/- Contract of the document's place. -/
import Derived.Test.YtjpdnnjijcmioaaFlR1
import Derived.StillTailTactics
namespace Go.Proofs.Ytjpdnnjijcmioaa
open Go.RowKit M Fl
attribute [-go_sem] Builtin.append_
theorem infoRP : (Try.prog.info? 72).map (fun i => (i.zero, i.size, i.bytes)) = some (some (.agg #[.int .i64 0, .int .i64 0]), 2, 16) := by kernel_rfl
theorem sradd_any (a b : Int) (w : World) : Calls Try.prog 17 #[.int .i64 a, .int .i64 b] w fun e w' => e = .returned (.int .i64 (ad a b)) ∧ w' = w := (radd_any' a b w).mono fun _ _ h => ⟨h.1, h.2.symm⟩
theorem own_blk {w : World} {base g : Nat} {e t : TypeId} {size n : Nat} {v : Value} {xs : List Value} {cs : Array Value} (h : w.ownsRow base e size v n xs) (k : Blk w g t cs) (hne : t ≠ e) : v.ownBlock = .none ∨ v.ownBlock ≠ some g := by
  rcases h.2 with ⟨rfl, _⟩ | ⟨g', c', cur, rfl, _, hh, _⟩
  · exact .inl rfl
  · refine .inr fun e9 => ?_
    simp only [Value.ownBlock, Option.some.injEq] at e9
    subst e9
    unfold Blk at k
    rw [k] at hh
    injection hh with hh
    injection hh with _ he _
    exact hne he
theorem own_blk' {w : World} {base g : Nat} {e t : TypeId} {size n : Nat} {v : Value} {xs : List Value} {cs : Array Value} (h : w.ownsRow base e size v n xs) (k : Blk w g t cs) (hne : t ≠ e) : some g ≠ v.ownBlock := by
  rcases own_blk h k hne with h1 | h1
  · rw [h1]; simp
  · exact fun e9 => h1 e9.symm
theorem own_setb {w : World} {base g o : Nat} {e t : TypeId} {size n : Nat} {v u : Value} {xs : List Value} {cs : Array Value} (h : w.ownsRow base e size v n xs) (k : Blk w g t cs) (hne : t ≠ e) : (w.setCell ⟨g, o, .none⟩ u).ownsRow base e size v n xs :=
  h.kept (grown_set w ⟨g, o, .none⟩ u) (own_blk h k hne)
theorem iz_nums_at (a b j : Nat) (h : j < b - a) : (iz (nums a b))[j]? = some (.int .i64 ((a + j : Nat) : Int)) := by
  unfold iz
  rw [List.getElem?_map, nums_at a b j h]
  rfl
theorem lns_at (L : List Bx) (k : Nat) (h : k < L.length) : (L.map fun b => (ln b.1, ln b.2)).getD k (0, 0) = (ln (L.getD k (0, 0)).1, ln (L.getD k (0, 0)).2) := by
  simp [List.getD_eq_getElem?_getD, List.getElem?_map, List.getElem?_eq_getElem h]
set_option maxHeartbeats 4000000 in
set_option maxRecDepth 100000 in
theorem place_any (sp : Int) (bg : Nat → Int → Bool) (L : List Bx) (AG AS : Option Addr) (N cG n cS : Nat) (vs : Nat → Value) (s : Nat → Nat) (w : World) (hs0 : 0 ≤ sp) (hn : n = L.length) (hb : n ≤ 1000) (hN : N ≤ n)
    (hG : At w AG ((List.range N).map vs)) (hE : ∀ j, j < N → ∃ A c, vs j = .slice A (s (j + 1) - s j) c ∧ At w A (iz (nums (s j) (s (j + 1))))) (hP : Parts sp bg L N n s) (hS : At w AS (cc (L.map fun b => (ln b.1, ln b.2)))) :
    Calls Try.prog 56 #[.slice AG N cG, .slice AS n cS, .int .i64 sp] w fun e w' => ∃ v, e = .returned (.tuple #[v, .agg #[.int .i64 (run sp bg L n).2.2.1, .int .i64 (run sp bg L n).2.2.2]]) ∧ w'.ownsRow w.heap.size 72 2 v n (cc (pts sp bg L n)) ∧ Below w.heap.size w w' := by
  have HG := Lib.hid hG
  have HE := Lib.hid hE
  have HP := Lib.hid hP
  have HS := Lib.hid hS
  have HN := Lib.hid hn
  have HS0 := Lib.hid hs0
  clear hG hE hP hS hn hs0
  obtain ⟨i0, hi, hz0, hz1, hz2⟩ := info_parts infoRP
  go_enter Try.func56, Try.ntmps56
  go_wp2_with fail
  obtain ⟨W1, hW1⟩ : ∃ W1, W1 = ((w.alloc (.cells #[.int .i64 0, .int .i64 0] 68)).alloc (.cells #[] 72)).alloc (.cells #[.int .i64 0, .int .i64 0] 68) := ⟨_, rfl⟩
  rw [← hW1]
  generalize hg : w.heap.size = g at *
  have K1 : Hid (Blk W1 g 68 #[.int .i64 0, .int .i64 0]) := by show Blk _ _ _ _; rw [hW1]; exact ((Blk.new' w _ _ g hg).alloc _).alloc _
  have R1 : Hid (Blk W1 (g + 2) 68 #[.int .i64 0, .int .i64 0]) := by show Blk _ _ _ _; rw [hW1]; exact Blk.new' _ _ _ _ (by rw [size_alloc, size_alloc, hg])
  have O1 : Hid (W1.ownsRow (g + 1) 72 2 (.slice (some ⟨g + 1, 0, none⟩) 0 0) 0 []) := by
    show World.ownsRow _ _ _ _ _ _ _
    rw [hW1]
    exact (own_made _ (g + 1) (by rw [size_alloc, hg]) (Nat.le_refl _)).alloc _
  have B1 : Hid (Below g w W1) := by show Below _ _ _; rw [hW1, ← hg]; exact ((below_alloc w _).alloc (by simp) _).alloc (by rw [size_alloc, size_alloc]; omega) _
  have z1 : W1.heap.size = g + 3 := by rw [hW1, size_alloc, size_alloc, size_alloc, hg]
  clear hW1
  have HGG := Lib.hid hg
  clear hg
  go_loopw [8, 10, 21] (fun vo y i wr => ∃ (r : Nat) (yy : Int), r ≤ N ∧ i = .int .i64 r ∧ y = .int .i64 yy ∧ Hid (r < N → yy = if s r = 0 then 0 else ad (run sp bg L (s r)).2.2.2 sp) ∧ Hid (wr.ownsRow (g + 1) 72 2 vo (s r) (cc (pts sp bg L (s r)))) ∧
    Hid (Blk wr (g + 2) 68 #[.int .i64 (run sp bg L (s r)).2.2.1, .int .i64 (run sp bg L (s r)).2.2.2]) ∧ Hid (Blk wr g 68 #[.int .i64 0, .int .i64 0]) ∧ Hid (Below g w wr) ∧ g + 3 ≤ wr.heap.size) (fun _ _ i _ => N - (intOf i).toNat)
  case atStart =>
    refine ⟨0, 0, Nat.zero_le _, rfl, rfl, fun _ => ?_, ?_, ?_, K1, B1, by omega⟩
    · rw [HP.out.z]; rfl
    · rw [HP.out.z]; exact O1.out
    · rw [HP.out.z]; exact R1.out
  case round =>
    obtain ⟨r, yy, hr, rfl, rfl, hy, hown, hR, hK, hbel, hsz⟩ := hrel
    by_cases hlt : r < N
    · obtain ⟨A, c, hv, hA⟩ := HE.out r hlt
      have hup := HP.out.up r hlt
      have hcap := HP.out.le (r + 1) (by omega)
      have HV0 : Hid (wr.cell? ⟨(AG.getD ⟨0, 0, none⟩).block, (AG.getD ⟨0, 0, none⟩).off + r, none⟩ = some (.slice A (s (r + 1) - s r) c) ∧ ∃ b o, AG = some ⟨b, o, none⟩) := by
        obtain ⟨b, o, rfl, hbl, hc⟩ := (HG.out).one (k := r) (u := vs r) (by simp [hlt])
        refine ⟨?_, b, o, rfl⟩
        rw [← hv]
        exact (hbel.out.cell (p := ⟨b, o + r, none⟩) (by rw [← HGG.out]; exact hbl)).trans hc
      obtain ⟨hv0, bG, oG, rfl⟩ := HV0.out
      have hv0' : wr.cell? ⟨bG, oG + r, none⟩ = some (.slice A (s (r + 1) - s r) c) := hv0
      have HA := Lib.hid hA
      have HST := Lib.hid (Stand.start sp bg L (s r))
      rw [← hy.out hlt] at HST
      have HFR := Lib.hid (HP.out.fr r hlt)
      have HSF := Lib.hid (HP.out.st r hlt)
      clear hv hA HV0 hv0
      generalize hln : s (r + 1) - s r = len at *
      have HUP : Hid (s (r + 1) = s r + len) := by show _ = _; omega
      have hlen0 : 0 < len := by omega
      have hsn : s r + len ≤ n := by omega
      rw [HUP.out] at HA HSF
      generalize s r = a at *
      clear hln hup hcap
      go_wp2_with fail
      go_loopw [8, 13, 14, 28] (fun vo x h i wr => ∃ (j : Nat) (xx hh : Int), j ≤ len ∧ i = .int .i64 j ∧ x = .int .i64 xx ∧ h = .int .i64 hh ∧ Hid (Stand sp bg L a (a + j) xx yy hh) ∧ Hid (wr.ownsRow (g + 1) 72 2 vo (a + j) (cc (pts sp bg L (a + j)))) ∧
        Hid (Blk wr (g + 2) 68 #[.int .i64 (run sp bg L (a + j)).2.2.1, .int .i64 (run sp bg L a).2.2.2]) ∧ Hid (Blk wr g 68 #[.int .i64 0, .int .i64 0]) ∧ Hid (Below g w wr) ∧ g + 3 ≤ wr.heap.size) (fun _ _ _ i _ => len - (intOf i).toNat)
      case atStart => exact ⟨0, 0, 0, Nat.zero_le _, rfl, rfl, rfl, HST, hown, hR, hK, hbel, hsz⟩
      case round =>
        obtain ⟨j, xx, hh, hj, rfl, rfl, rfl, hstand, hown, hR, hK, hbel, hsz⟩ := hrel
        obtain ⟨A7, c7, rfl, hc7, hm7⟩ := own_slice hown.out
        by_cases hjl : j < len
        · obtain ⟨bA, oA, rfl, hbA, hcA⟩ := HA.out.one (iz_nums_at a (a + len) j (by omega))
          have hcA' := (hbel.out.cell (p := ⟨bA, oA + j, none⟩) (by rw [← HGG.out]; exact hbA)).trans hcA
          have hk : a + j < L.length := by have := HN.out; omega
          obtain ⟨bS, oS, rfl, hbS, hs0', hs1'⟩ := at_box HS.out (show a + j < (L.map fun b => (ln b.1, ln b.2)).length by rw [List.length_map]; exact hk)
          rw [lns_at L _ hk] at hs0' hs1'
          have HFJ : Hid (a < a + j → fresh sp bg L (a + j) = false) := fun h => HSF.out (a + j) h (by omega)
          have HPT := Lib.hid (hstand.out.pt HFR.out HFJ.out)
          have HNX := Lib.hid (hstand.out.next HFR.out HFJ.out)
          have HC0 := Lib.hid hs0'
          have HC1 := Lib.hid hs1'
          have hwB : bS < g := by rw [← HGG.out]; exact hbS
          generalize (L.getD (a + j) (0, 0)) = bx at *
          obtain ⟨bw, bh⟩ := bx
          simp only at HC0 HC1 HNX
          generalize ln bw = lw at *
          generalize ln bh = lh at *
          have HJ9 := Lib.hid hj
          generalize hq : a + j = q at *
          have HQ := Lib.hid hq
          clear hq
          have hpx : cc (pts sp bg L (q + 1)) = cc (pts sp bg L q) ++ [.int .i64 xx, .int .i64 yy] := by rw [pts_next, HPT.out, cc_app]; rfl
          obtain ⟨v1, w1, hrun, hown1, hgrow1, _, hat1⟩ := run_append_own_at (P := Try.prog) (wr.alloc (.cells #[.int .i64 xx, .int .i64 yy] 72)) (g + 1) 67 67 72 i0 _ 2 16 Try.underlying67 hi hz0 hz1 hz2 rfl (by decide) _ _ _ (hown.out.alloc (.cells #[.int .i64 xx, .int .i64 yy] 72)) ⟨wr.heap.size, 0, none⟩ 1 1 [.int .i64 xx, .int .i64 yy] rfl (cells_new' _ _ _ _ rfl _ rfl) (cc_one [(xx, yy)]) (by have := HQ.out; unfold maxLen; omega) (by have := HQ.out; omega) (by rw [size_alloc]; omega)
          have EO := Lib.hid (show w1.ownsRow (g + 1) 72 2 v1 (q + 1) (cc (pts sp bg L (q + 1))) by rw [hpx]; exact hown1)
          have ER := Lib.hid ((hR.out.alloc (.cells #[.int .i64 xx, .int .i64 yy] 72)).grown hgrow1 (own_blk' hown.out hR.out (by decide)))
          have EK := Lib.hid ((hK.out.alloc (.cells #[.int .i64 xx, .int .i64 yy] 72)).grown hgrow1 (own_blk' hown.out hK.out (by decide)))
          have EB : Hid (Below g w w1) := Below.grown (hbel.out.alloc (by omega) (.cells #[.int .i64 xx, .int .i64 yy] 72)) hgrow1 (by rw [size_alloc]; omega) (fun q hq => by have := (hown.out.lt q hq).1; omega)
          have es : g + 3 ≤ w1.heap.size := by have := hgrow1.size; rw [size_alloc] at this; omega
          clear hown1 hgrow1 hat1 hpx hcA hs0' hs1'
          obtain ⟨A8, c8, rfl, hc8, hm8⟩ := own_slice EO.out
          obtain ⟨⟨p0, p1⟩, q0, q1⟩ := ER.out.two
          have hS0 : w1.cell? ⟨bS, oS + q * 2, none⟩ = some (.int .i64 lw) := (EB.out.cell (p := ⟨bS, oS + q * 2, none⟩) hwB).trans HC0.out
          have hS1 : w1.cell? ⟨bS, oS + q * 2 + 1, none⟩ = some (.int .i64 lh) := (EB.out.cell (p := ⟨bS, oS + q * 2 + 1, none⟩) hwB).trans HC1.out
          have hjn : q < n := by have := HQ.out; omega
          go_wp2_with fail
          clear hrun
          refine wp_region_still_tail 10 (by kernel_rfl) (by kernel_rfl) ?_
          simp only [List.take_succ_cons, List.take_zero, List.drop_succ_cons, List.drop_zero]
          repeat (first | still_step | still_call (sradd_any _ _ _))
          refine wpStill_nil ?_
          change wpList _ _ _ _ _ w1.drew
          clear p0 p1 q0 q1 hS0 hS1 hcA'
          have VO : Hid (w1.drew.ownsRow (g + 1) 72 2 (.slice A8 (q + 1) c8) (q + 1) (cc (pts sp bg L (q + 1)))) := own_heap EO.out rfl
          have VR := Lib.hid ER.out.drew
          have VK := Lib.hid EK.out.drew
          have VB := Lib.hid (Below_drew EB.out)
          have vz : g + 3 ≤ w1.drew.heap.size := es
          clear EO ER EK EB es hown hR hK hbel hsz
          generalize w1.drew = V at *
          obtain ⟨⟨p0, p1⟩, q0, q1⟩ := VR.out.two
          have hS0 : V.cell? ⟨bS, oS + q * 2, none⟩ = some (.int .i64 lw) := (VB.out.cell (p := ⟨bS, oS + q * 2, none⟩) hwB).trans HC0.out
          have hS1 : V.cell? ⟨bS, oS + q * 2 + 1, none⟩ = some (.int .i64 lh) := (VB.out.cell (p := ⟨bS, oS + q * 2 + 1, none⟩) hwB).trans HC1.out
          have hne : bS ≠ g + 2 := by omega
          go_wp2_with (go_at_call 17; refine (radd_any' _ _ _).mono ?_; rintro e9 w9 ⟨rfl, rfl⟩)
          clear p0 p1 q0 q1 hS0 hS1
          go_roundw
          case rel =>
            obtain ⟨hn1, hn2⟩ := HNX.out
            have he9 : a + (j + 1) = q + 1 := by have := HQ.out; omega
            refine ⟨j + 1, _, _, by omega, by go_num, rfl, rfl, by rw [he9]; exact hn1, ?_, ?_, ?_, ?_, ?_⟩
            · rw [he9]; exact own_setb VO.out VR.out (by decide)
            · rw [he9]
              show Blk _ _ _ #[.int .i64 (run sp bg L (q + 1)).2.2.1, .int .i64 (run sp bg L a).2.2.2]
              rw [hn2]
              exact VR.out.set 0 _
            · exact VK.out.other (g + 2) 0 _ (by omega)
            · exact below_setg VB.out (g + 2) 0 _ (by omega) (by omega)
            · rw [setCell_size']; exact vz
          case measure => simp [intOf]; omega
        · obtain rfl : j = len := by omega
          have HEND := Lib.hid (hstand.out.ends HS0.out (by omega))
          obtain ⟨⟨p0, p1⟩, q0, q1⟩ := hR.out.two
          have hr1 : ((r : Int) + 1 < (N : Int)) ∨ ¬ ((r : Int) + 1 < (N : Int)) := by omega
          rcases hr1 with hr1 | hr1
          · go_wp2_with (go_at_call 17; refine (radd_any' _ _ _).mono ?_; rintro e9 w9 ⟨rfl, rfl⟩)
            clear p0 p1 q0 q1
            go_roundw
            case rel =>
              refine ⟨r + 1, _, by omega, by go_num, rfl, fun _ => ?_, ?_, ?_, ?_, ?_, ?_⟩
              · rw [HUP.out, HEND.out, if_neg (by omega)]
              · rw [HUP.out]; exact own_setb hown.out hR.out (by decide)
              · rw [HUP.out, HEND.out]; exact hR.out.set 1 _
              · exact hK.out.other (g + 2) 1 _ (by omega)
              · exact below_setg hbel.out (g + 2) 1 _ (by omega) (by omega)
              · rw [setCell_size']; exact hsz
            case measure => simp [intOf]; omega
          · go_wp2_with (go_at_call 17; refine (radd_any' _ _ _).mono ?_; rintro e9 w9 ⟨rfl, rfl⟩)
            clear p0 p1 q0 q1
            go_roundw
            case rel =>
              refine ⟨r + 1, _, by omega, by go_num, rfl, fun h => by omega, ?_, ?_, ?_, ?_, ?_⟩
              · rw [HUP.out]; exact own_setb hown.out hR.out (by decide)
              · rw [HUP.out, HEND.out]; exact hR.out.set 1 _
              · exact hK.out.other (g + 2) 1 _ (by omega)
              · exact below_setg hbel.out (g + 2) 1 _ (by omega) (by omega)
              · rw [setCell_size']; exact hsz
            case measure => simp [intOf]; omega
    · obtain rfl : r = N := by omega
      rw [HP.out.e] at hown hR
      obtain ⟨A7, c7, rfl, hc7, hm7⟩ := own_slice hown.out
      obtain ⟨⟨p0, p1⟩, q0, q1⟩ := hR.out.two
      go_wp2_with fail
      refine wp_region_still_tail 3 (by kernel_rfl) (by kernel_rfl) ?_
      simp only [List.take_succ_cons, List.take_zero, List.drop_succ_cons, List.drop_zero]
      repeat still_step
      refine wpStill_nil ?_
      change wpList _ _ _ _ _ wr.drew
      clear p0 p1 q0 q1
      have WK := Lib.hid hK.out.drew
      have WO : Hid (wr.drew.ownsRow (g + 1) 72 2 (.slice A7 n c7) n (cc (pts sp bg L n))) := own_heap hown.out rfl
      have WB := Lib.hid (Below_drew hbel.out)
      have wz : g + 3 ≤ wr.drew.heap.size := hsz
      clear hK hown hbel hsz hR
      generalize wr.drew = U at *
      obtain ⟨⟨p0, p1⟩, q0, q1⟩ := WK.out.two
      go_wp2_with fail
      clear p0 p1 q0 q1
      have hge := HGG.out
      refine bodyPost_ret (results_tmp_mid rfl _ _ g 0 [.int .i64 (run sp bg L n).2.2.1, .int .i64 (run sp bg L n).2.2.2] _ rfl (range2 (((WK.out.set 0 (.int .i64 (run sp bg L n).2.2.1)).set 1 (.int .i64 (run sp bg L n).2.2.2)).cell 0 rfl) (((WK.out.set 0 (.int .i64 (run sp bg L n).2.2.1)).set 1 (.int .i64 (run sp bg L n).2.2.2)).cell 1 rfl)) Try.underlying68 rfl (by kernel_rfl)) rfl ?_
      refine ⟨_, rfl, own_mono (base := g + 1) (own_other (own_other WO.out g 0 _ (by omega)) g 1 _ (by omega)) (by omega), ?_⟩
      rw [hge]
      refine below_setg (below_setg WB.out g 0 _ (by omega) (by omega)) g 1 _ (by omega) ?_
      rw [setCell_size']
      omega
end Go.Proofs.Ytjpdnnjijcmioaa
