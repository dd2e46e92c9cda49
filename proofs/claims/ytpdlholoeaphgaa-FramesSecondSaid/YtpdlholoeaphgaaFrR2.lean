/- Contract of the document's Cancel of jobs. -/
import Derived.Test.YtpdlholoeaphgaaFrR1
import Derived.Maps.AppendAt
namespace Go.Proofs.Ytpdlholoeaphgaa
open Go.RowKit
attribute [-go_sem] Builtin.append_
namespace Fr
def flt (z : Int) (L : List Tm) : List Tm := L.filter fun t => decide (t.tok ≠ z)
theorem flt_yes {z : Int} {L : List Tm} {k : Nat} (h : k < L.length) (hz : (g L k).tok ≠ z) : flt z (L.take (k + 1)) = flt z (L.take k) ++ [g L k] := by
  rw [List.take_add_one, flt, List.filter_append, g_at h]
  simp [flt, hz]
theorem flt_no {z : Int} {L : List Tm} {k : Nat} (h : k < L.length) (hz : (g L k).tok = z) : flt z (L.take (k + 1)) = flt z (L.take k) := by
  rw [List.take_add_one, flt, List.filter_append, g_at h]
  simp [flt, hz]
theorem flt_le (z : Int) (L : List Tm) : (flt z L).length ≤ L.length := List.length_filter_le _ _
set_option maxHeartbeats 4000000 in
set_option maxRecDepth 100000 in
theorem rcancel_any (most last z : Int) (A : Option Addr) (n c : Nat) (L : List Tm) (w : World) (hn : n = L.length) (hb : n ≤ 100000) (ha : At w A (tv L)) :
    Calls Try.prog 32 #[rv16 most last A n c, .int .i64 z] w fun e w' => ∃ A' c', e = .returned (.tuple #[rv16 most last A' (flt z L).length c', .bool (decide ((flt z L).length < n))]) ∧ (flt z L).length ≤ c' ∧ c' ≤ maxLen ∧ At w' A' (tv (flt z L)) ∧ (A' = none → (flt z L).length = 0 ∧ c' = 0) ∧ (∀ b' o p, A' = some ⟨b', o, p⟩ → w.heap.size ≤ b' ∧ p = none ∧ b' < w'.heap.size) ∧ Below w.heap.size w w' := by
  unfold rv16
  obtain ⟨i0, hi, hz0, hz1, hz2⟩ := info_parts infoRm
  have HN := Lib.hid hn
  have HA := Lib.hid ha
  obtain ⟨V, hV⟩ : ∃ V, V = (w.alloc (.cells #[.int .i64 most, .int .i64 last, .slice A n c] 28)).alloc (.cells #[.int .i64 0, .int .i64 0, .slice none 0 0] 28) := ⟨_, rfl⟩
  have hbs : Below w.heap.size w V := by rw [hV]; exact (below_alloc w _).alloc (by simp) _
  have hsV : V.heap.size = w.heap.size + 1 + 1 := by rw [hV]; simp
  have h0 : Blk V w.heap.size 28 #[.int .i64 most, .int .i64 last, .slice A n c] := by rw [hV]; exact (Blk.new w _ _).alloc _
  have h1 : Blk V (w.heap.size + 1) 28 #[.int .i64 0, .int .i64 0, .slice none 0 0] := by rw [hV]; exact Blk.new' (w.alloc (.cells #[.int .i64 most, .int .i64 last, .slice A n c] 28)) _ _ _ (by simp)
  obtain ⟨W0, hW0⟩ : ∃ W0, W0 = V.alloc (.cells #[] 85) := ⟨_, rfl⟩
  have hbW : Below w.heap.size w W0 := by rw [hW0]; exact hbs.alloc hbs.size _
  have k0 : Blk W0 w.heap.size 28 #[.int .i64 most, .int .i64 last, .slice A n c] := by rw [hW0]; exact h0.alloc _
  have k1 : Blk W0 (w.heap.size + 1) 28 #[.int .i64 0, .int .i64 0, .slice none 0 0] := by rw [hW0]; exact h1.alloc _
  have ho : W0.ownsRow (w.heap.size + 2) 85 4 (.slice (some ⟨V.heap.size, 0, none⟩) 0 0) (flt z (L.take 0)).length (tv (flt z (L.take 0))) := by rw [hW0]; exact own_made V _ rfl (by omega)
  have a2 : W0.cell? ⟨w.heap.size, 2, none⟩ = some (.slice A n c) := k0.cell 2 rfl
  have HV := Lib.hid hV
  have HW0 := Lib.hid hW0
  have HB0 := Lib.hid hbW
  have HK0 := Lib.hid k0
  have HK1 := Lib.hid k1
  have HO := Lib.hid ho
  clear hV hW0 hbs hsV h0 h1 hbW k0 k1 ho hn ha
  obtain ⟨gw, hgw⟩ : ∃ gw, gw = w.heap.size := ⟨_, rfl⟩
  have HG := Lib.hid hgw
  go_enter Try.func32, Try.ntmps32
  go_upto_region 1 with fail
  rw [← HV.out]
  go_upto_region 2 with fail
  rw [← HW0.out]
  rw [← hgw] at HB0 HK0 HK1 HO a2 ⊢
  clear hgw
  go_wp2_with fail
  go_loopw [6, 14] (fun vl vk W => ∃ k : Nat, vk = .int .i64 k ∧ k ≤ n ∧ Hid (W.ownsRow (gw + 2) 85 4 vl (flt z (L.take k)).length (tv (flt z (L.take k)))) ∧ Hid (Below gw w W) ∧ Hid (Blk W gw 28 #[.int .i64 most, .int .i64 last, .slice A n c]) ∧ Hid (Blk W (gw + 1) 28 #[.int .i64 0, .int .i64 0, .slice none 0 0])) (fun _ vk _ => n - (intOf vk).toNat)
  case atStart => exact ⟨0, rfl, Nat.zero_le _, HO, HB0, HK0, HK1⟩
  case round =>
    clear HO HB0 HK0 HK1 a2
    obtain ⟨k, rfl, hk, HO, HB, HK0, HK1⟩ := hrel
    by_cases hlt : k < n
    · have hkL : k < L.length := by have := HN.out; omega
      obtain ⟨b9, o9, rfl⟩ : ∃ b9 o9, A = some ⟨b9, o9, none⟩ := by
        obtain ⟨b9, o9, e9, _⟩ := HA.out.one (k := k * 4) (tv_at L k hkL 0 (by omega))
        exact ⟨b9, o9, e9⟩
      obtain ⟨hb9, c0, c1, c2, c3⟩ := act_cells HA.out hkL
      have hbg : b9 < gw := by have := HG.out; omega
      have bc := fun o => HB.out.cell (p := ⟨b9, o, none⟩) hbg
      have c0 := (bc _).trans c0
      have c1 := (bc _).trans c1
      have c2 := (bc _).trans c2
      have c3 := (bc _).trans c3
      have d1 : (k : Int) < (n : Int) := by omega
      have d0 : (0 : Int) ≤ (k : Int) := by omega
      have hfl := flt_le z (L.take k)
      have hfl2 : (L.take k).length = k := by rw [List.length_take]; omega
      clear bc hbg hb9
      by_cases hz : (g L k).tok = z
      · have HF := Lib.hid (flt_no hkL hz)
        generalize g L k = t at *
        obtain ⟨ta, tb, tc', td⟩ := t
        simp only at c0 c1 c2 c3 hz
        subst hz
        clear hfl hfl2 hkL
        have hle : gw ≤ wr.heap.size := by have hgo := HG.out; have hsz := HB.out.size; omega
        go_wp2
        refine ⟨⟨k + 1, rfl, by omega, ?_, Lib.hid (HB.out.trans ((below_alloc wr _).mono hle)), Lib.hid (HK0.out.below (below_alloc wr _)), Lib.hid (HK1.out.below (below_alloc wr _))⟩, by simp only [intOf]; omega⟩
        rw [HF.out]
        exact Lib.hid (own_below HO.out (below_alloc wr _))
      · have HF := Lib.hid (flt_yes hkL hz)
        generalize g L k = t at *
        obtain ⟨ta, tb, tc', td⟩ := t
        simp only at c0 c1 c2 c3 hz
        have hzz : ¬ (ta = z) := hz
        have hzb : (ta == z) = false := by simpa using hz
        obtain ⟨U, hU⟩ : ∃ U, U = wr.alloc (.cells #[.int .i64 ta, .int .i64 tb, .int .i64 tc', .int .i64 td] 85) := ⟨_, rfl⟩
        have hsU : U.heap.size = wr.heap.size + 1 := by rw [hU]; simp
        have hT : Blk U wr.heap.size 85 #[.int .i64 ta, .int .i64 tb, .int .i64 tc', .int .i64 td] := by rw [hU]; exact Blk.new _ _ _
        have hbU : Below wr.heap.size wr U := hU ▸ below_alloc _ _
        have e0 : U.cell? ⟨wr.heap.size, 0, none⟩ = some (.int .i64 ta) := hT.cell 0 rfl
        have e1 : U.cell? ⟨wr.heap.size, 1, none⟩ = some (.int .i64 tb) := hT.cell 1 rfl
        have e2 : U.cell? ⟨wr.heap.size, 2, none⟩ = some (.int .i64 tc') := hT.cell 2 rfl
        have e3 : U.cell? ⟨wr.heap.size, 3, none⟩ = some (.int .i64 td) := hT.cell 3 rfl
        have hgo := HG.out
        have hsz := HB.out.size
        have hg0 := HK0.out.lt
        have hg1 := HK1.out.lt
        obtain ⟨v2, w2, hrun2, hown2, hgrow2, _, _⟩ := run_append_own_at (P := Try.prog) (U.alloc (.cells #[.int .i64 ta, .int .i64 tb, .int .i64 tc', .int .i64 td] 85)) (gw + 2) 26 26 85 i0 _ 4 32 Try.underlying26 hi hz0 hz1 hz2 rfl (by decide) _ _ _ (own_below (own_below HO.out hbU) (below_alloc U (.cells #[.int .i64 ta, .int .i64 tb, .int .i64 tc', .int .i64 td] 85))) ⟨U.heap.size, 0, none⟩ 1 1 [.int .i64 ta, .int .i64 tb, .int .i64 tc', .int .i64 td] rfl (cells_new' _ _ _ _ rfl _ rfl) (by intro u hu; simp at hu; rcases hu with rfl | rfl | rfl | rfl <;> rfl) (by unfold maxLen; omega) (by omega) (by simp; omega)
        have hfrom := own_from HO.out
        have hne : ∀ q, q < gw + 2 → some q ≠ u6.ownBlock := fun q hq e => by have := hfrom q e.symm; omega
        have HB2 : Hid (Below gw w w2) := ((HB.out.trans (hbU.mono (by omega))).alloc (by omega) (.cells #[.int .i64 ta, .int .i64 tb, .int .i64 tc', .int .i64 td] 85)).grown hgrow2 (by simp; omega) (fun q hq => by have := hfrom q hq; omega)
        have HK2 : Hid (Blk w2 gw _ _) := ((HK0.out.below hbU).alloc (.cells #[.int .i64 ta, .int .i64 tb, .int .i64 tc', .int .i64 td] 85)).grown hgrow2 (hne gw (by omega))
        have HK3 : Hid (Blk w2 (gw + 1) _ _) := ((HK1.out.below hbU).alloc (.cells #[.int .i64 ta, .int .i64 tb, .int .i64 tc', .int .i64 td] 85)).grown hgrow2 (hne (gw + 1) (by omega))
        have HO2 : Hid (w2.ownsRow (gw + 2) 85 4 v2 (flt z (L.take (k + 1))).length (tv (flt z (L.take (k + 1))))) := by
          rw [HF.out, List.length_append, tv_app]
          exact hown2
        have HU := Lib.hid hU
        clear hU hT hbU hown2 hgrow2 hfrom hne HO HB HK0 HK1 hfl hfl2 hkL hz HF hgo hsU hsz hg0 hg1
        go_upto_region 5 with fail
        rw [← HU.out]
        clear HU
        go_wp2
        exact ⟨⟨k + 1, rfl, by omega, HO2, HB2, HK2, HK3⟩, by simp only [intOf]; omega⟩
    · obtain rfl : k = n := by omega
      have d1 : ¬ ((k : Int) < (k : Int)) := by omega
      have hLk : L.take k = L := List.take_of_length_le (by have := HN.out; omega)
      rw [hLk] at HO
      obtain ⟨A6, c6, rfl, h66, h67⟩ := own_slice HO.out
      have HAT := Lib.hid (At.own HO.out)
      have HA0 := Lib.hid (own_addr HO.out)
      have HNEW : Hid (∀ b' o p, A6 = some ⟨b', o, p⟩ → w.heap.size ≤ b' ∧ p = none ∧ b' < wr.heap.size) := fun b' o p e => by have h9 := own_new HO.out b' o p e; have h8 := HG.out; exact ⟨by omega, h9.2⟩
      have HSEP : Hid (∀ b' o', A6 = some ⟨b', o', none⟩ → b' ≠ gw ∧ b' ≠ gw + 1) := fun b' o' e' => by have := own_from HO.out b' (by rw [e']; rfl); omega
      clear HO hLk d1
      generalize hM : (flt z L).length = M at *
      have a2 : wr.cell? ⟨gw, 2, none⟩ = some (.slice A k c) := HK0.out.cell 2 rfl
      have a2f : wr.frozen? ⟨gw, 2, none⟩ = false := HK0.out.frozen 2
      obtain ⟨X, hX⟩ : ∃ X, X = wr.setCell ⟨gw, 2, none⟩ (.slice A6 M c6) := ⟨_, rfl⟩
      have x0 : Blk X gw 28 #[.int .i64 most, .int .i64 last, .slice A6 M c6] := by rw [hX]; exact HK0.out.set 2 _
      have x1 : Blk X (gw + 1) 28 #[.int .i64 0, .int .i64 0, .slice none 0 0] := by rw [hX]; exact HK1.out.other _ _ _ (by omega)
      obtain ⟨Z, hZ⟩ : ∃ Z, Z = set3 X (gw + 1) (.int .i64 most) (.int .i64 last) (.slice A6 M c6) := ⟨_, rfl⟩
      have z1 : Blk Z (gw + 1) 28 #[.int .i64 most, .int .i64 last, .slice A6 M c6] := by rw [hZ]; exact blk_set3 x1 _ _ _
      have hE : Below w.heap.size w Z := by
        have h9 : Beside (fun _ => False) w wr := Beside.ofBelow (by rw [← HG.out]; exact HB.out)
        rw [hZ, hX]
        exact beside_none (beside_set3 (h9.set (.inr (by have := HG.out; omega)) 2 _) (.inr (by have := HG.out; omega)) _ _ _)
      have hAT : At Z A6 (tv (flt z L)) := by
        intro hx
        obtain ⟨b', o', e', hb', hc'⟩ := HAT.out hx
        have hne0 : b' ≠ gw ∧ b' ≠ gw + 1 := HSEP.out b' o' e'
        subst e'
        refine ⟨b', o', rfl, by rw [hZ, hX]; simpa [set3] using hb', fun j u hu => ?_⟩
        have h9 : Beside (fun x => x = gw ∨ x = gw + 1) wr Z := by
          rw [hZ, hX]
          exact beside_set3 ((Beside.refl _ wr).set (.inl (.inl rfl)) 2 _) (.inl (.inr rfl)) _ _ _
        exact (World.cell?_of_block (w := wr) (h9.block b' hb' (by rintro (h8 | h8); exact hne0.1 h8; exact hne0.2 h8))).trans (hc' j u hu)
      have p0 : X.cell? ⟨gw, 0, none⟩ = some (.int .i64 most) := x0.cell 0 rfl
      have p1 : X.cell? ⟨gw, 1, none⟩ = some (.int .i64 last) := x0.cell 1 rfl
      have p2 : X.cell? ⟨gw, 2, none⟩ = some (.slice A6 M c6) := x0.cell 2 rfl
      have q0 : X.cell? ⟨gw + 1, 0, none⟩ = some (.int .i64 0) := x1.cell 0 rfl
      have q1 : X.cell? ⟨gw + 1, 1, none⟩ = some (.int .i64 0) := x1.cell 1 rfl
      have q2 : X.cell? ⟨gw + 1, 2, none⟩ = some (.slice none 0 0) := x1.cell 2 rfl
      have qf0 : X.frozen? ⟨gw + 1, 0, none⟩ = false := x1.frozen 0
      have qf1 : X.frozen? ⟨gw + 1, 1, none⟩ = false := x1.frozen 1
      have qf2 : X.frozen? ⟨gw + 1, 2, none⟩ = false := x1.frozen 2
      have HZS : Hid (Z.heap.size = wr.heap.size) := by show _ = _; rw [hZ, hX]; simp [set3]
      unfold set3 at hZ
      have HX := Lib.hid hX
      have HZ := Lib.hid hZ
      have HE := Lib.hid hE
      have HZ1 := Lib.hid z1
      have HAZ := Lib.hid hAT
      clear hX hZ hE z1 hAT x0 x1 HB HAT HK0 HK1 HSEP
      go_upto_region 10 with fail
      rw [← HX.out]
      go_wp2
      rw [← HZ.out]
      try simp only [Exit.inBlock, Exit.then]
      refine bodyPost_ret (results_mid_tmp rfl _ _ (gw + 1) 0 [.int .i64 most, .int .i64 last, .slice A6 M c6] _ rfl (blk_range HZ1.out) Try.underlying28 rfl (by kernel_rfl)) rfl ?_
      subst hM
      exact ⟨A6, c6, rfl, h66, h67, HAZ.out, HA0.out, (fun b' o p e => by rw [HZS.out]; exact HNEW.out b' o p e), HE.out⟩
end Fr
end Go.Proofs.Ytpdlholoeaphgaa
