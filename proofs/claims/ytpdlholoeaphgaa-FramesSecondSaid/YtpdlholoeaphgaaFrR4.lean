/- Contract of the document's Frame of jobs. -/
import Derived.Test.YtpdlholoeaphgaaFrR2
namespace Go.Proofs.Ytpdlholoeaphgaa
open Go.RowKit
attribute [-go_sem] Builtin.append_
namespace Fr
def dec (t : Tm) : Tm := ⟨t.tok, t.dl - 1, t.k, t.n⟩
def dues (L : List Tm) : List Tm := (L.filter fun t => decide (t.dl = 1)).map dec
def lefts (L : List Tm) : List Tm := (L.filter fun t => decide (t.dl ≠ 1)).map dec
theorem dues_yes {L : List Tm} {k : Nat} (h : k < L.length) (hz : (g L k).dl = 1) : dues (L.take (k + 1)) = dues (L.take k) ++ [dec (g L k)] := by
  rw [List.take_add_one, dues, List.filter_append, g_at h]
  simp [dues, hz]
theorem dues_no {L : List Tm} {k : Nat} (h : k < L.length) (hz : (g L k).dl ≠ 1) : dues (L.take (k + 1)) = dues (L.take k) := by
  rw [List.take_add_one, dues, List.filter_append, g_at h]
  simp [dues, hz]
theorem lefts_yes {L : List Tm} {k : Nat} (h : k < L.length) (hz : (g L k).dl ≠ 1) : lefts (L.take (k + 1)) = lefts (L.take k) ++ [dec (g L k)] := by
  rw [List.take_add_one, lefts, List.filter_append, g_at h]
  simp [lefts, hz]
theorem lefts_no {L : List Tm} {k : Nat} (h : k < L.length) (hz : (g L k).dl = 1) : lefts (L.take (k + 1)) = lefts (L.take k) := by
  rw [List.take_add_one, lefts, List.filter_append, g_at h]
  simp [lefts, hz]
theorem dues_le (L : List Tm) : (dues L).length ≤ L.length := by rw [dues, List.length_map]; exact List.length_filter_le _ _
theorem lefts_le (L : List Tm) : (lefts L).length ≤ L.length := by rw [lefts, List.length_map]; exact List.length_filter_le _ _
theorem results_mid_tmpF {P : Program} {fn : Func} {u p : Tmp} {ty : TypeId} (h : fn.results = #[.cell p ty, .tmp u]) (tmps : Array Value) (w : World) (b o : Nat) (cs : List Value) (d : TypeDesc) (v : Value)
    (hp : tmps.getD p undef = .pointer (some ⟨b, o, none⟩)) (hc : w.rangeAt b o cs) (hu : P.underlying ty = some d) (hd : d.isRow = true) (hi : (P.info? ty).map (·.size) = some cs.length) (hv : tmps.getD u undef = v) :
    (results fn tmps).run P w = .ok (.tuple #[.agg cs.toArray, v]) w := by rw [← hv]; exact results_mid_tmp h tmps w b o cs d hp hc hu hd hi
set_option maxHeartbeats 4000000 in
set_option maxRecDepth 100000 in
theorem rframe_any (most last : Int) (A : Option Addr) (n c : Nat) (L : List Tm) (w : World) (hn : n = L.length) (hb : n ≤ 100000) (ha : At w A (tv L)) (hl : ∀ t ∈ L, 1 ≤ t.dl ∧ t.dl ≤ 2) :
    Calls Try.prog 33 #[rv16 most last A n c] w fun e w' => ∃ A' c' A2 c2, e = .returned (.tuple #[rv16 most last A' (lefts L).length c', .slice A2 (dues L).length c2]) ∧ (lefts L).length ≤ c' ∧ c' ≤ maxLen ∧ At w' A' (tv (lefts L)) ∧ (A' = none → (lefts L).length = 0 ∧ c' = 0) ∧ (∀ b' o p, A' = some ⟨b', o, p⟩ → w.heap.size ≤ b' ∧ p = none ∧ b' < w'.heap.size) ∧ (dues L).length ≤ c2 ∧ c2 ≤ maxLen ∧ At w' A2 (tv (dues L)) ∧ (∀ b' o p, A2 = some ⟨b', o, p⟩ → w.heap.size ≤ b') ∧ Below w.heap.size w w' := by
  unfold rv16
  obtain ⟨i0, hi, hz0, hz1, hz2⟩ := info_parts infoRm
  have HN := Lib.hid hn
  have HA := Lib.hid ha
  have HLR := Lib.hid hl
  obtain ⟨V, hV⟩ : ∃ V, V = (w.alloc (.cells #[.int .i64 most, .int .i64 last, .slice A n c] 28)).alloc (.cells #[.int .i64 0, .int .i64 0, .slice none 0 0] 28) := ⟨_, rfl⟩
  have hbs : Below w.heap.size w V := by rw [hV]; exact (below_alloc w _).alloc (by simp) _
  have hsV : V.heap.size = w.heap.size + 1 + 1 := by rw [hV]; simp
  have h0 : Blk V w.heap.size 28 #[.int .i64 most, .int .i64 last, .slice A n c] := by rw [hV]; exact (Blk.new w _ _).alloc _
  have h1 : Blk V (w.heap.size + 1) 28 #[.int .i64 0, .int .i64 0, .slice none 0 0] := by rw [hV]; exact Blk.new' (w.alloc (.cells #[.int .i64 most, .int .i64 last, .slice A n c] 28)) _ _ _ (by simp)
  obtain ⟨W0, hW0⟩ : ∃ W0, W0 = (V.alloc (.cells #[] 85)).alloc (.cells #[] 85) := ⟨_, rfl⟩
  have hbW : Below w.heap.size w W0 := by rw [hW0]; exact (hbs.alloc hbs.size _).alloc (by have := hbs.size; simp; omega) _
  have k0 : Blk W0 w.heap.size 28 #[.int .i64 most, .int .i64 last, .slice A n c] := by rw [hW0]; exact (h0.alloc _).alloc _
  have k1 : Blk W0 (w.heap.size + 1) 28 #[.int .i64 0, .int .i64 0, .slice none 0 0] := by rw [hW0]; exact (h1.alloc _).alloc _
  have ho : W0.ownsRow (w.heap.size + 2) 85 4 (.slice (some ⟨V.heap.size, 0, none⟩) 0 0) (dues (L.take 0)).length (tv (dues (L.take 0))) := by rw [hW0]; exact own_below (own_made V _ rfl (by omega)) (below_alloc _ _)
  have ho2 : W0.ownsRow (w.heap.size + 2) 85 4 (.slice (some ⟨V.heap.size + 1, 0, none⟩) 0 0) (lefts (L.take 0)).length (tv (lefts (L.take 0))) := by rw [hW0]; exact own_made (V.alloc (.cells #[] 85)) _ (by simp) (by omega)
  have a2 : W0.cell? ⟨w.heap.size, 2, none⟩ = some (.slice A n c) := k0.cell 2 rfl
  have HV := Lib.hid hV
  have HW0 := Lib.hid hW0
  have HB0 := Lib.hid hbW
  have HK0 := Lib.hid k0
  have HK1 := Lib.hid k1
  have HO := Lib.hid ho
  have HP := Lib.hid ho2
  have HAP0 : Hid (∀ q, (Value.slice (some ⟨V.heap.size, 0, none⟩) 0 0).ownBlock = some q → (Value.slice (some ⟨V.heap.size + 1, 0, none⟩) 0 0).ownBlock = some q → False) := fun q h1 h2 => by injection h1 with h1; injection h2 with h2; simp only at h1 h2; omega
  clear hV hW0 hbs hsV h0 h1 hbW k0 k1 ho ho2 hn ha hl
  obtain ⟨gw, hgw⟩ : ∃ gw, gw = w.heap.size := ⟨_, rfl⟩
  have HG := Lib.hid hgw
  go_enter Try.func33, Try.ntmps33
  go_upto_region 1 with fail
  rw [← HV.out]
  go_upto_region 3 with fail
  rw [← HW0.out]
  rw [← hgw] at HB0 HK0 HK1 HO HP a2 ⊢
  clear hgw
  go_wp2_with fail
  go_loopw [4, 5, 13] (fun vd vl vk W => ∃ k : Nat, vk = .int .i64 k ∧ k ≤ n ∧ Hid (W.ownsRow (gw + 2) 85 4 vd (dues (L.take k)).length (tv (dues (L.take k)))) ∧ Hid (W.ownsRow (gw + 2) 85 4 vl (lefts (L.take k)).length (tv (lefts (L.take k)))) ∧ Hid (∀ q, vd.ownBlock = some q → vl.ownBlock = some q → False) ∧ Hid (Below gw w W) ∧ Hid (Blk W gw 28 #[.int .i64 most, .int .i64 last, .slice A n c]) ∧ Hid (Blk W (gw + 1) 28 #[.int .i64 0, .int .i64 0, .slice none 0 0])) (fun _ _ vk _ => n - (intOf vk).toNat)
  case atStart => exact ⟨0, rfl, Nat.zero_le _, HO, HP, HAP0, HB0, HK0, HK1⟩
  case round =>
    clear HO HP HAP0 HB0 HK0 HK1 a2
    obtain ⟨k, rfl, hk, HO, HP, HAP, HB, HK0, HK1⟩ := hrel
    by_cases hlt : k < n
    · have hkL : k < L.length := by have := HN.out; omega
      obtain ⟨b9, o9, rfl⟩ : ∃ b9 o9, A = some ⟨b9, o9, none⟩ := by
        obtain ⟨b9, o9, e9, _⟩ := HA.out.one (k := k * 4) (tv_at L k hkL 0 (by omega))
        exact ⟨b9, o9, e9⟩
      obtain ⟨hb9, c0, c1, c2, c3⟩ := act_cells HA.out hkL
      have hr := HLR.out _ (List.mem_of_getElem? (g_at hkL))
      have hbg : b9 < gw := by have := HG.out; omega
      have bc := fun o => HB.out.cell (p := ⟨b9, o, none⟩) hbg
      have c0 := (bc _).trans c0
      have c1 := (bc _).trans c1
      have c2 := (bc _).trans c2
      have c3 := (bc _).trans c3
      have d1 : (k : Int) < (n : Int) := by omega
      have d0 : (0 : Int) ≤ (k : Int) := by omega
      have hfl := dues_le (L.take k)
      have hfm := lefts_le (L.take k)
      have hfl2 : (L.take k).length = k := by rw [List.length_take]; omega
      clear bc hbg hb9
      by_cases hz : (g L k).dl = 1
      · have HFm := Lib.hid (dues_yes hkL hz)
        have HFo := Lib.hid (lefts_no hkL hz)
        generalize g L k = t at *
        obtain ⟨ta, tb, tc', td⟩ := t
        simp only [dec] at c0 c1 c2 c3 hz hr HFm HFo
        subst hz
        rw [show (1 : Int) - 1 = 0 from rfl] at HFm
        obtain ⟨U, hU⟩ : ∃ U, U = wr.alloc (.cells #[.int .i64 ta, .int .i64 0, .int .i64 tc', .int .i64 td] 85) := ⟨_, rfl⟩
        have hsU : U.heap.size = wr.heap.size + 1 := by rw [hU]; simp
        have hT : Blk U wr.heap.size 85 #[.int .i64 ta, .int .i64 0, .int .i64 tc', .int .i64 td] := by rw [hU]; exact Blk.new _ _ _
        have hbU : Below wr.heap.size wr U := hU ▸ below_alloc _ _
        have e0 : U.cell? ⟨wr.heap.size, 0, none⟩ = some (.int .i64 ta) := hT.cell 0 rfl
        have e1 : U.cell? ⟨wr.heap.size, 1, none⟩ = some (.int .i64 0) := hT.cell 1 rfl
        have e2 : U.cell? ⟨wr.heap.size, 2, none⟩ = some (.int .i64 tc') := hT.cell 2 rfl
        have e3 : U.cell? ⟨wr.heap.size, 3, none⟩ = some (.int .i64 td) := hT.cell 3 rfl
        have hgo := HG.out
        have hsz := HB.out.size
        have hg0 := HK0.out.lt
        have hg1 := HK1.out.lt
        have B2 : Below wr.heap.size wr (U.alloc (.cells #[.int .i64 ta, .int .i64 0, .int .i64 tc', .int .i64 td] 85)) := Fr.below_join hbU (below_alloc U _)
        obtain ⟨v2, w2, hrun2, hown2, hgrow2, _, hat2⟩ := run_append_own_at (P := Try.prog) (U.alloc (.cells #[.int .i64 ta, .int .i64 0, .int .i64 tc', .int .i64 td] 85)) (gw + 2) 26 26 85 i0 _ 4 32 Try.underlying26 hi hz0 hz1 hz2 rfl (by decide) _ _ _ (own_below HO.out B2) ⟨U.heap.size, 0, none⟩ 1 1 [.int .i64 ta, .int .i64 0, .int .i64 tc', .int .i64 td] rfl (cells_new' _ _ _ _ rfl _ rfl) (by intro u hu; simp at hu; rcases hu with rfl | rfl | rfl | rfl <;> rfl) (by unfold maxLen; omega) (by omega) (by simp; omega)
        have hfrom := own_from HO.out
        have hne : ∀ q, q < gw + 2 → some q ≠ u4.ownBlock := fun q hq e => by have := hfrom q e.symm; omega
        have HB2 : Hid (Below gw w w2) := ((HB.out.trans (B2.mono (by omega)))).grown hgrow2 (by simp; omega) (fun q hq => by have := hfrom q hq; omega)
        have HK2 : Hid (Blk w2 gw _ _) := (HK0.out.below B2).grown hgrow2 (hne gw (by omega))
        have HK3 : Hid (Blk w2 (gw + 1) _ _) := (HK1.out.below B2).grown hgrow2 (hne (gw + 1) (by omega))
        have HM2 : Hid (w2.ownsRow (gw + 2) 85 4 v2 (dues (L.take (k + 1))).length (tv (dues (L.take (k + 1))))) := by
          rw [HFm.out, List.length_append, tv_app]
          exact hown2
        have HX2 : Hid (w2.ownsRow (gw + 2) 85 4 u5 (lefts (L.take (k + 1))).length (tv (lefts (L.take (k + 1))))) := by
          rw [HFo.out]
          exact (Beside.grown (bad := fun x => u4.ownBlock = some x) (Beside.refl _ _) hgrow2 (fun q hq => .inl hq)).keepsOwn (own_below HP.out B2) (fun q hq e => HAP.out q e hq)
        have HAP2 : Hid (∀ q, v2.ownBlock = some q → u5.ownBlock = some q → False) := fun q h1 h2 => by rcases hat2 with h9 | h9; exact HAP.out q (by rw [← h9]; exact h1) h2; rw [h9] at h1; injection h1 with h1; have := Fr.own_lt HP.out h2; simp at h1; omega
        have HU := Lib.hid hU
        clear hU hT hbU B2 hown2 hgrow2 hat2 hfrom hne HO HP HAP HB HK0 HK1 hfl hfl2 hfm hkL HFm HFo hgo hsU hsz hg0 hg1
        go_upto_region 7 with fail
        rw [← HU.out]
        clear HU
        go_wp2
        exact ⟨⟨k + 1, rfl, by omega, HM2, HX2, HAP2, HB2, HK2, HK3⟩, by simp only [intOf]; omega⟩
      · have HFm := Lib.hid (lefts_yes hkL hz)
        have HFo := Lib.hid (dues_no hkL hz)
        generalize g L k = t at *
        obtain ⟨ta, tb, tc', td⟩ := t
        simp only [dec] at c0 c1 c2 c3 hz hr HFm HFo
        have hzz : ¬ (tb - 1) = 0 := by omega
        have hzb : (tb - 1 == 0) = false := by simpa using hzz
        have hws : IntKind.i64.wrap (tb - 1) = tb - 1 := by rw [IntKind.wrap_i64]; omega
        obtain ⟨U, hU⟩ : ∃ U, U = wr.alloc (.cells #[.int .i64 ta, .int .i64 (tb - 1), .int .i64 tc', .int .i64 td] 85) := ⟨_, rfl⟩
        have hsU : U.heap.size = wr.heap.size + 1 := by rw [hU]; simp
        have hT : Blk U wr.heap.size 85 #[.int .i64 ta, .int .i64 (tb - 1), .int .i64 tc', .int .i64 td] := by rw [hU]; exact Blk.new _ _ _
        have hbU : Below wr.heap.size wr U := hU ▸ below_alloc _ _
        have e0 : U.cell? ⟨wr.heap.size, 0, none⟩ = some (.int .i64 ta) := hT.cell 0 rfl
        have e1 : U.cell? ⟨wr.heap.size, 1, none⟩ = some (.int .i64 (tb - 1)) := hT.cell 1 rfl
        have e2 : U.cell? ⟨wr.heap.size, 2, none⟩ = some (.int .i64 tc') := hT.cell 2 rfl
        have e3 : U.cell? ⟨wr.heap.size, 3, none⟩ = some (.int .i64 td) := hT.cell 3 rfl
        have hgo := HG.out
        have hsz := HB.out.size
        have hg0 := HK0.out.lt
        have hg1 := HK1.out.lt
        have B2 : Below wr.heap.size wr (U.alloc (.cells #[.int .i64 ta, .int .i64 (tb - 1), .int .i64 tc', .int .i64 td] 85)) := Fr.below_join hbU (below_alloc U _)
        obtain ⟨v2, w2, hrun2, hown2, hgrow2, _, hat2⟩ := run_append_own_at (P := Try.prog) (U.alloc (.cells #[.int .i64 ta, .int .i64 (tb - 1), .int .i64 tc', .int .i64 td] 85)) (gw + 2) 26 26 85 i0 _ 4 32 Try.underlying26 hi hz0 hz1 hz2 rfl (by decide) _ _ _ (own_below HP.out B2) ⟨U.heap.size, 0, none⟩ 1 1 [.int .i64 ta, .int .i64 (tb - 1), .int .i64 tc', .int .i64 td] rfl (cells_new' _ _ _ _ rfl _ rfl) (by intro u hu; simp at hu; rcases hu with rfl | rfl | rfl | rfl <;> rfl) (by unfold maxLen; omega) (by omega) (by simp; omega)
        have hfrom := own_from HP.out
        have hne : ∀ q, q < gw + 2 → some q ≠ u5.ownBlock := fun q hq e => by have := hfrom q e.symm; omega
        have HB2 : Hid (Below gw w w2) := ((HB.out.trans (B2.mono (by omega)))).grown hgrow2 (by simp; omega) (fun q hq => by have := hfrom q hq; omega)
        have HK2 : Hid (Blk w2 gw _ _) := (HK0.out.below B2).grown hgrow2 (hne gw (by omega))
        have HK3 : Hid (Blk w2 (gw + 1) _ _) := (HK1.out.below B2).grown hgrow2 (hne (gw + 1) (by omega))
        have HM2 : Hid (w2.ownsRow (gw + 2) 85 4 v2 (lefts (L.take (k + 1))).length (tv (lefts (L.take (k + 1))))) := by
          rw [HFm.out, List.length_append, tv_app]
          exact hown2
        have HX2 : Hid (w2.ownsRow (gw + 2) 85 4 u4 (dues (L.take (k + 1))).length (tv (dues (L.take (k + 1))))) := by
          rw [HFo.out]
          exact (Beside.grown (bad := fun x => u5.ownBlock = some x) (Beside.refl _ _) hgrow2 (fun q hq => .inl hq)).keepsOwn (own_below HO.out B2) (fun q hq e => HAP.out q hq e)
        have HAP2 : Hid (∀ q, u4.ownBlock = some q → v2.ownBlock = some q → False) := fun q h1 h2 => by rcases hat2 with h9 | h9; exact HAP.out q h1 (by rw [← h9]; exact h2); rw [h9] at h2; injection h2 with h2; have := Fr.own_lt HO.out h1; simp at h2; omega
        have HU := Lib.hid hU
        clear hU hT hbU B2 hown2 hgrow2 hat2 hfrom hne HO HP HAP HB HK0 HK1 hfl hfl2 hfm hkL hz HFm HFo hgo hsU hsz hg0 hg1
        go_upto_region 7 with fail
        rw [← HU.out]
        clear HU
        go_wp2
        exact ⟨⟨k + 1, rfl, by omega, HX2, HM2, HAP2, HB2, HK2, HK3⟩, by simp only [intOf]; omega⟩
    · obtain rfl : k = n := by omega
      have d1 : ¬ ((k : Int) < (k : Int)) := by omega
      have hLk : L.take k = L := List.take_of_length_le (by have := HN.out; omega)
      rw [hLk] at HO HP
      obtain ⟨A6, c6, rfl, h66, h67⟩ := own_slice HP.out
      obtain ⟨A7, c7, rfl, h76, h77⟩ := own_slice HO.out
      have HAT := Lib.hid (At.own HP.out)
      have HAT7 := Lib.hid (At.own HO.out)
      have HA0 := Lib.hid (own_addr HP.out)
      have HNEW : Hid (∀ b' o p, A6 = some ⟨b', o, p⟩ → w.heap.size ≤ b' ∧ p = none ∧ b' < wr.heap.size) := fun b' o p e => by have h9 := own_new HP.out b' o p e; have h8 := HG.out; exact ⟨by omega, h9.2⟩
      have HSEP : Hid (∀ b' o', A6 = some ⟨b', o', none⟩ → b' ≠ gw ∧ b' ≠ gw + 1) := fun b' o' e' => by have := own_from HP.out b' (by rw [e']; rfl); omega
      have HNEW7 : Hid (∀ b' o p, A7 = some ⟨b', o, p⟩ → w.heap.size ≤ b') := fun b' o p e => by have h9 := own_new HO.out b' o p e; have h8 := HG.out; omega
      have HSEP7 : Hid (∀ b' o', A7 = some ⟨b', o', none⟩ → b' ≠ gw ∧ b' ≠ gw + 1) := fun b' o' e' => by have := own_from HO.out b' (by rw [e']; rfl); omega
      clear HO HP HAP hLk d1
      generalize hM : (lefts L).length = M at *
      generalize hM7 : (dues L).length = M7 at *
      have a2 : wr.cell? ⟨gw, 2, none⟩ = some (.slice A k c) := HK0.out.cell 2 rfl
      have a2f : wr.frozen? ⟨gw, 2, none⟩ = false := HK0.out.frozen 2
      obtain ⟨X, hX⟩ : ∃ X, X = wr.setCell ⟨gw, 2, none⟩ (.slice A6 M c6) := ⟨_, rfl⟩
      have x0 : Blk X gw 28 #[.int .i64 most, .int .i64 last, .slice A6 M c6] := by rw [hX]; exact HK0.out.set 2 _
      have x1 : Blk X (gw + 1) 28 #[.int .i64 0, .int .i64 0, .slice none 0 0] := by rw [hX]; exact HK1.out.other _ _ _ (by omega)
      obtain ⟨Z, hZ⟩ : ∃ Z, Z = set3 X (gw + 1) (.int .i64 most) (.int .i64 last) (.slice A6 M c6) := ⟨_, rfl⟩
      have z1 : Blk Z (gw + 1) 28 #[.int .i64 most, .int .i64 last, .slice A6 M c6] := by rw [hZ]; exact blk_set3 x1 _ _ _
      have hE : Below w.heap.size w Z := by
        have h9 : Beside (fun _ => False) w wr := Beside.ofBelow (by rw [← HG.out]; exact HB.out)
        rw [hZ, hX]
        exact beside_none (beside_set3 (h9.set (.inr (by have := HG.out; omega)) 2 _) (.inr (by have := HG.out; omega)) _ _ _)
      have h9b : Beside (fun x => x = gw ∨ x = gw + 1) wr Z := by
        rw [hZ, hX]
        exact beside_set3 ((Beside.refl _ wr).set (.inl (.inl rfl)) 2 _) (.inl (.inr rfl)) _ _ _
      have hAT : At Z A6 (tv (lefts L)) := h9b.at HAT.out (fun b' o' p e h8 => by
        have hp := (HNEW.out b' o' p e).2.1
        subst hp
        have := HSEP.out b' o' e; omega)
      have hAT7 : At Z A7 (tv (dues L)) := fun hx => by
        obtain ⟨b', o', e', hb', hc'⟩ := HAT7.out hx
        have hne0 := HSEP7.out b' o' e'
        exact ⟨b', o', e', Nat.lt_of_lt_of_le hb' h9b.size, fun j u hu => (World.cell?_of_block (w := wr) (h9b.block b' hb' (by rintro (h8 | h8); exact hne0.1 h8; exact hne0.2 h8))).trans (hc' j u hu)⟩
      have p0 : X.cell? ⟨gw, 0, none⟩ = some (.int .i64 most) := x0.cell 0 rfl
      have p1 : X.cell? ⟨gw, 1, none⟩ = some (.int .i64 last) := x0.cell 1 rfl
      have p2 : X.cell? ⟨gw, 2, none⟩ = some (.slice A6 M c6) := x0.cell 2 rfl
      have q0 : X.cell? ⟨gw + 1, 0, none⟩ = some (.int .i64 0) := x1.cell 0 rfl
      have q1 : X.cell? ⟨gw + 1, 1, none⟩ = some (.int .i64 0) := x1.cell 1 rfl
      have q2 : X.cell? ⟨gw + 1, 2, none⟩ = some (.slice none 0 0) := x1.cell 2 rfl
      have qf0 : X.frozen? ⟨gw + 1, 0, none⟩ = false := x1.frozen 0
      have qf1 : X.frozen? ⟨gw + 1, 1, none⟩ = false := x1.frozen 1
      have qf2 : X.frozen? ⟨gw + 1, 2, none⟩ = false := x1.frozen 2
      have HZS : Hid (Z.heap.size = wr.heap.size) := by show _ = _; rw [hZ, hX]; simp [set3]
      unfold set3 at hZ
      have HX := Lib.hid hX
      have HZ := Lib.hid hZ
      have HE := Lib.hid hE
      have HZ1 := Lib.hid z1
      have HAZ := Lib.hid hAT
      have HAZ7 := Lib.hid hAT7
      clear hX hZ hE z1 hAT hAT7 h9b x0 x1 HB HAT HAT7 HK0 HK1 HSEP HSEP7
      go_upto_region 12 with fail
      rw [← HX.out]
      go_wp2
      rw [← HZ.out]
      try simp only [Exit.inBlock, Exit.then]
      refine bodyPost_ret (results_mid_tmpF rfl _ _ (gw + 1) 0 [.int .i64 most, .int .i64 last, .slice A6 M c6] _ (.slice A7 M7 c7) rfl (blk_range HZ1.out) Try.underlying28 rfl (by kernel_rfl) rfl) rfl ?_
      subst hM hM7
      exact ⟨A6, c6, A7, c7, rfl, h66, h67, HAZ.out, HA0.out, (fun b' o p e => by rw [HZS.out]; exact HNEW.out b' o p e), h76, h77, HAZ7.out, HNEW7.out, HE.out⟩
end Fr
end Go.Proofs.Ytpdlholoeaphgaa
