/- Contract of props' latest at pairs of numbers: the map of the pairs. -/
import Derived.Test.YtcboeehmhpkodaaPrS1
import Derived.Test.YtcboeehmhpkodaaStPI3
import Derived.Maps.AppendAt
namespace Go.Proofs.Ytcboeehmhpkodaa
open Go.RowKit Go.Sort M
theorem drewN_belowD {B : Nat} {a w : World} (h : RowKit.Below B a w) (q : Nat) : RowKit.Below B a (w.drewN q) := ⟨h.os, h.tape, h.output, h.size, h.block⟩
/-- the library's stable sort at a row of one's own. -/
theorem sort_own (B g n c base : Nat) (l : List Par) (w : World) (hB : w.cell? ⟨B, 0, none⟩ = some (.func (.func 38) #[] #[])) (hne : B ≠ g) (hb : n ≤ 10000000000)
    (hown : w.ownsRow base 56 2 (.slice (some ⟨g, 0, none⟩) n c) n (pv l)) (hn : n = l.length) (D : Nat) (hD : D ≤ g) (hDw : D ≤ w.heap.size) :
    Calls Try.prog 49 #[.slice (some ⟨g, 0, none⟩) n c, .func (.func 50) #[] #[.pointer (some ⟨B, 0, none⟩)]] w fun e w' =>
      e = .returned (.tuple #[]) ∧ ∃ l' : List Par, l'.length = n ∧ St.lasts l' = ofP l ∧ At w' (some ⟨g, 0, none⟩) (pv l') ∧ Below D w w' ∧ (g < w'.heap.size) ∧ w'.cell? ⟨B, 0, none⟩ = some (.func (.func 38) #[] #[]) := by
  subst hn
  obtain ⟨hH, hg⟩ := St.holds_of_own (enc := encP) (k := 2) encP_len hown
  have hlt : B < w.heap.size := World.block_lt_of_cell? w _ hB
  have hs := St.PI.sorts (nm := (Prod.fst : Par → ByteArray)) encP St.cfP St.swoP St.neP 50 #[.pointer (some ⟨B, 0, none⟩)] g 0 c l.toArray w
    (enters_of Try.func50 (by kernel_rfl) rfl) (cmp_lays B g l.toArray.size w hB hne) ⟨encP_len, encP_one, hH, hg⟩ (by simp; omega)
  rw [show l.toArray.size = l.length from by simp] at hs
  refine hs.mono ?_
  rintro e w' ⟨rfl, d', hk, hs', hw⟩
  have hsz : d'.size = l.length := by have := hk.size; simpa using this
  have hle : g < w'.heap.size := hw.lt hg
  refine ⟨rfl, d'.toList, by simpa using hsz, ?_, ?_, St.swk_below hw hD hDw, hle, ?_⟩
  · have := St.sorted_map (d := l.toArray) (d' := d') (by simpa using hk) (by simpa using hs')
    simpa using this
  · exact St.at_of_holds (enc := encP) (k := 2) encP_len (hw.holds hg hH (by simpa using hsz)) hle
  · obtain ⟨m, os, rfl⟩ := hw
    unfold sortWorldK
    rw [cell?_grow _ _ _ (by rw [size_putRowK]; exact hlt), cell?_putRowK_other encP 2 _ g 0 d' _ (by exact hne)]
    exact hB
/-- .. and at nil. -/
theorem sort_any (B n base : Nat) (v : Value) (l : List Par) (w : World) (hB : w.cell? ⟨B, 0, none⟩ = some (.func (.func 38) #[] #[])) (hne : B < base) (hb : n ≤ 10000000000)
    (hown : w.ownsRow base 56 2 v n (pv l)) (hn : n = l.length) (hbase : base ≤ w.heap.size) :
    Calls Try.prog 49 #[v, .func (.func 50) #[] #[.pointer (some ⟨B, 0, none⟩)]] w fun e w' =>
      e = .returned (.tuple #[]) ∧ ∃ (l' : List Par) (A1 : Option Addr) (c1 : Nat), v = .slice A1 n c1 ∧ l'.length = n ∧ St.lasts l' = ofP l ∧ At w' A1 (pv l') ∧ Below base w w' ∧ (∀ b off, A1 = some ⟨b, off, none⟩ → b < w'.heap.size) ∧ w'.cell? ⟨B, 0, none⟩ = some (.func (.func 38) #[] #[]) := by
  rcases hown.2 with ⟨rfl, rfl⟩ | ⟨g, c, cur, rfl, hg, _⟩
  · refine (St.PI.sorts_none none 0 (.func (.func 50) #[] #[.pointer (some ⟨B, 0, none⟩)]) w).mono ?_
    rintro e w' ⟨rfl, rfl⟩
    have hl : l = [] := List.eq_nil_of_length_eq_zero hn.symm
    subst hl
    exact ⟨rfl, [], none, 0, rfl, rfl, rfl, At.nil _ _, Below.refl _ _, (fun b off h => nomatch h), hB⟩
  · refine (sort_own B g n c base l w hB (by omega) hb hown hn base hg hbase).mono ?_
    rintro e w' ⟨rfl, l', h1, h2, h3, h4, h5, h6⟩
    exact ⟨rfl, l', _, c, rfl, h1, h2, h3, h4, (fun b off h => by injection h with h; injection h with h; omega), h6⟩
set_option maxHeartbeats 8000000 in
set_option maxRecDepth 100000 in
theorem latest_any (A : Option Addr) (n c : Nat) (l : List Par) (w : World) (hn : n = l.length) (hb : n ≤ 100000) (hA0 : A = none → n = 0 ∧ c = 0) (ha : At w A (pv l)) :
    Calls Try.prog 37 #[.slice A n c, .func (.func 38) #[] #[]] w fun e w' => ∃ v, e = .returned v ∧ w'.ownsRow w.heap.size 56 2 v (ofP l).length (pv (ofP l)) ∧ Below w.heap.size w w' := by
  have mixed : Try.prog.follows .mixedOrders = true := by kernel_rfl
  obtain ⟨w1, hw1⟩ : ∃ w1 : World, w1 = w.alloc (.cells #[.func (.func 38) #[] #[]] 64) := ⟨_, rfl⟩
  have hs1 : w1.heap.size = w.heap.size + 1 := by rw [hw1]; simp
  have hBel1 : Below w.heap.size w w1 := by rw [hw1]; exact below_alloc _ _
  have hC1 : w1.cell? ⟨w.heap.size, 0, none⟩ = some (.func (.func 38) #[] #[]) := by rw [hw1]; simp
  have hcl := cloneP_any A n c l w1 hn (by omega) hA0 (by rw [hw1]; exact ha.alloc _)
  rw [hs1] at hcl
  have HCL := Lib.hid hcl
  have HN := Lib.hid hn
  have HB1 := Lib.hid hBel1
  have HC1 := Lib.hid hC1
  have HS1 := Lib.hid hs1
  have HW1 := Lib.hid hw1
  clear hcl hn hBel1 hC1 ha hs1
  obtain ⟨i0, hi, hz0, hz1, hz2⟩ := info_parts infoPPar
  go_enter Try.func37, Try.ntmps37
  go_wp2_with fail
  rw [← HW1.out]
  clear hw1
  go_wp2_with (go_at_call 48; refine HCL.out.mono ?_; rintro e9 w2 ⟨v, rfl, hown, hbel⟩; have HO := Lib.hid hown; have HB2 := Lib.hid hbel; clear hown hbel HCL)
  have hs2 : w1.heap.size ≤ w2.heap.size := HB2.out.size
  have hso := Lib.hid (sort_any w.heap.size n (w.heap.size + 1) v l w2 ((HB2.out.cell (p := ⟨w.heap.size, 0, none⟩) (by show w.heap.size < _; omega)).trans HC1.out) (by omega) (by omega) HO.out HN.out (by have := HS1.out; omega))
  go_wp2_with (go_at_call 49; refine hso.out.mono ?_; rintro e9 w3 ⟨rfl, l', A1, c1, hv, hln, hlas, hat3, hbel3, hin3, hC3⟩; have HLN := Lib.hid hln; have HL0 := Lib.hid hlas; have HA3 := Lib.hid hat3; have HB3 := Lib.hid hbel3; have HI3 := Lib.hid hin3; have HC3 := Lib.hid hC3; subst hv; clear hln hlas hat3 hbel3 hin3 hC3 hso)
  have HBel := Lib.hid (HB1.out.trans ((HB2.out.mono (by omega)).trans (HB3.out.mono (by omega))))
  have hs3 : w.heap.size + 1 ≤ w3.heap.size := by have h1 := HB3.out.size; have h2 := HS1.out; omega
  clear hs2
  go_loopw [6, 16] (fun v i wr => ∃ (k : Nat) (out : List Par), k ≤ n ∧ i = .int .i64 k ∧ out.length ≤ k ∧ Hid (wr.ownsRow w.heap.size 56 2 v out.length (pv out)) ∧ Hid (out ++ St.lasts (l'.drop k) = ofP l) ∧ Hid (At wr A1 (pv l')) ∧ Hid (wr.cell? ⟨w.heap.size, 0, none⟩ = some (.func (.func 38) #[] #[])) ∧ RowKit.Below w.heap.size w wr ∧ Hid (∀ g, v.ownBlock = some g → w3.heap.size ≤ g) ∧ w3.heap.size ≤ wr.heap.size) (fun _ i _ => n - (intOf i).toNat)
  case atStart => exact ⟨0, [], Nat.zero_le _, rfl, Nat.le_refl _, World.ownsRow_nil _ _ _ _, HL0.out, HA3.out, HC3.out, HBel.out, (fun g h => nomatch h), Nat.le_refl _⟩
  case round =>
    obtain ⟨k, out, hk, rfl, hol, hown, hlast, hat, hfn, hbel, hwhere, hw3⟩ := hrel
    by_cases hlt : k < n
    · have hk1 : k < l'.length := by have := HLN.out; omega
      obtain ⟨b, off, rfl, hlb, hd0, hd1⟩ := at_pair hat.out hk1
      have hb3 := HI3.out b off rfl
      have hkn : (k : Int) < (n : Int) := by omega
      obtain ⟨s, hs⟩ : ∃ s, s = l'[k].1 := ⟨_, rfl⟩
      obtain ⟨z, hz⟩ : ∃ z, z = l'[k].2 := ⟨_, rfl⟩
      have HSZ := Lib.hid (show l'[k] = (s, z) by rw [hs, hz])
      rw [← hs] at hd0
      rw [← hz] at hd1
      clear hs hz
      have HPP := Lib.hid (show pv (out ++ [(s, z)]) = pv out ++ [.string s, .int .i64 z] by rw [pv_app]; rfl)
      obtain ⟨W, hW⟩ : ∃ W, W = wr.alloc (.cells #[.string s, .int .i64 z] 56) := ⟨_, rfl⟩
      have HWS := Lib.hid (show W.heap.size = wr.heap.size + 1 by rw [hW]; simp)
      have HWB := Lib.hid (show RowKit.Below wr.heap.size wr W by rw [hW]; exact below_alloc _ _)
      have HX0 := Lib.hid (show W.cell? ⟨wr.heap.size, 0, none⟩ = some (.string s) by rw [hW]; simp)
      have HX1 := Lib.hid (show W.cell? ⟨wr.heap.size, 1, none⟩ = some (.int .i64 z) by rw [hW]; simp)
      have HWE := Lib.hid hW
      clear hW
      have hsz := hbel.size
      have hwr : IntKind.i64.wrap ((k : Int) + 1) = (k : Int) + 1 := by rw [IntKind.wrap_i64]; omega
      have hw0 : (0 : Int) ≤ (k : Int) + 1 := by omega
      have hwn : ((k : Int) + 1).toNat = k + 1 := by omega
      by_cases hend : k + 1 = n
      · have he : ((k : Int) + 1 == (n : Int)) = true := by rw [beq_iff_eq]; omega
        have HX : Hid (out ++ [(s, z)] ++ St.lasts (l'.drop (k + 1)) = ofP l) := by
          have h1 := hlast.out
          rw [St.lasts_end l' k (by have := HLN.out; omega), HSZ.out] at h1
          show _ = _
          rw [List.drop_of_length_le (by have := HLN.out; omega), h1]
          simp [St.lasts]
        go_wp2_with fail
        rw [← HWE.out]
        go_quiet (fail)
        have G1 := Lib.hid (drewN_belowD (RowKit.Below.refl W.heap.size W) nq)
        generalize W.drewN nq = W2 at G1 ⊢
        have G0 := Lib.hid (HWB.out.trans (G1.out.mono (by have := HWS.out; omega)))
        have HO2 := Lib.hid (own_below hown.out G0.out)
        have c0 : W2.cell? ⟨w.heap.size, 0, none⟩ = some (.func (.func 38) #[] #[]) := (G0.out.cell (p := ⟨w.heap.size, 0, none⟩) (by show w.heap.size < _; omega)).trans hfn.out
        have c1 : W2.cell? ⟨wr.heap.size, 0, none⟩ = some (.string s) := (G1.out.cell (p := ⟨wr.heap.size, 0, none⟩) (by show wr.heap.size < _; have := HWS.out; omega)).trans HX0.out
        have c2 : W2.cell? ⟨wr.heap.size, 1, none⟩ = some (.int .i64 z) := (G1.out.cell (p := ⟨wr.heap.size, 1, none⟩) (by show wr.heap.size < _; have := HWS.out; omega)).trans HX1.out
        have hbs2 : w.heap.size ≤ W2.heap.size := by have := G0.out.size; omega
        clear nq
        go_wp2_with (at_builtin; refine wpList_append_own_at _ rfl _ _ 33 rfl w.heap.size 56 i0 (.agg #[.string { data := #[] }, .int .i64 0]) 2 24 Try.underlying33 hi hz0 hz1 hz2 rfl (by decide) _ _ _ rfl (HO2.out.alloc _) ⟨_, 0, none⟩ 1 1 [.string s, .int .i64 z] rfl rfl (cells_new' _ _ _ _ rfl _ (by simp)) (pv_one [(s, z)]) (by unfold maxLen; omega) (by omega) (by simp; omega) ?_; intro v1 w5 hown1 hgrow1 _hnil1 hloc1; have HO5 := Lib.hid hown1; have HG5 := Lib.hid hgrow1; have HL5 := Lib.hid hloc1; clear hown1 hgrow1 _hnil1 hloc1)
        go_roundw
        case rel => exact ⟨k + 1, out ++ [(s, z)], by omega, by go_num, by rw [List.length_append]; simp; omega, by show World.ownsRow _ _ _ _ _ _ _; rw [HPP.out, List.length_append]; exact HO5.out, HX.out, ((hat.out.below (G0.out.mono (Nat.le_refl _))).alloc _).grown HG5.out (fun e => by have := hwhere.out b e.symm; omega), HG5.out.cell (Lib.cell?_alloc_some _ c0) (fun e => by have := hwhere.out w.heap.size e.symm; omega), ((hbel.trans (G0.out.mono hsz)).alloc (by have := G0.out.size; omega) _).grown HG5.out (by have := G0.out.size; simp; omega) (own_from hown.out), (fun g h => by rcases HL5.out with e | e; exact hwhere.out g (e.symm.trans h); rw [e] at h; injection h with h; have := G0.out.size; first | omega | (simp at h; omega)), by have h5 := HG5.out.size; have h6 := G0.out.size; simp at h5; omega⟩
        case measure => simp [intOf]; omega
      · have hk2 : k + 1 < l'.length := by have := HLN.out; omega
        have he : ((k : Int) + 1 == (n : Int)) = false := by rw [beq_eq_false_iff_ne]; omega
        have hkn2 : (k : Int) + 1 < (n : Int) := by omega
        obtain ⟨b', off', hbe, _, hd2, hd3⟩ := at_pair hat.out hk2
        injection hbe with hbe
        injection hbe with hbe1 hbe2
        subst hbe1 hbe2
        obtain ⟨t, ht⟩ : ∃ t, t = l'[k + 1].1 := ⟨_, rfl⟩
        obtain ⟨y, hy⟩ : ∃ y, y = l'[k + 1].2 := ⟨_, rfl⟩
        rw [← ht] at hd2
        rw [← hy] at hd3
        have HT := Lib.hid ht
        clear ht hy
        have f0 : ∀ n os, (grow (W.drewN n) os).cell? ⟨w.heap.size, 0, none⟩ = some (.func (.func 38) #[] #[]) := cell_grown (by show w.heap.size < _; have := HWS.out; omega) ((HWB.out.cell (p := ⟨w.heap.size, 0, none⟩) (by show w.heap.size < _; omega)).trans hfn.out)
        have f1 : ∀ n os, (grow (W.drewN n) os).cell? ⟨wr.heap.size, 0, none⟩ = some (.string s) := cell_grown (by show wr.heap.size < _; have := HWS.out; omega) HX0.out
        have f2 : ∀ n os, (grow (W.drewN n) os).cell? ⟨wr.heap.size, 1, none⟩ = some (.int .i64 z) := cell_grown (by show wr.heap.size < _; have := HWS.out; omega) HX1.out
        have f3 : ∀ n os, (grow (W.drewN n) os).cell? ⟨b, off + (k + 1) * 2, none⟩ = some (.string t) := cell_grown (by show b < _; have := HWS.out; omega) ((HWB.out.cell (p := ⟨b, off + (k + 1) * 2, none⟩) hlb).trans hd2)
        have f4 : ∀ n os, (grow (W.drewN n) os).cell? ⟨b, off + (k + 1) * 2 + 1, none⟩ = some (.int .i64 y) := cell_grown (by show b < _; have := HWS.out; omega) ((HWB.out.cell (p := ⟨b, off + (k + 1) * 2 + 1, none⟩) hlb).trans hd3)
        clear hd2 hd3
        have hST := St.lasts_step l' k hk2
        rw [← HT.out, HSZ.out] at hST
        by_cases hst : t = s
        · have h1 := str_yes hst
          have HX : Hid (out ++ St.lasts (l'.drop (k + 1)) = ofP l) := by
            have h1 := hlast.out
            rw [hST, if_pos (by simpa using hst.symm)] at h1
            exact h1
          clear hst hST
          go_wp2_with fail
          rw [← HWE.out]
          go_quiet_grown (first | (go_at_call 38; refine Calls.grown_of (of1_g _ _ _)))
          clear f0 f1 f2 f3 f4
          have G1 := Lib.hid (St.grow_below (RowKit.Below.refl W.heap.size W) (Nat.le_refl _) nq osq)
          generalize grow (W.drewN nq) osq = W2 at G1 ⊢
          have G0 := Lib.hid (HWB.out.trans (G1.out.mono (by have := HWS.out; omega)))
          have HO2 := Lib.hid (own_below hown.out G0.out)
          have c0 : W2.cell? ⟨w.heap.size, 0, none⟩ = some (.func (.func 38) #[] #[]) := (G0.out.cell (p := ⟨w.heap.size, 0, none⟩) (by show w.heap.size < _; omega)).trans hfn.out
          have c1 : W2.cell? ⟨wr.heap.size, 0, none⟩ = some (.string s) := (G1.out.cell (p := ⟨wr.heap.size, 0, none⟩) (by show wr.heap.size < _; have := HWS.out; omega)).trans HX0.out
          have c2 : W2.cell? ⟨wr.heap.size, 1, none⟩ = some (.int .i64 z) := (G1.out.cell (p := ⟨wr.heap.size, 1, none⟩) (by show wr.heap.size < _; have := HWS.out; omega)).trans HX1.out
          have hbs2 : w.heap.size ≤ W2.heap.size := by have := G0.out.size; omega
          clear nq osq
          go_wp2
          go_roundw
          case rel => exact ⟨k + 1, out, by omega, by go_num, by omega, by show World.ownsRow _ _ _ _ _ _ _; exact HO2.out, HX.out, hat.out.below (G0.out.mono (Nat.le_refl _)), c0, hbel.trans (G0.out.mono hsz), hwhere.out, by have := G0.out.size; omega⟩
          case measure => simp [intOf]; omega
        · have h1 := str_no hst
          have HX : Hid (out ++ [(s, z)] ++ St.lasts (l'.drop (k + 1)) = ofP l) := by
            have h1 := hlast.out
            rw [hST, if_neg (by simpa using fun e => hst e.symm)] at h1
            show _ = _
            rw [← h1]; simp
          clear hst hST
          go_wp2_with fail
          rw [← HWE.out]
          go_quiet_grown (first | (go_at_call 38; refine Calls.grown_of (of1_g _ _ _)))
          clear f0 f1 f2 f3 f4
          have G1 := Lib.hid (St.grow_below (RowKit.Below.refl W.heap.size W) (Nat.le_refl _) nq osq)
          generalize grow (W.drewN nq) osq = W2 at G1 ⊢
          have G0 := Lib.hid (HWB.out.trans (G1.out.mono (by have := HWS.out; omega)))
          have HO2 := Lib.hid (own_below hown.out G0.out)
          have c0 : W2.cell? ⟨w.heap.size, 0, none⟩ = some (.func (.func 38) #[] #[]) := (G0.out.cell (p := ⟨w.heap.size, 0, none⟩) (by show w.heap.size < _; omega)).trans hfn.out
          have c1 : W2.cell? ⟨wr.heap.size, 0, none⟩ = some (.string s) := (G1.out.cell (p := ⟨wr.heap.size, 0, none⟩) (by show wr.heap.size < _; have := HWS.out; omega)).trans HX0.out
          have c2 : W2.cell? ⟨wr.heap.size, 1, none⟩ = some (.int .i64 z) := (G1.out.cell (p := ⟨wr.heap.size, 1, none⟩) (by show wr.heap.size < _; have := HWS.out; omega)).trans HX1.out
          have hbs2 : w.heap.size ≤ W2.heap.size := by have := G0.out.size; omega
          clear nq osq
          go_wp2_with (at_builtin; refine wpList_append_own_at _ rfl _ _ 33 rfl w.heap.size 56 i0 (.agg #[.string { data := #[] }, .int .i64 0]) 2 24 Try.underlying33 hi hz0 hz1 hz2 rfl (by decide) _ _ _ rfl (HO2.out.alloc _) ⟨_, 0, none⟩ 1 1 [.string s, .int .i64 z] rfl rfl (cells_new' _ _ _ _ rfl _ (by simp)) (pv_one [(s, z)]) (by unfold maxLen; omega) (by omega) (by simp; omega) ?_; intro v1 w5 hown1 hgrow1 _hnil1 hloc1; have HO5 := Lib.hid hown1; have HG5 := Lib.hid hgrow1; have HL5 := Lib.hid hloc1; clear hown1 hgrow1 _hnil1 hloc1)
          go_roundw
          case rel => exact ⟨k + 1, out ++ [(s, z)], by omega, by go_num, by rw [List.length_append]; simp; omega, by show World.ownsRow _ _ _ _ _ _ _; rw [HPP.out, List.length_append]; exact HO5.out, HX.out, ((hat.out.below (G0.out.mono (Nat.le_refl _))).alloc _).grown HG5.out (fun e => by have := hwhere.out b e.symm; omega), HG5.out.cell (Lib.cell?_alloc_some _ c0) (fun e => by have := hwhere.out w.heap.size e.symm; omega), ((hbel.trans (G0.out.mono hsz)).alloc (by have := G0.out.size; omega) _).grown HG5.out (by have := G0.out.size; simp; omega) (own_from hown.out), (fun g h => by rcases HL5.out with e | e; exact hwhere.out g (e.symm.trans h); rw [e] at h; injection h with h; have := G0.out.size; first | omega | (simp at h; omega)), by have h5 := HG5.out.size; have h6 := G0.out.size; simp at h5; omega⟩
          case measure => simp [intOf]; omega
    · obtain rfl : k = n := by omega
      go_wp2
      go_ret
      refine ⟨_, rfl, ?_, hbel⟩
      have h1 := hlast.out
      rw [List.drop_of_length_le (by have := HLN.out; omega)] at h1
      have h2 : out = ofP l := by simpa [St.lasts] using h1
      rw [← h2]
      exact hown.out
end Go.Proofs.Ytcboeehmhpkodaa
