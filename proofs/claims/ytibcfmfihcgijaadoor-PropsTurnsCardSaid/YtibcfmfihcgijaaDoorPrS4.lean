/- Contract of props' Turn at numbers: just the steps from one map to the other one. -/
import Derived.Test.YtibcfmfihcgijaaDoorPrS3
import Derived.Test.YtibcfmfihcgijaaDoorPrW6
namespace Go.Proofs.YtibcfmfihcgijaaDoor
open Go.RowKit M
theorem infoPStp : (Tryd.prog.info? 63).map (fun i => (i.zero, i.size, i.bytes)) = some (some (.agg #[.bool false, .string { data := #[] }, .int .i64 0]), 3, 32) := by kernel_rfl
def dropsF (b : List Par) (p : Par) : Bool := (getP b p.1).isNone
def dropsG (p : Par) : PStp := (true, p.1, 0)
def setsF (a : List Par) (p : Par) : Bool := !decide (getP a p.1 = some p.2)
def setsG (p : Par) : PStp := (false, p.1, p.2)
theorem turnP_eq (a b : List Par) : turnP a b = ((ofP a).filter (dropsF b)).map dropsG ++ ((ofP b).filter (setsF a)).map setsG := rfl
set_option maxHeartbeats 8000000 in
set_option maxRecDepth 100000 in
theorem turn_any (A B : Option Addr) (n c m d : Nat) (a b : List Par) (w : World) (hn : n = a.length) (hm : m = b.length) (hb : n ≤ 10000) (hb2 : m ≤ 10000) (hA0 : A = none → n = 0 ∧ c = 0) (hB0 : B = none → m = 0 ∧ d = 0) (ha : At w A (pv a)) (hb' : At w B (pv b)) :
    Calls Tryd.prog 29 #[.slice A n c, .slice B m d] w fun e w' => ∃ v, e = .returned v ∧ w'.ownsRow w.heap.size 63 3 v (turnP a b).length (psv (turnP a b)) ∧ RowKit.Below w.heap.size w w' := by
  have H1 := Lib.hid (of_any A n c a w hn (by omega) hA0 ha)
  have H2 : Hid (∀ w1 : World, RowKit.Below w.heap.size w w1 → Calls Tryd.prog 15 #[.slice B m d] w1 fun e w' => ∃ v, e = .returned v ∧ w'.ownsRow w1.heap.size 68 2 v (ofP b).length (pv (ofP b)) ∧ RowKit.Below w1.heap.size w1 w') := fun w1 h => of_any B m d b w1 hm (by omega) hB0 (hb'.below h)
  have hR1 := ofP_len a
  have hR2 := ofP_len b
  rw [← hn] at hR1
  rw [← hm] at hR2
  have HRa := Lib.hid (ofP_rises a)
  have HRb := Lib.hid (ofP_rises b)
  have HGa := Lib.hid (fun x => ofP_get a x)
  have HGb := Lib.hid (fun x => ofP_get b x)
  have HT := Lib.hid (turnP_eq a b)
  obtain ⟨i0, hi, hz0, hz1, hz2⟩ := info_parts infoPStp
  clear hn hm hA0 hB0 ha hb'
  generalize ofP a = R at H1 hR1 HRa HGa HT
  generalize ofP b = S at H2 hR2 HRb HGb HT
  go_enter Tryd.func29, Tryd.ntmps29
  go_wp2_with fail
  refine H1.out.mono ?_
  rintro e w1 ⟨v0, rfl, hown, hbel1⟩
  obtain ⟨A0, c0, rfl, _, _, hat⟩ := at_of_own' hown
  have HA1 := Lib.hid hat
  have HB1 := Lib.hid hbel1
  clear hat hown hbel1 H1
  go_wp2_with fail
  refine (H2.out w1 HB1.out).mono ?_
  rintro e w2 ⟨v1, rfl, hown, hbel2⟩
  obtain ⟨B0, d0, rfl, _, _, hat⟩ := at_of_own' hown
  have HAA := Lib.hid (HA1.out.below hbel2)
  have HBB := Lib.hid hat
  have HB2 := Lib.hid (HB1.out.trans (hbel2.mono HB1.out.size))
  clear hat hown hbel2 H2 HA1
  have hs2 := HB2.out.size
  go_wp2
  go_loopw [5, 20] (fun v i wr => ∃ (k : Nat) (out : List PStp), k ≤ R.length ∧ i = .int .i64 k ∧ out.length ≤ k ∧ Hid (wr.ownsRow w2.heap.size 63 3 v out.length (psv out)) ∧ Hid (out = ((R.take k).filter (dropsF b)).map dropsG) ∧ RowKit.Below w2.heap.size w2 wr) (fun _ i _ => R.length - (intOf i).toNat)
  case atStart => exact ⟨0, [], Nat.zero_le _, rfl, Nat.le_refl _, World.ownsRow_nil _ _ _ _, rfl, RowKit.Below.refl _ _⟩
  case round =>
    obtain ⟨k, out, hk, rfl, hol, hown, hout, hbel⟩ := hrel
    have hsz := hbel.size
    by_cases hlt : k < R.length
    · have hat := HAA.out.below hbel
      obtain ⟨b0, off, rfl, hlb, hd0, hd1⟩ := at_pair hat hlt
      have hY := filter_take_yes R (dropsF b) k hlt
      have hZ := filter_take_no R (dropsF b) k hlt
      obtain ⟨s, hs⟩ : ∃ s, s = R[k].1 := ⟨_, rfl⟩
      obtain ⟨z, hz⟩ : ∃ z, z = R[k].2 := ⟨_, rfl⟩
      have hp : R[k] = (s, z) := by rw [hs, hz]
      rw [← hs] at hd0
      rw [← hz] at hd1
      rw [hp] at hY hZ
      have HY := Lib.hid hY
      have HZ := Lib.hid hZ
      clear hs hz hp hat hY hZ
      go_wp2_with fail
      refine (find_map B0 _ d0 S s _ rfl (by omega) HRb.out ((HBB.out.below hbel).alloc _)).mono ?_
      rintro e w5 (⟨y, hy, rfl, hb5⟩ | ⟨hy, rfl, hb5⟩)
      · have HX : Hid (out = ((R.take (k + 1)).filter (dropsF b)).map dropsG) := by
          show _ = _
          rw [HZ.out (by unfold dropsF; rw [← HGb.out, hy]; rfl)]
          exact hout.out
        clear hy
        have G5 := Lib.hid ((below_alloc wr (.cells #[.string s, .int .i64 z] 68)).trans (hb5.mono (by simp)))
        have c0 : w5.cell? ⟨wr.heap.size, 0, none⟩ = some (.string s) := (hb5.cell (p := ⟨wr.heap.size, 0, none⟩) (by simp)).trans (by simp)
        have c1 : w5.cell? ⟨wr.heap.size, 1, none⟩ = some (.int .i64 z) := (hb5.cell (p := ⟨wr.heap.size, 1, none⟩) (by simp)).trans (by simp)
        have HO5 := Lib.hid (own_below hown.out G5.out)
        have hs5 : wr.heap.size ≤ w5.heap.size := G5.out.size
        clear hb5
        go_wp2
        go_roundw
        case rel => exact ⟨k + 1, out, by omega, by go_num, by omega, HO5.out, HX.out, hbel.trans (G5.out.mono hsz)⟩
        case measure => simp [intOf]; omega
      · have HX : Hid (out ++ [(true, s, 0)] = ((R.take (k + 1)).filter (dropsF b)).map dropsG) := by
          show _ = _
          rw [HY.out (by unfold dropsF; rw [← HGb.out, hy]; rfl), List.map_append, ← hout.out]
          rfl
        clear hy
        have G5 := Lib.hid ((below_alloc wr (.cells #[.string s, .int .i64 z] 68)).trans (hb5.mono (by simp)))
        have c0 : w5.cell? ⟨wr.heap.size, 0, none⟩ = some (.string s) := (hb5.cell (p := ⟨wr.heap.size, 0, none⟩) (by simp)).trans (by simp)
        have c1 : w5.cell? ⟨wr.heap.size, 1, none⟩ = some (.int .i64 z) := (hb5.cell (p := ⟨wr.heap.size, 1, none⟩) (by simp)).trans (by simp)
        have HO5 := Lib.hid (own_below hown.out G5.out)
        have hs5 : wr.heap.size ≤ w5.heap.size := G5.out.size
        clear hb5
        go_wp2_with (at_builtin; refine wpList_append_own _ rfl _ _ 55 rfl w2.heap.size 63 i0 (.agg #[.bool false, .string { data := #[] }, .int .i64 0]) 3 32 Tryd.underlying55 hi hz0 hz1 hz2 rfl (by decide) _ _ _ rfl (HO5.out.alloc _) ⟨_, 0, none⟩ 1 1 [.bool true, .string s, .int .i64 0] rfl rfl (cells_new' _ _ _ _ rfl _ (by simp)) (psv_one [(true, s, 0)]) (by unfold maxLen; omega) (by omega) (by simp; omega) ?_; intro v1 w6 hown1 hgrow1 _hnil1; have HO6 := Lib.hid hown1; have HG6 := Lib.hid hgrow1; clear hown1 hgrow1 _hnil1)
        go_roundw
        case rel => exact ⟨k + 1, out ++ [(true, s, 0)], by omega, by go_num, by rw [List.length_append]; simp; omega, by show World.ownsRow _ _ _ _ _ _ _; rw [psv_app, List.length_append]; exact HO6.out, HX.out, ((hbel.trans (G5.out.mono hsz)).alloc (by omega) _).grown HG6.out (by simp; omega) (own_from hown.out)⟩
        case measure => simp [intOf]; omega
    · obtain rfl : k = R.length := by omega
      have HD : Hid (out = (R.filter (dropsF b)).map dropsG) := by
        have h1 := hout.out
        rw [List.take_of_length_le (Nat.le_refl _)] at h1
        exact h1
      clear hout
      obtain ⟨out0, ho0⟩ : ∃ o, o = out := ⟨_, rfl⟩
      rw [← ho0] at HD
      have hol0 : out.length ≤ 10000 := by omega
      go_wp2
      go_loopw [5, 42] (fun v i wr => ∃ (k : Nat) (out : List PStp), k ≤ S.length ∧ i = .int .i64 k ∧ out.length ≤ 10000 + k ∧ Hid (wr.ownsRow w2.heap.size 63 3 v out.length (psv out)) ∧ Hid (out = out0 ++ ((S.take k).filter (setsF a)).map setsG) ∧ RowKit.Below w2.heap.size w2 wr) (fun _ i _ => S.length - (intOf i).toNat)
      case atStart => exact ⟨0, out, Nat.zero_le _, rfl, by omega, hown.out, by rw [ho0]; show out = out ++ []; rw [List.append_nil], hbel⟩
      case round =>
        clear hown hol hbel hsz ho0 hol0
        obtain ⟨k, out, hk, rfl, hol, hown, hout, hbel⟩ := hrel
        have hsz := hbel.size
        by_cases hlt : k < S.length
        · have hat := HBB.out.below hbel
          obtain ⟨b0, off, rfl, hlb, hd0, hd1⟩ := at_pair hat hlt
          have hY := filter_take_yes S (setsF a) k hlt
          have hZ := filter_take_no S (setsF a) k hlt
          obtain ⟨s, hs⟩ : ∃ s, s = S[k].1 := ⟨_, rfl⟩
          obtain ⟨z, hz⟩ : ∃ z, z = S[k].2 := ⟨_, rfl⟩
          have hp : S[k] = (s, z) := by rw [hs, hz]
          rw [← hs] at hd0
          rw [← hz] at hd1
          rw [hp] at hY hZ
          have HY := Lib.hid hY
          have HZ := Lib.hid hZ
          clear hs hz hp hat hY hZ
          go_wp2_with fail
          refine (find_map A0 _ c0 R s _ rfl (by omega) HRa.out ((HAA.out.below hbel).alloc _)).mono ?_
          rintro e w5 (⟨y, hy, rfl, hb5⟩ | ⟨hy, rfl, hb5⟩)
          · by_cases hyz : y = z
            · have HX : Hid (out = out0 ++ ((S.take (k + 1)).filter (setsF a)).map setsG) := by
                show _ = _
                rw [HZ.out (by unfold setsF; rw [← HGa.out, hy, hyz]; simp)]
                exact hout.out
              have hdz : decide (y = z) = true := decide_eq_true hyz
              have HDZ := Lib.hid hdz
              clear hy hyz hdz
              have G5 := Lib.hid ((below_alloc wr (.cells #[.string s, .int .i64 z] 68)).trans (hb5.mono (by simp)))
              have c0 : w5.cell? ⟨wr.heap.size, 0, none⟩ = some (.string s) := (hb5.cell (p := ⟨wr.heap.size, 0, none⟩) (by simp)).trans (by simp)
              have c1 : w5.cell? ⟨wr.heap.size, 1, none⟩ = some (.int .i64 z) := (hb5.cell (p := ⟨wr.heap.size, 1, none⟩) (by simp)).trans (by simp)
              have HO5 := Lib.hid (own_below hown.out G5.out)
              have hs5 : wr.heap.size ≤ w5.heap.size := G5.out.size
              clear hb5
              go_wp2_with fail
              refine (alike_int y z _).mono ?_
              rintro e w7 ⟨rfl, hb7⟩
              rw [HDZ.out]
              have G7 := Lib.hid (G5.out.trans (hb7.mono hs5))
              have HO7 := Lib.hid (own_below hown.out G7.out)
              clear c0 c1 hb7 HO5 G5
              go_wp2
              go_roundw
              case rel => exact ⟨k + 1, out, by omega, by go_num, by omega, HO7.out, HX.out, hbel.trans (G7.out.mono hsz)⟩
              case measure => simp [intOf]; omega
            · have HX : Hid (out ++ [(false, s, z)] = out0 ++ ((S.take (k + 1)).filter (setsF a)).map setsG) := by
                show _ = _
                rw [HY.out (by unfold setsF; rw [← HGa.out, hy]; simpa using hyz), List.map_append, hout.out, List.append_assoc]
                rfl
              have hdz : decide (y = z) = false := decide_eq_false hyz
              have HDZ := Lib.hid hdz
              clear hy hyz hdz
              have G5 := Lib.hid ((below_alloc wr (.cells #[.string s, .int .i64 z] 68)).trans (hb5.mono (by simp)))
              have c0 : w5.cell? ⟨wr.heap.size, 0, none⟩ = some (.string s) := (hb5.cell (p := ⟨wr.heap.size, 0, none⟩) (by simp)).trans (by simp)
              have c1 : w5.cell? ⟨wr.heap.size, 1, none⟩ = some (.int .i64 z) := (hb5.cell (p := ⟨wr.heap.size, 1, none⟩) (by simp)).trans (by simp)
              have HO5 := Lib.hid (own_below hown.out G5.out)
              have hs5 : wr.heap.size ≤ w5.heap.size := G5.out.size
              have C0 := Lib.hid c0
              have C1 := Lib.hid c1
              clear hb5
              go_wp2_with fail
              refine (alike_int y z _).mono ?_
              rintro e w7 ⟨rfl, hb7⟩
              rw [HDZ.out]
              have G7 := Lib.hid (G5.out.trans (hb7.mono hs5))
              clear c0 c1 HO5
              have c0 : w7.cell? ⟨wr.heap.size, 0, none⟩ = some (.string s) := (hb7.cell (p := ⟨wr.heap.size, 0, none⟩) (World.block_lt_of_cell? w5 _ C0.out)).trans C0.out
              have c1 : w7.cell? ⟨wr.heap.size, 1, none⟩ = some (.int .i64 z) := (hb7.cell (p := ⟨wr.heap.size, 1, none⟩) (World.block_lt_of_cell? w5 _ C1.out)).trans C1.out
              have HO5 := Lib.hid (own_below hown.out G7.out)
              have hs7 : wr.heap.size ≤ w7.heap.size := G7.out.size
              clear G5 hb7
              have G5 := Lib.hid G7.out
              go_wp2_with (at_builtin; refine wpList_append_own _ rfl _ _ 55 rfl w2.heap.size 63 i0 (.agg #[.bool false, .string { data := #[] }, .int .i64 0]) 3 32 Tryd.underlying55 hi hz0 hz1 hz2 rfl (by decide) _ _ _ rfl (HO5.out.alloc _) ⟨_, 0, none⟩ 1 1 [.bool false, .string s, .int .i64 z] rfl rfl (cells_new' _ _ _ _ rfl _ (by simp)) (psv_one [(false, s, z)]) (by unfold maxLen; omega) (by omega) (by simp; omega) ?_; intro v1 w6 hown1 hgrow1 _hnil1; have HO6 := Lib.hid hown1; have HG6 := Lib.hid hgrow1; clear hown1 hgrow1 _hnil1)
              go_roundw
              case rel => exact ⟨k + 1, out ++ [(false, s, z)], by omega, by go_num, by rw [List.length_append]; simp; omega, by show World.ownsRow _ _ _ _ _ _ _; rw [psv_app, List.length_append]; exact HO6.out, HX.out, ((hbel.trans (G5.out.mono hsz)).alloc (by omega) _).grown HG6.out (by simp; omega) (own_from hown.out)⟩
              case measure => simp [intOf]; omega
          · have HX : Hid (out ++ [(false, s, z)] = out0 ++ ((S.take (k + 1)).filter (setsF a)).map setsG) := by
              show _ = _
              rw [HY.out (by unfold setsF; rw [← HGa.out, hy]; simp), List.map_append, hout.out, List.append_assoc]
              rfl
            clear hy
            have G5 := Lib.hid ((below_alloc wr (.cells #[.string s, .int .i64 z] 68)).trans (hb5.mono (by simp)))
            have c0 : w5.cell? ⟨wr.heap.size, 0, none⟩ = some (.string s) := (hb5.cell (p := ⟨wr.heap.size, 0, none⟩) (by simp)).trans (by simp)
            have c1 : w5.cell? ⟨wr.heap.size, 1, none⟩ = some (.int .i64 z) := (hb5.cell (p := ⟨wr.heap.size, 1, none⟩) (by simp)).trans (by simp)
            have HO5 := Lib.hid (own_below hown.out G5.out)
            have hs5 : wr.heap.size ≤ w5.heap.size := G5.out.size
            clear hb5
            go_wp2_with (at_builtin; refine wpList_append_own _ rfl _ _ 55 rfl w2.heap.size 63 i0 (.agg #[.bool false, .string { data := #[] }, .int .i64 0]) 3 32 Tryd.underlying55 hi hz0 hz1 hz2 rfl (by decide) _ _ _ rfl (HO5.out.alloc _) ⟨_, 0, none⟩ 1 1 [.bool false, .string s, .int .i64 z] rfl rfl (cells_new' _ _ _ _ rfl _ (by simp)) (psv_one [(false, s, z)]) (by unfold maxLen; omega) (by omega) (by simp; omega) ?_; intro v1 w6 hown1 hgrow1 _hnil1; have HO6 := Lib.hid hown1; have HG6 := Lib.hid hgrow1; clear hown1 hgrow1 _hnil1)
            go_roundw
            case rel => exact ⟨k + 1, out ++ [(false, s, z)], by omega, by go_num, by rw [List.length_append]; simp; omega, by show World.ownsRow _ _ _ _ _ _ _; rw [psv_app, List.length_append]; exact HO6.out, HX.out, ((hbel.trans (G5.out.mono hsz)).alloc (by omega) _).grown HG6.out (by simp; omega) (own_from hown.out)⟩
            case measure => simp [intOf]; omega
        · obtain rfl : k = S.length := by omega
          go_wp2
          go_ret
          have h1 := hout.out
          rw [List.take_of_length_le (Nat.le_refl _), HD.out, ← HT.out] at h1
          subst h1
          exact ⟨_, rfl, own_mono hown.out hs2, HB2.out.trans (hbel.mono hs2)⟩
end Go.Proofs.YtibcfmfihcgijaaDoor
