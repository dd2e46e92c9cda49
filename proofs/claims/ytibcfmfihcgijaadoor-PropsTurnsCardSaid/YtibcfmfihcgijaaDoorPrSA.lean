/- Contract of props' Apply at numbers. -/
import Derived.Test.YtibcfmfihcgijaaDoorPrS9
import Derived.Test.YtibcfmfihcgijaaDoorPrS5
namespace Go.Proofs.YtibcfmfihcgijaaDoor
open Go.RowKit M
def said (p : Par) : Tp := (p.1, (false, p.2))
def saidS (s : PStp) : Tp := (s.2.1, (s.1, s.2.2))
theorem laterP_eq (l : List Par) (st : List PStp) : laterP l st = l.map said ++ st.map saidS := rfl
theorem tv_steps (st : List PStp) : tv (st.map saidS) = psv st := by
  unfold tv psv
  rw [List.flatMap_map]
  rfl
def keepF (q : Tp) : Bool := !q.2.1
def keepG (q : Tp) : Par := (q.1, q.2.2)
theorem keptP_eq (m : List Tp) : keptP m = (m.filter keepF).map keepG := rfl
set_option maxHeartbeats 8000000 in
set_option maxRecDepth 100000 in
theorem apply_any (A B : Option Addr) (n c m d : Nat) (l : List Par) (steps : List PStp) (w : World) (hn : n = l.length) (hm : m = steps.length) (hb : n ≤ 10000) (hb2 : m ≤ 10000) (hB0 : B = none → m = 0 ∧ d = 0)
    (ha : At w A (pv l)) (hs : At w B (psv steps)) :
    Calls Tryd.prog 32 #[.slice A n c, .slice B m d] w fun e w' => ∃ v, e = .returned v ∧ w'.ownsRow w.heap.size 68 2 v (applyP l steps).length (pv (applyP l steps)) ∧ RowKit.Below w.heap.size w w' := by
  have HN := Lib.hid hn
  have HM := Lib.hid hm
  have HA := Lib.hid ha
  have HS := Lib.hid hs
  have HB0 := Lib.hid hB0
  have HL := Lib.hid (later_apply l steps)
  have hlen : (laterP l steps).length = n + m := by rw [laterP_eq, List.length_append, List.length_map, List.length_map, hn, hm]
  have HLL := Lib.hid hlen
  have hlen2 := ofP_len (laterP l steps)
  rw [hlen] at hlen2
  have HLE := Lib.hid (laterP_eq l steps)
  clear hn hm ha hs hB0 hlen
  obtain ⟨i0, hi, hz0, hz1, hz2⟩ := info_parts infoPStp
  obtain ⟨i1, hi1, hy0, hy1, hy2⟩ := info_parts infoPPar
  go_enter Tryd.func32, Tryd.ntmps32
  go_wp2
  go_loopw [5, 13] (fun v i wr => ∃ k : Nat, k ≤ n ∧ i = .int .i64 k ∧ Hid (wr.ownsRow w.heap.size 63 3 v k (tv ((l.take k).map said))) ∧ RowKit.Below w.heap.size w wr) (fun _ i _ => n - (intOf i).toNat)
  case atStart => exact ⟨0, Nat.zero_le _, rfl, World.ownsRow_nil _ _ _ _, RowKit.Below.refl _ _⟩
  case round =>
    obtain ⟨k, hk, rfl, hown, hbel⟩ := hrel
    by_cases hlt : k < n
    · have hk1 : k < l.length := by have := HN.out; omega
      obtain ⟨b, off, rfl, hlb, hc0, hc1⟩ := at_pair HA.out hk1
      have hd0 := (below_cells hbel).1 b (off + k * 2) hlb
      have hd1 := (below_cells hbel).1 b (off + k * 2 + 1) hlb
      rw [hc0] at hd0
      rw [hc1] at hd1
      clear hc0 hc1
      have hX : tv ((l.take (k + 1)).map said) = tv ((l.take k).map said) ++ [.bool false, .string l[k].1, .int .i64 l[k].2] := by rw [take_next l k hk1, List.map_append, tv_app]; rfl
      obtain ⟨x, hx⟩ : ∃ x, x = l[k].1 := ⟨_, rfl⟩
      obtain ⟨z, hz⟩ : ∃ z, z = l[k].2 := ⟨_, rfl⟩
      rw [← hx] at hd0 hX
      rw [← hz] at hd1 hX
      have HX := Lib.hid hX
      clear hx hz hX
      have hsz := hbel.size
      go_wp2_with (at_builtin; refine wpList_append_own _ rfl _ _ 55 rfl w.heap.size 63 i0 (.agg #[.bool false, .string { data := #[] }, .int .i64 0]) 3 32 Tryd.underlying55 hi hz0 hz1 hz2 rfl (by decide) _ _ _ rfl ((hown.out.alloc _).alloc _) ⟨_, 0, none⟩ 1 1 [.bool false, .string x, .int .i64 z] rfl rfl (cells_new' _ _ _ _ rfl _ (by simp)) (psv_one [(false, x, z)]) (by unfold maxLen; omega) (by omega) (by simp; omega) ?_; intro v1 w1 hown1 hgrow1 _hnil1; have HO := Lib.hid hown1; have HG := Lib.hid hgrow1; clear hown1 hgrow1 _hnil1)
      go_roundw
      case rel => exact ⟨k + 1, by omega, by go_num, by show World.ownsRow _ _ _ _ _ _ _; rw [HX.out]; exact HO.out, ((hbel.alloc hsz _).alloc (by simp; omega) _).grown HG.out (by simp; omega) (own_from hown.out)⟩
      case measure => simp [intOf]; omega
    · obtain rfl : k = n := by omega
      have h1 := hown.out
      rw [List.take_of_length_le (by have := HN.out; omega)] at h1
      obtain ⟨A5, c5, rfl, _, _, _⟩ := at_of_own' h1
      have HO1 := Lib.hid h1
      clear h1 hown
      have hsz := hbel.size
      have HPL : Hid ((psv steps).length = m * 3) := by show _ = _; rw [psv_len, HM.out]
      have HAS := Lib.hid (HS.out.below hbel)
      go_wp2_with (at_builtin; refine wpList_append_at rfl _ _ 55 rfl w.heap.size 63 i0 (.agg #[.bool false, .string { data := #[] }, .int .i64 0]) 3 32 Tryd.underlying55 hi hz0 hz1 hz2 rfl (by decide) _ k (tv (l.map said)) rfl HO1.out B m d (psv steps) rfl HB0.out HPL.out HAS.out (psv_one _) (by unfold maxLen; omega) (by omega) (by omega) ?_; intro v1 w2 hown2 hgrow2; have HO2 := Lib.hid hown2; have HG2 := Lib.hid hgrow2; clear hown2 hgrow2)
      have hown2 := HO2.out
      rw [← tv_steps, ← tv_app, ← HLE.out] at hown2
      obtain ⟨A6, c6, rfl, _, _, hat6⟩ := at_of_own' hown2
      have HAN6 := Lib.hid (own_addr hown2)
      have HAT6 := Lib.hid hat6
      have HB2 := Lib.hid (hbel.grown HG2.out hsz (own_from HO1.out))
      clear hown2 hat6 HO2
      have hcl := Lib.hid (latestT_any A6 (k + m) c6 (laterP l steps) w2 HLL.out.symm (by omega) HAN6.out HAT6.out)
      generalize ofP (laterP l steps) = R at hcl hlen2 HL
      go_wp2_with (go_at_call 55; refine hcl.out.mono ?_; rintro e9 w3 ⟨v3, rfl, hown3, hbel3⟩; obtain ⟨A7, c7, rfl, _, _, hat7⟩ := at_of_own' hown3; have HAT7 := Lib.hid hat7; have HB3 := Lib.hid (HB2.out.trans (hbel3.mono HB2.out.size)); clear hown3 hbel3 hat7 hcl)
      have hs3 := HB3.out.size
      clear hbel hsz
      go_loopw [8, 32] (fun v i wr => ∃ (j : Nat) (out : List Par), j ≤ R.length ∧ i = .int .i64 j ∧ out.length ≤ j ∧ Hid (wr.ownsRow w3.heap.size 68 2 v out.length (pv out)) ∧ Hid (out = ((R.take j).filter keepF).map keepG) ∧ RowKit.Below w3.heap.size w3 wr) (fun _ i _ => R.length - (intOf i).toNat)
      case atStart => exact ⟨0, [], Nat.zero_le _, rfl, Nat.le_refl _, World.ownsRow_nil _ _ _ _, rfl, RowKit.Below.refl _ _⟩
      case round =>
        obtain ⟨j, out, hj, rfl, hol, hown, hout, hbel⟩ := hrel
        have hsz := hbel.size
        by_cases hlt : j < R.length
        · obtain ⟨b, off, rfl, hlb, hdb, hd0, hd1⟩ := at_trip (HAT7.out.below hbel) hlt
          have hY := filter_take_yes R keepF j hlt
          have hZ := filter_take_no R keepF j hlt
          obtain ⟨s, hs⟩ : ∃ s, s = R[j].1 := ⟨_, rfl⟩
          obtain ⟨z, hz⟩ : ∃ z, z = R[j].2.2 := ⟨_, rfl⟩
          obtain ⟨y, hy⟩ : ∃ y, y = R[j].2.1 := ⟨_, rfl⟩
          have hp : R[j] = (s, (y, z)) := by rw [hs, hz, hy]
          rw [← hs] at hd0
          rw [← hz] at hd1
          rw [← hy] at hdb
          rw [hp] at hY hZ
          have HY := Lib.hid hY
          have HZ := Lib.hid hZ
          clear hs hz hy hp hY hZ
          cases y with
          | true =>
            have HX : Hid (out = ((R.take (j + 1)).filter keepF).map keepG) := by
              show _ = _
              rw [HZ.out rfl]
              exact hout.out
            go_wp2
            go_roundw
            case rel => exact ⟨j + 1, out, by omega, by go_num, by omega, hown.out.alloc _, HX.out, hbel.alloc hsz _⟩
            case measure => simp [intOf]; omega
          | false =>
            have HX : Hid (out ++ [(s, z)] = ((R.take (j + 1)).filter keepF).map keepG) := by
              show _ = _
              rw [HY.out rfl, List.map_append, ← hout.out]
              rfl
            go_wp2_with (at_builtin; refine wpList_append_own _ rfl _ _ 27 rfl w3.heap.size 68 i1 (.agg #[.string { data := #[] }, .int .i64 0]) 2 24 Tryd.underlying27 hi1 hy0 hy1 hy2 rfl (by decide) _ _ _ rfl ((hown.out.alloc _).alloc _) ⟨_, 0, none⟩ 1 1 [.string s, .int .i64 z] rfl rfl (cells_new' _ _ _ _ rfl _ (by simp)) (pv_one [(s, z)]) (by unfold maxLen; omega) (by omega) (by simp; omega) ?_; intro v1 w6 hown1 hgrow1 _hnil1; have HO6 := Lib.hid hown1; have HG6 := Lib.hid hgrow1; clear hown1 hgrow1 _hnil1)
            go_roundw
            case rel => exact ⟨j + 1, out ++ [(s, z)], by omega, by go_num, by rw [List.length_append]; simp; omega, by show World.ownsRow _ _ _ _ _ _ _; rw [pv_app, List.length_append]; exact HO6.out, HX.out, ((hbel.alloc hsz _).alloc (by simp; omega) _).grown HG6.out (by simp; omega) (own_from hown.out)⟩
            case measure => simp [intOf]; omega
        · obtain rfl : j = R.length := by omega
          go_wp2
          go_ret
          have h1 := hout.out
          rw [List.take_of_length_le (Nat.le_refl _), ← keptP_eq, HL.out] at h1
          subst h1
          exact ⟨_, rfl, own_mono hown.out hs3, HB3.out.trans (hbel.mono hs3)⟩
end Go.Proofs.YtibcfmfihcgijaaDoor
