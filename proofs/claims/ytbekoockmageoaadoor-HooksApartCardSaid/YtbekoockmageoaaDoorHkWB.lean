/- HooksApart: the walk. -/
import Derived.Test.YtbekoockmageoaaDoorHkWA
import Derived.Test.YtbekoockmageoaaDoorHkWO
import Derived.Test.YtbekoockmageoaaDoorHkW6
namespace Go.Proofs.YtbekoockmageoaaDoor
open Go.RowKit Hk
attribute [-go_sem] Builtin.append_
def upB (L : List En) (k : Nat) : Bool := (L.take k).all fun e => decide (0 ≤ run 0 (hooksOf L e.kid))
theorem upB_all (L : List En) (k : Nat) (h : L.length ≤ k) : upB L k = okB L := by unfold upB okB; rw [List.take_of_length_le h]
theorem upB_next (L : List En) (k : Nat) (h : k < L.length) : upB L (k + 1) = (upB L k && decide (0 ≤ run 0 (hooksOf L L[k].kid))) := by
  unfold upB
  rw [List.take_succ_eq_append_getElem h, List.all_append]
  simp
theorem filter_next (L : List En) (k : Nat) (h : k < L.length) (q : Kid) : (L.take (k + 1)).filter (isKid q) = if L[k].kid = q then (L.take k).filter (isKid q) ++ [L[k]] else (L.take k).filter (isKid q) := by
  rw [List.take_succ_eq_append_getElem h, List.filter_append]
  by_cases e : L[k].kid = q <;> simp [isKid, e]
theorem filter_le (L : List En) (k : Nat) (q : Kid) : ((L.take k).filter (isKid q)).length ≤ k := Nat.le_trans (List.length_filter_le _ _) (List.length_take_le _ _)
set_option maxHeartbeats 4000000 in
set_option maxRecDepth 100000 in
theorem hooksApart_any (A : Option Addr) (n c : Nat) (L : List En) (w : World) (hn : n = L.length) (hb : n ≤ maxLen) (ha : At w A (ecs L)) (hok : ∀ e ∈ L, OkE e) (ht : TrIs w) (hm : NmIs w) :
    Calls Tryd.prog 7 #[.slice A n c] w fun e w' => e = .returned (.bool true) ∧ Below w.heap.size w w' := by
  have HN := Lib.hid hn
  have HA := Lib.hid ha
  have HT := Lib.hid ht
  have HM := Lib.hid hm
  have HBN := Lib.hid hb
  have HOK := Lib.hid (ownE_ok L 30 hok)
  have hlen := ownE_len L 30
  obtain ⟨i1, hi, hz0, hz1, hz2⟩ := info_parts infoEn1
  rw [← hn] at hlen
  have HLEN := Lib.hid hlen
  have h30 : min 30 n ≤ 30 := Nat.min_le_left _ _
  clear hn ha hok ht hm hb hlen
  go_enter Tryd.func7, Tryd.ntmps7
  go_wp2_with fail
  (with_reducible refine (awake_any _ HT.out HM.out).mono ?_)
  rintro e w1 ⟨rfl, hb1⟩
  have HB1 := Lib.hid hb1
  clear hb1
  go_wp2_with fail
  refine (own_any A n c 30 L w1 HN.out HBN.out (by omega) (HA.out.below HB1.out)).mono ?_
  rintro e w2 ⟨v, u, rfl, hownA, hownB, hb2⟩
  have HB2 := Lib.hid (HB1.out.trans (hb2.mono HB1.out.size))
  clear hb2
  generalize ownE L 30 = LL at hownA hownB HOK HLEN
  generalize hMM : min 30 n = M at hownA hownB HLEN h30
  clear hMM
  obtain ⟨A3, c3, rfl, _, _, hat3⟩ := at_of_own' hownA
  obtain ⟨A4, c4, rfl, _, _, hat4⟩ := at_of_own' hownB
  have HAT3 := Lib.hid hat3
  have HAT4 := Lib.hid hat4
  clear hat3 hat4 hownA hownB
  go_wp2
  go_loopw [5, 20] (fun al i wr => ∃ (k : Nat) (b : Bool), k ≤ M ∧ i = .int .i64 k ∧ al = .bool b ∧ Hid (b = upB LL k) ∧ Hid (Below w2.heap.size w2 wr)) (fun _ i _ => M - (intOf i).toNat)
  case atStart => exact ⟨0, true, Nat.zero_le _, rfl, rfl, rfl, Lib.hid (Below.refl _ _)⟩
  case round =>
    obtain ⟨k, b, hk, rfl, rfl, hup, hbel⟩ := hrel
    by_cases hlt : k < M
    · have hk1 : k < LL.length := by have := HLEN.out; omega
      obtain ⟨b1, o1, rfl, hb1, hc0, hc1, hc2, hc3⟩ := at_en HAT4.out hk1
      have hd0 := (below_cells hbel.out).1 b1 (o1 + k * 4) hb1
      have hd1 := (below_cells hbel.out).1 b1 (o1 + k * 4 + 1) hb1
      have hd2 := (below_cells hbel.out).1 b1 (o1 + k * 4 + 2) hb1
      have hd3 := (below_cells hbel.out).1 b1 (o1 + k * 4 + 3) hb1
      rw [hc0] at hd0
      rw [hc1] at hd1
      rw [hc2] at hd2
      rw [hc3] at hd3
      have HUN := Lib.hid (upB_next LL k hk1)
      have HOWN := Lib.hid (own_ok LL LL[k] (List.getElem_mem hk1))
      have HKID : Hid (LL[k].kid = (LL[k].g, LL[k].s)) := rfl
      generalize LL[k].kid = q at HUN HOWN HKID
      generalize LL[k].g = z0 at hd0 HKID
      generalize LL[k].n = z1 at hd1
      generalize LL[k].h = z2 at hd2
      generalize LL[k].s = x at hd3 HKID
      have hq := HKID.out
      subst hq
      clear hc0 hc1 hc2 hc3 HKID
      have hsz := hbel.out.size
      have HW1 := Lib.hid (hbel.out.alloc hsz (.cells #[.int .i64 z0, .int .i64 z1, .int .i64 z2, .string x] 45))
      go_wp2
      have g0 : (wr.alloc (.cells #[.int .i64 z0, .int .i64 z1, .int .i64 z2, .string x] 45)).cell? ⟨wr.heap.size, 0, none⟩ = some (.int .i64 z0) := by simp
      have g3 : (wr.alloc (.cells #[.int .i64 z0, .int .i64 z1, .int .i64 z2, .string x] 45)).cell? ⟨wr.heap.size, 3, none⟩ = some (.string x) := by simp
      have gl : wr.heap.size < (wr.alloc (.cells #[.int .i64 z0, .int .i64 z1, .int .i64 z2, .string x] 45)).heap.size := by simp
      generalize wr.alloc (.cells #[.int .i64 z0, .int .i64 z1, .int .i64 z2, .string x] 45) = W1 at g0 g3 gl HW1 ⊢
      generalize wr.heap.size = r at g0 g3 gl ⊢
      have G0 := Lib.hid g0
      have G3 := Lib.hid g3
      clear hd0 hd1 hd2 hd3 hbel g0 g3
      have hs1 := HW1.out.size
      go_loopw [8, 26] (fun v i wr => ∃ j : Nat, j ≤ M ∧ i = .int .i64 j ∧ Hid (wr.ownsRow W1.heap.size 46 4 v ((LL.take j).filter (isKid (z0, x))).length (ecs ((LL.take j).filter (isKid (z0, x))))) ∧ Hid (Below W1.heap.size W1 wr)) (fun _ i _ => M - (intOf i).toNat)
      case atStart => exact ⟨0, Nat.zero_le _, rfl, World.ownsRow_nil _ _ _ _, Lib.hid (Below.refl _ _)⟩
      case round =>
        obtain ⟨j, hj, rfl, hown, hbel⟩ := hrel
        by_cases hlt2 : j < M
        · have hj1 : j < LL.length := by have := HLEN.out; omega
          have HBW := Lib.hid (HW1.out.trans (hbel.out.mono hs1))
          obtain ⟨b1', o1', e1, hb1', hc0, hc1, hc2, hc3⟩ := at_en HAT4.out hj1
          injection e1 with e1
          injection e1 with e1 e2
          subst e1 e2
          obtain ⟨b3, o3, rfl, hb3, hp0, hp1, hp2, hp3⟩ := at_en HAT3.out hj1
          have hd0 := (below_cells HBW.out).1 b1 (o1 + j * 4) hb1
          have hd1 := (below_cells HBW.out).1 b1 (o1 + j * 4 + 1) hb1
          have hd2 := (below_cells HBW.out).1 b1 (o1 + j * 4 + 2) hb1
          have hd3 := (below_cells HBW.out).1 b1 (o1 + j * 4 + 3) hb1
          have he0 := (below_cells HBW.out).1 b3 (o3 + j * 4) hb3
          have he1 := (below_cells HBW.out).1 b3 (o3 + j * 4 + 1) hb3
          have he2 := (below_cells HBW.out).1 b3 (o3 + j * 4 + 2) hb3
          have he3 := (below_cells HBW.out).1 b3 (o3 + j * 4 + 3) hb3
          have f0 := (hbel.out.cell (p := ⟨r, 0, none⟩) gl).trans G0.out
          have f3 := (hbel.out.cell (p := ⟨r, 3, none⟩) gl).trans G3.out
          rw [hc0] at hd0
          rw [hc1] at hd1
          rw [hc2] at hd2
          rw [hc3] at hd3
          rw [hp0] at he0
          rw [hp1] at he1
          rw [hp2] at he2
          rw [hp3] at he3
          have HX := Lib.hid (filter_next LL j hj1 (z0, x))
          have hfl := filter_le LL j (z0, x)
          have HKID : Hid (LL[j].kid = (LL[j].g, LL[j].s)) := rfl
          have HEN : Hid (ecs [LL[j]] = [.int .i64 LL[j].g, .int .i64 LL[j].n, .int .i64 LL[j].h, .string LL[j].s]) := rfl
          generalize LL[j] = y at *
          obtain ⟨y0, y1, y2, y3⟩ := y
          have hkk := HKID.out
          rw [hkk] at HX
          clear hkk HKID hc0 hc1 hc2 hc3 hp0 hp1 hp2 hp3
          obtain ⟨Q, hQ⟩ : ∃ Q, Q = (LL.take j).filter (isKid (z0, x)) := ⟨_, rfl⟩
          rw [← hQ] at hown HX hfl
          have HQ := Lib.hid hQ
          clear hQ
          obtain ⟨A8, c8, rfl, hc8, hm8⟩ := own_slice hown.out
          have hsz2 := hbel.out.size
          have HW5 := Lib.hid (hbel.out.alloc hsz2 (.cells #[.int .i64 y0, .int .i64 y1, .int .i64 y2, .string y3] 45))
          have HO5 := Lib.hid (hown.out.alloc (.cells #[.int .i64 y0, .int .i64 y1, .int .i64 y2, .string y3] 45))
          go_upto_region 12 with fail
          have p0 : (wr.alloc (.cells #[.int .i64 y0, .int .i64 y1, .int .i64 y2, .string y3] 45)).cell? ⟨wr.heap.size, 0, none⟩ = some (.int .i64 y0) := by simp
          have p3 : (wr.alloc (.cells #[.int .i64 y0, .int .i64 y1, .int .i64 y2, .string y3] 45)).cell? ⟨wr.heap.size, 3, none⟩ = some (.string y3) := by simp
          have j0 : (wr.alloc (.cells #[.int .i64 y0, .int .i64 y1, .int .i64 y2, .string y3] 45)).cell? ⟨r, 0, none⟩ = some (.int .i64 z0) := Lib.cell?_alloc_some _ f0
          have j3 : (wr.alloc (.cells #[.int .i64 y0, .int .i64 y1, .int .i64 y2, .string y3] 45)).cell? ⟨r, 3, none⟩ = some (.string x) := Lib.cell?_alloc_some _ f3
          have l0 : (wr.alloc (.cells #[.int .i64 y0, .int .i64 y1, .int .i64 y2, .string y3] 45)).cell? ⟨b3, o3 + j * 4, none⟩ = some (.int .i64 y0) := Lib.cell?_alloc_some _ he0
          have l1 : (wr.alloc (.cells #[.int .i64 y0, .int .i64 y1, .int .i64 y2, .string y3] 45)).cell? ⟨b3, o3 + j * 4 + 1, none⟩ = some (.int .i64 y1) := Lib.cell?_alloc_some _ he1
          have l2 : (wr.alloc (.cells #[.int .i64 y0, .int .i64 y1, .int .i64 y2, .string y3] 45)).cell? ⟨b3, o3 + j * 4 + 2, none⟩ = some (.int .i64 y2) := Lib.cell?_alloc_some _ he2
          have l3 : (wr.alloc (.cells #[.int .i64 y0, .int .i64 y1, .int .i64 y2, .string y3] 45)).cell? ⟨b3, o3 + j * 4 + 3, none⟩ = some (.string y3) := Lib.cell?_alloc_some _ he3
          clear hd0 hd1 hd2 hd3 he0 he1 he2 he3 f0 f3 hown hbel
          generalize wr.alloc (.cells #[.int .i64 y0, .int .i64 y1, .int .i64 y2, .string y3] 45) = W5 at HW5 HO5 p0 p3 j0 j3 l0 l1 l2 l3 ⊢
          generalize wr.heap.size = r5 at p0 p3 hsz2 ⊢
          have hs5 := HW5.out.size
          by_cases h1 : y0 = z0
          · subst h1
            by_cases h2 : y3 = x
            · subst h2
              have HXX : Hid ((LL.take (j + 1)).filter (isKid (y0, y3)) = Q ++ [⟨y0, y1, y2, y3⟩]) := Lib.hid (by rw [HX.out, if_pos rfl])
              clear HX
              obtain ⟨v1, w9, hrun1, hown1, hgrow1, _, _⟩ := run_append_own_at (P := Tryd.prog) (W5.alloc (.cells #[.int .i64 y0, .int .i64 y1, .int .i64 y2, .string y3] 46)) W1.heap.size 32 32 46 i1 _ 4 40 Tryd.underlying32 hi hz0 hz1 hz2 rfl (by decide) _ _ _ (HO5.out.alloc (.cells #[.int .i64 y0, .int .i64 y1, .int .i64 y2, .string y3] 46)) ⟨W5.heap.size, 0, none⟩ 1 1 [.int .i64 y0, .int .i64 y1, .int .i64 y2, .string y3] rfl (cells_new' _ _ _ _ rfl _ rfl) (ecs_one [⟨y0, y1, y2, y3⟩]) (by unfold maxLen; omega) (by omega) (by rw [size_alloc]; omega)
              have HO := Lib.hid hown1
              have HG := Lib.hid hgrow1
              clear hown1 hgrow1
              go_wp2
              go_roundw
              case rel =>
                refine ⟨j + 1, by omega, by go_num, ?_, Lib.hid ((HW5.out.alloc hs5 _).grown HG.out (by simp; omega) (fun p hp => own_from HO5.out p hp))⟩
                show World.ownsRow _ _ _ _ _ _ _
                rw [HXX.out, ecs_app, List.length_append]
                exact HO.out
              case measure => simp [intOf]; omega
            · have HXX : Hid ((LL.take (j + 1)).filter (isKid (y0, x)) = Q) := Lib.hid (by rw [HX.out, if_neg (fun e => h2 (congrArg Prod.snd e))])
              have hxb := Go.Proofs.YtbekoockmageoaaDoor.M.str_no h2
              have hxl : ¬ y3.toList = x.toList := by simpa using hxb
              clear HX
              go_wp2
              go_roundw
              case rel =>
                refine ⟨j + 1, by omega, by go_num, ?_, HW5⟩
                show World.ownsRow _ _ _ _ _ _ _
                rw [HXX.out]
                exact HO5.out
              case measure => simp [intOf]; omega
          · have HXX : Hid ((LL.take (j + 1)).filter (isKid (z0, x)) = Q) := Lib.hid (by rw [HX.out, if_neg (fun e => h1 (congrArg Prod.fst e))])
            clear HX
            go_wp2
            go_roundw
            case rel =>
              refine ⟨j + 1, by omega, by go_num, ?_, HW5⟩
              show World.ownsRow _ _ _ _ _ _ _
              rw [HXX.out]
              exact HO5.out
            case measure => simp [intOf]; omega
        · obtain rfl : j = M := by omega
          have hto : LL.take j = LL := List.take_of_length_le (by rw [HLEN.out]; exact Nat.le_refl _)
          rw [hto] at hown
          have hfl : (LL.filter (isKid (z0, x))).length ≤ j := by rw [← HLEN.out]; exact List.length_filter_le _ _
          clear hto
          obtain ⟨A8, c8, rfl, _, _, hat8⟩ := at_of_own' hown.out
          have HAT8 := Lib.hid hat8
          have HBW := Lib.hid (HW1.out.trans (hbel.out.mono hs1))
          have HW2 := Lib.hid hbel.out
          have HGL := Lib.hid gl
          clear hat8 hown hbel gl
          cases b with
          | false =>
            go_wp2
            go_roundw
            case rel => exact ⟨k + 1, false, by omega, by go_num, rfl, by show _ = _; rw [HUN.out, ← hup.out]; rfl, HBW⟩
            case measure => simp [intOf]; omega
          | true =>
            go_wp2_with fail
            (with_reducible refine (check_any A8 _ c8 (LL.filter (isKid (z0, x))) _ rfl (by omega) HAT8.out (fun e he => HOK.out e (List.mem_filter.1 he).1) ((HT.out.below HB2.out).below HBW.out)).mono ?_)
            rintro e w6 ⟨rfl, hb6⟩
            rw [HOWN.out]
            have k0 := ((HW2.out.trans (hb6.mono HW2.out.size)).cell (p := ⟨r, 0, none⟩) HGL.out).trans G0.out
            have k3 := ((HW2.out.trans (hb6.mono HW2.out.size)).cell (p := ⟨r, 3, none⟩) HGL.out).trans G3.out
            have HB6 := Lib.hid (HBW.out.trans (hb6.mono HBW.out.size))
            clear hb6
            by_cases hd : 0 ≤ run 0 (hooksOf LL (z0, x))
            · rw [show decide (0 ≤ run 0 (hooksOf LL (z0, x))) = true from decide_eq_true hd]
              have HD := Lib.hid hd
              have HTR : Hid (true = upB LL (k + 1)) := by show _ = _; rw [HUN.out, ← hup.out, decide_eq_true hd]; rfl
              have hlh := hooks_le LL (z0, x)
              rw [HLEN.out] at hlh
              clear hd
              go_wp2_with fail
              (with_reducible refine (of_any A3 j c3 LL z0 x _ HLEN.out.symm (by omega) (HAT3.out.below HB6.out)).mono ?_)
              rintro e w7 ⟨v7, rfl, hown7, hb7⟩
              obtain ⟨A7, c7, rfl, _, _, hat7⟩ := at_of_own' hown7
              have HAT7 := Lib.hid hat7
              have HB7 := Lib.hid (HB6.out.trans (hb7.mono HB6.out.size))
              clear hown7 hat7 hb7 k0 k3
              go_wp2_with fail
              (with_reducible refine (run_any A7 _ c7 (hooksOf LL (z0, x)) _ rfl (by unfold maxLen; omega) HAT7.out ((HT.out.below HB2.out).below HB7.out)).mono ?_)
              rintro e w8 ⟨rfl, hb8⟩
              have HB8 := Lib.hid (HB7.out.trans (hb8.mono HB7.out.size))
              clear hb8
              have hd := HD.out
              generalize run 0 (hooksOf LL (z0, x)) = rr at hd ⊢
              go_wp2
              go_roundw
              case rel => exact ⟨k + 1, true, by omega, by go_num, rfl, HTR, HB8⟩
              case measure => simp [intOf]; omega
            · rw [show decide (0 ≤ run 0 (hooksOf LL (z0, x))) = false from decide_eq_false hd]
              have HTR : Hid (false = upB LL (k + 1)) := by show _ = _; rw [HUN.out, decide_eq_false hd, Bool.and_false]
              clear hd k0 k3
              go_wp2
              go_roundw
              case rel => exact ⟨k + 1, false, by omega, by go_num, rfl, HTR, HB6⟩
              case measure => simp [intOf]; omega
    · obtain rfl : k = M := by omega
      have HALL : Hid (b = okB LL) := Lib.hid (by rw [hup.out, upB_all LL k (by rw [HLEN.out]; exact Nat.le_refl _)])
      clear hup
      go_wp2_with fail
      (with_reducible refine (check_any A3 k c3 LL _ HLEN.out.symm (by omega) (HAT3.out.below hbel.out) HOK.out ((HT.out.below HB2.out).below hbel.out)).mono ?_)
      rintro e w6 ⟨rfl, hb6⟩
      rw [← HALL.out]
      have HB6 := Lib.hid (HB2.out.trans ((hbel.out.trans (hb6.mono hbel.out.size)).mono HB2.out.size))
      clear hb6
      go_wp2
      go_ret
      exact ⟨by simp, HB6.out⟩
end Go.Proofs.YtbekoockmageoaaDoor
