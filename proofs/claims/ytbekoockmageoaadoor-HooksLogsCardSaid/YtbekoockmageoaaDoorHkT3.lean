/- A log's text, by the document. -/
import Derived.Test.YtbekoockmageoaaDoorHkT2
namespace Go.Proofs.YtbekoockmageoaaDoor
open Go.RowKit Hk
set_option linter.unusedVariables false
attribute [-go_sem] run_string_add_if
set_option maxHeartbeats 4000000 in
set_option maxRecDepth 100000 in
theorem rtext_any (A : Option Addr) (m c : Nat) (L : List En) (w : World) (hn : m = L.length) (hb : m ≤ 100000) (ha : At w A (ecs L)) (hok : ∀ e ∈ L, OkS e) (ht : Tab w) :
    Calls Tryd.prog 23 #[.slice A m c] w fun e w' => e = .returned (.string (textB L)) ∧ Below w.heap.size w w' := by
  have HNL := Lib.hid hn
  have HA := Lib.hid ha
  have HOK := Lib.hid hok
  have HT := Lib.hid ht
  clear hn ha hok ht
  go_enter Tryd.func23, Tryd.ntmps23
  go_wp2
  go_loopw [3, 9] (fun v i wr => ∃ k : Nat, k ≤ m ∧ i = .int .i64 k ∧ v = .string (textB (L.take k)) ∧ Hid (Below w.heap.size w wr)) (fun _ i _ => m - (intOf i).toNat)
  case atStart => exact ⟨0, Nat.zero_le _, rfl, rfl, Below.refl _ _⟩
  case round =>
    obtain ⟨k, hk, rfl, rfl, hbel⟩ := hrel
    by_cases hlt : k < m
    · skip
      have hk1 : k < L.length := by have := HNL.out; omega
      obtain ⟨b1, o1, rfl, hb1, hc0, hc1, hc2, hc3⟩ := at_en HA.out hk1
      have hd0 := (below_cells hbel.out).1 b1 (o1 + k * 4) hb1
      have hd1 := (below_cells hbel.out).1 b1 (o1 + k * 4 + 1) hb1
      have hd2 := (below_cells hbel.out).1 b1 (o1 + k * 4 + 2) hb1
      have hd3 := (below_cells hbel.out).1 b1 (o1 + k * 4 + 3) hb1
      rw [hc0] at hd0
      rw [hc1] at hd1
      rw [hc2] at hd2
      rw [hc3] at hd3
      have HOe := Lib.hid (HOK.out _ (List.getElem_mem hk1))
      have hnx := textB_next L k hk1
      unfold lineE at hnx
      unfold OkS OkE at HOe
      generalize L[k].g = g at hd0 hnx HOe
      generalize L[k].n = n at hd1 hnx HOe
      generalize L[k].h = h at hd2 hnx HOe
      generalize L[k].s = s at hd3 hnx HOe
      have HG := Lib.hid HOe.out.1.1
      have HN := Lib.hid HOe.out.1.2.1
      have HH := Lib.hid HOe.out.1.2.2.1
      have HSZ := Lib.hid HOe.out.2
      have HNXT := Lib.hid hnx
      clear hc0 hc1 hc2 hc3 hnx
      have hsz := hbel.out.size
      have HBX := Lib.hid (hbel.out.alloc hsz (.cells #[.int .i64 g, .int .i64 n, .int .i64 h, .string s] 45))
      have HTX := Lib.hid (textB_le L HOK.out k)
      generalize textB (L.take k) = tx at HNXT HTX ⊢
      go_wp2_with fail
      have x0 : (wr.alloc (.cells #[.int .i64 g, .int .i64 n, .int .i64 h, .string s] 45)).cell? ⟨wr.heap.size, 0, none⟩ = some (.int .i64 g) := by simp
      have x1 : (wr.alloc (.cells #[.int .i64 g, .int .i64 n, .int .i64 h, .string s] 45)).cell? ⟨wr.heap.size, 1, none⟩ = some (.int .i64 n) := by simp
      have x2 : (wr.alloc (.cells #[.int .i64 g, .int .i64 n, .int .i64 h, .string s] 45)).cell? ⟨wr.heap.size, 2, none⟩ = some (.int .i64 h) := by simp
      have x3 : (wr.alloc (.cells #[.int .i64 g, .int .i64 n, .int .i64 h, .string s] 45)).cell? ⟨wr.heap.size, 3, none⟩ = some (.string s) := by simp
      have lr : wr.heap.size < (wr.alloc (.cells #[.int .i64 g, .int .i64 n, .int .i64 h, .string s] 45)).heap.size := by simp
      generalize wr.alloc (.cells #[.int .i64 g, .int .i64 n, .int .i64 h, .string s] 45) = X at x0 x1 x2 x3 lr HBX ⊢
      generalize wr.heap.size = r at x0 x1 x2 x3 lr hsz ⊢
      have X0 := Lib.hid x0
      have X1 := Lib.hid x1
      have X2 := Lib.hid x2
      have X3 := Lib.hid x3
      have LR := Lib.hid lr
      clear hd0 hd1 hd2 hd3
      (with_reducible refine (rname_any h _).mono ?_)
      rintro e w1 ⟨rfl, rfl⟩
      by_cases hz : nameB h = ⟨#[]⟩
      · rw [hz]
        have HU0 : Hid (hookB h = itoaB h) := Lib.hid (by unfold hookB; rw [if_pos hz])
        clear hz
        go_wp2_with fail
        (with_reducible refine (itoa_bel h _ HH.out (tab_below HT.out HBX.out)).mono ?_)
        rintro e w2 ⟨rfl, hb2⟩
        have Y0 := Lib.hid ((hb2.cell (p := ⟨r, 0, none⟩) LR.out).trans X0.out)
        have Y1 := Lib.hid ((hb2.cell (p := ⟨r, 1, none⟩) LR.out).trans X1.out)
        have Y3 := Lib.hid ((hb2.cell (p := ⟨r, 3, none⟩) LR.out).trans X3.out)
        have LY := Lib.hid (Nat.lt_of_lt_of_le LR.out hb2.size)
        have HBY := Lib.hid (HBX.out.trans (hb2.mono HBX.out.size))
        clear hb2 x0 x1 x2 x3 lr X0 X1 X2 X3 LR HBX
        have X0 := Y0
        have X1 := Y1
        have X3 := Y3
        have LR := LY
        have HBX := HBY
        clear Y0 Y1 Y3 LY HBY
        generalize w2 = X at X0 X1 X3 LR HBX ⊢
        have HUZ := Lib.hid (itoaB_le h HH.out)
        generalize itoaB h = u at HU0 HUZ ⊢
        have HU := HU0
        go_wp2_with fail
        have HUS : Hid (u.size ≤ 21) := Lib.hid HUZ.out
        obtain ⟨G, hG⟩ : ∃ G, G = itoaB g := ⟨_, rfl⟩
        obtain ⟨N, hN⟩ : ∃ N, N = itoaB n := ⟨_, rfl⟩
        obtain ⟨t1, t2, t3, t4, t5, t6, t7, e1, e2, e3, e4, e5, e6, e7, ht, hz7⟩ := line_steps G s N u (by rw [hG]; exact itoaB_le g HG.out) HSZ.out (by rw [hN]; exact itoaB_le n HN.out) HUS.out
        have HL7 : Hid (t7 = lineB g n h s) := Lib.hid (by rw [ht]; unfold lineB; rw [HU.out, hG, hN])
        have e8 := add_ok tx t7 (by have := HTX.out; omega)
        have HGE : Hid (itoaB g = G) := Lib.hid hG.symm
        have HNE : Hid (itoaB n = N) := Lib.hid hN.symm
        clear ht hG hN hz7
        have HXT : Hid (Tab X) := Lib.hid (tab_below HT.out HBX.out)
        have x0 := X0.out
        have x1 := X1.out
        have x3 := X3.out
        have HBB := Below.refl X.heap.size X
        go_region_held3 (fun w' => w'.cell? ⟨r, 0, none⟩ = some (.int .i64 g) ∧ w'.cell? ⟨r, 1, none⟩ = some (.int .i64 n) ∧ w'.cell? ⟨r, 3, none⟩ = some (.string s) ∧ Below X.heap.size X w') (first | (refine ⟨?_, ?_, ?_, ?_⟩ <;> first | assumption | (refine below_more ?_ _; assumption) | (refine Lib.cell?_alloc_some _ ?_; assumption) | exact Below_drew HBB | exact below_heap HBB rfl rfl rfl rfl) | go_keep | exact below_heap HBB rfl rfl rfl rfl) (first | (go_at_call 28; go_split_ands; (with_reducible refine (itoa_bel g _ HG.out ?_).mono ?_); (refine tab_below HXT.out ?_; assumption); rintro e9 w5 ⟨rfl, hbw5⟩; rw [HGE.out]; have Bw5 : Below X.heap.size X w5 := below_join (by assumption) hbw5; have HBw5 := Lib.hid Bw5; have rw50 := (Bw5.cell (p := ⟨r, 0, none⟩) LR.out).trans X0.out; have rw51 := (Bw5.cell (p := ⟨r, 1, none⟩) LR.out).trans X1.out; have rw52 := (Bw5.cell (p := ⟨r, 3, none⟩) LR.out).trans X3.out) | (go_at_call 28; go_split_ands; (with_reducible refine (itoa_bel n _ HN.out ?_).mono ?_); (refine tab_below HXT.out ?_; assumption); rintro e9 w6 ⟨rfl, hbw6⟩; rw [HNE.out]; have Bw6 : Below X.heap.size X w6 := below_join (by assumption) hbw6; have HBw6 := Lib.hid Bw6; have rw60 := (Bw6.cell (p := ⟨r, 0, none⟩) LR.out).trans X0.out; have rw61 := (Bw6.cell (p := ⟨r, 1, none⟩) LR.out).trans X1.out; have rw62 := (Bw6.cell (p := ⟨r, 3, none⟩) LR.out).trans X3.out))
        all_goals
          go_wp2
          go_roundw
          case rel => exact ⟨k + 1, by omega, by go_num, by rw [HNXT.out, ← HL7.out], Lib.hid (HBX.out.trans ((by assumption : Below X.heap.size X _).mono HBX.out.size))⟩
          case measure => simp [intOf]; omega
      · have HU : Hid (hookB h = nameB h) := Lib.hid (by unfold hookB; rw [if_neg hz])
        have hzb := M.str_no hz
        have he0 : (⟨#[]⟩ : ByteArray).toList = [] := by rw [ByteArray.toList_eq]
        rw [he0] at hzb
        have hzl : ¬ (nameB h).toList = [] := by simpa using hzb
        have hze : (nameB h).toList.isEmpty = false := by simpa using hzl
        clear he0
        have HUZ := Lib.hid (nameB_le h)
        generalize nameB h = u at HU HUZ hz hzb hzl hze ⊢
        go_wp2_with fail
        have HUS : Hid (u.size ≤ 21) := Lib.hid HUZ.out
        obtain ⟨G, hG⟩ : ∃ G, G = itoaB g := ⟨_, rfl⟩
        obtain ⟨N, hN⟩ : ∃ N, N = itoaB n := ⟨_, rfl⟩
        obtain ⟨t1, t2, t3, t4, t5, t6, t7, e1, e2, e3, e4, e5, e6, e7, ht, hz7⟩ := line_steps G s N u (by rw [hG]; exact itoaB_le g HG.out) HSZ.out (by rw [hN]; exact itoaB_le n HN.out) HUS.out
        have HL7 : Hid (t7 = lineB g n h s) := Lib.hid (by rw [ht]; unfold lineB; rw [HU.out, hG, hN])
        have e8 := add_ok tx t7 (by have := HTX.out; omega)
        have HGE : Hid (itoaB g = G) := Lib.hid hG.symm
        have HNE : Hid (itoaB n = N) := Lib.hid hN.symm
        clear ht hG hN hz7
        have HXT : Hid (Tab X) := Lib.hid (tab_below HT.out HBX.out)
        have x0 := X0.out
        have x1 := X1.out
        have x3 := X3.out
        have HBB := Below.refl X.heap.size X
        go_region_held3 (fun w' => w'.cell? ⟨r, 0, none⟩ = some (.int .i64 g) ∧ w'.cell? ⟨r, 1, none⟩ = some (.int .i64 n) ∧ w'.cell? ⟨r, 3, none⟩ = some (.string s) ∧ Below X.heap.size X w') (first | (refine ⟨?_, ?_, ?_, ?_⟩ <;> first | assumption | (refine below_more ?_ _; assumption) | (refine Lib.cell?_alloc_some _ ?_; assumption) | exact Below_drew HBB | exact below_heap HBB rfl rfl rfl rfl) | go_keep | exact below_heap HBB rfl rfl rfl rfl) (first | (go_at_call 28; go_split_ands; (with_reducible refine (itoa_bel g _ HG.out ?_).mono ?_); (refine tab_below HXT.out ?_; assumption); rintro e9 w5 ⟨rfl, hbw5⟩; rw [HGE.out]; have Bw5 : Below X.heap.size X w5 := below_join (by assumption) hbw5; have HBw5 := Lib.hid Bw5; have rw50 := (Bw5.cell (p := ⟨r, 0, none⟩) LR.out).trans X0.out; have rw51 := (Bw5.cell (p := ⟨r, 1, none⟩) LR.out).trans X1.out; have rw52 := (Bw5.cell (p := ⟨r, 3, none⟩) LR.out).trans X3.out) | (go_at_call 28; go_split_ands; (with_reducible refine (itoa_bel n _ HN.out ?_).mono ?_); (refine tab_below HXT.out ?_; assumption); rintro e9 w6 ⟨rfl, hbw6⟩; rw [HNE.out]; have Bw6 : Below X.heap.size X w6 := below_join (by assumption) hbw6; have HBw6 := Lib.hid Bw6; have rw60 := (Bw6.cell (p := ⟨r, 0, none⟩) LR.out).trans X0.out; have rw61 := (Bw6.cell (p := ⟨r, 1, none⟩) LR.out).trans X1.out; have rw62 := (Bw6.cell (p := ⟨r, 3, none⟩) LR.out).trans X3.out))
        all_goals
          go_wp2
          go_roundw
          case rel => exact ⟨k + 1, by omega, by go_num, by rw [HNXT.out, ← HL7.out], Lib.hid (HBX.out.trans ((by assumption : Below X.heap.size X _).mono HBX.out.size))⟩
          case measure => simp [intOf]; omega
    · obtain rfl : k = m := by omega
      have HF : Hid (textB (L.take k) = textB L) := Lib.hid (by rw [List.take_of_length_le (by rw [HNL.out]; exact Nat.le_refl _)])
      rw [HF.out]
      go_wp2
      go_ret
      exact ⟨rfl, hbel.out⟩
end Go.Proofs.YtbekoockmageoaaDoor
