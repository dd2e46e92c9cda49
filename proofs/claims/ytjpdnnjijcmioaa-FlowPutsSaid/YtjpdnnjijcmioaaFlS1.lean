/- Contract of the statements' own 'small' of boxes. -/
import Derived.Test.YtjpdnnjijcmioaaFlM2
import Derived.Test.YtjpdnnjijcmioaaBlk
namespace Go.Proofs.Ytjpdnnjijcmioaa
open Go.RowKit M Fl
attribute [-go_sem] Builtin.append_
def sml (L : List Bx) : List Bx := L.map fun b => (b.1 % 1024, b.2 % 1024)
theorem sml_len (L : List Bx) : (sml L).length = L.length := by simp [sml]
theorem sml_take (L : List Bx) (k : Nat) (h : k < L.length) : cc (sml (L.take (k + 1))) = cc (sml (L.take k)) ++ [.int .i64 ((L.getD k (0, 0)).1 % 1024), .int .i64 ((L.getD k (0, 0)).2 % 1024)] := by
  unfold sml
  rw [List.take_succ_eq_append_getElem h, List.map_append, cc_app]
  simp [cc, List.getD_eq_getElem?_getD, List.getElem?_eq_getElem h]
theorem sml_few (L : List Bx) : Few 1023 (sml L) := by
  intro k
  unfold sml
  rw [List.getD_eq_getElem?_getD, List.getElem?_map]
  rcases h : L[k]? with _ | ⟨a, b⟩
  · simp
  · simp only [Option.map_some, Option.getD_some]
    omega
theorem infoRS : (Try.prog.info? 68).map (fun i => (i.zero, i.size, i.bytes)) = some (some (.agg #[.int .i64 0, .int .i64 0]), 2, 16) := by kernel_rfl
set_option maxHeartbeats 4000000 in
set_option maxRecDepth 100000 in
theorem small_any (kind width cols gap : Int) (A : Option Addr) (n c : Nat) (L : List Bx) (w : World) (hn : n = L.length) (hb : n ≤ maxLen) (ha : At w A (cc L)) :
    Calls Try.prog 36 #[.agg #[.int .i64 kind, .int .i64 width, .int .i64 cols, .int .i64 gap, .slice A n c]] w fun e w' => ∃ v, e = .returned (.agg #[.int .i64 kind, .int .i64 (width % 2048), .int .i64 cols, .int .i64 (gap % 16), v]) ∧ w'.ownsRow w.heap.size 68 2 v (min n 20) (cc (sml (L.take 20))) ∧ Below w.heap.size w w' := by
  unfold maxLen at hb
  have HN := Lib.hid hn
  have HA := Lib.hid ha
  clear hn ha
  obtain ⟨i0, hi, hz0, hz1, hz2⟩ := info_parts infoRS
  go_enter Try.func36, Try.ntmps36
  go_wp2_with fail
  obtain ⟨W1, hW1⟩ : ∃ W1, W1 = (w.alloc (.cells #[.int .i64 kind, .int .i64 width, .int .i64 cols, .int .i64 gap, .slice A n c] 61)).alloc (.cells #[.int .i64 0, .int .i64 0, .int .i64 0, .int .i64 0, .slice none 0 0] 61) := ⟨_, rfl⟩
  rw [← hW1]
  have hs1 : W1.heap.size = w.heap.size + 2 := by rw [hW1]; simp
  have HA1 := Lib.hid (show Blk W1 w.heap.size _ _ by rw [hW1]; exact (Blk.new w _ _).alloc _)
  have HB1 := Lib.hid (show Blk W1 (w.heap.size + 1) _ _ by rw [hW1]; exact (Blk.new' _ _ _ _ (size_alloc _ _)))
  have H1 : Hid (Below w.heap.size w W1) := by show Below _ _ _; rw [hW1]; exact (below_alloc w _).alloc (by simp) _
  have HL1 : Hid (At W1 A (cc L)) := by show At _ _ _; rw [hW1]; exact (HA.out.alloc _).alloc _
  clear hW1 HA
  generalize hgg : w.heap.size = g at HA1 HB1 hs1 ⊢
  have HG := Lib.hid hgg
  clear hgg
  go_loopw [3, 4] (fun v i wr => ∃ k : Nat, k ≤ n ∧ k ≤ 20 ∧ i = .int .i64 k ∧ Hid (wr.ownsRow (g + 2) 68 2 v k (cc (sml (L.take k)))) ∧ Hid (Below W1.heap.size W1 wr)) (fun _ i _ => 20 - (intOf i).toNat)
  case atStart => exact ⟨0, Nat.zero_le _, Nat.zero_le _, rfl, World.ownsRow_nil _ _ _ _, Below.refl _ _⟩
  case round =>
    obtain ⟨k, hk, hk20, rfl, hown, hbel⟩ := hrel
    obtain ⟨A7, c7, rfl, hc7, hm7⟩ := own_slice hown.out
    have HK := Lib.hid (HA1.out.below hbel.out)
    have HK2 := Lib.hid (HB1.out.below hbel.out)
    obtain ⟨⟨d0, d1, d2, d3, d4⟩, u0, u1, u2, u3, u4⟩ := HK.out.five
    have hszr := hbel.out.size
    by_cases hlt : k < n ∧ k < 20
    · obtain ⟨hl1, hl2⟩ := hlt
      have hkl : k < L.length := by have := HN.out; omega
      obtain ⟨b, off, rfl, hbl, hc0, hc1⟩ := at_box (HL1.out.below hbel.out) hkl
      have HT := Lib.hid (sml_take L k hkl)
      generalize L.getD k (0, 0) = bb at *
      obtain ⟨bx, bh⟩ := bb
      simp only at hc0 hc1 HT
      have m1 := mask_1023 bx
      have m2 := mask_1023 bh
      generalize bx % 1024 = qx at *
      generalize bh % 1024 = qh at *
      obtain ⟨v1, w1, hrun, hown1, hgrow1, _, hat1⟩ := run_append_own_at (P := Try.prog) (wr.alloc (.cells #[.int .i64 qx, .int .i64 qh] 68)).drew (g + 2) 59 59 68 i0 _ 2 16 Try.underlying59 hi hz0 hz1 hz2 rfl (by decide) _ _ _ (own_heap (hown.out.alloc (.cells #[.int .i64 qx, .int .i64 qh] 68)) rfl) ⟨wr.heap.size, 0, none⟩ 1 1 [.int .i64 qx, .int .i64 qh] rfl (cells_new' wr _ _ _ rfl _ rfl) (cc_one [(qx, qh)]) (by unfold maxLen; omega) (by omega) (by show g + 2 ≤ (wr.alloc _).heap.size; rw [size_alloc]; omega)
      have EO := Lib.hid (show w1.ownsRow (g + 2) 68 2 v1 (k + 1) (cc (sml (L.take (k + 1)))) by rw [HT.out]; exact hown1)
      have EB : Hid (Below W1.heap.size W1 w1) := Below.grown (Below_drew (hbel.out.alloc hszr (.cells #[.int .i64 qx, .int .i64 qh] 68))) hgrow1 (by show _ ≤ (wr.alloc _).heap.size; rw [size_alloc]; omega) (fun q hq => by have := (hown.out.lt q hq).1; omega)
      clear hown1 hgrow1 hat1 u0 u1 u2 u3 u4
      go_wp2_with fail
      go_region
      clear hrun
      go_wp2_with fail
      go_roundw
      case rel => exact ⟨k + 1, by omega, by omega, by go_num, EO, EB⟩
      case measure => simp [intOf]; omega
    · have hkm : k = min n 20 := by omega
      have hTK : L.take k = L.take 20 := by
        rw [hkm]
        have := HN.out
        by_cases h9 : n ≤ 20
        · rw [Nat.min_eq_left h9, List.take_of_length_le (by omega), List.take_of_length_le (by omega)]
        · rw [Nat.min_eq_right (by omega)]
      have HO : Hid (wr.ownsRow (g + 2) 68 2 (.slice A7 k c7) (min n 20) (cc (sml (L.take 20)))) := by
        have h9 := hown.out
        rw [hTK] at h9
        rw [← hkm]
        exact h9
      have HB : Hid (Below w.heap.size w wr) := H1.out.trans (hbel.out.mono H1.out.size)
      have m1 := mask_15 gap
      have m2 := mask_2047 width
      generalize hqg : gap % 16 = qg at *
      generalize hqw : width % 2048 = qw at *
      have HQ1 := Lib.hid hqg
      have HQ2 := Lib.hid hqw
      clear hqg hqw
      clear hTK hown hbel hkm
      have hK : ((k : Int) < (n : Int) ∧ ¬ (k : Int) < 20) ∨ ¬ (k : Int) < (n : Int) := by omega
      obtain ⟨⟨x0, x1, x2, x3, x4⟩, y0, y1, y2, y3, y4⟩ := HK2.out.five
      have hgsz := HG.out
      have hgB := HB.out.size
      rw [hgsz] at hgB
      have HR := Lib.hid (((((((((HK2.out.other g 4 (.slice A7 k c7) (by omega)).other g 3 (.int .i64 qg) (by omega)).other g 1 (.int .i64 qw) (by omega)).set 0 (.int .i64 kind)).set 1 (.int .i64 qw)).set 2 (.int .i64 cols)).set 3 (.int .i64 qg)).set 4 (.slice A7 k c7)))
      clear HK HK2
      rcases hK with ⟨h6, h7⟩ | h6
      · go_wp2_with fail
        clear x0 x1 x2 x3 x4 y0 y1 y2 y3 y4 u0 u1 u2 u3 u4 d0 d1 d2 d3 d4
        refine bodyPost_ret (results_cell_row rfl _ _ (g + 1) _ _ (0, 0) _ rfl HR.out Try.underlying61 rfl (by kernel_rfl)) rfl ?_
        refine ⟨.slice A7 k c7, by rw [HQ1.out, HQ2.out]; rfl, ?_, ?_⟩
        · refine own_mono (base := g + 2) ?_ (by omega)
          iterate 8 refine own_other ?_ _ _ _ (by omega)
          exact HO.out
        · show Below _ _ _
          iterate 8 refine below_setg ?_ _ _ _ (by omega) (by (try simp only [setCell_size']); omega)
          rw [← hgsz]
          exact HB.out
      · go_wp2_with fail
        clear x0 x1 x2 x3 x4 y0 y1 y2 y3 y4 u0 u1 u2 u3 u4 d0 d1 d2 d3 d4
        refine bodyPost_ret (results_cell_row rfl _ _ (g + 1) _ _ (0, 0) _ rfl HR.out Try.underlying61 rfl (by kernel_rfl)) rfl ?_
        refine ⟨.slice A7 k c7, by rw [HQ1.out, HQ2.out]; rfl, ?_, ?_⟩
        · refine own_mono (base := g + 2) ?_ (by omega)
          iterate 8 refine own_other ?_ _ _ _ (by omega)
          exact HO.out
        · show Below _ _ _
          iterate 8 refine below_setg ?_ _ _ _ (by omega) (by (try simp only [setCell_size']); omega)
          rw [← hgsz]
          exact HB.out
end Go.Proofs.Ytjpdnnjijcmioaa
