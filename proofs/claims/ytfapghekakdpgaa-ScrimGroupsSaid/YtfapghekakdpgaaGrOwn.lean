/- The statements' own: kids, as the program's and as the document's. -/
import Derived.Test.YtfapghekakdpgaaGrW3
import Derived.Test.YtfapghekakdpgaaClW1
import Derived.Deep.RegionHeld3
import Derived.Deep.RegionLaw
import Derived.StillTailTactics
import Derived.Deep.DeepCutAuto
import Derived.Deep.QuietTactic
import Derived.BigQuiet
import Derived.RegionTactic
import Derived.Lib.Hide
namespace Go.Proofs.Ytfapghekakdpgaa
open Go.RowKit Gr
open M (cutS)
set_option linter.unusedVariables false
def ownK (L : List Gk) (m : Nat) : List Gk := (L.take m).map fun k => (cutS k.1 20, k.2)
theorem ownK_len (L : List Gk) (m : Nat) : (ownK L m).length = min m L.length := by simp [ownK]
theorem ownK_next (L : List Gk) (k : Nat) (h : k < L.length) : ownK L (k + 1) = ownK L k ++ [(cutS (gk L k).1 20, (gk L k).2)] := by
  unfold ownK
  rw [List.take_succ_eq_append_getElem h, List.map_append, gk_eq L k h]
  rfl
theorem infoKown1 : (Try.prog.info? 66).map (fun i => (i.zero, i.size, i.bytes)) = some (some (.agg #[.string { data := #[] }, .bool false]), 2, 24) := by kernel_rfl
theorem infoKown2 : (Try.prog.info? 35).map (fun i => (i.zero, i.size, i.bytes)) = some (some (.agg #[.string { data := #[] }, .bool false]), 2, 24) := by kernel_rfl
set_option maxHeartbeats 16000000 in
set_option maxRecDepth 100000 in
theorem own_any (A : Option Addr) (n c m : Nat) (L : List Gk) (w : World) (hn : n = L.length) (hb : n ≤ maxLen) (hm : m ≤ 1000) (ha : At w A (gcs L)) :
    Calls Try.prog 12 #[.slice A n c, .int .i64 m] w fun e w' => ∃ v u, e = .returned (.tuple #[v, u]) ∧ w'.ownsRow w.heap.size 66 2 v (min m n) (gcs (ownK L m)) ∧ w'.ownsRow w.heap.size 35 2 u (min m n) (gcs (ownK L m)) ∧ Below w.heap.size w w' := by
  unfold maxLen at hb
  have HN := Lib.hid hn
  have HD := Lib.hid ha
  clear hn ha
  obtain ⟨i1, hi1, hz10, hz11, hz12⟩ := info_parts infoKown1
  obtain ⟨i2, hi2, hz20, hz21, hz22⟩ := info_parts infoKown2
  go_enter Try.func12, Try.ntmps12
  go_wp2_with fail
  go_loopw [6, 7, 8] (fun v u i wr => ∃ k : Nat, k ≤ n ∧ k ≤ m ∧ i = .int .i64 k ∧ Hid (wr.ownsRow w.heap.size 66 2 v k (gcs (ownK L k))) ∧ Hid (wr.ownsRow w.heap.size 35 2 u k (gcs (ownK L k))) ∧ Below w.heap.size w wr) (fun _ _ i _ => m - (intOf i).toNat)
  case atStart => exact ⟨0, Nat.zero_le _, Nat.zero_le _, rfl, World.ownsRow_nil _ _ _ _, World.ownsRow_nil _ _ _ _, Below.refl _ _⟩
  case round =>
    obtain ⟨k, hk, hkm, rfl, hown, hownu, hbel⟩ := hrel
    by_cases hlt : k < n ∧ k < m
    · obtain ⟨hlt1, hlt2⟩ := hlt
      have hkL : k < L.length := by have := HN.out; omega
      obtain ⟨A7, c7, rfl, hc7, hm7⟩ := own_slice hown.out
      obtain ⟨A8, c8, rfl, hc8, hm8⟩ := own_slice hownu.out
      obtain ⟨b1, o1, rfl, hlb1, hc10, hc11⟩ := at_gk HD.out hkL
      have hd0 := (below_cells hbel).1 b1 (o1 + k * 2) hlb1
      have hd1 := (below_cells hbel).1 b1 (o1 + k * 2 + 1) hlb1
      rw [hc10] at hd0
      rw [hc11] at hd1
      have hnx := ownK_next L k hkL
      clear hc10 hc11
      obtain ⟨x, hx⟩ : ∃ x, x = (gk L k).1 := ⟨_, rfl⟩
      obtain ⟨z, hz⟩ : ∃ z, z = (gk L k).2 := ⟨_, rfl⟩
      rw [← hx] at hd0 hnx
      rw [← hz] at hd1 hnx
      have HNXT := Lib.hid hnx
      clear hx hz hnx
      obtain ⟨LL, hLL⟩ : ∃ LL, LL = ownK L k := ⟨_, rfl⟩
      rw [← hLL] at hown hownu HNXT
      clear hLL
      have hsz := hbel.size
      have hkk : (0 : Int) ≤ (k : Int) := by omega
      have hkk2 : (k : Int) < (n : Int) := by omega
      go_upto_region 6 with fail
      go_cut [9] (fun p wx => ∃ g : Nat, p = .pointer (some ⟨g, 0, none⟩) ∧ wx.cell? ⟨g, 0, none⟩ = some (.string (cutS x 20)) ∧ wx.cell? ⟨g, 1, none⟩ = some (.bool z) ∧ Hid (wx.ownsRow w.heap.size 66 2 (.slice A7 k c7) k (gcs LL)) ∧ Hid (wx.ownsRow w.heap.size 35 2 (.slice A8 k c8) k (gcs LL)) ∧ Below w.heap.size w wx ∧ Hid ((Value.slice A7 k c7).ownBlock ≠ some g) ∧ Hid ((Value.slice A8 k c8).ownBlock ≠ some g))
      case first =>
        go_region_held3 (fun w' => w'.cell? ⟨b1, o1 + k * 2, none⟩ = some (.string x) ∧ w'.cell? ⟨b1, o1 + k * 2 + 1, none⟩ = some (.bool z)) (first | go_keep | (refine ⟨?_, ?_⟩ <;> go_keep)) (first | (go_at_call 25; refine (cut_any x 20 _ (by omega) (by omega)).mono ?_; rintro e w' ⟨rfl, rfl⟩) | fail)
        all_goals (go_wp2_with fail; go_meet; exact ⟨wr.heap.size, rfl, by simp, by simp, hown.out.alloc _, hownu.out.alloc _, Below_drew (hbel.alloc hsz _), (fun e => Nat.lt_irrefl _ (hown.out.lt _ e).2), (fun e => Nat.lt_irrefl _ (hownu.out.lt _ e).2)⟩)
      case rest =>
        obtain ⟨g, rfl, hg0, hg1, hownA, hownX, hbelx, HNG, HNX⟩ := hcut
        rename World => wx
        have hszx := hbelx.size
        generalize cutS x 20 = s1 at hg0 HNXT
        have HNE := Lib.hid (own_ne hownX.out hownA.out (by decide))
        have HLT : Hid (∀ h, (Value.slice A7 k c7).ownBlock = some h → h < wx.heap.size) := fun h e => (hownA.out.lt h e).2
        have HLX : Hid (∀ h, (Value.slice A8 k c8).ownBlock = some h → h < wx.heap.size) := fun h e => (hownX.out.lt h e).2
        go_upto_region 7 with fail
        have hga0 : ∀ o, (wx.alloc o).cell? ⟨g, 0, none⟩ = some (.string s1) := fun o => Lib.cell?_alloc_some _ hg0
        have hga1 : ∀ o, (wx.alloc o).cell? ⟨g, 1, none⟩ = some (.bool z) := fun o => Lib.cell?_alloc_some _ hg1
        have hgb0 : ∀ o o2, ((wx.alloc o).alloc o2).cell? ⟨g, 0, none⟩ = some (.string s1) := fun o o2 => Lib.cell?_alloc_some _ (hga0 o)
        have hgb1 : ∀ o o2, ((wx.alloc o).alloc o2).cell? ⟨g, 1, none⟩ = some (.bool z) := fun o o2 => Lib.cell?_alloc_some _ (hga1 o)
        go_region_law (first | (refine step_append_at (by rfl) (.tmp 33) (.tmp 35) 25 (by rfl) w.heap.size 66 i1 _ 2 24 Try.underlying25 hi1 hz10 hz11 hz12 rfl (by decide) (.slice A7 k c7) k (gcs LL) (by rfl) ?_ (some ⟨_, 0, none⟩) 1 1 [.string s1, .bool z] (by rfl) (fun h => nomatch h) rfl ?_ (gcs_one [(s1, z)]) ?_ ?_ ?_ ?_; (first | exact own_heap (hownA.out.alloc _) rfl | exact own_heap ((hownA.out.alloc _).alloc _) rfl); (first | exact at_push1 wx.heap #[.string s1, .bool z] 66 wx.heap.size [.string s1, .bool z] rfl rfl rfl | exact at_push2 wx.heap #[.string s1, .bool z] 66 (.cells #[.string s1, .bool z] 35) wx.heap.size [.string s1, .bool z] rfl rfl rfl | (refine at_push1 (wx.heap.push (.cells #[.string s1, .bool z] 35)) #[.string s1, .bool z] 66 (wx.heap.size + 1) [.string s1, .bool z] rfl ?_ rfl; simp)); (unfold maxLen; omega); omega; (simp <;> omega); intro v8 w8 hown8 hgrow8; have hb80 : w8.cell? ⟨g, 0, none⟩ = some (.string s1) := (by refine hgrow8.cell ?_ HNG.out.symm; first | exact cell_heap (Lib.cell?_alloc_some _ hg0) rfl | exact cell_heap (Lib.cell?_alloc_some _ (Lib.cell?_alloc_some _ hg0)) rfl); have hb81 : w8.cell? ⟨g, 1, none⟩ = some (.bool z) := (by refine hgrow8.cell ?_ HNG.out.symm; first | exact cell_heap (Lib.cell?_alloc_some _ hg1) rfl | exact cell_heap (Lib.cell?_alloc_some _ (Lib.cell?_alloc_some _ hg1)) rfl)) | (refine step_append_at (by rfl) (.tmp 37) (.tmp 39) 22 (by rfl) w.heap.size 35 i2 _ 2 24 Try.underlying22 hi2 hz20 hz21 hz22 rfl (by decide) (.slice A8 k c8) k (gcs LL) (by rfl) ?_ (some ⟨_, 0, none⟩) 1 1 [.string s1, .bool z] (by rfl) (fun h => nomatch h) rfl ?_ (gcs_one [(s1, z)]) ?_ ?_ ?_ ?_; (first | (refine own_heap (World.ownsRow.alloc (World.ownsRow.kept ?_ hgrow8 HNE.out) _) rfl; exact own_heap (hownX.out.alloc _) rfl) | (refine own_heap (World.ownsRow.kept ?_ hgrow8 HNE.out) rfl; exact own_heap ((hownX.out.alloc _).alloc _) rfl)); (first | exact at_push1 w8.heap #[.string s1, .bool z] 35 w8.heap.size [.string s1, .bool z] rfl rfl rfl | (refine at_new_grown hgrow8 (wx.heap.push (.cells #[.string s1, .bool z] 66)) #[.string s1, .bool z] 35 (wx.heap.size + 1) [.string s1, .bool z] rfl ?_ rfl ?_; simp; (intro e; have h5 := HLT.out _ e.symm; omega)) | (refine at_new_alloc_grown hgrow8 wx.heap #[.string s1, .bool z] 35 (.cells #[.string s1, .bool z] 66) wx.heap.size [.string s1, .bool z] rfl rfl rfl ?_; (intro e; have h5 := HLT.out _ e.symm; omega))); (unfold maxLen; omega); omega; (have h5 := hgrow8.size; simp at h5 ⊢ <;> omega); intro v9 w9 hown9 hgrow9))
        all_goals
          have b8 : Below w.heap.size w w8 := by
            refine Below.grown ?_ hgrow8 (by simp <;> omega) (fun q hq => by have h5 := own_from hownA.out q hq; omega)
            first
            | exact Below_drew (hbelx.alloc hszx _)
            | exact Below_drew ((hbelx.alloc hszx _).alloc (by simp; omega) _)
            | exact Below_drew (Below_drew (hbelx.alloc hszx _))
            | exact Below_drew (Below_drew ((hbelx.alloc hszx _).alloc (by simp; omega) _))
            | exact hbelx.alloc hszx _
            | exact (hbelx.alloc hszx _).alloc (by simp; omega) _
          have h58 := b8.size
          have b9 : Below w.heap.size w w9 := by
            refine Below.grown ?_ hgrow9 (by first | exact h58 | (simp; omega)) (fun q hq => by have h5 := own_from hownX.out q hq; omega)
            first
            | exact b8
            | exact b8.alloc h58 _
            | exact Below_drew b8
            | exact Below_drew (b8.alloc h58 _)
          have X8 : w8.ownsRow w.heap.size 35 2 (.slice A8 k c8) k (gcs LL) := by
            refine World.ownsRow.kept ?_ hgrow8 HNE.out
            first | exact own_heap (hownX.out.alloc _) rfl | exact own_heap ((hownX.out.alloc _).alloc _) rfl
          have o8 : w9.ownsRow w.heap.size 66 2 v8 (k + 1) (gcs LL ++ [.string s1, .bool z]) := by
            first
            | (refine World.ownsRow.kept ?_ hgrow9 (own_ne (w := w8) hown8 X8 (by decide)); first | exact own_heap (hown8.alloc _) rfl | exact hown8)
          have O8 := Lib.hid o8
          have O9 := Lib.hid hown9
          have B9 := Lib.hid b9
          clear b8 b9 o8 hb80 hb81 hown8 hown9 hgrow8 hgrow9 h58
          go_wp2
          go_roundw
          case rel => exact ⟨k + 1, by omega, by omega, by go_num, by show World.ownsRow _ _ _ _ _ _ _; rw [HNXT.out, gcs_app]; exact O8.out, by show World.ownsRow _ _ _ _ _ _ _; rw [HNXT.out, gcs_app]; exact O9.out, B9.out⟩
          case measure => simp [intOf]; omega
    · have hmin : Hid (min m n = k) := by show min m n = k; omega
      have HB0 := Lib.hid hbel
      have hBK : Hid (ownK L m = ownK L k) := by
        show _ = _
        unfold ownK
        congr 1
        rcases Nat.lt_or_ge k m with h | h
        · rw [List.take_of_length_le (by have := HN.out; omega), List.take_of_length_le (by have := HN.out; omega)]
        · rw [show m = k by omega]
      by_cases hlt1 : k < n
      · have hlt2 : ¬ k < m := fun h => hlt ⟨hlt1, h⟩
        clear hlt
        go_wp2
        go_ret2
        exact ⟨_, _, rfl, by rw [hmin.out, hBK.out]; exact hown.out, by rw [hmin.out, hBK.out]; exact hownu.out, HB0.out⟩
      · clear hlt
        go_wp2
        go_ret2
        exact ⟨_, _, rfl, by rw [hmin.out, hBK.out]; exact hown.out, by rw [hmin.out, hBK.out]; exact hownu.out, HB0.out⟩
theorem ownK_ok (L : List Gk) (m : Nat) (h : ∀ k ∈ L, OkS k.1) : ∀ k ∈ ownK L m, OkS k.1 := by
  intro k hk
  unfold ownK at hk
  rw [List.mem_map] at hk
  obtain ⟨x, hx, rfl⟩ := hk
  have h2 := h x (List.mem_of_mem_take hx)
  show (cutS x.1 20).size ≤ maxLen
  unfold cutS maxLen
  split
  · simp; omega
  · unfold OkS maxLen at h2; exact h2
end Go.Proofs.Ytfapghekakdpgaa
