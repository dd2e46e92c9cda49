/- The statements' own: kids, as the program's and as the document's. -/
import Derived.Test.YtfapghekakdpgaaSlR
import Derived.Test.YtfapghekakdpgaaClW1
import Derived.Deep.RegionHeld3
import Derived.Deep.RegionLaw
import Derived.StillTailTactics
import Derived.Deep.DeepCutAuto
import Derived.Deep.QuietTactic
import Derived.BigQuiet
import Derived.RegionTactic
import Derived.Lib.Hide
namespace Go.Proofs.Ytfapghekakdpgaa
open Go.RowKit Gr Sl
open M (cutS)
set_option linter.unusedVariables false
def sownK (L : List Sk) (m : Nat) : List Sk := (L.take m).map fun k => (cutS k.1 20, k.2)
theorem sownK_len (L : List Sk) (m : Nat) : (sownK L m).length = min m L.length := by simp [sownK]
theorem sownK_next (L : List Sk) (k : Nat) (h : k < L.length) : sownK L (k + 1) = sownK L k ++ [(cutS (sk L k).1 20, (sk L k).2)] := by
  unfold sownK
  rw [List.take_succ_eq_append_getElem h, List.map_append, sk_eq L k h]
  rfl
theorem infoKsown1 : (Try.prog.info? 86).map (fun i => (i.zero, i.size, i.bytes)) = some (some (.agg #[.string { data := #[] }, .int .i64 0]), 2, 24) := by kernel_rfl
theorem infoKsown2 : (Try.prog.info? 63).map (fun i => (i.zero, i.size, i.bytes)) = some (some (.agg #[.string { data := #[] }, .int .i64 0]), 2, 24) := by kernel_rfl
set_option maxHeartbeats 16000000 in
set_option maxRecDepth 100000 in
theorem sown_any (A : Option Addr) (n c : Nat) (L : List Sk) (w : World) (hn : n = L.length) (hb : n ≤ maxLen) (ha : At w A (scs L)) :
    Calls Try.prog 24 #[.slice A n c] w fun e w' => ∃ v u, e = .returned (.tuple #[v, u]) ∧ w'.ownsRow w.heap.size 86 2 v (min 15 n) (scs (sownK L 15)) ∧ w'.ownsRow w.heap.size 63 2 u (min 15 n) (scs (sownK L 15)) ∧ Below w.heap.size w w' := by
  unfold maxLen at hb
  have HN := Lib.hid hn
  have HD := Lib.hid ha
  clear hn ha
  obtain ⟨i1, hi1, hz10, hz11, hz12⟩ := info_parts infoKsown1
  obtain ⟨i2, hi2, hz20, hz21, hz22⟩ := info_parts infoKsown2
  go_enter Try.func24, Try.ntmps24
  go_wp2_with fail
  go_loopw [4, 5, 6] (fun v u i wr => ∃ k : Nat, k ≤ n ∧ k ≤ 15 ∧ i = .int .i64 k ∧ Hid (wr.ownsRow w.heap.size 86 2 v k (scs (sownK L k))) ∧ Hid (wr.ownsRow w.heap.size 63 2 u k (scs (sownK L k))) ∧ Below w.heap.size w wr) (fun _ _ i _ => 15 - (intOf i).toNat)
  case atStart => exact ⟨0, Nat.zero_le _, Nat.zero_le _, rfl, World.ownsRow_nil _ _ _ _, World.ownsRow_nil _ _ _ _, Below.refl _ _⟩
  case round =>
    obtain ⟨k, hk, hkm, rfl, hown, hownu, hbel⟩ := hrel
    by_cases hlt : k < n ∧ k < 15
    · obtain ⟨hlt1, hlt2⟩ := hlt
      have hkL : k < L.length := by have := HN.out; omega
      obtain ⟨A7, c7, rfl, hc7, hm7⟩ := own_slice hown.out
      obtain ⟨A8, c8, rfl, hc8, hm8⟩ := own_slice hownu.out
      obtain ⟨b1, o1, rfl, hlb1, hc10, hc11⟩ := at_sk HD.out hkL
      have hd0 := (below_cells hbel).1 b1 (o1 + k * 2) hlb1
      have hd1 := (below_cells hbel).1 b1 (o1 + k * 2 + 1) hlb1
      rw [hc10] at hd0
      rw [hc11] at hd1
      have hnx := sownK_next L k hkL
      clear hc10 hc11
      obtain ⟨x, hx⟩ : ∃ x, x = (sk L k).1 := ⟨_, rfl⟩
      obtain ⟨z, hz⟩ : ∃ z, z = (sk L k).2 := ⟨_, rfl⟩
      rw [← hx] at hd0 hnx
      rw [← hz] at hd1 hnx
      have HNXT := Lib.hid hnx
      clear hx hz hnx
      obtain ⟨LL, hLL⟩ : ∃ LL, LL = sownK L k := ⟨_, rfl⟩
      rw [← hLL] at hown hownu HNXT
      clear hLL
      have hsz := hbel.size
      have hkk : (0 : Int) ≤ (k : Int) := by omega
      have hkk2 : (k : Int) < (n : Int) := by omega
      have hkk3 : (k : Int) < 15 := by omega
      go_upto_region 6 with fail
      go_cut [7] (fun p wx => ∃ g : Nat, p = .pointer (some ⟨g, 0, none⟩) ∧ wx.cell? ⟨g, 0, none⟩ = some (.string (cutS x 20)) ∧ wx.cell? ⟨g, 1, none⟩ = some (.int .i64 z) ∧ Hid (wx.ownsRow w.heap.size 86 2 (.slice A7 k c7) k (scs LL)) ∧ Hid (wx.ownsRow w.heap.size 63 2 (.slice A8 k c8) k (scs LL)) ∧ Below w.heap.size w wx ∧ Hid ((Value.slice A7 k c7).ownBlock ≠ some g) ∧ Hid ((Value.slice A8 k c8).ownBlock ≠ some g))
      case first =>
        go_region_held3 (fun w' => w'.cell? ⟨b1, o1 + k * 2, none⟩ = some (.string x) ∧ w'.cell? ⟨b1, o1 + k * 2 + 1, none⟩ = some (.int .i64 z)) (first | go_keep | (refine ⟨?_, ?_⟩ <;> go_keep)) (first | (go_at_call 25; refine (cut_any x 20 _ (by omega) (by omega)).mono ?_; rintro e w' ⟨rfl, rfl⟩) | fail)
        all_goals (go_wp2_with fail; go_meet; exact ⟨wr.heap.size, rfl, by simp, by simp, hown.out.alloc _, hownu.out.alloc _, Below_drew (hbel.alloc hsz _), (fun e => Nat.lt_irrefl _ (hown.out.lt _ e).2), (fun e => Nat.lt_irrefl _ (hownu.out.lt _ e).2)⟩)
      case rest =>
        obtain ⟨g, rfl, hg0, hg1, hownA, hownX, hbelx, HNG, HNX⟩ := hcut
        rename World => wx
        have hszx := hbelx.size
        generalize cutS x 20 = s1 at hg0 HNXT
        have HNE := Lib.hid (own_ne hownX.out hownA.out (by decide))
        have HLT : Hid (∀ h, (Value.slice A7 k c7).ownBlock = some h → h < wx.heap.size) := fun h e => (hownA.out.lt h e).2
        have HLX : Hid (∀ h, (Value.slice A8 k c8).ownBlock = some h → h < wx.heap.size) := fun h e => (hownX.out.lt h e).2
        go_upto_region 7 with fail
        have hga0 : ∀ o, (wx.alloc o).cell? ⟨g, 0, none⟩ = some (.string s1) := fun o => Lib.cell?_alloc_some _ hg0
        have hga1 : ∀ o, (wx.alloc o).cell? ⟨g, 1, none⟩ = some (.int .i64 z) := fun o => Lib.cell?_alloc_some _ hg1
        have hgb0 : ∀ o o2, ((wx.alloc o).alloc o2).cell? ⟨g, 0, none⟩ = some (.string s1) := fun o o2 => Lib.cell?_alloc_some _ (hga0 o)
        have hgb1 : ∀ o o2, ((wx.alloc o).alloc o2).cell? ⟨g, 1, none⟩ = some (.int .i64 z) := fun o o2 => Lib.cell?_alloc_some _ (hga1 o)
        go_region_law (first | (refine step_append_at (by rfl) (.tmp 30) (.tmp 32) 45 (by rfl) w.heap.size 86 i1 _ 2 24 Try.underlying45 hi1 hz10 hz11 hz12 rfl (by decide) (.slice A7 k c7) k (scs LL) (by rfl) ?_ (some ⟨_, 0, none⟩) 1 1 [.string s1, .int .i64 z] (by rfl) (fun h => nomatch h) rfl ?_ (scs_one [(s1, z)]) ?_ ?_ ?_ ?_; (first | exact own_heap (hownA.out.alloc _) rfl | exact own_heap ((hownA.out.alloc _).alloc _) rfl); (first | exact at_push1 wx.heap #[.string s1, .int .i64 z] 86 wx.heap.size [.string s1, .int .i64 z] rfl rfl rfl | exact at_push2 wx.heap #[.string s1, .int .i64 z] 86 (.cells #[.string s1, .int .i64 z] 63) wx.heap.size [.string s1, .int .i64 z] rfl rfl rfl | (refine at_push1 (wx.heap.push (.cells #[.string s1, .int .i64 z] 63)) #[.string s1, .int .i64 z] 86 (wx.heap.size + 1) [.string s1, .int .i64 z] rfl ?_ rfl; simp)); (unfold maxLen; omega); omega; (simp <;> omega); intro v8 w8 hown8 hgrow8; have hb80 : w8.cell? ⟨g, 0, none⟩ = some (.string s1) := (by refine hgrow8.cell ?_ HNG.out.symm; first | exact cell_heap (Lib.cell?_alloc_some _ hg0) rfl | exact cell_heap (Lib.cell?_alloc_some _ (Lib.cell?_alloc_some _ hg0)) rfl); have hb81 : w8.cell? ⟨g, 1, none⟩ = some (.int .i64 z) := (by refine hgrow8.cell ?_ HNG.out.symm; first | exact cell_heap (Lib.cell?_alloc_some _ hg1) rfl | exact cell_heap (Lib.cell?_alloc_some _ (Lib.cell?_alloc_some _ hg1)) rfl)) | (refine step_append_at (by rfl) (.tmp 34) (.tmp 36) 44 (by rfl) w.heap.size 63 i2 _ 2 24 Try.underlying44 hi2 hz20 hz21 hz22 rfl (by decide) (.slice A8 k c8) k (scs LL) (by rfl) ?_ (some ⟨_, 0, none⟩) 1 1 [.string s1, .int .i64 z] (by rfl) (fun h => nomatch h) rfl ?_ (scs_one [(s1, z)]) ?_ ?_ ?_ ?_; (first | (refine own_heap (World.ownsRow.alloc (World.ownsRow.kept ?_ hgrow8 HNE.out) _) rfl; exact own_heap (hownX.out.alloc _) rfl) | (refine own_heap (World.ownsRow.kept ?_ hgrow8 HNE.out) rfl; exact own_heap ((hownX.out.alloc _).alloc _) rfl)); (first | exact at_push1 w8.heap #[.string s1, .int .i64 z] 63 w8.heap.size [.string s1, .int .i64 z] rfl rfl rfl | (refine at_new_grown hgrow8 (wx.heap.push (.cells #[.string s1, .int .i64 z] 86)) #[.string s1, .int .i64 z] 63 (wx.heap.size + 1) [.string s1, .int .i64 z] rfl ?_ rfl ?_; simp; (intro e; have h5 := HLT.out _ e.symm; omega)) | (refine at_new_alloc_grown hgrow8 wx.heap #[.string s1, .int .i64 z] 63 (.cells #[.string s1, .int .i64 z] 86) wx.heap.size [.string s1, .int .i64 z] rfl rfl rfl ?_; (intro e; have h5 := HLT.out _ e.symm; omega))); (unfold maxLen; omega); omega; (have h5 := hgrow8.size; simp at h5 ⊢ <;> omega); intro v9 w9 hown9 hgrow9))
        all_goals
          have b8 : Below w.heap.size w w8 := by
            refine Below.grown ?_ hgrow8 (by simp <;> omega) (fun q hq => by have h5 := own_from hownA.out q hq; omega)
            first
            | exact Below_drew (hbelx.alloc hszx _)
            | exact Below_drew ((hbelx.alloc hszx _).alloc (by simp; omega) _)
            | exact Below_drew (Below_drew (hbelx.alloc hszx _))
            | exact Below_drew (Below_drew ((hbelx.alloc hszx _).alloc (by simp; omega) _))
            | exact hbelx.alloc hszx _
            | exact (hbelx.alloc hszx _).alloc (by simp; omega) _
          have h58 := b8.size
          have b9 : Below w.heap.size w w9 := by
            refine Below.grown ?_ hgrow9 (by first | exact h58 | (simp; omega)) (fun q hq => by have h5 := own_from hownX.out q hq; omega)
            first
            | exact b8
            | exact b8.alloc h58 _
            | exact Below_drew b8
            | exact Below_drew (b8.alloc h58 _)
          have X8 : w8.ownsRow w.heap.size 63 2 (.slice A8 k c8) k (scs LL) := by
            refine World.ownsRow.kept ?_ hgrow8 HNE.out
            first | exact own_heap (hownX.out.alloc _) rfl | exact own_heap ((hownX.out.alloc _).alloc _) rfl
          have o8 : w9.ownsRow w.heap.size 86 2 v8 (k + 1) (scs LL ++ [.string s1, .int .i64 z]) := by
            first
            | (refine World.ownsRow.kept ?_ hgrow9 (own_ne (w := w8) hown8 X8 (by decide)); first | exact own_heap (hown8.alloc _) rfl | exact hown8)
          have O8 := Lib.hid o8
          have O9 := Lib.hid hown9
          have B9 := Lib.hid b9
          clear b8 b9 o8 hb80 hb81 hown8 hown9 hgrow8 hgrow9 h58
          go_wp2
          go_roundw
          case rel => exact ⟨k + 1, by omega, by omega, by go_num, by show World.ownsRow _ _ _ _ _ _ _; rw [HNXT.out, scs_app]; exact O8.out, by show World.ownsRow _ _ _ _ _ _ _; rw [HNXT.out, scs_app]; exact O9.out, B9.out⟩
          case measure => simp [intOf]; omega
    · have hmin : Hid (min 15 n = k) := by show min 15 n = k; omega
      have HB0 := Lib.hid hbel
      have hBK : Hid (sownK L 15 = sownK L k) := by
        show _ = _
        unfold sownK
        congr 1
        rcases Nat.lt_or_ge k 15 with h | h
        · rw [List.take_of_length_le (by have := HN.out; omega), List.take_of_length_le (by have := HN.out; omega)]
        · rw [show 15 = k by omega]
      by_cases hlt1 : k < n
      · have hlt2 : ¬ k < 15 := fun h => hlt ⟨hlt1, h⟩
        have hlt3 : ¬ (k : Int) < 15 := by omega
        clear hlt
        go_wp2
        go_ret2
        exact ⟨_, _, rfl, by rw [hmin.out, hBK.out]; exact hown.out, by rw [hmin.out, hBK.out]; exact hownu.out, HB0.out⟩
      · clear hlt
        go_wp2
        go_ret2
        exact ⟨_, _, rfl, by rw [hmin.out, hBK.out]; exact hown.out, by rw [hmin.out, hBK.out]; exact hownu.out, HB0.out⟩
theorem sownK_ok (L : List Sk) (m : Nat) (h : ∀ k ∈ L, OkS k.1) : ∀ k ∈ sownK L m, OkS k.1 := by
  intro k hk
  unfold sownK at hk
  rw [List.mem_map] at hk
  obtain ⟨x, hx, rfl⟩ := hk
  have h2 := h x (List.mem_of_mem_take hx)
  show (cutS x.1 20).size ≤ maxLen
  unfold cutS maxLen
  split
  · simp; omega
  · unfold OkS maxLen at h2; exact h2
end Go.Proofs.Ytfapghekakdpgaa
