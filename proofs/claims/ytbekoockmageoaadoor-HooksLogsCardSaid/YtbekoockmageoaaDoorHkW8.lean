/- The statements' Own: a log, as the program's and as the document's. -/
import Derived.Test.YtbekoockmageoaaDoorHkEn
import Derived.Test.YtbekoockmageoaaDoorAppAt
import Derived.Test.YtbekoockmageoaaDoorClMath
import Derived.Deep.RegionHeld3
import Derived.Deep.RegionLaw
import Derived.StillTailTactics
import Derived.Deep.DeepCutAuto
import Derived.Deep.QuietTactic
import Derived.BigQuiet
import Derived.RegionTactic
import Derived.Lib.Hide
namespace Go.Proofs.YtbekoockmageoaaDoor
open Go.RowKit Hk
open M (cutS)
theorem info_parts {P : Program} {t : TypeId} {z : Value} {a b : Nat} (h : (P.info? t).map (fun i => (i.zero, i.size, i.bytes)) = some (some z, a, b)) : ∃ i, P.info? t = some i ∧ i.zero = some z ∧ i.size = a ∧ i.bytes = b := by
  cases hi : P.info? t with
  | none => rw [hi] at h; cases h
  | some i =>
    rw [hi] at h
    injection h with h
    injection h with h1 h2
    injection h2 with h2 h3
    exact ⟨i, rfl, h1, h2, h3⟩
def cutE (e : En) : En := ⟨e.g, e.n, e.h, cutS e.s 20⟩
def ownE (L : List En) (m : Nat) : List En := (L.take m).map cutE
theorem ownE_len (L : List En) (m : Nat) : (ownE L m).length = min m L.length := by simp [ownE]
theorem ownE_next (L : List En) (k : Nat) (h : k < L.length) : ownE L (k + 1) = ownE L k ++ [cutE L[k]] := by
  unfold ownE
  rw [List.take_succ_eq_append_getElem h, List.map_append]
  rfl
theorem ownE_ok (L : List En) (m : Nat) (h : ∀ k ∈ L, OkE k) : ∀ k ∈ ownE L m, OkE k := by
  intro k hk
  unfold ownE at hk
  rw [List.mem_map] at hk
  obtain ⟨x, hx, rfl⟩ := hk
  have := h x (List.mem_of_mem_take hx)
  refine ⟨this.1, this.2.1, this.2.2.1, ?_⟩
  have h2 := this.2.2.2
  show (cutS x.s 20).size ≤ maxLen
  unfold cutS maxLen
  split
  · simp; omega
  · unfold maxLen at h2; exact h2
theorem infoEn1 : (Tryd.prog.info? 46).map (fun i => (i.zero, i.size, i.bytes)) = some (some (.agg #[.int .i64 0, .int .i64 0, .int .i64 0, .string { data := #[] }]), 4, 40) := by kernel_rfl
theorem infoEn2 : (Tryd.prog.info? 45).map (fun i => (i.zero, i.size, i.bytes)) = some (some (.agg #[.int .i64 0, .int .i64 0, .int .i64 0, .string { data := #[] }]), 4, 40) := by kernel_rfl
theorem cut_any (s : ByteArray) (n : Int) (w : World) (h0 : 0 ≤ n) (_h1 : n ≤ 1000000) :
    Calls Tryd.prog 16 #[.string s, .int .i64 n] w fun e w' => e = .returned (.string (cutS s n.toNat)) ∧ w = w' := by
  by_cases h : n < s.size
  · have H : Hid (cutS s n.toNat = s.extract 0 n.toNat) := by show cutS s n.toNat = _; unfold cutS; rw [if_pos (by omega)]
    go_enter Tryd.func16, Tryd.ntmps16
    go_wp2
    go_ret
    exact ⟨ret_str' H.out.symm, rfl⟩
  · have H : Hid (cutS s n.toNat = s) := by show cutS s n.toNat = _; unfold cutS; rw [if_neg (by omega)]
    go_enter Tryd.func16, Tryd.ntmps16
    go_wp2
    go_ret
    exact ⟨ret_str' H.out.symm, rfl⟩
set_option maxHeartbeats 16000000 in
set_option maxRecDepth 100000 in
theorem own_any (A : Option Addr) (n c m : Nat) (L : List En) (w : World) (hn : n = L.length) (hb : n ≤ maxLen) (hm : m ≤ 1000) (ha : At w A (ecs L)) :
    Calls Tryd.prog 15 #[.slice A n c, .int .i64 m] w fun e w' => ∃ v u, e = .returned (.tuple #[v, u]) ∧ w'.ownsRow w.heap.size 46 4 v (min m n) (ecs (ownE L m)) ∧ w'.ownsRow w.heap.size 45 4 u (min m n) (ecs (ownE L m)) ∧ Below w.heap.size w w' := by
  unfold maxLen at hb
  have HN := Lib.hid hn
  have HD := Lib.hid ha
  clear hn ha
  obtain ⟨i1, hi1, hz10, hz11, hz12⟩ := info_parts infoEn1
  obtain ⟨i2, hi2, hz20, hz21, hz22⟩ := info_parts infoEn2
  go_enter Tryd.func15, Tryd.ntmps15
  go_wp2_with fail
  go_loopw [6, 7, 8] (fun v u i wr => ∃ k : Nat, k ≤ n ∧ k ≤ m ∧ i = .int .i64 k ∧ Hid (wr.ownsRow w.heap.size 46 4 v k (ecs (ownE L k))) ∧ Hid (wr.ownsRow w.heap.size 45 4 u k (ecs (ownE L k))) ∧ Below w.heap.size w wr) (fun _ _ i _ => m - (intOf i).toNat)
  case atStart => exact ⟨0, Nat.zero_le _, Nat.zero_le _, rfl, World.ownsRow_nil _ _ _ _, World.ownsRow_nil _ _ _ _, Below.refl _ _⟩
  case round =>
    obtain ⟨k, hk, hkm, rfl, hown, hownu, hbel⟩ := hrel
    by_cases hlt : k < n ∧ k < m
    · obtain ⟨hlt1, hlt2⟩ := hlt
      have hkL : k < L.length := by have := HN.out; omega
      obtain ⟨A7, c7, rfl, hc7, hm7⟩ := own_slice hown.out
      obtain ⟨A8, c8, rfl, hc8, hm8⟩ := own_slice hownu.out
      obtain ⟨b1, o1, rfl, hlb1, hc10, hc11, hc12, hc13⟩ := at_en HD.out hkL
      have hd0 := (below_cells hbel).1 b1 (o1 + k * 4) hlb1
      have hd1 := (below_cells hbel).1 b1 (o1 + k * 4 + 1) hlb1
      have hd2 := (below_cells hbel).1 b1 (o1 + k * 4 + 2) hlb1
      have hd3 := (below_cells hbel).1 b1 (o1 + k * 4 + 3) hlb1
      rw [hc10] at hd0
      rw [hc11] at hd1
      rw [hc12] at hd2
      rw [hc13] at hd3
      have hnx := ownE_next L k hkL
      clear hc10 hc11 hc12 hc13
      unfold cutE at hnx
      obtain ⟨z0, hz0⟩ : ∃ z, z = L[k].g := ⟨_, rfl⟩
      obtain ⟨z1, hz1⟩ : ∃ z, z = L[k].n := ⟨_, rfl⟩
      obtain ⟨z2, hz2⟩ : ∃ z, z = L[k].h := ⟨_, rfl⟩
      obtain ⟨x, hx⟩ : ∃ x, x = L[k].s := ⟨_, rfl⟩
      rw [← hz0] at hd0 hnx
      rw [← hz1] at hd1 hnx
      rw [← hz2] at hd2 hnx
      rw [← hx] at hd3 hnx
      have HNXT := Lib.hid hnx
      clear hz0 hz1 hz2 hx hnx
      obtain ⟨LL, hLL⟩ : ∃ LL, LL = ownE L k := ⟨_, rfl⟩
      rw [← hLL] at hown hownu HNXT
      clear hLL
      have hsz := hbel.size
      have hkk : (0 : Int) ≤ (k : Int) := by omega
      have hkk2 : (k : Int) < (n : Int) := by omega
      generalize hs1 : cutS x 20 = s1 at HNXT
      have HS1 := Lib.hid hs1
      clear hs1
      go_upto_region 8 with (go_at_call 16; refine (cut_any x 20 _ (by omega) (by omega)).mono ?_; rintro e w' ⟨rfl, rfl⟩; rw [show cutS x (Int.toNat 20) = s1 from HS1.out])
      have hg0 : (wr.alloc (.cells #[.int .i64 z0, .int .i64 z1, .int .i64 z2, .string s1] 45)).cell? ⟨wr.heap.size, 0, none⟩ = some (.int .i64 z0) := by simp
      have hg1 : (wr.alloc (.cells #[.int .i64 z0, .int .i64 z1, .int .i64 z2, .string s1] 45)).cell? ⟨wr.heap.size, 1, none⟩ = some (.int .i64 z1) := by simp
      have hg2 : (wr.alloc (.cells #[.int .i64 z0, .int .i64 z1, .int .i64 z2, .string s1] 45)).cell? ⟨wr.heap.size, 2, none⟩ = some (.int .i64 z2) := by simp
      have hg3 : (wr.alloc (.cells #[.int .i64 z0, .int .i64 z1, .int .i64 z2, .string s1] 45)).cell? ⟨wr.heap.size, 3, none⟩ = some (.string s1) := by simp
      have hownA : Hid ((wr.alloc (.cells #[.int .i64 z0, .int .i64 z1, .int .i64 z2, .string s1] 45)).ownsRow w.heap.size 46 4 (.slice A7 k c7) k (ecs LL)) := Lib.hid (hown.out.alloc _)
      have hownX : Hid ((wr.alloc (.cells #[.int .i64 z0, .int .i64 z1, .int .i64 z2, .string s1] 45)).ownsRow w.heap.size 45 4 (.slice A8 k c8) k (ecs LL)) := Lib.hid (hownu.out.alloc _)
      have hbelx : Below w.heap.size w (wr.alloc (.cells #[.int .i64 z0, .int .i64 z1, .int .i64 z2, .string s1] 45)) := hbel.alloc hsz _
      have HNG : Hid ((Value.slice A7 k c7).ownBlock ≠ some wr.heap.size) := Lib.hid (fun e => Nat.lt_irrefl _ (hown.out.lt _ e).2)
      have HNX : Hid ((Value.slice A8 k c8).ownBlock ≠ some wr.heap.size) := Lib.hid (fun e => Nat.lt_irrefl _ (hownu.out.lt _ e).2)
      generalize wr.alloc (.cells #[.int .i64 z0, .int .i64 z1, .int .i64 z2, .string s1] 45) = wx at hg0 hg1 hg2 hg3 hownA hownX hbelx ⊢
      generalize wr.heap.size = g at hg0 hg1 hg2 hg3 HNG HNX ⊢
      clear hd0 hd1 hd2 hd3 hown hownu hbel
      skip
      have hszx := hbelx.size
      have HNE := Lib.hid (own_ne hownX.out hownA.out (by decide))
      have HLT : Hid (∀ h, (Value.slice A7 k c7).ownBlock = some h → h < wx.heap.size) := fun h e => (hownA.out.lt h e).2
      have HLX : Hid (∀ h, (Value.slice A8 k c8).ownBlock = some h → h < wx.heap.size) := fun h e => (hownX.out.lt h e).2
      have hga0 : ∀ o, (wx.alloc o).cell? ⟨g, 0, none⟩ = some (.int .i64 z0) := fun o => Lib.cell?_alloc_some _ hg0
      have hgb0 : ∀ o o2, ((wx.alloc o).alloc o2).cell? ⟨g, 0, none⟩ = some (.int .i64 z0) := fun o o2 => Lib.cell?_alloc_some _ (hga0 o)
      have hga1 : ∀ o, (wx.alloc o).cell? ⟨g, 1, none⟩ = some (.int .i64 z1) := fun o => Lib.cell?_alloc_some _ hg1
      have hgb1 : ∀ o o2, ((wx.alloc o).alloc o2).cell? ⟨g, 1, none⟩ = some (.int .i64 z1) := fun o o2 => Lib.cell?_alloc_some _ (hga1 o)
      have hga2 : ∀ o, (wx.alloc o).cell? ⟨g, 2, none⟩ = some (.int .i64 z2) := fun o => Lib.cell?_alloc_some _ hg2
      have hgb2 : ∀ o o2, ((wx.alloc o).alloc o2).cell? ⟨g, 2, none⟩ = some (.int .i64 z2) := fun o o2 => Lib.cell?_alloc_some _ (hga2 o)
      have hga3 : ∀ o, (wx.alloc o).cell? ⟨g, 3, none⟩ = some (.string s1) := fun o => Lib.cell?_alloc_some _ hg3
      have hgb3 : ∀ o o2, ((wx.alloc o).alloc o2).cell? ⟨g, 3, none⟩ = some (.string s1) := fun o o2 => Lib.cell?_alloc_some _ (hga3 o)
      go_region_law (first | (refine step_append_at (by rfl) (.tmp 29) (.tmp 31) 32 (by rfl) w.heap.size 46 i1 _ 4 40 Tryd.underlying32 hi1 hz10 hz11 hz12 rfl (by decide) (.slice A7 k c7) k (ecs LL) (by rfl) ?_ (some ⟨_, 0, none⟩) 1 1 [.int .i64 z0, .int .i64 z1, .int .i64 z2, .string s1] (by rfl) (fun h => nomatch h) rfl ?_ (ecs_one [⟨z0, z1, z2, s1⟩]) ?_ ?_ ?_ ?_; (first | exact own_heap (hownA.out.alloc _) rfl | exact own_heap ((hownA.out.alloc _).alloc _) rfl); (first | exact at_push1 wx.heap #[.int .i64 z0, .int .i64 z1, .int .i64 z2, .string s1] 46 wx.heap.size [.int .i64 z0, .int .i64 z1, .int .i64 z2, .string s1] rfl rfl rfl | exact at_push2 wx.heap #[.int .i64 z0, .int .i64 z1, .int .i64 z2, .string s1] 46 (.cells #[.int .i64 z0, .int .i64 z1, .int .i64 z2, .string s1] 45) wx.heap.size [.int .i64 z0, .int .i64 z1, .int .i64 z2, .string s1] rfl rfl rfl | (refine at_push1 (wx.heap.push (.cells #[.int .i64 z0, .int .i64 z1, .int .i64 z2, .string s1] 45)) #[.int .i64 z0, .int .i64 z1, .int .i64 z2, .string s1] 46 (wx.heap.size + 1) [.int .i64 z0, .int .i64 z1, .int .i64 z2, .string s1] rfl ?_ rfl; simp)); (unfold maxLen; omega); omega; (simp <;> omega); intro v8 w8 hown8 hgrow8; have hb80 : w8.cell? ⟨g, 0, none⟩ = some (.int .i64 z0) := (by refine hgrow8.cell ?_ HNG.out.symm; first | exact cell_heap (Lib.cell?_alloc_some _ hg0) rfl | exact cell_heap (Lib.cell?_alloc_some _ (Lib.cell?_alloc_some _ hg0)) rfl); have hb81 : w8.cell? ⟨g, 1, none⟩ = some (.int .i64 z1) := (by refine hgrow8.cell ?_ HNG.out.symm; first | exact cell_heap (Lib.cell?_alloc_some _ hg1) rfl | exact cell_heap (Lib.cell?_alloc_some _ (Lib.cell?_alloc_some _ hg1)) rfl); have hb82 : w8.cell? ⟨g, 2, none⟩ = some (.int .i64 z2) := (by refine hgrow8.cell ?_ HNG.out.symm; first | exact cell_heap (Lib.cell?_alloc_some _ hg2) rfl | exact cell_heap (Lib.cell?_alloc_some _ (Lib.cell?_alloc_some _ hg2)) rfl); have hb83 : w8.cell? ⟨g, 3, none⟩ = some (.string s1) := (by refine hgrow8.cell ?_ HNG.out.symm; first | exact cell_heap (Lib.cell?_alloc_some _ hg3) rfl | exact cell_heap (Lib.cell?_alloc_some _ (Lib.cell?_alloc_some _ hg3)) rfl)) | (refine step_append_at (by rfl) (.tmp 33) (.tmp 35) 30 (by rfl) w.heap.size 45 i2 _ 4 40 Tryd.underlying30 hi2 hz20 hz21 hz22 rfl (by decide) (.slice A8 k c8) k (ecs LL) (by rfl) ?_ (some ⟨_, 0, none⟩) 1 1 [.int .i64 z0, .int .i64 z1, .int .i64 z2, .string s1] (by rfl) (fun h => nomatch h) rfl ?_ (ecs_one [⟨z0, z1, z2, s1⟩]) ?_ ?_ ?_ ?_; (first | (refine own_heap (World.ownsRow.alloc (World.ownsRow.kept ?_ hgrow8 HNE.out) _) rfl; exact own_heap (hownX.out.alloc _) rfl) | (refine own_heap (World.ownsRow.kept ?_ hgrow8 HNE.out) rfl; exact own_heap ((hownX.out.alloc _).alloc _) rfl)); (first | exact at_push1 w8.heap #[.int .i64 z0, .int .i64 z1, .int .i64 z2, .string s1] 45 w8.heap.size [.int .i64 z0, .int .i64 z1, .int .i64 z2, .string s1] rfl rfl rfl | (refine at_new_grown hgrow8 (wx.heap.push (.cells #[.int .i64 z0, .int .i64 z1, .int .i64 z2, .string s1] 46)) #[.int .i64 z0, .int .i64 z1, .int .i64 z2, .string s1] 45 (wx.heap.size + 1) [.int .i64 z0, .int .i64 z1, .int .i64 z2, .string s1] rfl ?_ rfl ?_; simp; (intro e; have h5 := HLT.out _ e.symm; omega)) | (refine at_new_alloc_grown hgrow8 wx.heap #[.int .i64 z0, .int .i64 z1, .int .i64 z2, .string s1] 45 (.cells #[.int .i64 z0, .int .i64 z1, .int .i64 z2, .string s1] 46) wx.heap.size [.int .i64 z0, .int .i64 z1, .int .i64 z2, .string s1] rfl rfl rfl ?_; (intro e; have h5 := HLT.out _ e.symm; omega))); (unfold maxLen; omega); omega; (have h5 := hgrow8.size; simp at h5 ⊢ <;> omega); intro v9 w9 hown9 hgrow9))
      all_goals
        have b8 : Below w.heap.size w w8 := by
          refine Below.grown ?_ hgrow8 (by simp <;> omega) (fun q hq => by have h5 := own_from hownA.out q hq; omega)
          first
          | exact Below_drew (hbelx.alloc hszx _)
          | exact Below_drew ((hbelx.alloc hszx _).alloc (by simp; omega) _)
          | exact Below_drew (Below_drew (hbelx.alloc hszx _))
          | exact Below_drew (Below_drew ((hbelx.alloc hszx _).alloc (by simp; omega) _))
          | exact hbelx.alloc hszx _
          | exact (hbelx.alloc hszx _).alloc (by simp; omega) _
        have h58 := b8.size
        have b9 : Below w.heap.size w w9 := by
          refine Below.grown ?_ hgrow9 (by first | exact h58 | (simp; omega)) (fun q hq => by have h5 := own_from hownX.out q hq; omega)
          first
          | exact b8
          | exact b8.alloc h58 _
          | exact Below_drew b8
          | exact Below_drew (b8.alloc h58 _)
        have X8 : w8.ownsRow w.heap.size 45 4 (.slice A8 k c8) k (ecs LL) := by
          refine World.ownsRow.kept ?_ hgrow8 HNE.out
          first | exact own_heap (hownX.out.alloc _) rfl | exact own_heap ((hownX.out.alloc _).alloc _) rfl
        have o8 : w9.ownsRow w.heap.size 46 4 v8 (k + 1) (ecs LL ++ [.int .i64 z0, .int .i64 z1, .int .i64 z2, .string s1]) := by
          first
          | (refine World.ownsRow.kept ?_ hgrow9 (own_ne (w := w8) hown8 X8 (by decide)); first | exact own_heap (hown8.alloc _) rfl | exact hown8)
        have O8 := Lib.hid o8
        have O9 := Lib.hid hown9
        have B9 := Lib.hid b9
        clear b8 b9 o8 hb80 hb81 hb82 hb83 hown8 hown9 hgrow8 hgrow9 h58
        go_wp2
        go_roundw
        case rel => exact ⟨k + 1, by omega, by omega, by go_num, by show World.ownsRow _ _ _ _ _ _ _; rw [HNXT.out, ecs_app]; exact O8.out, by show World.ownsRow _ _ _ _ _ _ _; rw [HNXT.out, ecs_app]; exact O9.out, B9.out⟩
        case measure => simp [intOf]; omega
    · have hmin : Hid (min m n = k) := by show min m n = k; omega
      have HB0 := Lib.hid hbel
      have hBK : Hid (ownE L m = ownE L k) := by
        show _ = _
        unfold ownE
        congr 1
        rcases Nat.lt_or_ge k m with h | h
        · rw [List.take_of_length_le (by have := HN.out; omega), List.take_of_length_le (by have := HN.out; omega)]
        · rw [show m = k by omega]
      by_cases hlt1 : k < n
      · have hlt2 : ¬ k < m := fun h => hlt ⟨hlt1, h⟩
        clear hlt
        go_wp2
        go_ret2
        exact ⟨_, _, rfl, by rw [hmin.out, hBK.out]; exact hown.out, by rw [hmin.out, hBK.out]; exact hownu.out, HB0.out⟩
      · clear hlt
        go_wp2
        go_ret2
        exact ⟨_, _, rfl, by rw [hmin.out, hBK.out]; exact hown.out, by rw [hmin.out, hBK.out]; exact hownu.out, HB0.out⟩
end Go.Proofs.YtbekoockmageoaaDoor
