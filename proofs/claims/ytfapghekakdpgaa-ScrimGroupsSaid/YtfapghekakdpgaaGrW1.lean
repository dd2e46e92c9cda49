/- Contracts of group's firsts, marked. -/
import Derived.Test.YtfapghekakdpgaaGrMath
import Derived.Test.YtfapghekakdpgaaMapL
import Derived.Test.YtfapghekakdpgaaAppAt
import Derived.Test.YtfapghekakdpgaaBlk
import Derived.Test.YtfapghekakdpgaaBeside
import Derived.Test.YtfapghekakdpgaaProg
import Derived.WideKeyMaps
import Derived.StringKeys
import Derived.Deep.QuietTactic
import Derived.BigQuiet
import Derived.RegionTactic
import Derived.Deep.DeepCutAuto
namespace Go.Proofs.Ytfapghekakdpgaa
open Go.RowKit Gr Go.Maps
theorem strWay : Way Try.prog 9 Value.string skey OkS where
  keyed := string_keyed Try.underlying9
  reads := fun _ h => Go.WideMaps.keyOf_string_mk Try.underlying9 h
  inj := fun a b _ _ h => by
    unfold skey at h
    injection h with h
    cases a; cases b
    simp at h
    rw [h]
theorem zeroI (w : World) : (zeroValue 3).run Try.prog w = .ok (.int .i64 0) w := by kernel_rfl
theorem infoBool : (Try.prog.info? 4).map (fun i => (i.zero, i.size, i.bytes)) = some (some (.bool false), 1, 1) := by kernel_rfl
theorem infoInt : (Try.prog.info? 3).map (fun i => (i.zero, i.size, i.bytes)) = some (some (.int .i64 0), 1, 8) := by kernel_rfl
set_option maxHeartbeats 2000000 in
set_option maxRecDepth 100000 in
theorem firsts_any (A : Option Addr) (n c : Nat) (L : List Gk) (w : World) (hn : n = L.length) (hm : n ≤ 100000) (ha : At w A (gcs L)) (hok : ∀ k ∈ L, OkS k.1) :
    Calls Try.prog 38 #[.slice A n c] w fun e w' => ∃ b N : Nat, e = .returned (.map (some b)) ∧ w.heap.size ≤ b ∧ N ≤ n ∧ MapOf Try.prog 9 skey OkS w' b (fstF L n) N ∧ Below w.heap.size w w' := by
  have HN := Lib.hid hn
  have HA := Lib.hid ha
  have HOK := Lib.hid hok
  have hmm := @run_makeMap Try.prog
  clear hn ha hok
  go_enter Try.func38, Try.ntmps38
  go_wp2
  clear hmm
  go_loopw [11] (fun i wr => ∃ k N : Nat, k ≤ n ∧ N ≤ k ∧ i = .int .i64 k ∧ Hid (MapOf Try.prog 9 skey OkS wr w.heap.size (fstF L k) N) ∧ Hid (Below w.heap.size w wr)) (fun i _ => n - (intOf i).toNat)
  case atStart => exact ⟨0, 0, Nat.zero_le _, Nat.zero_le _, rfl, (MapOf.made _ _ _ _ _).congr (fun a _ => by simp [fstF, first, scan]), below_alloc _ _⟩
  case round =>
    obtain ⟨k, N, hk, hN, rfl, hmap, hbel⟩ := hrel
    by_cases hlt : k < n
    · have hk' : k < L.length := by have := HN.out; omega
      obtain ⟨b1, o1, hAe, hb1, hc0, hc1⟩ := at_gk HA.out hk'
      have hd0 := ((below_cells hbel.out).1 b1 (o1 + k * 2) hb1).trans hc0
      have hd1 := ((below_cells hbel.out).1 b1 (o1 + k * 2 + 1) hb1).trans hc1
      have hOk : OkS (gk L k).1 := HOK.out _ (by rw [gk_eq L k hk']; exact List.getElem_mem _)
      have hCA : Hid (∀ j, j < k → wr.cell? ⟨b1, o1 + j * 2 + 1, none⟩ = some (.bool (gk L j).2)) := fun j hj => by
        obtain ⟨b2, o2, hAe2, hb2, _, hc2⟩ := at_gk HA.out (k := j) (by omega)
        rw [hAe] at hAe2
        injection hAe2 with e
        injection e with e1 e2
        subst e1 e2
        exact ((below_cells hbel.out).1 b1 (o1 + j * 2 + 1) hb1).trans hc2
      have hst := @fstF_store L k
      have hkp := @fstF_keep L k
      have hcase : (first L k (gk L k).1 = none ∧ first L (k + 1) (gk L k).1 = some k) ∨ (∃ j, j < k ∧ first L k (gk L k).1 = some j ∧ (gk L j).2 = true ∧ (gk L k).2 = false ∧ first L (k + 1) (gk L k).1 = some k) ∨ (∃ j, j < k ∧ first L k (gk L k).1 = some j ∧ ((gk L j).2 = false ∨ ((gk L j).2 = true ∧ (gk L k).2 = true)) ∧ first L (k + 1) (gk L k).1 = first L k (gk L k).1) := by
        cases hf : first L k (gk L k).1 with
        | none => exact .inl ⟨rfl, first_new hf⟩
        | some j =>
          have hj := (first_some hf).1
          by_cases h1 : (gk L j).2 = true
          · by_cases h2 : (gk L k).2 = true
            · exact .inr (.inr ⟨j, hj, rfl, .inr ⟨h1, h2⟩, first_same hf (.inr h2)⟩)
            · exact .inr (.inl ⟨j, hj, rfl, h1, by simpa using h2, first_better hf h1 (by simpa using h2)⟩)
          · exact .inr (.inr ⟨j, hj, rfl, .inl (by simpa using h1), first_same hf (.inl (by simpa using h1))⟩)
      have HST := Lib.hid hst
      have HKP := Lib.hid hkp
      have hfs : fstF L k (gk L k).1 = (first L k (gk L k).1).map fun (j : Nat) => Value.int .i64 (j : Int) := rfl
      generalize first L (k + 1) (gk L k).1 = F1 at *
      generalize first L k (gk L k).1 = F0 at *
      clear hst hkp hc0 hc1
      obtain ⟨s, hs⟩ : ∃ s, s = (gk L k).1 := ⟨_, rfl⟩
      obtain ⟨g, hg⟩ : ∃ g, g = (gk L k).2 := ⟨_, rfl⟩
      rw [← hs] at hd0 hOk hfs
      rw [← hg] at hd1 hcase
      have HSS := Lib.hid hs
      have HOS := Lib.hid hOk
      clear hs hg hOk
      subst hAe
      obtain ⟨W3, hW3⟩ : ∃ W, W = wr.alloc (.cells #[.string s, .bool g] 66) := ⟨_, rfl⟩
      have hB3 : Below wr.heap.size wr W3 := by rw [hW3]; exact below_alloc wr _
      have K3 : Blk W3 wr.heap.size 66 #[.string s, .bool g] := by rw [hW3]; exact Blk.new wr _ _
      have q0 := K3.cell 0 (v := .string s) rfl
      have q1 := K3.cell 1 (v := .bool g) rfl
      have HM3 := Lib.hid (hmap.out.below hB3)
      have HB3 := Lib.hid (hbel.out.trans (hB3.mono hbel.out.size))
      have HC3 : Hid (∀ j, j < k → W3.cell? ⟨b1, o1 + j * 2 + 1, none⟩ = some (.bool (gk L j).2)) := fun j hj => ((below_cells hB3).1 b1 _ (Nat.lt_of_lt_of_le hb1 hbel.out.size)).trans (hCA.out j hj)
      have hwr := hbel.out.size
      have HW3 := Lib.hid hW3
      clear hW3 hB3 K3 hCA
      rcases hcase with ⟨hF0, hF1⟩ | ⟨j, hj, hF0, hgj, hgk, hF1⟩ | ⟨j, hj, hF0, hg2, hF1⟩
      · have HL : Hid (fstF L k s = none) := by show fstF L k s = none; rw [hfs, hF0]; rfl
        have HF := Lib.hid (HST.out hF1)
        clear hfs hF0 hF1
        go_upto_region 5 with fail
        rw [← HW3.out]
        go_upto_region 6 with (refine wpList_lookok_mo rfl _ _ 77 9 3 rfl strWay Try.underlying77 zeroI w.heap.size _ _ rfl HM3.out s HOS.out rfl (.int .i64 0) false (by rw [HL.out]; rfl) (by rw [HL.out]; rfl) ?_)
        go_upto_region 7 with fail
        go_wp2_with (refine wpList_store_mo rfl _ _ _ 77 9 3 rfl strWay Try.underlying77 w.heap.size _ _ rfl HM3.out (by unfold maxLen; omega) s HOS.out (.int .i64 (k : Int)) rfl rfl ?_; intro w5 hm5 hg5 hs5; rw [HL.out, HSS.out, HF.out] at hm5; have M5 := Lib.hid hm5; have B5 := Lib.hid (HB3.out.grown hg5 HB3.out.size (fun q e => by injection e with e; omega)); clear hm5 hg5 hs5)
        go_roundw
        case rel => exact ⟨k + 1, N + 1, by omega, by omega, by go_num, M5, B5⟩
        case measure => simp [intOf]; omega
      · have HL : Hid (fstF L k s = some (.int .i64 (j : Int))) := by show fstF L k s = _; rw [hfs, hF0]; rfl
        have HF := Lib.hid (HST.out hF1)
        have q2 := HC3.out j hj
        rw [hgj] at q2
        subst hgk
        have hjn : j < n := by omega
        clear hfs hF0 hF1
        go_upto_region 5 with fail
        rw [← HW3.out]
        go_upto_region 6 with (refine wpList_lookok_mo rfl _ _ 77 9 3 rfl strWay Try.underlying77 zeroI w.heap.size _ _ rfl HM3.out s HOS.out rfl (.int .i64 (j : Int)) true (by rw [HL.out]; rfl) (by rw [HL.out]; rfl) ?_)
        go_upto_region 7 with fail
        go_wp2_with (refine wpList_store_mo rfl _ _ _ 77 9 3 rfl strWay Try.underlying77 w.heap.size _ _ rfl HM3.out (by unfold maxLen; omega) s HOS.out (.int .i64 (k : Int)) rfl rfl ?_; intro w5 hm5 hg5 hs5; rw [HL.out, HSS.out, HF.out] at hm5; have M5 := Lib.hid hm5; have B5 := Lib.hid (HB3.out.grown hg5 HB3.out.size (fun q e => by injection e with e; omega)); clear hm5 hg5 hs5)
        go_roundw
        case rel => exact ⟨k + 1, N, by omega, by omega, by go_num, M5, B5⟩
        case measure => simp [intOf]; omega
      · have HL : Hid (fstF L k s = some (.int .i64 (j : Int))) := by show fstF L k s = _; rw [hfs, hF0]; rfl
        have HF := Lib.hid (HKP.out hF1)
        have q2 := HC3.out j hj
        have hjn : j < n := by omega
        have M5 : Hid (MapOf Try.prog 9 skey OkS W3 w.heap.size (fstF L (k + 1)) N) := by
          show MapOf _ _ _ _ _ _ _ _
          rw [← HF.out]
          exact HM3.out
        clear hfs hF0 hF1
        rcases hg2 with hg2 | ⟨hg2, hg3⟩
        · rw [hg2] at q2
          go_upto_region 5 with fail
          rw [← HW3.out]
          go_upto_region 6 with (refine wpList_lookok_mo rfl _ _ 77 9 3 rfl strWay Try.underlying77 zeroI w.heap.size _ _ rfl HM3.out s HOS.out rfl (.int .i64 (j : Int)) true (by rw [HL.out]; rfl) (by rw [HL.out]; rfl) ?_)
          go_upto_region 7 with fail
          go_wp2
          go_roundw
          case rel => exact ⟨k + 1, N, by omega, by omega, by go_num, M5, HB3⟩
          case measure => simp [intOf]; omega
        · rw [hg2] at q2
          subst hg3
          go_upto_region 5 with fail
          rw [← HW3.out]
          go_upto_region 6 with (refine wpList_lookok_mo rfl _ _ 77 9 3 rfl strWay Try.underlying77 zeroI w.heap.size _ _ rfl HM3.out s HOS.out rfl (.int .i64 (j : Int)) true (by rw [HL.out]; rfl) (by rw [HL.out]; rfl) ?_)
          go_upto_region 7 with fail
          go_wp2
          go_roundw
          case rel => exact ⟨k + 1, N, by omega, by omega, by go_num, M5, HB3⟩
          case measure => simp [intOf]; omega
    · obtain rfl : k = n := by omega
      go_wp2
      go_ret
      exact ⟨_, _, rfl, Nat.le_refl _, by omega, hmap.out, hbel.out⟩
end Go.Proofs.Ytfapghekakdpgaa
