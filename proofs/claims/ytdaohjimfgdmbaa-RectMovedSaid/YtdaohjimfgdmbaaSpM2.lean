/- Contract of (rect.Snap).Moved. -/
import Derived.Test.YtdaohjimfgdmbaaSpM1
namespace Go.Proofs.Ytdaohjimfgdmbaa
open Go.RowKit Go.Maps Sn M
def rcV (e : En) : Value := .agg #[.int .i64 e.x, .int .i64 e.y, .int .i64 e.w, .int .i64 e.h]
def mvB (o : Option En) (e : En) : Bool := match o with | some r => !(decide (r.x = e.x) && decide (r.y = e.y)) | none => false
set_option maxHeartbeats 4000000 in
set_option maxRecDepth 100000 in
theorem movedFn_any (g mb N : Nat) (f : Int → Option Value) (o : Option En) (e : En) (w : World) (hm : MapOf Try.prog 3 ikey OkI w mb f N) (hk : Blk w g 86 #[.map (some mb)]) (hf : f e.id = o.map rcV) (hok : OkI e.id) :
    Calls Try.prog 45 #[.agg #[.int .i64 e.id, .int .i64 e.x, .int .i64 e.y, .int .i64 e.w, .int .i64 e.h], .pointer (some ⟨g, 0, none⟩)] w fun e' w' => e' = .returned (.bool (mvB o e)) ∧ Below w.heap.size w w' := by
  obtain ⟨x0, x1, x2, x3, x4⟩ := e
  dsimp only at hf hok ⊢
  obtain ⟨W1, hW1⟩ : ∃ W, W = w.alloc (.cells #[.int .i64 x0, .int .i64 x1, .int .i64 x2, .int .i64 x3, .int .i64 x4] 74) := ⟨_, rfl⟩
  obtain ⟨ge, hge⟩ : ∃ g, g = w.heap.size := ⟨_, rfl⟩
  have hB1 : Below w.heap.size w W1 := by rw [hW1]; exact below_alloc w _
  have K1 : Blk W1 ge 74 #[.int .i64 x0, .int .i64 x1, .int .i64 x2, .int .i64 x3, .int .i64 x4] := by rw [hW1, hge]; exact Blk.new w _ _
  have HM := Lib.hid (hm.below hB1)
  have c0 := (hk.below hB1).cell 0 (v := .map (some mb)) rfl
  have e0 := K1.cell 0 (v := .int .i64 x0) rfl
  have HK1 := Lib.hid K1
  have HB1 := Lib.hid hB1
  have HF := Lib.hid hf
  have HOK := Lib.hid hok
  have HW1 := Lib.hid hW1
  have HGE := Lib.hid hge
  clear hm hk hB1 K1 hf hok hW1 hge
  cases o with
  | none =>
    have HL : Hid (f x0 = none) := HF.out
    have hz : mvB none ⟨x0, x1, x2, x3, x4⟩ = false := rfl
    rw [hz]
    clear hz HF
    have hrun := HM.out.look_ok (t := 86) (E := 29) (intWay Try.underlying3) Try.underlying86 Try.zeroValue29 x0 HOK.out
    rw [HL.out] at hrun
    have hrun : (Instr.lookup 86 (.map (some mb)) (.int .i64 x0) true).run Try.prog W1 = .ok (.tuple #[.agg #[.int .i64 0, .int .i64 0, .int .i64 0, .int .i64 0], .bool false]) W1 := hrun
    go_enter Try.func45, Try.ntmps45
    go_upto_region 1 with fail
    rw [← HW1.out, ← HGE.out]
    go_wp2
    go_ret
    exact ⟨rfl, HB1.out.alloc HB1.out.size _⟩
  | some r =>
    obtain ⟨r0, r1, r2, r3, r4⟩ := r
    have HL : Hid (f x0 = some (.agg #[.int .i64 r1, .int .i64 r2, .int .i64 r3, .int .i64 r4])) := HF.out
    clear HF
    have e1 := HK1.out.cell 1 (v := .int .i64 x1) rfl
    have e2 := HK1.out.cell 2 (v := .int .i64 x2) rfl
    have e1a : ∀ o, (W1.alloc o).cell? ⟨ge, 1, none⟩ = some (.int .i64 x1) := fun o => Lib.cell?_alloc_some _ e1
    have e2a : ∀ o, (W1.alloc o).cell? ⟨ge, 2, none⟩ = some (.int .i64 x2) := fun o => Lib.cell?_alloc_some _ e2
    by_cases hx : r1 = x1
    · subst hx
      by_cases hy : r2 = x2
      · subst hy
        have hz : mvB (some ⟨r0, r1, r2, r3, r4⟩) ⟨x0, r1, r2, x3, x4⟩ = false := by simp [mvB]
        rw [hz]
        clear hz
        have hrun := HM.out.look_ok (t := 86) (E := 29) (intWay Try.underlying3) Try.underlying86 Try.zeroValue29 x0 HOK.out
        rw [HL.out] at hrun
        have hrun : (Instr.lookup 86 (.map (some mb)) (.int .i64 x0) true).run Try.prog W1 = .ok (.tuple #[.agg #[.int .i64 r1, .int .i64 r2, .int .i64 r3, .int .i64 r4], .bool true]) W1 := hrun
        go_enter Try.func45, Try.ntmps45
        go_upto_region 1 with fail
        rw [← HW1.out, ← HGE.out]
        go_wp2
        go_ret
        exact ⟨rfl, HB1.out.alloc HB1.out.size _⟩
      · have hz : mvB (some ⟨r0, r1, r2, r3, r4⟩) ⟨x0, r1, x2, x3, x4⟩ = true := by simp [mvB, hy]
        rw [hz]
        have y1 : (r2 != x2) = true := by simpa using hy
        have y2 : (r2 == x2) = false := by simpa using hy
        clear hz hy
        have hrun := HM.out.look_ok (t := 86) (E := 29) (intWay Try.underlying3) Try.underlying86 Try.zeroValue29 x0 HOK.out
        rw [HL.out] at hrun
        have hrun : (Instr.lookup 86 (.map (some mb)) (.int .i64 x0) true).run Try.prog W1 = .ok (.tuple #[.agg #[.int .i64 r1, .int .i64 r2, .int .i64 r3, .int .i64 r4], .bool true]) W1 := hrun
        go_enter Try.func45, Try.ntmps45
        go_upto_region 1 with fail
        rw [← HW1.out, ← HGE.out]
        go_wp2
        go_ret
        exact ⟨rfl, HB1.out.alloc HB1.out.size _⟩
    · have hz : mvB (some ⟨r0, r1, r2, r3, r4⟩) ⟨x0, x1, x2, x3, x4⟩ = true := by simp [mvB, hx]
      rw [hz]
      have y1 : (r1 != x1) = true := by simpa using hx
      have y2 : (r1 == x1) = false := by simpa using hx
      clear hz hx
      have hrun := HM.out.look_ok (t := 86) (E := 29) (intWay Try.underlying3) Try.underlying86 Try.zeroValue29 x0 HOK.out
      rw [HL.out] at hrun
      have hrun : (Instr.lookup 86 (.map (some mb)) (.int .i64 x0) true).run Try.prog W1 = .ok (.tuple #[.agg #[.int .i64 r1, .int .i64 r2, .int .i64 r3, .int .i64 r4], .bool true]) W1 := hrun
      go_enter Try.func45, Try.ntmps45
      go_upto_region 1 with fail
      rw [← HW1.out, ← HGE.out]
      go_wp2
      go_ret
      exact ⟨rfl, HB1.out.alloc HB1.out.size _⟩
def lkF (M : List En) (k : Nat) : Int → Option Value := fun j => (lastAt En.id (M.take k) j).map rcV
theorem lkF_next (M : List En) (k : Nat) (h : k < M.length) : lkF M (k + 1) = fun j => if j = (el M k).id then some (rcV (el M k)) else lkF M k j := by
  funext j
  unfold lkF
  rw [take_nextE M k h, lastAt_snoc]
  by_cases e : (el M k).id = j
  · rw [if_pos e, if_pos e.symm]; rfl
  · rw [if_neg e, if_neg (fun q => e q.symm)]
set_option maxHeartbeats 8000000 in
set_option maxRecDepth 100000 in
theorem moved_any (A B : Option Addr) (n c m d : Nat) (L M R : List En) (w : World) (hn : n = L.length) (hm : m = M.length) (hb : n ≤ 100000) (hb2 : m ≤ 100000) (hA0 : A = none → n = 0 ∧ c = 0) (ha : At w A (ecs L)) (ha2 : At w B (ecs M)) (hr : Is En.id L R) (hok : ∀ e ∈ L, OkI e.id) (hok2 : ∀ e ∈ M, OkI e.id) :
    Calls Try.prog 20 #[.slice A n c, .slice B m d] w fun e w' => ∃ v, e = .returned v ∧ w'.ownsRow w.heap.size 3 1 v (idsL R fun e => mvB (lastAt En.id M e.id) e).length ((idsL R fun e => mvB (lastAt En.id M e.id) e).flatMap zc) ∧ Below w.heap.size w w' := by
  have HA := Lib.hid (fun W (h : Below w.heap.size w W) => ha.below h)
  have HA2 := Lib.hid ha2
  have HN := Lib.hid hn
  have HM := Lib.hid hm
  have HA0 := Lib.hid hA0
  have HR := Lib.hid hr
  have HOK := Lib.hid hok
  have HOK2 := Lib.hid hok2
  have hmm := @run_makeMap Try.prog
  obtain ⟨g, hg⟩ : ∃ g, g = w.heap.size := ⟨_, rfl⟩
  have HG := Lib.hid hg
  have HGW := Lib.hid (Nat.le_of_eq hg.symm)
  obtain ⟨W0, hW0⟩ : ∃ W, W = (w.alloc (.map #[] 0)).alloc (.cells #[.map (some w.heap.size)] 86) := ⟨_, rfl⟩
  have M0 := Lib.hid (show MapOf Try.prog 3 ikey OkI W0 g (lkF M 0) 0 by rw [hW0, hg]; exact ((MapOf.made _ _ _ _ _).congr (fun a _ => by simp [lkF, lastAt])).below (below_alloc _ _))
  have B0 := Lib.hid (show Blk W0 (g + 1) 86 #[.map (some g)] by rw [hW0, hg]; exact Blk.new' _ _ _ _ (by simp))
  have HB0 := Lib.hid (show Below w.heap.size w W0 by rw [hW0]; exact (below_alloc w _).alloc (by simp) _)
  have HW0 := Lib.hid hW0
  clear hn hm hA0 ha ha2 hr hok hok2 hg hW0
  go_enter Try.func20, Try.ntmps20
  go_upto_region 2 with fail
  rw [← HW0.out, ← HG.out]
  clear hmm
  go_wp2_with fail
  go_loopw [11] (fun i wr => ∃ k N : Nat, k ≤ m ∧ N ≤ k ∧ i = .int .i64 k ∧ Hid (MapOf Try.prog 3 ikey OkI wr g (lkF M k) N) ∧ Hid (Blk wr (g + 1) 86 #[.map (some g)]) ∧ Hid (Below w.heap.size w wr)) (fun i _ => m - (intOf i).toNat)
  case atStart => exact ⟨0, 0, Nat.zero_le _, Nat.zero_le _, rfl, M0, B0, HB0⟩
  case round =>
    obtain ⟨k, N, hk, hN, rfl, hmap, hblk, hbel⟩ := hrel
    by_cases hlt : k < m
    · have hkM : k < M.length := by have := HM.out; omega
      obtain ⟨b1, o1, hB, hlb, hc0, hc1, hc2, hc3, hc4⟩ := at_en (HA2.out.below hbel.out) hkM
      subst hB
      have hnx := lkF_next M k hkM
      have hox := HOK2.out _ (el_mem hkM)
      generalize el M k = e at *
      obtain ⟨x0, x1, x2, x3, x4⟩ := e
      dsimp only at hc0 hc1 hc2 hc3 hc4 hox hnx
      have HNX := Lib.hid hnx
      have HOX := Lib.hid hox
      obtain ⟨W1, hW1⟩ : ∃ W, W = wr.alloc (.cells #[.int .i64 x0, .int .i64 x1, .int .i64 x2, .int .i64 x3, .int .i64 x4] 74) := ⟨_, rfl⟩
      have hbw : Below wr.heap.size wr W1 := by rw [hW1]; exact below_alloc wr _
      obtain ⟨ge, hge⟩ : ∃ g, g = wr.heap.size := ⟨_, rfl⟩
      have K1 := Lib.hid (show Blk W1 ge 74 #[.int .i64 x0, .int .i64 x1, .int .i64 x2, .int .i64 x3, .int .i64 x4] by rw [hW1, hge]; exact Blk.new wr _ _)
      have HM1 := Lib.hid (hmap.out.below hbw)
      have HK1 := Lib.hid (hblk.out.below hbw)
      have HB1 := Lib.hid (hbel.out.trans (hbw.mono hbel.out.size))
      have s0 := K1.out.cell 0 (v := .int .i64 x0) rfl
      have s1 := K1.out.cell 1 (v := .int .i64 x1) rfl
      have s2 := K1.out.cell 2 (v := .int .i64 x2) rfl
      have s3 := K1.out.cell 3 (v := .int .i64 x3) rfl
      have s4 := K1.out.cell 4 (v := .int .i64 x4) rfl
      have t0 := HK1.out.cell 0 (v := .map (some g)) rfl
      have HW1 := Lib.hid hW1
      have HGE := Lib.hid hge
      clear hW1 hbw hge hmap hblk hbel hnx hox hkM
      go_upto_region 5 with fail
      rw [← HW1.out, ← HGE.out]
      clear hc0 hc1 hc2 hc3 hc4
      go_wp2_with (refine wpList_store_mo rfl _ _ _ 86 3 29 rfl (intWay Try.underlying3) Try.underlying86 g _ _ rfl HM1.out (by unfold maxLen; omega) x0 HOX.out (.agg #[.int .i64 x1, .int .i64 x2, .int .i64 x3, .int .i64 x4]) rfl rfl ?_; intro w5 hm5 hg5 hs5; have M5 := Lib.hid hm5; have K5 := Lib.hid (HK1.out.grown hg5 (by intro e; injection e with e; omega)); have B5 := Lib.hid (HB1.out.grown hg5 HB1.out.size (fun q e => by injection e with e; have := HGW.out; omega)); clear hm5 hg5 hs5)
      go_roundw
      case rel => exact ⟨k + 1, _, by omega, (by split <;> omega : (if (lkF M k x0).isSome then N else N + 1) ≤ k + 1), by go_num, Lib.hid (by rw [HNX.out]; exact M5.out), K5, B5⟩
      case measure => simp [intOf]; omega
    · obtain rfl : k = m := by omega
      have HS : Hid (M.take k = M) := List.take_of_length_le (by have := HM.out; omega)
      have C := Lib.hid (idsMoved_any (some ⟨g + 1, 0, none⟩) A n c L R (fun e => mvB (lastAt En.id M e.id) e) wr HN.out hb HA0.out (HA.out _ hbel.out) HR.out (fun W e hW he => movedFn_any (g + 1) g N (lkF M k) (lastAt En.id M e.id) e W (hmap.out.below hW) (hblk.out.below hW) (by unfold lkF; rw [HS.out]) (HOK.out e he)))
      go_wp2_with fail
      refine C.out.mono ?_
      rintro e w1 ⟨v, rfl, hv, hb1⟩
      obtain ⟨v', hv'⟩ : ∃ v', v' = v := ⟨_, rfl⟩
      rw [← hv'] at hv ⊢
      have HV := Lib.hid hv
      clear hv'
      have HB1 := Lib.hid (hbel.out.trans (hb1.mono hbel.out.size))
      clear hv hb1 C
      go_wp2
      go_ret
      exact ⟨_, rfl, by exact own_mono HV.out hbel.out.size, HB1.out⟩
end Go.Proofs.Ytdaohjimfgdmbaa
