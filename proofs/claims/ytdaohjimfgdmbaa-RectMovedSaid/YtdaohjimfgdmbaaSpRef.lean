/- Contracts of the document's Get and Snap. -/
import Derived.Test.YtdaohjimfgdmbaaSpMem
import Derived.Test.YtdaohjimfgdmbaaAppAt
import Derived.Maps.AppendAt
import Derived.LoopIn
import Derived.LoopTactic
import Derived.LoopNIn
import Derived.Deep.QuietTactic
import Derived.BigQuiet
import Derived.RegionTactic
import Derived.Deep.RegionHeld3
import Derived.Deep.DeepCutAuto
import Derived.StillTailTactics
import Derived.Deep.MidRow
import Derived.WalkKit
namespace Go.Proofs.Ytdaohjimfgdmbaa
open Go.RowKit Sn
theorem results_mid_tmpS {P : Program} {fn : Func} {u p : Tmp} {ty : TypeId} (h : fn.results = #[.cell p ty, .tmp u]) (tmps : Array Value) (w : World) (b o : Nat) (cs : List Value) (d : TypeDesc)
    (hp : tmps.getD p undef = .pointer (some ⟨b, o, none⟩)) (hc : w.rangeAt b o cs) (hu : P.underlying ty = some d) (hd : d.isRow = true) (hi : (P.info? ty).map (·.size) = some cs.length) :
    (results fn tmps).run P w = .ok (.tuple #[.agg cs.toArray, tmps.getD u undef]) w := by
  have hp' : tmps[p]?.getD undef = .pointer (some ⟨b, o, none⟩) := by simpa using hp
  simp [results, h, hp', asAddr, run_loadVar_mid w b o ty cs d hc hu hd hi]
theorem blk_rangeS {w : World} {g : Nat} {t : TypeId} {cs : Array Value} (h : Blk w g t cs) : w.rangeAt g 0 cs.toList := by
  intro j u hu
  rw [Nat.zero_add]
  exact h.cell j (by simpa using hu)
set_option maxHeartbeats 2000000 in
set_option maxRecDepth 100000 in
theorem rget_any (A : Option Addr) (n c : Nat) (L : List En) (id : Int) (w : World) (hn : n = L.length) (hb : n ≤ 1000000) (ha : At w A (ecs L)) :
    Calls Try.prog 13 #[.slice A n c, .int .i64 id] w fun e w' => e = .returned (gotV (lastAt En.id L id)) ∧ Below w.heap.size w w' := by
  have HN := Lib.hid hn
  have HA := Lib.hid ha
  clear hn ha
  go_enter Try.func13, Try.ntmps13
  go_wp2
  obtain ⟨W0, hW0⟩ : ∃ W0, w.alloc (.cells #[.int .i64 0, .int .i64 0, .int .i64 0, .int .i64 0] 32) = W0 := ⟨_, rfl⟩
  rw [hW0]
  have hB0 : Below w.heap.size w W0 := by rw [← hW0]; exact below_alloc w _
  have hblk : Blk W0 w.heap.size 32 #[.int .i64 0, .int .i64 0, .int .i64 0, .int .i64 0] := by rw [← hW0]; exact Blk.new w _ _
  obtain ⟨g, hg⟩ : ∃ g, g = w.heap.size := ⟨_, rfl⟩
  rw [← hg] at hblk ⊢
  have HG := Lib.hid hg
  have HB := Lib.hid hB0
  have HK := Lib.hid hblk
  clear hg hB0 hblk hW0
  go_loop [6] (fun i => ∃ m : Nat, m ≤ n ∧ i = .int .i64 ((m : Int) - 1) ∧ Hid (∀ j, m ≤ j → j < L.length → (el L j).id ≠ id)) (fun i => ((intOf i) + 1).toNat)
  case atStart => exact ⟨n, Nat.le_refl _, rfl, Lib.hid (fun j h1 h2 => by have := HN.out; omega)⟩
  case round =>
    obtain ⟨m, hm, rfl, hno⟩ := hrel
    have r0 := HK.out.cell 0 (v := .int .i64 0) rfl
    have r1 := HK.out.cell 1 (v := .int .i64 0) rfl
    have r2 := HK.out.cell 2 (v := .int .i64 0) rfl
    have r3 := HK.out.cell 3 (v := .int .i64 0) rfl
    have f0 := HK.out.frozen 0
    have f1 := HK.out.frozen 1
    have f2 := HK.out.frozen 2
    have f3 := HK.out.frozen 3
    rcases Nat.eq_zero_or_pos m with h0 | h0
    · subst h0
      go_wp2
      obtain ⟨V, hV⟩ : ∃ V, V = (((W0.setCell ⟨g, 0, none⟩ (.int .i64 0)).setCell ⟨g, 1, none⟩ (.int .i64 0)).setCell ⟨g, 2, none⟩ (.int .i64 0)).setCell ⟨g, 3, none⟩ (.int .i64 0) := ⟨_, rfl⟩
      rw [← hV]
      have k1 : Blk V g 32 #[.int .i64 0, .int .i64 0, .int .i64 0, .int .i64 0] := by rw [hV]; exact ((((HK.out.set 0 _).set 1 _).set 2 _).set 3 _)
      have hgw : w.heap.size ≤ g := by have := HG.out; omega
      have hBV : Below w.heap.size w V := by
        rw [hV]
        exact (((HB.out.setCell (p := ⟨g, 0, none⟩) hgw _).setCell (p := ⟨g, 1, none⟩) hgw _).setCell (p := ⟨g, 2, none⟩) hgw _).setCell (p := ⟨g, 3, none⟩) hgw _
      clear hV
      refine bodyPost_ret (results_mid_tmpS rfl _ _ g 0 [.int .i64 0, .int .i64 0, .int .i64 0, .int .i64 0] _ rfl (blk_rangeS k1) Try.underlying32 rfl (by kernel_rfl)) rfl ⟨?_, hBV⟩
      rw [show lastAt En.id L id = none from lastAt_no fun j hj => hno.out j (Nat.zero_le _) hj]
      rfl
    · obtain ⟨p, rfl⟩ : ∃ p, m = p + 1 := ⟨m - 1, by omega⟩
      have hpi : ((p + 1 : Nat) : Int) - 1 = (p : Int) := by omega
      rw [hpi]
      clear hpi h0
      have hpl : p < L.length := by have := HN.out; omega
      obtain ⟨b1, o1, rfl, hb1, hc0, hc1, hc2, hc3, hc4⟩ := at_en HA.out hpl
      have hd0 := (HB.out.cell (p := ⟨b1, o1 + p * 5, none⟩) hb1).trans hc0
      have hd1 := (HB.out.cell (p := ⟨b1, o1 + p * 5 + 1, none⟩) hb1).trans hc1
      have hd2 := (HB.out.cell (p := ⟨b1, o1 + p * 5 + 2, none⟩) hb1).trans hc2
      have hd3 := (HB.out.cell (p := ⟨b1, o1 + p * 5 + 3, none⟩) hb1).trans hc3
      have hd4 := (HB.out.cell (p := ⟨b1, o1 + p * 5 + 4, none⟩) hb1).trans hc4
      clear hc0 hc1 hc2 hc3 hc4
      have HPL := Lib.hid hpl
      have hpn : p < n := by omega
      clear hpl
      by_cases hid : (el L p).id = id
      · have hq : ((el L p).id == id) = true := by simpa using hid
        have HGT := Lib.hid (show lastAt En.id L id = some (el L p) from lastAt_of HPL.out hid (fun j h1 h2 => hno.out j h1 h2))
        clear hid
        go_wp2
        obtain ⟨V, hV⟩ : ∃ V, V = (((W0.setCell ⟨g, 0, none⟩ (.int .i64 (el L p).x)).setCell ⟨g, 1, none⟩ (.int .i64 (el L p).y)).setCell ⟨g, 2, none⟩ (.int .i64 (el L p).w)).setCell ⟨g, 3, none⟩ (.int .i64 (el L p).h) := ⟨_, rfl⟩
        rw [← hV]
        have k1 : Blk V g 32 #[.int .i64 (el L p).x, .int .i64 (el L p).y, .int .i64 (el L p).w, .int .i64 (el L p).h] := by rw [hV]; exact ((((HK.out.set 0 _).set 1 _).set 2 _).set 3 _)
        have hgw : w.heap.size ≤ g := by have := HG.out; omega
        have hBV : Below w.heap.size w V := by
          rw [hV]
          exact (((HB.out.setCell (p := ⟨g, 0, none⟩) hgw _).setCell (p := ⟨g, 1, none⟩) hgw _).setCell (p := ⟨g, 2, none⟩) hgw _).setCell (p := ⟨g, 3, none⟩) hgw _
        clear hV
        refine bodyPost_ret (results_mid_tmpS rfl _ _ g 0 [.int .i64 (el L p).x, .int .i64 (el L p).y, .int .i64 (el L p).w, .int .i64 (el L p).h] _ rfl (blk_rangeS k1) Try.underlying32 rfl (by kernel_rfl)) rfl ⟨?_, hBV⟩
        rw [HGT.out]
        rfl
      · have hq : ((el L p).id == id) = false := by simpa using hid
        have HID := Lib.hid hid
        clear hid
        go_wp2
        go_round
        case rel =>
          refine ⟨p, by omega, by first | rfl | simp, Lib.hid (fun j h1 h2 => ?_)⟩
          rcases Nat.eq_or_lt_of_le h1 with e | e
          · exact e ▸ HID.out
          · exact hno.out j e h2
        case measure => simp [intOf]
end Go.Proofs.Ytdaohjimfgdmbaa
