/- Contract of (rect.Snap).Get: the rectangle of the last entry of a number. -/
import Derived.Test.YtdaohjimfgdmbaaSpMem
import Derived.RangeFuncNested
import Derived.RangeFuncBound
import Derived.RangeFuncCalls
import Derived.RangeFuncLeaves
import Derived.Shelf.Abstract
import Derived.Shelf.RegionOpen
import Derived.WalkKit
import Derived.OwnWalkIn
import Derived.TacticsInMore
import Derived.LoopNIn
import Derived.LoopIn
namespace Go.Proofs.Ytdaohjimfgdmbaa
open Go.RowKit Go.Shelf Sn
attribute [local go_sem] Oper.semAt_some
theorem snapBack_in (F : Fence) (n : Nat) (hf : F.fn 34) (hro : F.round = none) (a : Option Addr) (len cap : Nat) (w : World) :
    CallsIn F n Try.prog 34 #[.slice a len cap] w fun e w' => e = .returned (.func (.func 57) #[] #[.pointer (some ⟨w.heap.size, 0, none⟩)]) ∧ w' = w.alloc (.cells #[.slice a len cap] 25) := by
  refine callsIn_of_wp Try.func34 rfl hf ?_ hro
  simp only [Try.ntmps34, List.size_toArray, List.length_cons, List.length_nil, Nat.reduceAdd, Nat.reduceSub, Array.replicate_succ, Array.replicate_zero, List.push_toArray, List.append_toArray, List.nil_append, List.cons_append]
  gi_wp2
  go_ret
  exact ⟨rfl, rfl⟩
/-- what a round keeps: all below n0, and the block in which the iterator keeps its slice. -/
def KpB (n0 Bn : Nat) (A B : World) : Prop := Below n0 A B ∧ B.heap[Bn]? = A.heap[Bn]?
theorem KpB.refl (n0 Bn : Nat) (A : World) : KpB n0 Bn A A := ⟨Below.refl _ _, rfl⟩
theorem KpB.trans {n0 Bn : Nat} {A B C : World} (h : KpB n0 Bn A B) (k : KpB n0 Bn B C) : KpB n0 Bn A C := ⟨h.1.trans k.1, k.2.trans h.2⟩
def encE (L : List En) (k : Nat) : Array Value := #[.int .i64 (k : Nat), .agg #[.int .i64 (el L k).id, .int .i64 (el L k).x, .int .i64 (el L k).y, .int .i64 (el L k).w, .int .i64 (el L k).h]]
set_option maxHeartbeats 2000000 in
theorem snapBack_stops (F : Fence) (n : Nat) (hf : F.fn 57) (hro : F.round = none) (hn : 1 ≤ n) (w0 w : World) (Bn : Nat) (A : Option Addr) (len cap : Nat) (L : List En) (hlen : len = L.length) (hsm : len ≤ 1000000) (ha : At w0 A (ecs L)) (hb : Below w0.heap.size w0 w) (hbox : Blk w Bn 25 #[.slice A len cap]) :
    SeqStopsK F n Try.prog 57 #[.pointer (some ⟨Bn, 0, none⟩)] (encE L) (KpB w0.heap.size Bn) (fun xs => xs = bk len len) (fun pre => ∃ m, m ≤ len ∧ pre = bk len m) len w := by
  intro l J Jx W hW hJ hJx hY h0
  have HL := Lib.hid hlen
  have HA := Lib.hid ha
  have HY := Lib.hid hY
  have H0 := Lib.hid h0
  have HBX := Lib.hid (hbox.below hW)
  have hb0 := (hbox.below hW).cell 0 (v := .slice A len cap) rfl
  have HB := Lib.hid (hb.trans (hW.mono hb.size))
  clear hlen ha hY h0 hbox hW hJ hJx hb
  refine callsIn_of_wp Try.func57 rfl hf ?_ hro
  simp only [Try.ntmps57, List.size_toArray, List.length_cons, List.length_nil, Nat.reduceAdd, Nat.reduceSub, Array.replicate_succ, Array.replicate_zero, List.push_toArray, List.append_toArray, List.nil_append, List.cons_append]
  gi_wp2
  clear hb0
  gi_loopw [3] (fun i wr => ∃ m : Nat, m ≤ len ∧ i = .int .i64 ((m : Int) - 1) ∧ Hid (J (bk len (len - m)) wr) ∧ Hid (Below w0.heap.size w0 wr) ∧ Hid (Blk wr Bn 25 #[.slice A len cap])) (fun i _ => ((intOf i) + 1).toNat)
  case atStart => exact ⟨len, Nat.le_refl _, rfl, by show J _ _; rw [Nat.sub_self]; exact H0.out, HB, HBX⟩
  case round =>
    obtain ⟨m, hm, rfl, hj, hbl, hbx⟩ := hrel
    rcases Nat.eq_zero_or_pos m with h0 | h0
    · subst h0
      gi_wp2
      go_end0
      exact ⟨⟨_, rfl⟩, .inl ⟨_, rfl, by have h9 := hj.out; rw [Nat.sub_zero] at h9; exact h9⟩⟩
    · obtain ⟨p, rfl⟩ : ∃ p, m = p + 1 := ⟨m - 1, by omega⟩
      have hpi : ((p + 1 : Nat) : Int) - 1 = (p : Int) := by omega
      rw [hpi]
      clear hpi h0
      have hpl : p < L.length := by have := HL.out; omega
      have hbox := hbx.out.cell 0 (v := .slice A len cap) rfl
      obtain ⟨b1, o1, rfl, hb1, hc0, hc1, hc2, hc3, hc4⟩ := at_en HA.out hpl
      have hd0 := (hbl.out.cell (p := ⟨b1, o1 + p * 5, none⟩) hb1).trans hc0
      have hd1 := (hbl.out.cell (p := ⟨b1, o1 + p * 5 + 1, none⟩) hb1).trans hc1
      have hd2 := (hbl.out.cell (p := ⟨b1, o1 + p * 5 + 2, none⟩) hb1).trans hc2
      have hd3 := (hbl.out.cell (p := ⟨b1, o1 + p * 5 + 3, none⟩) hb1).trans hc3
      have hd4 := (hbl.out.cell (p := ⟨b1, o1 + p * 5 + 4, none⟩) hb1).trans hc4
      clear hc0 hc1 hc2 hc3 hc4
      obtain ⟨fn, tmps, assign, body, hy, hR⟩ := HY.out (bk len (len - (p + 1))) p wr hj.out (by rw [bk_len]; omega)
      have hk : len - (p + 1) + 1 = len - p := by omega
      have hq : len - 1 - (len - (p + 1)) = p := by omega
      have hnext : bk len (len - (p + 1)) ++ [p] = bk len (len - p) := by
        have := bk_succ len (len - (p + 1))
        rw [hk, hq] at this
        exact this.symm
      rw [hnext] at hR
      unfold encE at hy
      have HPL : Hid (p + 1 ≤ len) := hm
      clear hk hq hnext hpl
      generalize (el L p).id = x0 at *
      generalize (el L p).x = x1 at *
      generalize (el L p).y = x2 at *
      generalize (el L p).w = x3 at *
      generalize (el L p).h = x4 at *
      gi_wp2
      refine hR.mono ?_
      rintro e W3 (⟨rfl, hJ3, hk3⟩ | ⟨rfl, hJx3⟩)
      · have HJ3 := Lib.hid hJ3
        have HK1 := Lib.hid (hbl.out.trans hk3.1)
        have HK2 : Hid (Blk W3 Bn 25 #[.slice (some ⟨b1, o1, none⟩) len cap]) := hk3.2.trans hbx.out
        clear hJ3 hk3
        gi_wp2
        go_roundw
        case rel => exact ⟨p, by have := HPL.out; omega, by first | rfl | simp, HJ3, HK1, HK2⟩
        case measure => simp [intOf]
      · have HJx3 := Lib.hid hJx3
        clear hJx3
        gi_wp2
        refine bodyPost_ret (results_none rfl _ _ _) rfl ?_
        exact ⟨⟨_, rfl⟩, .inr ⟨_, ⟨len - p, Nat.sub_le _ _, rfl⟩, HJx3.out⟩⟩
/-- a block of cells abides what turns other blocks. -/
theorem blk_own {β : Type} (B : Nat) (t : TypeId) (f : β → Array Value) : Own (fun s W => Blk W B t (f s)) := fun s X Y row hs hg hrow =>
  hs.grown hg (fun e' => by obtain ⟨o, ho, hc⟩ := hrow B e'.symm; rw [show X.heap[B]? = _ from hs] at ho; cases ho; cases hc)
end Go.Proofs.Ytdaohjimfgdmbaa
