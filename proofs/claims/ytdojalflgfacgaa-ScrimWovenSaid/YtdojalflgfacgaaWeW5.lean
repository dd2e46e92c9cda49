/- Contract of the library's Backward at ints, and of weave's Steps. -/
import Derived.Test.YtdojalflgfacgaaWeW4
import Derived.Test.YtdojalflgfacgaaEach
import Derived.RangeFuncBound
import Derived.RangeFuncBox
import Derived.Shelf.Abstract
import Derived.Shelf.RegionOpen
import Derived.OwnWalkIn
import Derived.TacticsInMore
import Derived.LoopNIn
import Derived.LoopIn
namespace Go.Proofs.Ytdojalflgfacgaa
open Go.RowKit Go.Shelf We
attribute [local go_sem] Oper.semAt_some
theorem backM_in (F : Fence) (n : Nat) (hf : F.fn 24) (hro : F.round = none) (a : Option Addr) (len cap : Nat) (w : World) :
    CallsIn F n Try.prog 24 #[.slice a len cap] w fun e w' => e = .returned (.func (.func 36) #[] #[.pointer (some ⟨w.heap.size, 0, none⟩)]) ∧ w' = w.alloc (.cells #[.slice a len cap] 22) := by
  refine callsIn_of_wp Try.func24 rfl hf ?_ hro
  simp only [Try.ntmps24, List.size_toArray, List.length_cons, List.length_nil, Nat.reduceAdd, Nat.reduceSub, Array.replicate_succ, Array.replicate_zero, List.push_toArray, List.append_toArray, List.nil_append, List.cons_append]
  gi_wp2
  go_ret
  exact ⟨rfl, rfl⟩
def encB (b : List Int) (k : Nat) : Array Value := #[.int .i64 ((b.length - 1 - k : Nat) : Int), .int .i64 (at' b (b.length - 1 - k))]
set_option maxHeartbeats 1000000 in
theorem back_gives (F : Fence) (n : Nat) (hf : F.fn 36) (hro : F.round = none) (hn : 1 ≤ n) (Bs : Nat) (A : Option Addr) (len cap : Nat) (b : List Int) (hlen : len = b.length) (hsm : len ≤ 100000) (I : Nat → World → Prop)
    (hI : ∀ k W, I k W → W.cell? ⟨Bs, 0, none⟩ = some (.slice A len cap) ∧ At W A (iv b)) :
    Gives F n Try.prog 36 #[.pointer (some ⟨Bs, 0, none⟩)] (encB b) len I := by
  intro l J W hJI hY h0
  have HL := Lib.hid hlen
  have HI := Lib.hid hI
  have HJ := Lib.hid hJI
  have HY := Lib.hid hY
  have H0 := Lib.hid h0
  have hb0 := (hI 0 W (hJI 0 W h0)).1
  clear hlen hI hJI hY h0
  refine callsIn_of_wp Try.func36 rfl hf ?_ hro
  simp only [Try.ntmps36, List.size_toArray, List.length_cons, List.length_nil, Nat.reduceAdd, Nat.reduceSub, Array.replicate_succ, Array.replicate_zero, List.push_toArray, List.append_toArray, List.nil_append, List.cons_append]
  gi_wp2
  clear hb0
  gi_loopw [3] (fun i wr => ∃ m : Nat, m ≤ len ∧ i = .int .i64 ((m : Int) - 1) ∧ Hid (J (len - m) wr)) (fun i _ => ((intOf i) + 1).toNat)
  case atStart => exact ⟨len, Nat.le_refl _, rfl, by show J _ _; rw [Nat.sub_self]; exact H0.out⟩
  case round =>
    obtain ⟨m, hm, rfl, hj⟩ := hrel
    have hbox := (HI.out _ _ (HJ.out _ _ hj.out)).1
    have hat := Lib.hid (HI.out _ _ (HJ.out _ _ hj.out)).2
    rcases Nat.eq_zero_or_pos m with h0 | h0
    · subst h0
      gi_wp2
      go_end0
      exact ⟨⟨_, rfl⟩, by have h9 := hj.out; rw [Nat.sub_zero] at h9; exact h9⟩
    · obtain ⟨p, rfl⟩ : ∃ p, m = p + 1 := ⟨m - 1, by omega⟩
      have hpi : ((p + 1 : Nat) : Int) - 1 = (p : Int) := by omega
      rw [hpi]
      clear hpi h0
      have hpl : p < b.length := by have := HL.out; omega
      obtain ⟨b1, o1, rfl, hb1, hc1⟩ := hat.out.one (iv_at b p hpl)
      obtain ⟨fn, tmps, assign, body, hy, hR⟩ := HY.out (len - (p + 1)) wr (by omega) hj.out
      have hq : b.length - 1 - (len - (p + 1)) = p := by have := HL.out; omega
      unfold encB at hy
      rw [hq, show at' b p = ats b p from rfl] at hy
      have hk : len - (p + 1) + 1 = len - p := by omega
      rw [hk] at hR
      clear hq hk
      generalize ats b p = x at *
      gi_wp2
      refine hR.mono ?_
      rintro e W3 ⟨rfl, hJ3⟩
      have HJ3 := Lib.hid hJ3
      clear hJ3
      gi_wp2
      go_roundw
      case rel => exact ⟨p, by omega, by first | rfl | simp, HJ3⟩
      case measure => simp [intOf]
end Go.Proofs.Ytdojalflgfacgaa
