/- Where a hook leads, by the program. -/
import Derived.Test.YtbekoockmageoaaDoorHkW1
import Derived.Deep.MidRow
namespace Go.Proofs.YtbekoockmageoaaDoor
open Go.RowKit Hk
theorem ret_int' {k : IntKind} {a b : Int} (h : a = b) : Ending.returned (.int k a) = .returned (.int k b) := by rw [h]
theorem tr_load {w : World} (ht : TrIs w) : (Instr.loadAt 51 (.pointer (some ⟨0, 0, none⟩))).run Tryd.prog w = .ok trAgg w :=
  run_loadAt_mid w 0 0 51 trv _ (fun j u hu => by rw [Nat.zero_add]; exact ht.2 j u hu) Tryd.underlying51 rfl (by kernel_rfl)
set_option maxHeartbeats 1000000 in
set_option maxRecDepth 100000 in
theorem next_any (s h : Int) (w : World) (ht : TrIs w) : Calls Tryd.prog 9 #[.int .i64 s, .int .i64 h] w fun e w' => e = .returned (.int .i64 (nx s h)) ∧ Below w.heap.size w w' := by
  have HT := Lib.hid ht
  clear ht
  go_enter Tryd.func9, Tryd.ntmps9
  go_wp2_with (refine wpList_load_mid (by rfl) 51 (.global 0) (by rfl) 0 0 (by rfl) trv _ (fun j u hu => by rw [Nat.zero_add]; exact HT.out.2 j u hu) Tryd.underlying51 (by rfl) (by kernel_rfl) ?_)
  rw [show (Value.agg trv.toArray) = trAgg from rfl]
  go_loopw [8] (fun i wr => ∃ k : Nat, k ≤ 10 ∧ i = .int .i64 k ∧ Hid (Miss k s h) ∧ Below w.heap.size w wr) (fun i _ => 10 - (intOf i).toNat)
  case atStart => exact ⟨0, Nat.zero_le _, rfl, Miss.zero s h, Below.refl _ _⟩
  case round =>
    obtain ⟨k, hk, rfl, hm, hbel⟩ := hrel
    by_cases hlt : k < 10
    · have hix := tr_at k hlt
      have hsz := hbel.size
      obtain ⟨a, ha⟩ : ∃ a, a = ta k := ⟨_, rfl⟩
      obtain ⟨b, hb⟩ : ∃ a, a = tb k := ⟨_, rfl⟩
      obtain ⟨c, hc⟩ : ∃ a, a = tc k := ⟨_, rfl⟩
      rw [← ha, ← hb, ← hc] at hix
      have HA := Lib.hid ha
      have HB := Lib.hid hb
      have HC := Lib.hid hc
      clear ha hb hc
      by_cases hs : a = s
      · subst hs
        by_cases hh : b = h
        · subst hh
          go_wp2
          go_ret
          exact ⟨ret_int' (by rw [nx_hit hlt hm.out HA.out.symm HB.out.symm, HC.out]), hbel.alloc hsz _⟩
        · have HH := Lib.hid hh
          go_wp2
          go_roundw
          case rel => exact ⟨k + 1, by omega, by go_num, Lib.hid (hm.out.next fun e => HH.out (HB.out.trans e.2)), hbel.alloc hsz _⟩
          case measure => simp [intOf]; omega
      · have HH := Lib.hid hs
        go_wp2
        go_roundw
        case rel => exact ⟨k + 1, by omega, by go_num, Lib.hid (hm.out.next fun e => HH.out (HA.out.trans e.1)), hbel.alloc hsz _⟩
        case measure => simp [intOf]; omega
    · obtain rfl : k = 10 := by omega
      go_wp2
      go_ret
      exact ⟨ret_int' (nx_none hm.out).symm, hbel⟩
end Go.Proofs.YtbekoockmageoaaDoor
