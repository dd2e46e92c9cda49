/- Contracts of layer 3: the steps that add each; whether names stand in a list one behind the other. -/
import Derived.Test.YtcboeehmhpkodaaClW4
namespace Go.Proofs.Ytcboeehmhpkodaa
open Go.RowKit M
theorem infoStep : (Try.prog.info? 71).map (fun i => (i.zero, i.size, i.bytes)) = some (some (.agg #[.bool false, .string { data := #[] }]), 2, 24) := by kernel_rfl
theorem adds_any (A : Option Addr) (n c : Nat) (ss : List ByteArray) (w : World) (hn : n = ss.length) (hm : n ≤ 1000000) (ha : At w A (sv ss)) :
    Calls Try.prog 43 #[.slice A n c] w fun e w' => ∃ v, e = .returned v ∧ w'.ownsRow w.heap.size 71 2 v n (stv (addsOf ss)) ∧ Below w.heap.size w w' := by
  have HN := Lib.hid hn
  have HA := Lib.hid ha
  clear hn ha
  obtain ⟨i0, hi, hz0, hz1, hz2⟩ := info_parts infoStep
  go_enter Try.func43, Try.ntmps43
  go_wp2
  go_loopw [3, 8] (fun v i wr => ∃ k : Nat, k ≤ n ∧ i = .int .i64 k ∧ Hid (wr.ownsRow w.heap.size 71 2 v k (stv (addsOf (ss.take k)))) ∧ Below w.heap.size w wr) (fun _ i _ => n - (intOf i).toNat)
  case atStart => exact ⟨0, Nat.zero_le _, rfl, World.ownsRow_nil _ _ _ _, Below.refl _ _⟩
  case round =>
    obtain ⟨k, hk, rfl, hown, hbel⟩ := hrel
    by_cases hlt : k < n
    · have hk1 : k < ss.length := by have := HN.out; omega
      obtain ⟨b, off, rfl, hlb, hc0⟩ := HA.out.one (sv_at ss k hk1)
      have hc := (below_cells hbel).1 b (off + k) hlb
      rw [hc0] at hc
      have HC0 := Lib.hid hc0
      clear hc0
      have hX := addsOf_next ss k hk1
      obtain ⟨s, hs⟩ : ∃ s, s = ss[k] := ⟨_, rfl⟩
      rw [← hs] at hc hX
      have HX := Lib.hid hX
      clear hs hX
      have hsz := hbel.size
      go_wp2_with (at_builtin; refine wpList_append_own _ rfl _ _ 67 rfl w.heap.size 71 i0 (.agg #[.bool false, .string { data := #[] }]) 2 24 Try.underlying67 hi hz0 hz1 hz2 rfl (by decide) _ _ _ rfl (hown.out.alloc _) ⟨_, 0, none⟩ 1 1 [.bool false, .string s] rfl rfl (cells_new _ _ _ _ rfl) (stv_one [(false, s)]) (by unfold maxLen; omega) (by omega) (by simp; omega) ?_; intro v1 w1 hown1 hgrow1 _hnil1; have HO := Lib.hid hown1; have HG := Lib.hid hgrow1; clear hown1 hgrow1 _hnil1)
      go_roundw
      case rel => exact ⟨k + 1, by omega, by go_num, by show World.ownsRow _ _ _ _ _ _ _; rw [HX.out, stv_app]; exact HO.out, (hbel.alloc hsz _).grown HG.out (by simp; omega) (own_from hown.out)⟩
      case measure => simp [intOf]; omega
    · obtain rfl : k = n := by omega
      go_wp2
      go_ret
      exact ⟨_, rfl, by have h1 := hown.out
                        rw [List.take_of_length_le (by have := HN.out; omega)] at h1; exact h1, hbel⟩
end Go.Proofs.Ytcboeehmhpkodaa
