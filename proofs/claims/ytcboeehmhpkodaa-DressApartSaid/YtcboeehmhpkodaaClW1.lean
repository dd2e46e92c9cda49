/- Contracts of layer 3's reading functions and of the statements' own helpers: Cut, Few, Same, Has. -/
import Derived.Test.YtcboeehmhpkodaaMem
import Derived.Test.YtcboeehmhpkodaaClMath
import Derived.Test.YtcboeehmhpkodaaProg
import Derived.Deep.QuietTactic
import Derived.BigQuiet
import Derived.RegionTactic
namespace Go.Proofs.Ytcboeehmhpkodaa
open Go.RowKit M
theorem take_eq_next {xs ys : List ByteArray} {k : Nat} (hx : k < xs.length) (hy : k < ys.length) (h : xs.take k = ys.take k) (e : xs[k] = ys[k]) : xs.take (k + 1) = ys.take (k + 1) := by
  rw [take_next xs k hx, take_next ys k hy, h, e]
theorem same_any (A B : Option Addr) (n c m d : Nat) (xs ys : List ByteArray) (w : World) (hn : n = xs.length) (hm : m = ys.length) (hb : n ≤ maxLen) (hb2 : m ≤ maxLen) (ha : At w A (sv xs)) (hb' : At w B (sv ys)) :
    Calls Try.prog 12 #[.slice A n c, .slice B m d] w fun e w' => e = .returned (.bool (decide (xs = ys))) ∧ ∃ q, w' = w.drewN q := by
  unfold maxLen at hb hb2
  have HN := Lib.hid hn
  have HM := Lib.hid hm
  have HA := Lib.hid ha
  have HB := Lib.hid hb'
  clear hn hm ha hb'
  by_cases hl : n = m
  · subst hl
    go_enter Try.func12, Try.ntmps12
    go_wp2
    go_loopw [13] (fun i wr => ∃ k q : Nat, k ≤ n ∧ i = .int .i64 k ∧ wr = w.drewN q ∧ Hid (xs.take k = ys.take k)) (fun i _ => n - (intOf i).toNat)
    case atStart => exact ⟨0, 0, Nat.zero_le _, rfl, rfl, rfl⟩
    case round =>
      obtain ⟨k, q, hk, rfl, rfl, hx⟩ := hrel
      by_cases hlt : k < n
      · have hk1 : k < xs.length := by have := HN.out; omega
        have hk2 : k < ys.length := by have := HM.out; omega
        obtain ⟨b1, o1, rfl, hb1, hc1⟩ := HA.out.one (sv_at xs k hk1)
        obtain ⟨b2, o2, rfl, hb2', hc2⟩ := HB.out.one (sv_at ys k hk2)
        obtain ⟨s, hs⟩ : ∃ s, s = xs[k] := ⟨_, rfl⟩
        obtain ⟨t, ht⟩ : ∃ t, t = ys[k] := ⟨_, rfl⟩
        rw [← hs] at hc1
        rw [← ht] at hc2
        have HS := Lib.hid hs
        have HT := Lib.hid ht
        clear hs ht
        by_cases hst : s = t
        · have h1 := str_yes hst
          have HX := Lib.hid hst
          clear hst
          go_wp2
          go_quiet (fail)
          go_wp2
          go_roundw
          case rel => exact ⟨k + 1, _, by omega, by go_num, rfl, take_eq_next hk1 hk2 hx.out (by rw [← HS.out, ← HT.out]; exact HX.out)⟩
          case measure => simp [intOf]; omega
        · have h1 := str_no hst
          have HX := Lib.hid hst
          clear hst
          go_wp2
          go_quiet (fail)
          go_wp2
          go_ret
          exact ⟨ret_bool' (by rw [eq_comm, decide_eq_false_iff_not]; intro e; subst e; exact HX.out (by rw [HS.out, HT.out])), _, World.drewN_drewN _ _ _⟩
      · go_wp2
        go_ret
        exact ⟨ret_bool' (by have h1 := HN.out; have h3 := HM.out; have h2 := hx.out; rw [List.take_of_length_le (by omega), List.take_of_length_le (by omega)] at h2; simp [h2]), _, rfl⟩
  · have hd : Hid (decide (xs = ys) = false) := by show decide (xs = ys) = false; rw [decide_eq_false_iff_not]; intro e; subst e; exact hl (HN.out.trans HM.out.symm)
    have hl' : ((n : Int) == (m : Int)) = false := by rw [beq_eq_false_iff_ne]; omega
    have HL := Lib.hid hl
    clear hl
    go_enter Try.func12, Try.ntmps12
    go_wp2
    go_ret
    exact ⟨ret_bool' hd.out.symm, 0, rfl⟩
theorem infoStr : (Try.prog.info? 9).map (fun i => (i.zero, i.size, i.bytes)) = some (some (.string { data := #[] }), 1, 16) := by kernel_rfl
end Go.Proofs.Ytcboeehmhpkodaa
