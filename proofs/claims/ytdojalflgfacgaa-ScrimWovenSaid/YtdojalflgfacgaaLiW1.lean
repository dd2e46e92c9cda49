/- Contracts of the statements' small helpers and of the library's search at numbers. -/
import Derived.Test.YtdojalflgfacgaaMem
import Derived.Test.YtdojalflgfacgaaLiMath
import Derived.Test.YtdojalflgfacgaaProg
import Derived.Deep.QuietTactic
import Derived.BigQuiet
import Derived.RegionTactic
import Derived.Lib.MinMax
namespace Go.Proofs.Ytdojalflgfacgaa
open Go.RowKit Li
/-- numbers as cells -/
def iv (l : List Int) : List Value := l.map (Value.int .i64)
def nv (l : List Nat) : List Value := l.map fun (k : Nat) => Value.int .i64 (k : Int)
def ats (l : List Int) (i : Nat) : Int := l.getD i 0
theorem iv_len (l : List Int) : (iv l).length = l.length := by simp [iv]
theorem nv_len (l : List Nat) : (nv l).length = l.length := by simp [nv]
theorem iv_at (l : List Int) (k : Nat) (h : k < l.length) : (iv l)[k]? = some (.int .i64 (ats l k)) := by simp [iv, ats, h]
theorem nv_at (l : List Nat) (k : Nat) (h : k < l.length) : (nv l)[k]? = some (.int .i64 ((l.getD k 0 : Nat) : Int)) := by simp [nv, h]
theorem iv_take (l : List Int) (k : Nat) : iv (l.take k) = (iv l).take k := by simp [iv, List.map_take]
theorem nv_app (a b : List Nat) : nv (a ++ b) = nv a ++ nv b := by simp [nv]
theorem nv_one (l : List Nat) : ∀ u ∈ nv l, u.oneCell' = true := by
  intro u hu
  simp only [nv, List.mem_map] at hu
  obtain ⟨s, _, rfl⟩ := hu
  rfl
theorem ats_take (l : List Int) (k i : Nat) (h : i < k) : ats (l.take k) i = ats l i := by
  unfold ats
  rw [List.getD_eq_getElem?_getD, List.getD_eq_getElem?_getD, List.getElem?_take, if_pos h]
theorem numbers_any (A B : Option Addr) (n c m d : Nat) (xs ys : List Nat) (w : World) (hn : n = xs.length) (hm : m = ys.length) (hb : n ≤ 100000) (hb2 : m ≤ 100000) (ha : At w A (nv xs)) (hb' : At w B (nv ys)) :
    Calls Try.prog 10 #[.slice A n c, .slice B m d] w fun e w' => e = .returned (.bool (decide (xs = ys))) ∧ ∃ q, w' = w.drewN q := by
  have HN := Lib.hid hn
  have HM := Lib.hid hm
  have HA := Lib.hid ha
  have HB := Lib.hid hb'
  clear hn hm ha hb'
  by_cases hl : n = m
  · subst hl
    go_enter Try.func10, Try.ntmps10
    go_wp2
    go_loopw [13] (fun i wr => ∃ k q : Nat, k ≤ n ∧ i = .int .i64 k ∧ wr = w.drewN q ∧ Hid (xs.take k = ys.take k)) (fun i _ => n - (intOf i).toNat)
    case atStart => exact ⟨0, 0, Nat.zero_le _, rfl, rfl, rfl⟩
    case round =>
      obtain ⟨k, q, hk, rfl, rfl, hx⟩ := hrel
      by_cases hlt : k < n
      · have hk1 : k < xs.length := by have := HN.out; omega
        have hk2 : k < ys.length := by have := HM.out; omega
        obtain ⟨b1, o1, rfl, hb1, hc1⟩ := HA.out.one (nv_at xs k hk1)
        obtain ⟨b2, o2, rfl, hb2', hc2⟩ := HB.out.one (nv_at ys k hk2)
        obtain ⟨s, hs⟩ : ∃ s, s = xs.getD k 0 := ⟨_, rfl⟩
        obtain ⟨t, ht⟩ : ∃ t, t = ys.getD k 0 := ⟨_, rfl⟩
        rw [← hs] at hc1
        rw [← ht] at hc2
        have HS := Lib.hid hs
        have HT := Lib.hid ht
        clear hs ht
        by_cases hst : s = t
        · have HX := Lib.hid hst
          have h1 : (s : Int) = (t : Int) := by rw [hst]
          clear hst
          go_wp2
          go_quiet (fail)
          go_wp2
          go_roundw
          case rel =>
            refine ⟨k + 1, _, by omega, by go_num, rfl, ?_⟩
            show xs.take (k + 1) = ys.take (k + 1)
            rw [List.take_succ_eq_append_getElem hk1, List.take_succ_eq_append_getElem hk2, hx.out]
            have h5 := HS.out
            have h6 := HT.out
            rw [List.getD_eq_getElem?_getD, List.getElem?_eq_getElem hk1] at h5
            rw [List.getD_eq_getElem?_getD, List.getElem?_eq_getElem hk2] at h6
            simp at h5 h6
            rw [← h5, ← h6, HX.out]
          case measure => simp [intOf]; omega
        · have HX := Lib.hid hst
          have h1 : ¬ (s : Int) = (t : Int) := by omega
          clear hst
          go_wp2
          go_quiet (fail)
          go_wp2
          go_ret
          exact ⟨ret_bool' (by rw [eq_comm, decide_eq_false_iff_not]; intro e; subst e; exact HX.out (by rw [HS.out, HT.out])), _, World.drewN_drewN _ _ _⟩
      · go_wp2
        go_ret
        exact ⟨ret_bool' (by have h1 := HN.out; have h3 := HM.out; have h2 := hx.out; rw [List.take_of_length_le (by omega), List.take_of_length_le (by omega)] at h2; simp [h2]), _, rfl⟩
  · have hd : Hid (decide (xs = ys) = false) := by show decide (xs = ys) = false; rw [decide_eq_false_iff_not]; intro e; subst e; exact hl (HN.out.trans HM.out.symm)
    have hl' : ((n : Int) == (m : Int)) = false := by rw [beq_eq_false_iff_ne]; omega
    have HL := Lib.hid hl
    clear hl
    go_enter Try.func10, Try.ntmps10
    go_wp2
    go_ret
    exact ⟨ret_bool' hd.out.symm, 0, rfl⟩
theorem few_any (A : Option Addr) (n c : Nat) (q : Int) (m : Nat) (w : World) (hq : q = (m : Int)) (hb : n ≤ maxLen) (hc : n ≤ c) (hc2 : c ≤ maxLen) (hA : A = none → n = 0 ∧ c = 0) (h1 : m ≤ 1000) :
    Calls Try.prog 6 #[.slice A n c, .int .i64 q] w fun e w' => e = .returned (.slice A (min n m) c) ∧ w = w' := by
  unfold maxLen at hb hc2
  subst hq
  have hmin : (min (n : Int) (m : Int)) = ((min n m : Nat) : Int) := by omega
  cases A with
  | none =>
    obtain ⟨rfl, rfl⟩ := hA rfl
    have e0 : min 0 m = 0 := by omega
    rw [e0]

    go_enter Try.func6, Try.ntmps6
    go_wp2
    go_ret
    exact ⟨by simp <;> omega, rfl⟩
  | some a =>
    clear hA
    go_enter Try.func6, Try.ntmps6
    go_wp2
    go_ret
    exact ⟨by simp, rfl⟩
theorem isNaN_any (x : Int) (w : World) : Calls Try.prog 46 #[.int .i64 x] w fun e w' => e = .returned (.bool false) ∧ w = w' := by
  go_enter Try.func46, Try.ntmps46
  go_wp2
  go_ret
  exact ⟨by simp, rfl⟩
def cmpI (x y : Int) : Int := if x < y then -1 else if x > y then 1 else 0
theorem compare_any (x y : Int) (w : World) : Calls Try.prog 42 #[.int .i64 x, .int .i64 y] w fun e w' => e = .returned (.int .i64 (cmpI x y)) ∧ w = w' := by
  by_cases h1 : x < y
  · have e : cmpI x y = -1 := by unfold cmpI; rw [if_pos h1]
    rw [e]
    go_enter Try.func42, Try.ntmps42
    go_wp2_with (go_at_call 46; refine (isNaN_any _ _).mono ?_; rintro e w' ⟨rfl, rfl⟩)
    go_ret
    exact ⟨rfl, rfl⟩
  · by_cases h2 : x > y
    · have e : cmpI x y = 1 := by unfold cmpI; rw [if_neg h1, if_pos h2]
      rw [e]
      go_enter Try.func42, Try.ntmps42
      go_wp2_with (go_at_call 46; refine (isNaN_any _ _).mono ?_; rintro e w' ⟨rfl, rfl⟩)
      go_ret
      exact ⟨rfl, rfl⟩
    · have e : cmpI x y = 0 := by unfold cmpI; rw [if_neg h1, if_neg h2]
      rw [e]
      go_enter Try.func42, Try.ntmps42
      go_wp2_with (go_at_call 46; refine (isNaN_any _ _).mono ?_; rintro e w' ⟨rfl, rfl⟩)
      go_ret
      exact ⟨rfl, rfl⟩
theorem cmpI_lt (x y : Int) : cmpI x y < 0 ↔ x < y := by unfold cmpI; split; simp [*]; split <;> simp <;> omega
theorem cmpI_eq (x y : Int) : cmpI x y = 0 ↔ x = y := by unfold cmpI; split; simp; omega; split <;> simp <;> omega
/-- the comparison of the program's call: by the number at a place. -/
theorem of1_any (A : Option Addr) (n c lb : Nat) (l : List Int) (i : Nat) (x : Int) (w : World) (hn : n = l.length) (hl : w.cell? ⟨lb, 0, none⟩ = some (.slice A n c)) (ha : At w A (iv l)) (hi : i < l.length) :
    Calls Try.prog 41 #[.int .i64 (i : Int), .int .i64 x, .pointer (some ⟨lb, 0, none⟩)] w fun e w' => e = .returned (.int .i64 (cmpI (ats l i) x)) ∧ w = w' := by
  obtain ⟨b1, o1, rfl, hb1, hc1⟩ := ha.one (iv_at l i hi)
  clear ha
  have hin : i < n := by omega
  clear hn hi
  go_enter Try.func41, Try.ntmps41
  go_wp2_with (go_at_call 42; refine (compare_any _ _ _).mono ?_; rintro e w' ⟨rfl, rfl⟩)
  go_ret
  exact ⟨rfl, rfl⟩
end Go.Proofs.Ytdojalflgfacgaa
