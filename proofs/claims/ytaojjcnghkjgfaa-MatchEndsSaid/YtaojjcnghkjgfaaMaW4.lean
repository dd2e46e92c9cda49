/- Contracts of match's Front and Back; of the document's ahead. -/
import Derived.Test.YtaojjcnghkjgfaaMaW3
namespace Go.Proofs.Ytaojjcnghkjgfaa
open Go.RowKit Ma
theorem least_has (P : Nat → Prop) : ∀ k, (∀ i, i < k → P i) ∨ ∃ n, n < k ∧ (∀ i, i < n → P i) ∧ ¬ P n
  | 0 => .inl fun i h => absurd h (Nat.not_lt_zero _)
  | k + 1 => by
    rcases least_has P k with h | ⟨n, h1, h2, h3⟩
    · by_cases hk : P k
      · exact .inl fun i hi => by
          by_cases e : i = k
          · subst e; exact hk
          · exact h i (by omega)
      · exact .inr ⟨k, by omega, h, hk⟩
    · exact .inr ⟨n, by omega, h2, h3⟩
theorem isFront_has (p : List Int) : ∃ F, IsFront p F := by
  rcases least_has (fun i => p.getD i 0 = (i : Int)) p.length with h | ⟨n, h1, h2, h3⟩
  · exact ⟨p.length, Nat.le_refl _, h, fun h => absurd h (Nat.lt_irrefl _)⟩
  · exact ⟨n, by omega, h2, fun _ => h3⟩
theorem isBack_has (p : List Int) (o f left : Nat) : ∃ R, IsBack p o f left R := by
  rcases least_has (fun i => p.getD (f - 1 - i) 0 = (o : Int) - 1 - i) left with h | ⟨n, h1, h2, h3⟩
  · exact ⟨left, Nat.le_refl _, h, fun h => absurd h (Nat.lt_irrefl _)⟩
  · exact ⟨n, by omega, h2, fun _ => h3⟩
theorem frontP_any (A B : Option Addr) (n c m d F : Nat) (old new : List Kd) (w : World) (hn : n = old.length) (hm : m = new.length) (h1 : n ≤ 100000) (h2 : m ≤ 100000) (ha : At w A (kc old)) (hb : At w B (kc new)) (ho : ∀ k ∈ old, OkK k) (hw : ∀ k ∈ new, OkK k) (hF : IsFront (pairs old new) F) :
    Calls Try.prog 18 #[.slice A n c, .slice B m d] w fun e w' => e = .returned (.int .i64 F) ∧ Below w.heap.size w w' := by
  have HM := Lib.hid hm
  have HF := Lib.hid hF
  have C1 := Lib.hid (pair_any A B n c m d old new w hn hm h1 h2 ha hb ho hw)
  clear hn hm ha hb ho hw hF
  go_enter Try.func18, Try.ntmps18
  go_wp2_with fail
  refine C1.out.mono ?_
  rintro e w6 ⟨v, rfl, hown, hb6⟩
  obtain ⟨A6, c6, rfl, hc6, hm6⟩ := own_slice hown
  have HT6 := Lib.hid (At.own hown)
  have HB6 := Lib.hid hb6
  clear hown hb6
  have C2 := Lib.hid (front_any A6 m c6 F (pairs old new) w6 (by rw [pairs_len]; exact HM.out) h2 HT6.out HF.out)
  go_wp2_with (refine C2.out.mono ?_; rintro e w7 ⟨rfl, rfl⟩)
  go_ret
  exact ⟨rfl, HB6.out⟩
set_option maxHeartbeats 1000000 in
theorem backP_any (A B : Option Addr) (n c m d F R : Nat) (old new : List Kd) (w : World) (hn : n = old.length) (hm : m = new.length) (h1 : n ≤ 100000) (h2 : m ≤ 100000) (ha : At w A (kc old)) (hb : At w B (kc new)) (ho : ∀ k ∈ old, OkK k) (hw : ∀ k ∈ new, OkK k) (hF : IsFront (pairs old new) F) (hR : IsBack (pairs old new) n m (min n m - F) R) :
    Calls Try.prog 20 #[.slice A n c, .slice B m d] w fun e w' => e = .returned (.int .i64 R) ∧ Below w.heap.size w w' := by
  have HM := Lib.hid hm
  have HF := Lib.hid hF
  have HR := Lib.hid hR
  have C1 := Lib.hid (pair_any A B n c m d old new w hn hm h1 h2 ha hb ho hw)
  obtain ⟨hf1, hf2⟩ := hF.le_old
  rw [← hn] at hf1
  rw [← hm] at hf2
  clear hn hm ha hb ho hw hF hR
  go_enter Try.func20, Try.ntmps20
  go_wp2_with fail
  refine C1.out.mono ?_
  rintro e w6 ⟨v, rfl, hown, hb6⟩
  obtain ⟨A6, c6, rfl, hc6, hm6⟩ := own_slice hown
  have HT6 := Lib.hid (At.own hown)
  have HB6 := Lib.hid hb6
  clear hown hb6
  have C2 := Lib.hid (front_any A6 m c6 F (pairs old new) w6 (by rw [pairs_len]; exact HM.out) h2 HT6.out HF.out)
  obtain ⟨l, hl⟩ : ∃ l, l = min n m - F := ⟨_, rfl⟩
  have hmin : min (n : Int) (m : Int) - (F : Int) = (l : Int) := by omega
  rw [← hl] at HR
  have hl1 : l ≤ m := by omega
  have hl2 : l ≤ n := by omega
  clear hl
  go_wp2_with (refine C2.out.mono ?_; rintro e w7 ⟨rfl, rfl⟩)
  clear hmin
  go_loop [20] (fun i => ∃ k : Nat, k ≤ l ∧ i = .int .i64 k ∧ Hid (∀ i, i < k → (pairs old new).getD (m - 1 - i) 0 = (n : Int) - 1 - i)) (fun i => l - (intOf i).toNat)
  case atStart => exact ⟨0, Nat.zero_le _, rfl, Lib.hid fun i h => absurd h (Nat.not_lt_zero _)⟩
  case round =>
    obtain ⟨k, hk, rfl, hx⟩ := hrel
    by_cases hlt : k < l
    · obtain ⟨q, hq⟩ : ∃ q, q = m - 1 - k := ⟨_, rfl⟩
      have hqi : (m : Int) - 1 - (k : Int) = (q : Int) := by omega
      have hqm : q < m := by omega
      obtain ⟨b1, o1, rfl, hb1, hc1⟩ := HT6.out.one (iv_at (pairs old new) q (by rw [pairs_len, ← HM.out]; exact hqm))
      obtain ⟨y, hy⟩ : ∃ y, y = ats (pairs old new) q := ⟨_, rfl⟩
      rw [← hy] at hc1
      have HY := Lib.hid hy
      have HQ := Lib.hid hq
      clear hy hq
      by_cases hyk : y = (n : Int) - 1 - (k : Int)
      · have HE := Lib.hid hyk
        have h2 : (y == (n : Int) - 1 - (k : Int)) = true := beq_iff_eq.2 hyk
        clear hyk
        go_wp2
        go_round
        case rel => exact ⟨k + 1, by omega, by go_num, Lib.hid (fun i hi => by
          by_cases e : i = k
          · subst e; rw [← HQ.out]; exact HY.out.symm.trans HE.out
          · exact hx.out i (by omega))⟩
        case measure => simp [intOf]; omega
      · have HE := Lib.hid hyk
        have h2 : (y == (n : Int) - 1 - (k : Int)) = false := beq_eq_false_iff_ne.2 hyk
        clear hyk
        go_wp2
        go_ret
        have hk2 : k = R := IsBack.uniq ⟨by omega, hx.out, fun _ e => HE.out (HY.out.trans (by rw [HQ.out]; exact e))⟩ HR.out
        exact ⟨by rw [hk2]; rfl, HB6.out⟩
    · obtain rfl : k = l := by omega
      go_wp2
      go_ret
      have hk2 : k = R := IsBack.uniq ⟨Nat.le_refl _, hx.out, fun h => by omega⟩ HR.out
      exact ⟨by rw [hk2]; rfl, HB6.out⟩
set_option maxHeartbeats 1000000 in
theorem ahead_any (A : Option Addr) (n c i : Nat) (l : List Kd) (w : World) (hn : n = l.length) (h1 : n ≤ 100000) (hc : n ≤ c) (hc2 : c ≤ maxLen) (hA : A = none → n = 0 ∧ c = 0) (ha : At w A (kc l)) (hi : i ≤ n) :
    Calls Try.prog 37 #[.slice A n c, .int .i64 i] w fun e w' => e = .returned (.int .i64 (Ma.ahead l i)) ∧ Below w.heap.size w w' := by
  unfold maxLen at hc2
  have HN := Lib.hid hn
  have HA := Lib.hid ha
  clear hn ha
  cases A with
  | none =>
    obtain ⟨rfl, rfl⟩ := hA rfl
    obtain rfl : i = 0 := by omega
    clear hA HA
    go_enter Try.func37, Try.ntmps37
    go_wp2
    refine wp_loop_rounds 1 ?_
    rw [rounds_succ]
    go_wp2
    go_ret
    exact ⟨by simp [Ma.ahead], Below.refl _ _⟩
  | some a =>
    clear hA
    go_enter Try.func37, Try.ntmps37
    go_wp2
    go_loopw [5, 12] (fun s j wr => ∃ k : Nat, k ≤ i ∧ j = .int .i64 k ∧ s = .int .i64 (Ma.ahead l k) ∧ Hid (Below w.heap.size w wr)) (fun _ j _ => i - (intOf j).toNat)
    case atStart => exact ⟨0, Nat.zero_le _, rfl, by simp [Ma.ahead], Below.refl _ _⟩
    case round =>
      obtain ⟨k, hk, rfl, rfl, hbel⟩ := hrel
      by_cases hlt : k < i
      · have hkl : k < l.length := by have := HN.out; omega
        obtain ⟨b1, o1, hb0, hb1, hc1, hc2⟩ := at_kid HA.out hkl
        injection hb0 with hb0
        subst hb0
        have hd1 := (below_cells hbel.out).1 b1 (o1 + k * 2) hb1
        have hd2 := (below_cells hbel.out).1 b1 (o1 + k * 2 + 1) hb1
        rw [hc1] at hd1
        rw [hc2] at hd2
        have hsc := ahead_succ l k hkl
        have hal : Ma.ahead l k ≤ k := by rw [ahead_cnt]; exact cnt_le _ _ _
        have hsz := hbel.out.size
        generalize g l k = x at *
        obtain ⟨z, s⟩ := x
        clear hc1 hc2
        by_cases hx : s = ByteArray.empty
        · rw [if_pos hx] at hsc
          have HS := Lib.hid hsc
          have hsE : s.toList.isEmpty = true := by rw [hx, emp_toList]; rfl
          clear hsc hx
          go_wp2
          go_roundw
          case rel => exact ⟨k + 1, by omega, by go_num, by rw [HS.out]; go_num, hbel.out.alloc hsz _⟩
          case measure => simp [intOf]; omega
        · rw [if_neg hx] at hsc
          have HS := Lib.hid hsc
          have hsE : s.toList.isEmpty = false := str_ne hx
          clear hsc hx
          go_wp2
          go_roundw
          case rel => exact ⟨k + 1, by omega, by go_num, by rw [HS.out]; rfl, hbel.out.alloc hsz _⟩
          case measure => simp [intOf]; omega
      · obtain rfl : k = i := by omega
        go_wp2
        go_ret
        exact ⟨rfl, hbel.out⟩
end Go.Proofs.Ytaojjcnghkjgfaa
