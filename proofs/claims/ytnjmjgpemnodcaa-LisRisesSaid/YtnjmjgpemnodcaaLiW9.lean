/- The walk of LisRises. -/
import Derived.Test.YtnjmjgpemnodcaaLiW8
namespace Go.Proofs.Ytnjmjgpemnodcaa
open Go.RowKit Li
set_option maxHeartbeats 4000000 in
set_option maxRecDepth 100000 in
theorem lisRises_any (A : Option Addr) (n c : Nat) (l : List Int) (w : World) (hn : n = l.length) (hb : n ≤ maxLen) (hc : n ≤ c) (hc2 : c ≤ maxLen) (ha : At w A (iv l)) (hA : A = none → n = 0 ∧ c = 0) :
    Calls Try.prog 4 #[.slice A n c] w fun e w' => e = .returned (.bool true) ∧ Below w.heap.size w w' := by
  have HF := fun W => few_any A n c 200 200 W rfl hb hc hc2 hA (by omega)
  obtain ⟨ha2, hn2⟩ := few_at (m := 200) ha hn
  have HA := Lib.hid ha2
  have hm1 : min n 200 ≤ 1000 := by omega
  generalize l.take 200 = L at HA hn2
  generalize min n 200 = N at HF hn2 hm1
  have HN := Lib.hid hn2
  have h1 := fun W (hb : Below w.heap.size w W) => of_any A N c L W HN.out hm1 (HA.out.below hb)
  clear hn hb hc hc2 ha hA ha2 hn2
  go_enter Try.func4, Try.ntmps4
  go_wp2_with (first
  | (go_at_call 7; (with_reducible refine (awake_any _).mono ?_); rintro e w1 ⟨rfl, hb1⟩; have HB1 := Lib.hid hb1; clear hb1)
  | (go_at_call 8; (with_reducible refine (HF _).mono ?_); rintro e w1' ⟨rfl, rfl⟩)
  | (go_at_call 10; (with_reducible refine (h1 _ HB1.out).mono ?_); rintro e w2 ⟨v, r, rfl, hr, hown, hb2⟩; obtain ⟨A2, c2, rfl, _, _⟩ := own_slice hown; have HT2 := Lib.hid (At.own hown); have HB2 := Lib.hid (HB1.out.trans (hb2.mono HB1.out.size)); clear hown hb2))
  obtain ⟨m, hm⟩ : ∃ m, m = r.length := ⟨_, rfl⟩
  have HM := Lib.hid hm
  rw [← hm]
  have hmN : m ≤ N := by have := hr.out.1; have := top_le (ats L) N; omega
  clear hm
  go_loopw [4] (fun i wr => ∃ k q : Nat, 1 ≤ k ∧ i = .int .i64 k ∧ (k ≤ m ∨ k = 1) ∧ wr = w2.drewN q) (fun i _ => (m + 1) - (intOf i).toNat)
  case atStart => exact ⟨1, 0, Nat.le_refl _, rfl, .inr rfl, rfl⟩
  case round =>
    obtain ⟨k, q, hk, rfl, hkm, rfl⟩ := hrel
    by_cases hlt : k < m
    · obtain ⟨p, hp⟩ : ∃ p, k = p + 1 := ⟨k - 1, by omega⟩
      have hpp : (k : Int) - 1 = (p : Int) := by omega
      have hpr : p < r.length := by have := HM.out; omega
      have hkr : k < r.length := by have := HM.out; omega
      have hpm : p < m := by omega
      have hri := hr.out.rises p (by omega)
      rw [← hp] at hri
      have hl1 := hr.out.lt k hkr
      have hl2 := hr.out.lt p hpr
      obtain ⟨b1, o1, rfl, hb1, hc1⟩ := HT2.out.one (nv_at r k hkr)
      obtain ⟨b2, o2, hA2, hb2, hc2⟩ := HT2.out.one (nv_at r p hpr)
      injection hA2 with hA2
      injection hA2 with hA21 hA22
      subst hA21 hA22
      generalize r.getD k 0 = y at hri hl1 hc1
      generalize r.getD p 0 = x at hri hl2 hc2
      obtain ⟨hxy, hLxy⟩ := hri
      obtain ⟨b3, o3, rfl, hb3, hc3⟩ := HA.out.one (iv_at L y (by have := HN.out; omega))
      obtain ⟨b4, o4, hA4, hb4, hc4⟩ := HA.out.one (iv_at L x (by have := HN.out; omega))
      injection hA4 with hA4
      injection hA4 with hA41 hA42
      subst hA41 hA42
      have hd3 := (below_cells HB2.out).1 b3 (o3 + y) hb3
      rw [hc3] at hd3
      have hd4 := (below_cells HB2.out).1 b3 (o3 + x) hb3
      rw [hc4] at hd4
      clear hc3 hc4 hp
      have g1 : decide (y ≤ x) = false := decide_eq_false (by omega)
      have g2 : decide (N ≤ y) = false := decide_eq_false (by omega)
      have g3 : decide (ats L y ≤ ats L x) = false := decide_eq_false (by omega)
      have g1' : decide ((y : Int) ≤ (x : Int)) = false := decide_eq_false (by omega)
      have g2' : decide ((N : Int) ≤ (y : Int)) = false := decide_eq_false (by omega)
      go_wp2
      go_big_quiet (fail)
      go_wp2
      go_roundw
      case rel => exact ⟨k + 1, _, by omega, by go_num, .inl (by omega), rfl⟩
      case measure => simp [intOf]; omega
    · by_cases hm0 : m = 0
      · have hN0 : N = 0 := top_zero (ats L) N (by have := hr.out.1; have := HM.out; omega)
        subst hm0 hN0
        clear hlt hkm
        go_wp2
        go_ret
        exact ⟨rfl, drewN_below HB2.out q⟩
      · have hr0 : 0 < r.length := by have := HM.out; omega
        have hl0 := hr.out.lt 0 hr0
        obtain ⟨b1, o1, rfl, hb1, hc1⟩ := HT2.out.one (nv_at r 0 hr0)
        generalize r.getD 0 0 = y at hl0 hc1
        rw [Nat.add_zero] at hc1
        have hy0 : (0 : Int) ≤ (y : Int) := by omega
        have hyN : (y : Int) < (N : Int) := by omega
        have hmp : 0 < m := by omega
        have g1 : ((m : Int) == 0) = false := by rw [beq_eq_false_iff_ne]; omega
        go_wp2
        go_ret
        exact ⟨rfl, drewN_below HB2.out q⟩
end Go.Proofs.Ytnjmjgpemnodcaa
