/- Contracts of layer 1's quotients: floor, Div, Mod, and the document's own division. -/
import Derived.Test.YtdaohjimfgdmbaaSatO2
import Derived.LoopTactic
import Derived.Outline
import Derived.Lib.Hide
namespace Go.Proofs.Ytdaohjimfgdmbaa
open Go.RowKit M
theorem mul_any (a b : Int) (w : World) :
    Calls Try.prog 64 #[.int .i64 a, .int .i64 b] w fun e w' => e = .returned (.int .i64 (st (st a * st b))) ∧ w = w' := by
  obtain ⟨m1, m2⟩ := mul_bd _ _ (st_lo a) (st_hi a) (st_lo b) (st_hi b)
  go_enter Try.func64, Try.ntmps64
  go_wp2_with (go_at_call 65; refine (sat_any _ _).mono ?_; rintro e w' ⟨rfl, rfl⟩)
  go_ret
  exact ⟨rfl, rfl⟩
theorem rmul_any (a b : Int) (w : World) :
    Calls Try.prog 53 #[.int .i64 a, .int .i64 b] w fun e w' => e = .returned (.int .i64 (st (st a * st b))) ∧ w = w' := by
  obtain ⟨m1, m2⟩ := mul_bd _ _ (st_lo a) (st_hi a) (st_lo b) (st_hi b)
  go_enter Try.func53, Try.ntmps53
  go_wp2_with (go_at_call 60; refine (rsat_any _ _).mono ?_; rintro e w' ⟨rfl, rfl⟩)
  go_ret
  exact ⟨rfl, rfl⟩
theorem ret_ints {k : IntKind} {a b c d : Int} (h : a = b) (h' : c = d) : Ending.returned (.tuple #[.int k a, .int k c]) = .returned (.tuple #[.int k b, .int k d]) := by rw [h, h']
theorem floor_any (x y : Int) (w : World) (x1 : -2147483648 ≤ x) (x2 : x ≤ 2147483647) (y1 : -2147483648 ≤ y) (y2 : y ≤ 2147483647) (hy : y ≠ 0) :
    Calls Try.prog 68 #[.int .i64 x, .int .i64 y] w fun e w' => e = .returned (.int .i64 (flo x y)) ∧ w = w' := by
  obtain ⟨q1, q2⟩ := tdiv_bd x y x1 x2
  have hy' : (y == 0) = false := by simpa using hy
  by_cases c2 : x < 0
  · by_cases c1 : x.tmod y = 0
    · have c1' : (x.tmod y == 0) = true := by simpa using c1
      have c1'' : (x.tmod y != 0) = false := by simpa using c1
      have HC := Lib.hid c1
      clear c1
      go_enter Try.func68, Try.ntmps68
      go_wp2
      go_ret
      exact ⟨ret_int (flo_zero x y HC.out), rfl⟩
    · have c1' : (x.tmod y == 0) = false := by simpa using c1
      have c1'' : (x.tmod y != 0) = true := by simpa using c1
      by_cases c3 : y < 0
      all_goals
        go_enter Try.func68, Try.ntmps68
        go_wp2
        go_ret
        exact ⟨ret_int (by first | exact flo_same x y (by omega) | exact flo_down x y c1 (by omega)), rfl⟩
  · have e1 : x.tdiv y = x / y := tq_nonneg x y (by omega)
    have e2 : x.tmod y = x % y := tr_nonneg x y (by omega)
    have z1 : -2147483648 ≤ x / y := by rw [← e1]; exact q1
    have z2 : x / y ≤ 2147483648 := by rw [← e1]; exact q2
    have H1 := Lib.hid e1
    have H2 := Lib.hid e2
    clear e1 e2
    by_cases c1 : x % y = 0
    · have c1' : (x % y == 0) = true := by simpa using c1
      have c1'' : (x % y != 0) = false := by simpa using c1
      have HC := Lib.hid c1
      clear c1
      by_cases c3 : 1 ≤ y
      all_goals
        go_enter Try.func68, Try.ntmps68
        go_wp2
        go_ret
        have H3 := flo_zero x y (by rw [H2.out, HC.out])
        exact ⟨ret_int (by first | exact H3 | (rw [← H1.out]; exact H3)), rfl⟩
    · have c1' : (x % y == 0) = false := by simpa using c1
      have c1'' : (x % y != 0) = true := by simpa using c1
      have HC := Lib.hid c1
      clear c1
      by_cases c3 : y < 0
      · go_enter Try.func68, Try.ntmps68
        go_wp2
        go_ret
        exact ⟨ret_int (flo_down x y (by rw [H2.out]; exact HC.out) (by omega)), rfl⟩
      · have c4 : 1 ≤ y := by omega
        go_enter Try.func68, Try.ntmps68
        go_wp2
        go_ret
        have H3 := flo_same x y (by omega)
        exact ⟨ret_int (by first | exact H3 | (rw [← H1.out]; exact H3)), rfl⟩
theorem div_any (a b : Int) (w : World) :
    Calls Try.prog 63 #[.int .i64 a, .int .i64 b] w fun e w' => e = .returned (.int .i64 (if st b = 0 then 0 else st (flo (st a) (st b)))) ∧ w = w' := by
  have a1 := st_lo a; have a2 := st_hi a; have b1 := st_lo b; have b2 := st_hi b
  by_cases hb : st b = 0
  · rw [if_pos hb]
    have h' : (st b == 0) = true := by simpa using hb
    clear hb
    go_enter Try.func63, Try.ntmps63
    go_wp2_with (go_at_call 65; refine (sat_any _ _).mono ?_; rintro e w' ⟨rfl, rfl⟩)
    go_ret
    exact ⟨rfl, rfl⟩
  · rw [if_neg hb]
    have h' : (st b == 0) = false := by simpa using hb
    have HB := Lib.hid hb
    clear hb
    go_enter Try.func63, Try.ntmps63
    go_wp2_with (first | (go_at_call 65; refine (sat_any _ _).mono ?_; rintro e w' ⟨rfl, rfl⟩) | (go_at_call 68; refine (floor_any _ _ _ a1 a2 b1 b2 HB.out).mono ?_; rintro e w' ⟨rfl, rfl⟩))
    go_ret
    exact ⟨rfl, rfl⟩
/-- the tests of the slow way's loop at q, as Bools: what the walk asks. -/
theorem rdiv_any (a b : Int) (w : World) :
    Calls Try.prog 52 #[.int .i64 a, .int .i64 b] w fun e w' => e = .returned (.tuple #[.int .i64 (if st b = 0 then 0 else st (flo (st a) (st b))), .int .i64 (if st b = 0 then 0 else st a - flo (st a) (st b) * st b)]) ∧ w = w' := by
  have a1 := st_lo a; have a2 := st_hi a; have b1 := st_lo b; have b2 := st_hi b
  by_cases hb : st b = 0
  · rw [if_pos hb, if_pos hb]
    have h' : (st b == 0) = true := by simpa using hb
    clear hb
    go_enter Try.func52, Try.ntmps52
    go_wp2_with (go_at_call 60; refine (rsat_any _ _).mono ?_; rintro e w' ⟨rfl, rfl⟩)
    go_ret2
    exact ⟨rfl, rfl⟩
  · rw [if_neg hb, if_neg hb]
    have h' : (st b == 0) = false := by simpa using hb
    have HB := Lib.hid hb
    obtain ⟨f1, f2⟩ := flo_bd (st a) (st b) a1 a2
    obtain ⟨q1, q2⟩ := tdiv_bd (st a) (st b) a1 a2
    have l1 := flo_le (st a) (st b)
    have l2 := flo_ge (st a) (st b)
    clear hb
    go_enter Try.func52, Try.ntmps52
    go_wp2_with (go_at_call 60; refine (rsat_any _ _).mono ?_; rintro e w' ⟨rfl, rfl⟩)
    go_loop [8] (fun q => ∃ n : Int, flo (st a) (st b) ≤ n ∧ n ≤ (st a).tdiv (st b) ∧ q = .int .i64 n) (fun q => (intOf q - flo (st a) (st b)).toNat)
    case atStart => exact ⟨_, l1, by omega, rfl⟩
    case round =>
      obtain ⟨n, hn1, hn2, rfl⟩ := hrel
      obtain ⟨m1, m2⟩ := prod_bd n (st b) (by omega) (by omega) b1 b2
      by_cases hn : n = flo (st a) (st b)
      · have hs := flo_stop (st a) (st b) HB.out
        unfold more at hs
        rw [← hn] at hs
        obtain ⟨g1, g2⟩ : (0 < (st b) → n * (st b) ≤ (st a)) ∧ ((st b) < 0 → (st a) ≤ n * (st b)) := ⟨fun _ => by omega, fun _ => by omega⟩
        clear hs
        have HN := Lib.hid hn
        clear hn
        by_cases c : 0 < (st b)
        · have g3 := g1 c
          clear g1 g2
          go_wp2_with (go_at_call 60; refine (rsat_any _ _).mono ?_; rintro e w' ⟨rfl, rfl⟩)
          all_goals
            go_ret2
            exact ⟨ret_ints (by rw [HN.out]) (by rw [HN.out]), rfl⟩
        · have c' : (st b) < 0 := by have := HB.out; omega
          have g3 := g2 c'
          clear g1 g2
          go_wp2_with (go_at_call 60; refine (rsat_any _ _).mono ?_; rintro e w' ⟨rfl, rfl⟩)
          all_goals
            go_ret2
            exact ⟨ret_ints (by rw [HN.out]) (by rw [HN.out]), rfl⟩
      · have hq : n = (st a).tdiv (st b) := by omega
        obtain ⟨hs, h2⟩ := flo_step (st a) (st b) HB.out (by omega)
        unfold more at hs
        rw [← hq] at hs
        obtain ⟨g1, g2⟩ : (0 < (st b) → (st a) < n * (st b)) ∧ ((st b) < 0 → n * (st b) < (st a)) := ⟨fun _ => by omega, fun _ => by omega⟩
        clear hs
        have H2 := Lib.hid h2
        have HQ := Lib.hid hq
        have HN := Lib.hid hn
        clear hn hq h2
        by_cases c : 0 < (st b)
        · have g3 := g1 c
          clear g1 g2
          go_wp2
          all_goals
            go_round
            case rel => exact ⟨n - 1, by have := H2.out; have := HQ.out; omega, by omega, rfl⟩
            case measure => have := HN.out; simp [intOf]; omega
        · have c' : (st b) < 0 := by have := HB.out; omega
          have g3 := g2 c'
          clear g1 g2
          go_wp2
          all_goals
            go_round
            case rel => exact ⟨n - 1, by have := H2.out; have := HQ.out; omega, by omega, rfl⟩
            case measure => have := HN.out; simp [intOf]; omega
end Go.Proofs.Ytdaohjimfgdmbaa
