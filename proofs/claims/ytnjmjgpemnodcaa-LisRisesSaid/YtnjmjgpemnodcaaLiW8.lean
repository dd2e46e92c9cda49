/- The walks of LisLongest and LisRises. -/
import Derived.Test.YtnjmjgpemnodcaaLiW7
namespace Go.Proofs.Ytnjmjgpemnodcaa
open Go.RowKit Li
def Pick (l : List Int) (at' : Int) (m : Nat) : Prop := (at' = -1 ∧ m = 0) ∨ ∃ a : Nat, at' = (a : Int) ∧ a < l.length ∧ m ≤ N (ats l) a
theorem Pick.next {l : List Int} {at' : Int} {m p : Nat} (h : Pick l at' m) (hp : p < l.length) (hx : at' = -1 ∨ ∃ a : Nat, at' = (a : Int) ∧ a < p ∧ ats l a < ats l p) : Pick l (p : Int) (m + 1) := by
  refine .inr ⟨p, rfl, hp, ?_⟩
  rcases h with ⟨h1, h2⟩ | ⟨a, h1, h2, h3⟩
  · have := N_pos (ats l) p; omega
  · rcases hx with hx | ⟨b, hb, hb1, hb2⟩
    · omega
    · have : a = b := by omega
      subst this
      have := N_lt (ats l) hb1 hb2; omega
theorem Pick.le {l : List Int} {at' : Int} {m : Nat} (h : Pick l at' m) : m ≤ top (ats l) l.length := by
  rcases h with ⟨_, h2⟩ | ⟨a, _, h2, h3⟩
  · omega
  · have := top_ge (ats l) l.length a h2; omega
set_option maxHeartbeats 4000000 in
set_option maxRecDepth 100000 in
theorem lisLongest_any (A B : Option Addr) (n c n2 c2 : Nat) (l ps : List Int) (w : World) (hn : n = l.length) (hb : n ≤ maxLen) (hc : n ≤ c) (hc2 : c ≤ maxLen) (ha : At w A (iv l)) (hA : A = none → n = 0 ∧ c = 0)
    (hn' : n2 = ps.length) (hb' : n2 ≤ maxLen) (hc' : n2 ≤ c2) (hc2' : c2 ≤ maxLen) (ha' : At w B (iv ps)) (hA' : B = none → n2 = 0 ∧ c2 = 0) :
    Calls Try.prog 5 #[.slice A n c, .slice B n2 c2] w fun e w' => e = .returned (.bool true) ∧ Below w.heap.size w w' := by
  have HF := fun W => few_any A n c 100 100 W rfl hb hc hc2 hA (by omega)
  have HF2 := fun W => few_any B n2 c2 100 100 W rfl hb' hc' hc2' hA' (by omega)
  obtain ⟨ha2, hn2⟩ := few_at (m := 100) ha hn
  obtain ⟨ha2', hn2'⟩ := few_at (m := 100) ha' hn'
  have HA := Lib.hid ha2
  have HP := Lib.hid ha2'
  have hm1 : min n 100 ≤ 100 := by omega
  have hm2 : min n2 100 ≤ 100 := by omega
  generalize l.take 100 = L at HA hn2
  generalize min n 100 = N at HF hn2 hm1
  generalize ps.take 100 = PS at HP hn2'
  generalize min n2 100 = M at HF2 hn2' hm2
  have HN := Lib.hid hn2
  have HM := Lib.hid hn2'
  have h3 := fun W (hb : Below w.heap.size w W) => len_any A N c L W HN.out (by omega) (HA.out.below hb)
  clear hn hb hc hc2 ha hA ha2 hn2 hn' hb' hc' hc2' ha' hA' ha2' hn2'
  go_enter Try.func5, Try.ntmps5
  go_wp2_with (first
  | (go_at_call 7; (with_reducible refine (awake_any _).mono ?_); rintro e w1 ⟨rfl, hb1⟩; have HB := Lib.hid hb1; clear hb1)
  | (go_at_call 8; first | ((with_reducible refine (HF _).mono ?_); rintro e w1' ⟨rfl, rfl⟩) | ((with_reducible refine (HF2 _).mono ?_); rintro e w1' ⟨rfl, rfl⟩)))
  go_loopw [5, 6, 16] (fun a b i wr => ∃ (k : Nat) (atv : Int) (m q : Nat), k ≤ M ∧ i = .int .i64 k ∧ a = .int .i64 atv ∧ b = .int .i64 m ∧ Hid (Pick L atv m) ∧ m ≤ k ∧ wr = w1.drewN q) (fun _ _ i _ => M - (intOf i).toNat)
  case atStart => exact ⟨0, -1, 0, 0, Nat.zero_le _, rfl, rfl, rfl, .inl ⟨rfl, rfl⟩, Nat.le_refl _, rfl⟩
  case round =>
    obtain ⟨k, atv, m, q, hk, rfl, rfl, rfl, hpick, hmk, rfl⟩ := hrel
    by_cases hlt : k < M
    · have hk' : k < PS.length := by have := HM.out; omega
      obtain ⟨b1, o1, rfl, hb1, hc1⟩ := HP.out.one (iv_at PS k hk')
      have hd1 := (below_cells HB.out).1 b1 (o1 + k) hb1
      rw [hc1] at hd1
      have HC1 := Lib.hid hc1
      clear hc1
      generalize ats PS k = z at hd1 HC1
      by_cases hz0 : z < 0
      · have hz0b : decide (z < 0) = true := decide_eq_true hz0
        go_wp2
        go_big_quiet (fail)
        go_wp2
        go_roundw
        case rel => exact ⟨k + 1, atv, m, _, by omega, by go_num, rfl, rfl, hpick, by omega, rfl⟩
        case measure => simp [intOf]; omega
      · have hz0b : decide (z < 0) = false := decide_eq_false hz0
        by_cases hzn : (N : Int) ≤ z
        · have hznb : decide ((N : Int) ≤ z) = true := decide_eq_true hzn
          go_wp2
          go_big_quiet (fail)
          go_wp2
          go_roundw
          case rel => exact ⟨k + 1, atv, m, _, by omega, by go_num, rfl, rfl, hpick, by omega, rfl⟩
          case measure => simp [intOf]; omega
        · clear hz0b
          obtain ⟨p, rfl⟩ : ∃ p : Nat, z = (p : Int) := ⟨z.toNat, by omega⟩
          have hz0b : decide ((p : Int) < 0) = false := decide_eq_false hz0
          have hznb : decide (N ≤ p) = false := decide_eq_false (by omega)
          have hpn : p < N := by omega
          have hpL : p < L.length := by have := HN.out; omega
          obtain ⟨b5, o5, hA5, hb5, hc5⟩ := HA.out.one (iv_at L p hpL)
          subst hA5
          have hd5 := (below_cells HB.out).1 b5 (o5 + p) hb5
          rw [hc5] at hd5
          have HC5 := Lib.hid hc5
          clear hc5
          rcases hpick.out with ⟨ha1, _⟩ | ⟨a, ha1, ha2, _⟩
          · subst ha1
            have PK := Lib.hid (hpick.out.next hpL (.inl rfl))
            go_wp2
            go_big_quiet (fail)
            go_wp2
            go_roundw
            case rel => exact ⟨k + 1, (p : Int), m + 1, _, by omega, by go_num, rfl, by go_num, PK, by omega, rfl⟩
            case measure => simp [intOf]; omega
          · subst ha1
            have ha0 : ¬ (a : Int) < 0 := by omega
            have ha0' : (0 : Int) ≤ (a : Int) := by omega
            have ha0b : decide ((0 : Int) ≤ (a : Int)) = true := decide_eq_true ha0'
            have haN : a < N := by have := HN.out; omega
            obtain ⟨b6, o6, hA6, hb6, hc6⟩ := HA.out.one (iv_at L a ha2)
            injection hA6 with hA6
            injection hA6 with hA61 hA62
            subst hA61 hA62
            have hd6 := (below_cells HB.out).1 b5 (o5 + a) hb5
            rw [hc6] at hd6
            have HC6 := Lib.hid hc6
            clear hc6
            by_cases hpa : (p : Int) ≤ (a : Int)
            · have hpab : decide (p ≤ a) = true := decide_eq_true (by omega)
              go_wp2
              go_big_quiet (fail)
              go_wp2
              go_roundw
              case rel => exact ⟨k + 1, (a : Int), m, _, by omega, by go_num, rfl, rfl, hpick, by omega, rfl⟩
              case measure => simp [intOf]; omega
            · have hpab : decide (p ≤ a) = false := decide_eq_false (by omega)
              by_cases hle : ats L p ≤ ats L a
              · have hleb : decide (ats L p ≤ ats L a) = true := decide_eq_true hle
                go_wp2
                go_big_quiet (fail)
                go_wp2
                go_roundw
                case rel => exact ⟨k + 1, (a : Int), m, _, by omega, by go_num, rfl, rfl, hpick, by omega, rfl⟩
                case measure => simp [intOf]; omega
              · have hleb : decide (ats L p ≤ ats L a) = false := decide_eq_false hle
                have PK := Lib.hid (hpick.out.next hpL (.inr ⟨a, rfl, by omega, by omega⟩))
                go_wp2
                go_big_quiet (fail)
                go_wp2
                go_roundw
                case rel => exact ⟨k + 1, (p : Int), m + 1, _, by omega, by go_num, rfl, by go_num, PK, by omega, rfl⟩
                case measure => simp [intOf]; omega
    · obtain rfl : k = M := by omega
      have hle : m ≤ top (ats L) N := by have := hpick.out.le; rw [← HN.out] at this; exact this
      have HB4 := Lib.hid (drewN_below HB.out q)
      go_wp2_with (first | (go_at_call 12; (with_reducible refine (h3 _ HB4.out).mono ?_); rintro e w5 ⟨rfl, hb5⟩; have HB5 := Lib.hid (HB4.out.trans (hb5.mono HB4.out.size)); clear hb5))
      go_ret
      exact ⟨ret_bool' (by simp <;> omega), HB5.out⟩
end Go.Proofs.Ytnjmjgpemnodcaa
