/- Contract of lis.Others; the walks of LisRows and LisLongest. -/
import Derived.Test.YtnjmjgpemnodcaaLiW6
namespace Go.Proofs.Ytnjmjgpemnodcaa
open Go.RowKit Li
theorem few_at {w : World} {A : Option Addr} {l : List Int} {n m : Nat} (h : At w A (iv l)) (hn : n = l.length) : At w A (iv (l.take m)) ∧ min n m = (l.take m).length := by
  refine ⟨by rw [iv_take]; exact h.take m, by rw [List.length_take]; omega⟩
set_option maxHeartbeats 1000000 in
theorem lisRows_any (A : Option Addr) (n c : Nat) (l : List Int) (w : World) (hn : n = l.length) (hb : n ≤ maxLen) (hc : n ≤ c) (hc2 : c ≤ maxLen) (ha : At w A (iv l)) (hA : A = none → n = 0 ∧ c = 0) :
    Calls Try.prog 3 #[.slice A n c] w fun e w' => e = .returned (.bool true) ∧ Below w.heap.size w w' := by
  have HF := fun W => few_any A n c 60 60 W rfl hb hc hc2 hA (by omega)
  obtain ⟨ha2, hn2⟩ := few_at (m := 60) ha hn
  have HA := Lib.hid ha2
  have hm1 : min n 60 ≤ 1000 := by omega
  generalize l.take 60 = L at HA hn2
  generalize min n 60 = N at HF hn2 hm1
  have HN := Lib.hid hn2
  have h1 := fun W (hb : Below w.heap.size w W) => of_any A N c L W HN.out hm1 (HA.out.below hb)
  have h2 := fun W (hb : Below w.heap.size w W) => rof_any A N c L W HN.out hm1 (HA.out.below hb)
  have h3 := fun W (hb : Below w.heap.size w W) => len_any A N c L W HN.out hm1 (HA.out.below hb)
  have h4 := fun W (hb : Below w.heap.size w W) => rlen_any A N c L W HN.out hm1 (HA.out.below hb)
  clear hn hb hc hc2 ha hA ha2 hn2
  go_enter Try.func3, Try.ntmps3
  go_wp2_with (first
  | (go_at_call 7; (with_reducible refine (awake_any _).mono ?_); rintro e w1 ⟨rfl, hb1⟩; have HB1 := Lib.hid hb1; clear hb1)
  | (go_at_call 8; (with_reducible refine (HF _).mono ?_); rintro e w1' ⟨rfl, rfl⟩)
  | (go_at_call 10; (with_reducible refine (h1 _ HB1.out).mono ?_); rintro e w2 ⟨v, r, rfl, hr, hown, hb2⟩; obtain ⟨A2, c2, rfl, _, _⟩ := own_slice hown; have HT2 := Lib.hid (At.own hown); have HB2 := Lib.hid (HB1.out.trans (hb2.mono HB1.out.size)); clear hown hb2)
  | (go_at_call 11; ((with_reducible refine (h2 _ HB2.out).mono ?_); rintro e w3 ⟨v, s, rfl, hs, hown, hb3⟩; have hrs := hr.out.uniq hs.out; rw [← hrs] at hown; clear hrs hs; obtain ⟨A3, c3, rfl, _, _⟩ := own_slice hown; have HT3 := Lib.hid (At.own hown); have HT23 := Lib.hid (HT2.out.below hb3); have HB3 := Lib.hid (HB2.out.trans (hb3.mono HB2.out.size)); have hrl : r.length ≤ 1000 := by (have := hr.out.1; have := top_le (ats L) N; omega)); clear hown hb3)
  | (go_at_call 9; (with_reducible refine (numbers_any A2 A3 _ c2 _ c3 r r _ rfl rfl (by omega) (by omega) HT23.out HT3.out).mono ?_); rintro e w4 ⟨rfl, q, rfl⟩; have HB4 := Lib.hid (drewN_below HB3.out q))
  | (go_at_call 12; (with_reducible refine (h3 _ HB4.out).mono ?_); rintro e w5 ⟨rfl, hb5⟩; have HB5 := Lib.hid (HB4.out.trans (hb5.mono HB4.out.size)); clear hb5)
  | (go_at_call 13; (with_reducible refine (h4 _ HB5.out).mono ?_); rintro e w6 ⟨rfl, hb6⟩; have HB6 := Lib.hid (HB5.out.trans (hb6.mono HB5.out.size)); clear hb6))
  go_ret
  exact ⟨by simp, HB6.out⟩
theorem chain_next {L : Nat → Int} {n p x : Nat} {at' : Int} (h : (at' = -1 ∧ n = 0) ∨ ∃ a : Nat, at' = (a : Int) ∧ n ≤ N L a ∧ a < x ∧ L a < L x) (hp : x < p) : (((x : Nat) : Int) = -1 ∧ n + 1 = 0) ∨ ∃ a : Nat, ((x : Nat) : Int) = (a : Int) ∧ n + 1 ≤ N L a ∧ a < p := by
  refine .inr ⟨x, rfl, ?_, hp⟩
  rcases h with ⟨_, h⟩ | ⟨a, _, h1, h2, h3⟩
  · have := N_pos L x; omega
  · have := N_lt L h2 h3; omega
end Go.Proofs.Ytnjmjgpemnodcaa
