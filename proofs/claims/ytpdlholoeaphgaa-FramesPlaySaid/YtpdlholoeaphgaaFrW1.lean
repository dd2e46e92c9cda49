/- A queue's rows in memory; contracts of toToken and of the library's search by tokens. -/
import Derived.Test.YtpdlholoeaphgaaFrQ
import Derived.Test.YtpdlholoeaphgaaCmp
import Derived.Test.YtpdlholoeaphgaaOpenG
namespace Go.Proofs.Ytpdlholoeaphgaa
open Go.RowKit Fr
theorem Fr.below_join {a b c : World} (h : Below a.heap.size a b) (k : Below b.heap.size b c) : Below a.heap.size a c := h.trans (k.mono h.size)
theorem Fr.below_drew1 (W : World) : Below W.heap.size W W.drew := ⟨rfl, rfl, rfl, Nat.le_refl _, fun _ _ => rfl⟩
instance : Inhabited Wt := ⟨⟨0, 0, 0⟩⟩
/-- the element at a place. -/
def Fr.el (xs : List Wt) (k : Nat) : Wt := xs[k]?.getD ⟨0, 0, 0⟩
theorem Fr.el_at {xs : List Wt} {k : Nat} (h : k < xs.length) : xs[k]? = some (el xs k) := by simp [el, h]
theorem Fr.el_of {xs : List Wt} {k : Nat} {t : Wt} (h : xs[k]? = some t) : el xs k = t := by simp [el, h]
theorem rowv_len (l : Int) (xs : List Wt) : (rowv l xs).length = xs.length * 4 := Op.flat_len (wc l) 4 (wc_len l) xs
theorem rowv_one (l : Int) (xs : List Wt) : ∀ v ∈ rowv l xs, v.oneCell' = true := by
  intro v hv
  simp only [rowv, List.mem_flatMap] at hv
  obtain ⟨t, _, h⟩ := hv
  simp only [wc, List.mem_cons, List.not_mem_nil, or_false] at h
  rcases h with rfl | rfl | rfl | rfl <;> rfl
theorem rowv_at (l : Int) (xs : List Wt) (k : Nat) (h : k < xs.length) (q : Nat) (hq : q < 4) : (rowv l xs)[k * 4 + q]? = (wc l (el xs k))[q]? := by
  have h1 := Op.flat_at (wc l) 4 (wc_len l) xs k h q hq
  have h2 : el xs k = xs[k] := el_of (by simp [h])
  rw [h2]
  exact h1
theorem rowv_app (l : Int) (a b : List Wt) : rowv l (a ++ b) = rowv l a ++ rowv l b := by simp [rowv]
theorem rowv_snoc (l : Int) (a : List Wt) (t : Wt) : rowv l (a ++ [t]) = rowv l a ++ wc l t := by simp [rowv]
theorem rowv_take (l : Int) : ∀ (xs : List Wt) (k : Nat), rowv l (xs.take k) = (rowv l xs).take (k * 4)
  | [], k => by simp [rowv]
  | x :: xs, 0 => by simp [rowv]
  | x :: xs, k + 1 => by
    have ih := rowv_take l xs k
    rw [List.take_succ_cons, show (k + 1) * 4 = 4 + k * 4 by omega]
    show wc l x ++ rowv l (xs.take k) = (wc l x ++ rowv l xs).take (4 + k * 4)
    rw [ih, List.take_append, List.take_of_length_le (l := wc l x) (by rw [wc_len]; omega), wc_len, Nat.add_sub_cancel_left]
theorem rowv_drop (l : Int) : ∀ (xs : List Wt) (k : Nat), rowv l (xs.drop k) = (rowv l xs).drop (k * 4)
  | [], k => by simp [rowv]
  | x :: xs, 0 => by simp [rowv]
  | x :: xs, k + 1 => by
    have ih := rowv_drop l xs k
    rw [List.drop_succ_cons, show (k + 1) * 4 = 4 + k * 4 by omega]
    show _ = (wc l x ++ rowv l xs).drop (4 + k * 4)
    rw [ih, List.drop_append, List.drop_of_length_le (l := wc l x) (by rw [wc_len]; omega), wc_len, Nat.add_sub_cancel_left, List.nil_append]
/-- the four cells of an element where a slice begins. -/
theorem at_wt {w : World} {A : Option Addr} {l : Int} {L : List Wt} (h : At w A (rowv l L)) {k : Nat} (hk : k < L.length) :
    ∃ b off, A = some ⟨b, off, none⟩ ∧ b < w.heap.size ∧ w.cell? ⟨b, off + k * 4, none⟩ = some (.int .i64 (el L k).tok) ∧ w.cell? ⟨b, off + k * 4 + 1, none⟩ = some (.int .i64 l) ∧ w.cell? ⟨b, off + k * 4 + 2, none⟩ = some (.int .i64 (el L k).k) ∧ w.cell? ⟨b, off + k * 4 + 3, none⟩ = some (.int .i64 (el L k).n) := by
  have h0 := rowv_at l L k hk 0 (by omega)
  obtain ⟨b, off, e, hb, hc⟩ := h (fun e => by rw [e] at h0; cases h0)
  exact ⟨b, off, e, hb, hc _ _ h0, hc _ _ (rowv_at l L k hk 1 (by omega)), hc _ _ (rowv_at l L k hk 2 (by omega)), hc _ _ (rowv_at l L k hk 3 (by omega))⟩
theorem totoken_any (p l k n t : Int) (w : World) :
    Calls Try.prog 36 #[.agg #[.int .i64 p, .int .i64 l, .int .i64 k, .int .i64 n], .int .i64 t] w fun e w' => e = .returned (.int .i64 (c3 p t)) ∧ Below w.heap.size w w' := by
  go_enter Try.func36, Try.ntmps36
  go_wp2_with (go_at_call 54; refine (compare_any _ _ _).mono ?_; rintro e w' ⟨rfl, rfl⟩)
  go_ret
  exact ⟨rfl, below_alloc _ _⟩
theorem c3_neg (a b : Int) : c3 a b < 0 ↔ a < b := by unfold c3; split <;> (try split) <;> omega
theorem c3_zero (a b : Int) : c3 a b = 0 ↔ a = b := by unfold c3; split <;> (try split) <;> omega
/-- where a token would stand. -/
def Fr.Spot (L : List Wt) (t : Int) (k : Nat) : Prop := k ≤ L.length ∧ (∀ j, j < k → (el L j).tok < t) ∧ (∀ j, k ≤ j → j < L.length → t ≤ (el L j).tok)
set_option maxHeartbeats 2000000 in
set_option maxRecDepth 100000 in
theorem fsearch_any (A : Option Addr) (n c : Nat) (L : List Wt) (t : Int) (w : World) (hn : n = L.length) (hm : n ≤ 100000) (ha : At w A (rowv 0 L))
    (hmono : ∀ a b, a ≤ b → b < L.length → (el L a).tok ≤ (el L b).tok) :
    Calls Try.prog 35 #[.slice A n c, .int .i64 t, .func (.func 36) #[] #[]] w fun e w' =>
      ∃ k : Nat, e = .returned (.tuple #[.int .i64 k, .bool (decide (k < n ∧ (el L k).tok = t))]) ∧ Spot L t k ∧ Below w.heap.size w w' := by
  have HN := Lib.hid hn
  have HA := Lib.hid ha
  have HM := Lib.hid hmono
  clear hn ha hmono
  go_enter Try.func35, Try.ntmps35
  go_wp2
  go_loopw [9, 10] (fun i j wr => ∃ a b : Nat, a ≤ b ∧ b ≤ n ∧ i = .int .i64 a ∧ j = .int .i64 b ∧ Hid (∀ q, q < a → (el L q).tok < t) ∧ Hid (∀ q, b ≤ q → q < L.length → t ≤ (el L q).tok) ∧ Below w.heap.size w wr) (fun i j _ => (intOf j).toNat - (intOf i).toNat)
  case atStart => exact ⟨0, n, Nat.zero_le _, Nat.le_refl _, rfl, rfl, Lib.hid (fun q hq => absurd hq (Nat.not_lt_zero _)), Lib.hid (fun q h1 h2 => absurd h2 (by have := HN.out; omega)), Below.refl _ _⟩
  case round =>
    obtain ⟨a, b, hab, hbn, rfl, rfl, hlo, hhi, hbel⟩ := hrel
    have hhi0 := Lib.hid hhi.out
    by_cases hlt : a < b
    · obtain ⟨m, hmid⟩ : ∃ m, m = (a + b) / 2 := ⟨_, rfl⟩
      have hma : a ≤ m := by omega
      have hmb : m < b := by omega
      have he : ((a : Int) + (b : Int)) / 2 = (m : Int) := by omega
      have hm1 : m < L.length := by have := HN.out; omega
      obtain ⟨b1, o1, hA, hb1, hc0, hc1, hc2, hc3⟩ := at_wt HA.out hm1
      have hd0 := ((below_cells hbel).1 b1 (o1 + m * 4) hb1).trans hc0
      have hd1 := ((below_cells hbel).1 b1 (o1 + m * 4 + 1) hb1).trans hc1
      have hd2 := ((below_cells hbel).1 b1 (o1 + m * 4 + 2) hb1).trans hc2
      have hd3 := ((below_cells hbel).1 b1 (o1 + m * 4 + 3) hb1).trans hc3
      clear hc0 hc1 hc2 hc3
      have HMM := Lib.hid hmid
      obtain ⟨s, hs⟩ : ∃ s, s = (el L m).tok := ⟨_, rfl⟩
      have HSS := Lib.hid hs
      rw [← hs] at hd0
      generalize (el L m).k = z2 at *
      generalize (el L m).n = z3 at *
      clear hs hmid
      have hmn : m < n := by omega
      subst hA
      go_wp2_with (first | (go_at_call 36; refine (totoken_any _ _ _ _ _ _).mono ?_; rintro e w6 ⟨rfl, hb6⟩))
      · rename_i hcl
        have hbel6 := Fr.below_join hbel hb6
        have h7 := (c3_neg s t).1 hcl
        refine ⟨⟨m + 1, b, by omega, hbn, by go_num, rfl, Lib.hid (fun q hq => ?_), Lib.hid ?_, hbel6⟩, ?_⟩
        · have := HM.out q m (by omega) hm1; rw [HSS.out] at h7; omega
        · exact fun q h1 h2 => hhi0.out q h1 h2
        · simp [intOf]; omega
      · rename_i hcl
        have hbel6 := Fr.below_join hbel hb6
        have h7 : ¬ s < t := fun h8 => by have := (c3_neg s t).2 h8; omega
        refine ⟨⟨a, m, by omega, by omega, rfl, rfl, hlo, Lib.hid (fun q h1 h2 => by have := HM.out m q h1 h2; rw [HSS.out] at h7; omega), hbel6⟩, ?_⟩
        simp [intOf]; omega
    · obtain rfl : a = b := by omega
      have hS : Spot L t a := ⟨by have := HN.out; omega, hlo.out, hhi.out⟩
      by_cases han : a < n
      · have hm1 : a < L.length := by have := HN.out; omega
        obtain ⟨b1, o1, rfl, hb1, hc0, hc1, hc2, hc3⟩ := at_wt HA.out hm1
        have hd0 := ((below_cells hbel).1 b1 (o1 + a * 4) hb1).trans hc0
        have hd1 := ((below_cells hbel).1 b1 (o1 + a * 4 + 1) hb1).trans hc1
        have hd2 := ((below_cells hbel).1 b1 (o1 + a * 4 + 2) hb1).trans hc2
        have hd3 := ((below_cells hbel).1 b1 (o1 + a * 4 + 3) hb1).trans hc3
        clear hc0 hc1 hc2 hc3
        obtain ⟨s, hs⟩ : ∃ s, s = (el L a).tok := ⟨_, rfl⟩
        rw [← hs] at hd0
        have HSS := Lib.hid hs
        generalize (el L a).k = z2 at *
        generalize (el L a).n = z3 at *
        clear hs
        go_wp2_with (first | (go_at_call 36; refine (totoken_any _ _ _ _ _ _).mono ?_; rintro e w6 ⟨rfl, hb6⟩))
        go_ret2
        refine ⟨a, ?_, hS, Fr.below_join hbel hb6⟩
        have hbq : (c3 s t == 0) = decide (s = t) := by
          by_cases h : s = t
          · rw [decide_eq_true h, (c3_zero s t).2 h]; rfl
          · rw [decide_eq_false h]; simpa using fun h2 => h ((c3_zero s t).1 h2)
        rw [← HSS.out]
        simp [han, hbq]
      · go_wp2
        go_ret2
        refine ⟨a, ?_, hS, hbel⟩
        simp [han]
end Go.Proofs.Ytpdlholoeaphgaa
