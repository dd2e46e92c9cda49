/- Contracts of flip's find and between: where an entry of a number stands in a rising list. -/
import Derived.Test.YtdaohjimfgdmbaaSpOpen
import Derived.Test.YtdaohjimfgdmbaaRcW4
namespace Go.Proofs.Ytdaohjimfgdmbaa
open Go.RowKit Sn
theorem below_joinS {a b c : World} (h : Below a.heap.size a b) (k : Below b.heap.size b c) : Below a.heap.size a c := h.trans (k.mono h.size)
theorem toid_any (p x y v h t : Int) (w : World) :
    Calls Try.prog 62 #[.agg #[.int .i64 p, .int .i64 x, .int .i64 y, .int .i64 v, .int .i64 h], .int .i64 t] w fun e w' => e = .returned (.int .i64 (c3 p t)) ∧ Below w.heap.size w w' := by
  go_enter Try.func62, Try.ntmps62
  go_wp2_with (go_at_call 39; refine (compare_any _ _ _).mono ?_; rintro e w' ⟨rfl, rfl⟩)
  go_ret
  exact ⟨rfl, below_alloc _ _⟩
theorem c3_neg (a b : Int) : c3 a b < 0 ↔ a < b := by unfold c3; split <;> (try split) <;> omega
theorem c3_zero (a b : Int) : c3 a b = 0 ↔ a = b := by unfold c3; split <;> (try split) <;> omega
/-- where a token would stand. -/
def Sn.Spot (L : List En) (t : Int) (k : Nat) : Prop := k ≤ L.length ∧ (∀ j, j < k → (el L j).id < t) ∧ (∀ j, k ≤ j → j < L.length → t ≤ (el L j).id)
set_option maxHeartbeats 2000000 in
set_option maxRecDepth 100000 in
theorem esearch_any (A : Option Addr) (n c : Nat) (L : List En) (t : Int) (w : World) (hn : n = L.length) (hm : n ≤ 100000) (ha : At w A (ecs L))
    (hmono : ∀ a b, a ≤ b → b < L.length → (el L a).id ≤ (el L b).id) :
    Calls Try.prog 61 #[.slice A n c, .int .i64 t, .func (.func 62) #[] #[]] w fun e w' =>
      ∃ k : Nat, e = .returned (.tuple #[.int .i64 k, .bool (decide (k < n ∧ (el L k).id = t))]) ∧ Spot L t k ∧ Below w.heap.size w w' := by
  have HN := Lib.hid hn
  have HA := Lib.hid ha
  have HM := Lib.hid hmono
  clear hn ha hmono
  go_enter Try.func61, Try.ntmps61
  go_wp2
  go_loopw [9, 10] (fun i j wr => ∃ a b : Nat, a ≤ b ∧ b ≤ n ∧ i = .int .i64 a ∧ j = .int .i64 b ∧ Hid (∀ q, q < a → (el L q).id < t) ∧ Hid (∀ q, b ≤ q → q < L.length → t ≤ (el L q).id) ∧ Below w.heap.size w wr) (fun i j _ => (intOf j).toNat - (intOf i).toNat)
  case atStart => exact ⟨0, n, Nat.zero_le _, Nat.le_refl _, rfl, rfl, Lib.hid (fun q hq => absurd hq (Nat.not_lt_zero _)), Lib.hid (fun q h1 h2 => absurd h2 (by have := HN.out; omega)), Below.refl _ _⟩
  case round =>
    obtain ⟨a, b, hab, hbn, rfl, rfl, hlo, hhi, hbel⟩ := hrel
    have hhi0 := Lib.hid hhi.out
    by_cases hlt : a < b
    · obtain ⟨m, hmid⟩ : ∃ m, m = (a + b) / 2 := ⟨_, rfl⟩
      have hma : a ≤ m := by omega
      have hmb : m < b := by omega
      have he : ((a : Int) + (b : Int)) / 2 = (m : Int) := by omega
      have hm1 : m < L.length := by have := HN.out; omega
      obtain ⟨b1, o1, hA, hb1, hc0, hc1, hc2, hc3, hc4⟩ := at_en HA.out hm1
      have hd0 := ((below_cells hbel).1 b1 (o1 + m * 5) hb1).trans hc0
      have hd1 := ((below_cells hbel).1 b1 (o1 + m * 5 + 1) hb1).trans hc1
      have hd2 := ((below_cells hbel).1 b1 (o1 + m * 5 + 2) hb1).trans hc2
      have hd3 := ((below_cells hbel).1 b1 (o1 + m * 5 + 3) hb1).trans hc3
      have hd4 := ((below_cells hbel).1 b1 (o1 + m * 5 + 4) hb1).trans hc4
      clear hc0 hc1 hc2 hc3 hc4
      have HMM := Lib.hid hmid
      obtain ⟨s, hs⟩ : ∃ s, s = (el L m).id := ⟨_, rfl⟩
      have HSS := Lib.hid hs
      rw [← hs] at hd0
      generalize (el L m).x = z1 at *
      generalize (el L m).y = z2 at *
      generalize (el L m).w = z3 at *
      generalize (el L m).h = z4 at *
      clear hs hmid
      have hmn : m < n := by omega
      subst hA
      go_wp2_with (first | (go_at_call 62; refine (toid_any _ _ _ _ _ _ _).mono ?_; rintro e w6 ⟨rfl, hb6⟩))
      · rename_i hcl
        have hbel6 := below_joinS hbel hb6
        have h7 := (c3_neg s t).1 hcl
        refine ⟨⟨m + 1, b, by omega, hbn, by go_num, rfl, Lib.hid (fun q hq => ?_), Lib.hid ?_, hbel6⟩, ?_⟩
        · have := HM.out q m (by omega) hm1; rw [HSS.out] at h7; omega
        · exact fun q h1 h2 => hhi0.out q h1 h2
        · simp [intOf]; omega
      · rename_i hcl
        have hbel6 := below_joinS hbel hb6
        have h7 : ¬ s < t := fun h8 => by have := (c3_neg s t).2 h8; omega
        refine ⟨⟨a, m, by omega, by omega, rfl, rfl, hlo, Lib.hid (fun q h1 h2 => by have := HM.out m q h1 h2; rw [HSS.out] at h7; omega), hbel6⟩, ?_⟩
        simp [intOf]; omega
    · obtain rfl : a = b := by omega
      have hS : Spot L t a := ⟨by have := HN.out; omega, hlo.out, hhi.out⟩
      by_cases han : a < n
      · have hm1 : a < L.length := by have := HN.out; omega
        obtain ⟨b1, o1, rfl, hb1, hc0, hc1, hc2, hc3, hc4⟩ := at_en HA.out hm1
        have hd0 := ((below_cells hbel).1 b1 (o1 + a * 5) hb1).trans hc0
        have hd1 := ((below_cells hbel).1 b1 (o1 + a * 5 + 1) hb1).trans hc1
        have hd2 := ((below_cells hbel).1 b1 (o1 + a * 5 + 2) hb1).trans hc2
        have hd3 := ((below_cells hbel).1 b1 (o1 + a * 5 + 3) hb1).trans hc3
        have hd4 := ((below_cells hbel).1 b1 (o1 + a * 5 + 4) hb1).trans hc4
        clear hc0 hc1 hc2 hc3 hc4
        obtain ⟨s, hs⟩ : ∃ s, s = (el L a).id := ⟨_, rfl⟩
        rw [← hs] at hd0
        have HSS := Lib.hid hs
        generalize (el L a).x = z1 at *
        generalize (el L a).y = z2 at *
        generalize (el L a).w = z3 at *
        generalize (el L a).h = z4 at *
        clear hs
        go_wp2_with (first | (go_at_call 62; refine (toid_any _ _ _ _ _ _ _).mono ?_; rintro e w6 ⟨rfl, hb6⟩))
        go_ret2
        refine ⟨a, ?_, hS, below_joinS hbel hb6⟩
        have hbq : (c3 s t == 0) = decide (s = t) := by
          by_cases h : s = t
          · rw [decide_eq_true h, (c3_zero s t).2 h]; rfl
          · rw [decide_eq_false h]; simpa using fun h2 => h ((c3_zero s t).1 h2)
        rw [← HSS.out]
        simp [han, hbq]
      · go_wp2
        go_ret2
        refine ⟨a, ?_, hS, hbel⟩
        simp [han]
theorem up_le {R : List En} (h : Up En.id R) : ∀ a b, a ≤ b → b < R.length → (el R a).id ≤ (el R b).id := by
  intro a b hab hb
  rcases Nat.eq_or_lt_of_le hab with e | e
  · subst e; exact Int.le_refl _
  · have := List.pairwise_iff_getElem.1 h a b (by omega) hb e
    rw [el_eq (by omega), el_eq hb]
    exact Int.le_of_lt this
theorem up_inj {R : List En} (h : Up En.id R) {a b : Nat} (ha : a < R.length) (hb : b < R.length) (e : (el R a).id = (el R b).id) : a = b := by
  have go : ∀ a b, a < b → b < R.length → (el R a).id < (el R b).id := fun a b hab hb => by
    have := List.pairwise_iff_getElem.1 h a b (by omega) hb hab
    rw [el_eq (by omega), el_eq hb]
    exact this
  rcases Nat.lt_trichotomy a b with h1 | h1 | h1
  · have := go a b h1 hb; omega
  · exact h1
  · have := go b a h1 ha; omega
set_option maxHeartbeats 2000000 in
/-- find, where there is one. -/
theorem find_yes (A : Option Addr) (n c : Nat) (R : List En) (id : Int) (w : World) (hn : n = R.length) (hm : n ≤ 100000) (ha : At w A (ecs R)) (hu : Up En.id R) (k : Nat) (hk : k < n) (hid : (el R k).id = id) :
    Calls Try.prog 49 #[.slice A n c, .int .i64 id] w fun e w' => e = .returned (.tuple #[.int .i64 (k : Nat), .bool true]) ∧ Below w.heap.size w w' := by
  have C : Hid (Calls Try.prog 61 #[.slice A n c, .int .i64 id, .func (.func 62) #[] #[]] w fun e w' => e = .returned (.tuple #[.int .i64 (k : Nat), .bool true]) ∧ Below w.heap.size w w') := by
    refine (esearch_any A n c R id w hn hm ha (up_le hu)).mono ?_
    rintro e w' ⟨j, rfl, ⟨h1, h2, h3⟩, hb⟩
    have hjk : j = k := by
      rcases Nat.lt_trichotomy j k with h | h | h
      · have := h3 j (Nat.le_refl _) (by omega)
        have h4 := List.pairwise_iff_getElem.1 hu j k (by omega) (by omega) h
        rw [← el_eq (by omega), ← el_eq (by omega), hid] at h4
        omega
      · exact h
      · have := h2 k h; omega
    subst hjk
    exact ⟨by simp [hk, hid], hb⟩
  clear hn hm ha hu hk hid
  go_enter Try.func49, Try.ntmps49
  go_wp2_with fail
  refine C.out.mono ?_
  rintro e w1 ⟨rfl, hb⟩
  have HB := Lib.hid hb
  clear hb
  go_wp2
  go_ret2
  exact ⟨rfl, HB.out⟩
set_option maxHeartbeats 2000000 in
/-- find, where there is none. -/
theorem find_no (A : Option Addr) (n c : Nat) (R : List En) (id : Int) (w : World) (hn : n = R.length) (hm : n ≤ 100000) (ha : At w A (ecs R)) (hu : Up En.id R) (hno : ∀ k, k < R.length → (el R k).id ≠ id) :
    Calls Try.prog 49 #[.slice A n c, .int .i64 id] w fun e w' => ∃ k : Nat, e = .returned (.tuple #[.int .i64 (k : Nat), .bool false]) ∧ Below w.heap.size w w' := by
  have C : Hid (Calls Try.prog 61 #[.slice A n c, .int .i64 id, .func (.func 62) #[] #[]] w fun e w' => ∃ k : Nat, e = .returned (.tuple #[.int .i64 (k : Nat), .bool false]) ∧ Below w.heap.size w w') := by
    refine (esearch_any A n c R id w hn hm ha (up_le hu)).mono ?_
    rintro e w' ⟨j, rfl, _, hb⟩
    refine ⟨j, ?_, hb⟩
    by_cases hj : j < n
    · simp [hj, hno j (by omega)]
    · simp [hj]
  clear hn hm ha hu hno
  go_enter Try.func49, Try.ntmps49
  go_wp2_with fail
  refine C.out.mono ?_
  rintro e w1 ⟨k, rfl, hb⟩
  have HB := Lib.hid hb
  clear hb
  go_wp2
  go_ret2
  exact ⟨k, rfl, HB.out⟩
end Go.Proofs.Ytdaohjimfgdmbaa
