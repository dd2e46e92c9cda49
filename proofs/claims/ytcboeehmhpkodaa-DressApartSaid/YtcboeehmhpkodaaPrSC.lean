/- Contract of props' Same at numbers. -/
import Derived.Test.YtcboeehmhpkodaaPrS3
import Derived.Test.YtcboeehmhpkodaaPrW6
namespace Go.Proofs.Ytcboeehmhpkodaa
open Go.RowKit M
set_option maxHeartbeats 2000000 in
theorem eqv_any (s t : ByteArray) (y z : Int) (w : World) :
    Calls Try.prog 31 #[.agg #[.string s, .int .i64 y], .agg #[.string t, .int .i64 z]] w fun e w' => e = .returned (.bool (decide ((s, y) = (t, z)))) ∧ RowKit.Below w.heap.size w w' := by
  by_cases hst : s = t
  · have h1 := str_yes hst
    have HE : Hid (decide ((s, y) = (t, z)) = decide (y = z)) := by show _ = _; rw [hst]; simp
    have HS := Lib.hid hst
    clear hst
    go_enter Try.func31, Try.ntmps31
    go_wp2_with fail
    refine (alike_int y z _).mono ?_
    rintro e w1 ⟨rfl, hb⟩
    have HB := Lib.hid (((below_alloc w (.cells #[.string s, .int .i64 y] 56)).alloc (by simp) (.cells #[.string t, .int .i64 z] 56)).trans (hb.mono (by simp; omega)))
    clear hb
    go_wp2
    go_ret
    exact ⟨ret_bool' HE.out.symm, HB.out⟩
  · have h1 := str_no hst
    have HE : Hid (decide ((s, y) = (t, z)) = false) := by show _ = _; rw [decide_eq_false_iff_not]; intro e; exact hst (congrArg Prod.fst e)
    clear hst
    go_enter Try.func31, Try.ntmps31
    go_wp2
    go_ret
    exact ⟨ret_bool' HE.out.symm, (below_alloc w _).alloc (by simp) _⟩
set_option maxHeartbeats 4000000 in
set_option maxRecDepth 100000 in
theorem equalP_any (A B : Option Addr) (n c m d : Nat) (xs ys : List Par) (w : World) (hn : n = xs.length) (hm : m = ys.length) (hb : n ≤ maxLen) (hb2 : m ≤ maxLen) (ha : At w A (pv xs)) (hb' : At w B (pv ys)) :
    Calls Try.prog 30 #[.slice A n c, .slice B m d, .func (.func 31) #[] #[]] w fun e w' => e = .returned (.bool (decide (xs = ys))) ∧ RowKit.Below w.heap.size w w' := by
  unfold maxLen at hb hb2
  have HN := Lib.hid hn
  have HM := Lib.hid hm
  have HA := Lib.hid ha
  have HB := Lib.hid hb'
  clear hn hm ha hb'
  by_cases hl : n = m
  · subst hl
    go_enter Try.func30, Try.ntmps30
    go_wp2
    go_loopw [17] (fun i wr => ∃ k : Nat, k ≤ n ∧ i = .int .i64 k ∧ Hid (xs.take k = ys.take k) ∧ RowKit.Below w.heap.size w wr) (fun i _ => n - (intOf i).toNat)
    case atStart => exact ⟨0, Nat.zero_le _, rfl, rfl, RowKit.Below.refl _ _⟩
    case round =>
      obtain ⟨k, hk, rfl, hx, hbel⟩ := hrel
      by_cases hlt : k < n
      · have hk1 : k < xs.length := by have := HN.out; omega
        have hk2 : k < ys.length := by have := HM.out; omega
        obtain ⟨b1, o1, hA1, hb1, hc1, hc1'⟩ := at_pair (HA.out.below hbel) hk1
        obtain ⟨b2, o2, hB2, hb2', hc2, hc2'⟩ := at_pair (HB.out.below hbel) hk2
        have hst0 := take_next xs k hk1
        have hst1 := take_next ys k hk2
        obtain ⟨p, hp⟩ : ∃ p, p = xs[k] := ⟨_, rfl⟩
        obtain ⟨r, hr⟩ : ∃ r, r = ys[k] := ⟨_, rfl⟩
        rw [← hp] at hc1 hc1' hst0
        rw [← hr] at hc2 hc2' hst1
        have HP := Lib.hid hp
        have HR := Lib.hid hr
        have H0 := Lib.hid hst0
        have H1 := Lib.hid hst1
        clear hp hr hst0 hst1
        obtain ⟨s, u⟩ := p
        obtain ⟨t, v⟩ := r
        subst hA1
        subst hB2
        have hsz := hbel.size
        have hga : ∀ o, (wr.alloc o).cell? ⟨b2, o2 + k * 2, none⟩ = some (.string t) := fun o => Lib.cell?_alloc_some _ hc2
        have hgb : ∀ o, (wr.alloc o).cell? ⟨b2, o2 + k * 2 + 1, none⟩ = some (.int .i64 v) := fun o => Lib.cell?_alloc_some _ hc2'
        go_wp2_with fail
        refine (eqv_any s t u v _).mono ?_
        rintro e w5 ⟨rfl, hb5⟩
        have HB5 := Lib.hid (((hbel.alloc hsz _).alloc (by simp; omega) _).trans (hb5.mono (by simp; omega)))
        clear hb5
        by_cases hEQ : (s, u) = (t, v)
        · have hdz : decide ((s, u) = (t, v)) = true := decide_eq_true hEQ
          rw [hdz]
          have HX := Lib.hid hEQ
          clear hEQ hdz
          go_wp2
          go_roundw
          case rel => exact ⟨k + 1, by omega, by go_num, by show _ = _; rw [H0.out, H1.out, hx.out, HX.out], HB5.out⟩
          case measure => simp [intOf]; omega
        · have hdz : decide ((s, u) = (t, v)) = false := decide_eq_false hEQ
          rw [hdz]
          have HX := Lib.hid hEQ
          clear hEQ hdz
          go_wp2
          go_ret
          exact ⟨ret_bool' (by rw [eq_comm, decide_eq_false_iff_not]; intro e; subst e; exact HX.out (HP.out.trans HR.out.symm)), HB5.out⟩
      · obtain rfl : k = n := by omega
        go_wp2
        go_ret
        exact ⟨ret_bool' (by have h1 := HN.out; have h3 := HM.out; have h2 := hx.out; rw [List.take_of_length_le (by omega), List.take_of_length_le (by omega)] at h2; simp [h2]), hbel⟩
  · have hd : Hid (decide (xs = ys) = false) := by show decide (xs = ys) = false; rw [decide_eq_false_iff_not]; intro e; subst e; exact hl (HN.out.trans HM.out.symm)
    have hl' : ((n : Int) == (m : Int)) = false := by rw [beq_eq_false_iff_ne]; omega
    have HL := Lib.hid hl
    clear hl
    go_enter Try.func30, Try.ntmps30
    go_wp2
    go_ret
    exact ⟨ret_bool' hd.out.symm, RowKit.Below.refl _ _⟩
set_option maxHeartbeats 2000000 in
theorem same_map (A B : Option Addr) (n c m d : Nat) (a b : List Par) (w : World) (hn : n = a.length) (hm : m = b.length) (hb : n ≤ 100000) (hb2 : m ≤ 100000) (hA0 : A = none → n = 0 ∧ c = 0) (hB0 : B = none → m = 0 ∧ d = 0) (ha : At w A (pv a)) (hb' : At w B (pv b)) :
    Calls Try.prog 17 #[.slice A n c, .slice B m d] w fun e w' => e = .returned (.bool (decide (ofP a = ofP b))) ∧ RowKit.Below w.heap.size w w' := by
  have H1 := Lib.hid (of_any A n c a w hn hb hA0 ha)
  have H2 : Hid (∀ w1 : World, RowKit.Below w.heap.size w w1 → Calls Try.prog 24 #[.slice B m d] w1 fun e w' => ∃ v, e = .returned v ∧ w'.ownsRow w1.heap.size 56 2 v (ofP b).length (pv (ofP b)) ∧ RowKit.Below w1.heap.size w1 w') := fun w1 h => of_any B m d b w1 hm hb2 hB0 (hb'.below h)
  have hl1 := ofP_len a
  have hl2 := ofP_len b
  rw [← hn] at hl1
  rw [← hm] at hl2
  clear hn hm hA0 hB0 ha hb'
  generalize ofP a = R at H1 hl1
  generalize ofP b = S at H2 hl2
  go_enter Try.func17, Try.ntmps17
  go_wp2_with fail
  refine H1.out.mono ?_
  rintro e w1 ⟨v0, rfl, hown, hbel1⟩
  obtain ⟨A0, c0, rfl, _, _, hat⟩ := at_of_own' hown
  have HA1 := Lib.hid hat
  have HB1 := Lib.hid hbel1
  clear hat hown hbel1 H1
  go_wp2_with fail
  refine (H2.out w1 HB1.out).mono ?_
  rintro e w2 ⟨v1, rfl, hown, hbel2⟩
  obtain ⟨B0, d0, rfl, _, _, hat⟩ := at_of_own' hown
  have HAA := Lib.hid (HA1.out.below hbel2)
  have HBB := Lib.hid hat
  have HB2 := Lib.hid (HB1.out.trans (hbel2.mono HB1.out.size))
  clear hat hown hbel2 H2 HA1
  go_wp2_with fail
  refine (equalP_any A0 B0 _ c0 _ d0 R S w2 rfl rfl (by unfold maxLen; omega) (by unfold maxLen; omega) HAA.out HBB.out).mono ?_
  rintro e w3 ⟨rfl, hb3⟩
  have HB3 := Lib.hid (HB2.out.trans (hb3.mono HB2.out.size))
  clear hb3
  go_wp2
  go_ret
  exact ⟨rfl, HB3.out⟩
end Go.Proofs.Ytcboeehmhpkodaa
