/- There is a snapshot of any entries; contracts of slices.Equal at entries, of (rect.Snap).Same, and of the statements' Is. -/
import Derived.Test.YtdaohjimfgdmbaaSpRS
import Derived.Test.YtdaohjimfgdmbaaSnW8
import Derived.Test.YtdaohjimfgdmbaaRcEq
namespace Go.Proofs.Ytdaohjimfgdmbaa
open Go.RowKit Sn
theorem scan_ex (L out : List En) : ∀ k, k ≤ L.length → ∃ f b, Scan L out k f b := by
  intro k
  induction k with
  | zero => intro _; exact ⟨false, 0, Scan.start _ _ _⟩
  | succ k ih =>
    intro hk
    obtain ⟨f, b, h⟩ := ih (by omega)
    by_cases ha : Abv out (el L k).id
    · cases f with
      | false => exact ⟨true, _, h.take ha (fun e => nomatch e)⟩
      | true =>
        rcases Int.lt_or_le (el L k).id b with h1 | h1
        · exact ⟨true, _, h.take ha (fun _ => h1)⟩
        · exact ⟨true, b, h.keep h1⟩
    · exact ⟨f, b, h.pass ha⟩
theorem snap_ex (L : List En) : ∃ r, Is En.id L r := by
  have go : ∀ (k : Nat) (out : List En), Part (nm := En.id) L out → L.length - out.length ≤ k → ∃ r, Is En.id L r := by
    intro k
    induction k with
    | zero =>
      intro out hp hk
      obtain ⟨f, b, hs⟩ := scan_ex L out L.length (Nat.le_refl _)
      cases f with
      | false => exact ⟨out, hs.stop hp⟩
      | true =>
        obtain ⟨e, _, hn⟩ := hs.next hp
        have := hn.len
        rw [List.length_append] at this
        simp at this
        omega
    | succ k ih =>
      intro out hp hk
      obtain ⟨f, b, hs⟩ := scan_ex L out L.length (Nat.le_refl _)
      cases f with
      | false => exact ⟨out, hs.stop hp⟩
      | true =>
        obtain ⟨e, _, hn⟩ := hs.next hp
        refine ih _ hn ?_
        rw [List.length_append]
        simp
        omega
  exact go L.length [] (Part.start L) (by simp)
theorem is_len {L r : List En} (h : Is En.id L r) : r.length ≤ L.length := by
  have hp : Part (nm := En.id) L r := ⟨h.up, fun x hx => h.mem.1 hx, fun x hx hy => by
    cases hl : lastAt En.id L x.id with
    | none => exact absurd rfl (lastAt_none.1 hl x hx)
    | some e =>
      obtain ⟨_, he⟩ := lastAt_some hl
      exact ⟨e, h.mem.2 (by rw [he]; exact hl), he⟩⟩
  exact hp.len
theorem ext_el {a b : List En} (hl : a.length = b.length) (h : ∀ j, j < a.length → el a j = el b j) : a = b := by
  refine List.ext_getElem hl fun j h1 h2 => ?_
  have := h j h1
  rw [el_eq h1, el_eq h2] at this
  exact this
/-- SnapOf, the snapshot being known. -/
theorem snapOf_is (A : Option Addr) (n c : Nat) (l r : List En) (w : World) (hn : n = l.length) (hb : n ≤ 1000000) (hA0 : A = none → n = 0 ∧ c = 0) (ha : At w A (ecs l)) (hr : Is En.id l r) :
    Calls Try.prog 15 #[.slice A n c] w fun e w' => ∃ (A1 : Option Addr) (c1 : Nat), e = .returned (.slice A1 r.length c1) ∧ At w' A1 (ecs r) ∧ (A1 = none → r.length = 0 ∧ c1 = 0) ∧ RowKit.Below w.heap.size w w' := by
  refine (snapOf_any A n c l w hn hb hA0 ha).mono ?_
  rintro e w' ⟨r', A1, c1, rfl, hi, hat, hA1, _, hbel⟩
  obtain rfl : r' = r := hi.uniq hr
  exact ⟨A1, c1, rfl, hat, fun e => ⟨by rw [(hA1 e).2]; rfl, (hA1 e).1⟩, hbel⟩
attribute [-go_sem] eqt_rect_Entry eq_rect_Entry eqt_scrimref13_Rect eq_scrimref13_Rect eqt_rect_Rect eq_rect_Rect
set_option maxHeartbeats 4000000 in
set_option maxRecDepth 100000 in
theorem equalE_any (A B : Option Addr) (n c m d : Nat) (l1 l2 : List En) (w : World) (hn : n = l1.length) (hm : m = l2.length) (hb : n ≤ 1000000) (hb2 : m ≤ 1000000) (ha : At w A (ecs l1)) (hb' : At w B (ecs l2)) :
    Calls Try.prog 42 #[.slice A n c, .slice B m d] w fun e w' => e = .returned (.bool (decide (l1 = l2))) ∧ ∃ q, w' = w.drewN q := by
  have HN := Lib.hid hn
  have HM := Lib.hid hm
  have HA := Lib.hid ha
  have HB := Lib.hid hb'
  clear hn hm ha hb'
  by_cases hl : n = m
  · subst hl
    go_enter Try.func42, Try.ntmps42
    go_wp2
    go_loopw [13] (fun i wr => ∃ k q : Nat, k ≤ n ∧ i = .int .i64 k ∧ Hid (∀ j, j < k → el l1 j = el l2 j) ∧ wr = w.drewN q) (fun i _ => n - (intOf i).toNat)
    case atStart => exact ⟨0, 0, Nat.zero_le _, rfl, Lib.hid (fun j h => absurd h (Nat.not_lt_zero _)), rfl⟩
    case round =>
      obtain ⟨k, q, hk, rfl, hx, rfl⟩ := hrel
      by_cases hlt : k < n
      · have hk1 : k < l1.length := by have := HN.out; omega
        have hk2 : k < l2.length := by have := HM.out; omega
        obtain ⟨b1, o1, hA1, hb1, c0, c1, c2, c3, c4⟩ := at_en (HA.out.drewN q) hk1
        obtain ⟨b2, o2, hB2, hb2', d0, d1, d2, d3, d4⟩ := at_en (HB.out.drewN q) hk2
        subst hA1
        subst hB2
        have HK1 := Lib.hid hk1
        have HK2 := Lib.hid hk2
        clear hk1 hk2
        generalize hW : w.drewN q = W at *
        have HW := Lib.hid hW
        clear hW
        by_cases hEQ : el l1 k = el l2 k
        · rw [← hEQ] at d0 d1 d2 d3 d4
          have HX := Lib.hid hEQ
          clear hEQ
          generalize (el l1 k).id = x0 at *
          generalize (el l1 k).x = x1 at *
          generalize (el l1 k).y = x2 at *
          generalize (el l1 k).w = x3 at *
          generalize (el l1 k).h = x4 at *
          have hrun : ∀ w, (Op.equalIn 10000 74 (.agg #[.int .i64 x0, .int .i64 x1, .int .i64 x2, .int .i64 x3, .int .i64 x4]) (.agg #[.int .i64 x0, .int .i64 x1, .int .i64 x2, .int .i64 x3, .int .i64 x4])).run Try.prog w = .ok true w := fun w => by rw [eqt_rect_Entry]; simp
          go_upto_region 6 with fail
          go_big_quiet (fail)
          go_wp2
          rw [← HW.out, World.drewN_drewN]
          go_roundw
          case rel =>
            refine ⟨k + 1, _, by omega, by go_num, Lib.hid (fun j hj => ?_), rfl⟩
            rcases Nat.lt_or_ge j k with h | h
            · exact hx.out j h
            · rw [show j = k by omega]; exact HX.out
          case measure => simp [intOf]; omega
        · have HX := Lib.hid hEQ
          have hne : ((el l1 k).id == (el l2 k).id && ((el l1 k).x == (el l2 k).x && (el l1 k).y == (el l2 k).y && (el l1 k).w == (el l2 k).w && (el l1 k).h == (el l2 k).h)) = false := by
            cases hb : ((el l1 k).id == (el l2 k).id && ((el l1 k).x == (el l2 k).x && (el l1 k).y == (el l2 k).y && (el l1 k).w == (el l2 k).w && (el l1 k).h == (el l2 k).h)) with
            | false => rfl
            | true =>
              simp only [Bool.and_eq_true, beq_iff_eq] at hb
              exact absurd (by
                obtain ⟨e0, ⟨⟨e1, e2⟩, e3⟩, e4⟩ := hb
                revert e0 e1 e2 e3 e4
                generalize el l1 k = p
                generalize el l2 k = r
                obtain ⟨p0, p1, p2, p3, p4⟩ := p
                obtain ⟨r0, r1, r2, r3, r4⟩ := r
                rintro rfl rfl rfl rfl rfl
                rfl) hEQ
          clear hEQ
          generalize (el l1 k).id = x0 at *
          generalize (el l1 k).x = x1 at *
          generalize (el l1 k).y = x2 at *
          generalize (el l1 k).w = x3 at *
          generalize (el l1 k).h = x4 at *
          generalize (el l2 k).id = y0 at *
          generalize (el l2 k).x = y1 at *
          generalize (el l2 k).y = y2 at *
          generalize (el l2 k).w = y3 at *
          generalize (el l2 k).h = y4 at *
          have hrun : ∀ w, (Op.equalIn 10000 74 (.agg #[.int .i64 x0, .int .i64 x1, .int .i64 x2, .int .i64 x3, .int .i64 x4]) (.agg #[.int .i64 y0, .int .i64 y1, .int .i64 y2, .int .i64 y3, .int .i64 y4])).run Try.prog w = .ok false w := fun w => by rw [eqt_rect_Entry, hne]
          clear hne
          go_upto_region 6 with fail
          go_big_quiet (fail)
          go_wp2
          rw [← HW.out, World.drewN_drewN]
          go_ret
          exact ⟨ret_bool' (by rw [eq_comm, decide_eq_false_iff_not]; intro e; subst e; exact HX.out rfl), _, rfl⟩
      · obtain rfl : k = n := by omega
        go_wp2
        go_ret
        exact ⟨ret_bool' (by rw [eq_comm, decide_eq_true_iff]; exact ext_el (HN.out.symm.trans HM.out) (fun j hj => hx.out j (by have := HN.out; omega))), _, rfl⟩
  · have hd : Hid (decide (l1 = l2) = false) := by show decide (l1 = l2) = false; rw [decide_eq_false_iff_not]; intro e; subst e; exact hl (HN.out.trans HM.out.symm)
    have hl' : ((n : Int) == (m : Int)) = false := by rw [beq_eq_false_iff_ne]; omega
    clear hl
    go_enter Try.func42, Try.ntmps42
    go_wp2
    go_ret
    exact ⟨ret_bool' hd.out.symm, 0, rfl⟩
set_option maxHeartbeats 4000000 in
set_option maxRecDepth 100000 in
theorem isE_any (A B : Option Addr) (n c m d : Nat) (l1 l2 : List En) (w : World) (hn : n = l1.length) (hm : m = l2.length) (hb : n ≤ 1000000) (hb2 : m ≤ 1000000) (ha : At w A (ecs l1)) (hb' : At w B (ecs l2)) :
    Calls Try.prog 14 #[.slice A n c, .slice B m d] w fun e w' => e = .returned (.bool (decide (l1 = l2))) ∧ ∃ q, w' = w.drewN q := by
  have HN := Lib.hid hn
  have HM := Lib.hid hm
  have HA := Lib.hid ha
  have HB := Lib.hid hb'
  clear hn hm ha hb'
  by_cases hl : n = m
  · subst hl
    go_enter Try.func14, Try.ntmps14
    go_wp2
    go_loopw [13] (fun i wr => ∃ k q : Nat, k ≤ n ∧ i = .int .i64 k ∧ Hid (∀ j, j < k → el l1 j = el l2 j) ∧ wr = w.drewN q) (fun i _ => n - (intOf i).toNat)
    case atStart => exact ⟨0, 0, Nat.zero_le _, rfl, Lib.hid (fun j h => absurd h (Nat.not_lt_zero _)), rfl⟩
    case round =>
      obtain ⟨k, q, hk, rfl, hx, rfl⟩ := hrel
      by_cases hlt : k < n
      · have hk1 : k < l1.length := by have := HN.out; omega
        have hk2 : k < l2.length := by have := HM.out; omega
        obtain ⟨b1, o1, hA1, hb1, c0, c1, c2, c3, c4⟩ := at_en (HA.out.drewN q) hk1
        obtain ⟨b2, o2, hB2, hb2', d0, d1, d2, d3, d4⟩ := at_en (HB.out.drewN q) hk2
        subst hA1
        subst hB2
        have HK1 := Lib.hid hk1
        have HK2 := Lib.hid hk2
        clear hk1 hk2
        generalize hW : w.drewN q = W at *
        have HW := Lib.hid hW
        clear hW
        by_cases hEQ : el l1 k = el l2 k
        · rw [← hEQ] at d0 d1 d2 d3 d4
          have HX := Lib.hid hEQ
          clear hEQ
          generalize (el l1 k).id = x0 at *
          generalize (el l1 k).x = x1 at *
          generalize (el l1 k).y = x2 at *
          generalize (el l1 k).w = x3 at *
          generalize (el l1 k).h = x4 at *
          have hrun : ∀ w, (Op.equalIn 10000 32 (.agg #[.int .i64 x1, .int .i64 x2, .int .i64 x3, .int .i64 x4]) (.agg #[.int .i64 x1, .int .i64 x2, .int .i64 x3, .int .i64 x4])).run Try.prog w = .ok true w := fun w => by rw [eqt_scrimref13_Rect]; simp
          go_upto_region 6 with fail
          go_big_quiet (fail)
          go_wp2
          rw [← HW.out, World.drewN_drewN]
          go_roundw
          case rel =>
            refine ⟨k + 1, _, by omega, by go_num, Lib.hid (fun j hj => ?_), rfl⟩
            rcases Nat.lt_or_ge j k with h | h
            · exact hx.out j h
            · rw [show j = k by omega]; exact HX.out
          case measure => simp [intOf]; omega
        · have HX := Lib.hid hEQ
          by_cases hi : (el l1 k).id = (el l2 k).id
          · have hne : ((el l1 k).x == (el l2 k).x && (el l1 k).y == (el l2 k).y && (el l1 k).w == (el l2 k).w && (el l1 k).h == (el l2 k).h) = false := by
              cases hb : ((el l1 k).x == (el l2 k).x && (el l1 k).y == (el l2 k).y && (el l1 k).w == (el l2 k).w && (el l1 k).h == (el l2 k).h) with
              | false => rfl
              | true =>
                simp only [Bool.and_eq_true, beq_iff_eq] at hb
                exact absurd (by
                  obtain ⟨⟨⟨e1, e2⟩, e3⟩, e4⟩ := hb
                  revert hi e1 e2 e3 e4
                  generalize el l1 k = p
                  generalize el l2 k = r
                  obtain ⟨p0, p1, p2, p3, p4⟩ := p
                  obtain ⟨r0, r1, r2, r3, r4⟩ := r
                  rintro rfl rfl rfl rfl rfl
                  rfl) hEQ
            rw [← hi] at d0
            clear hEQ hi
            generalize (el l1 k).id = x0 at *
            generalize (el l1 k).x = x1 at *
            generalize (el l1 k).y = x2 at *
            generalize (el l1 k).w = x3 at *
            generalize (el l1 k).h = x4 at *
            generalize (el l2 k).x = y1 at *
            generalize (el l2 k).y = y2 at *
            generalize (el l2 k).w = y3 at *
            generalize (el l2 k).h = y4 at *
            have hrun : ∀ w, (Op.equalIn 10000 32 (.agg #[.int .i64 x1, .int .i64 x2, .int .i64 x3, .int .i64 x4]) (.agg #[.int .i64 y1, .int .i64 y2, .int .i64 y3, .int .i64 y4])).run Try.prog w = .ok false w := fun w => by rw [eqt_scrimref13_Rect, hne]
            clear hne
            go_upto_region 6 with fail
            go_big_quiet (fail)
            go_wp2
            rw [← HW.out, World.drewN_drewN]
            go_ret
            exact ⟨ret_bool' (by rw [eq_comm, decide_eq_false_iff_not]; intro e; subst e; exact HX.out rfl), _, rfl⟩
          · have hne : ((el l1 k).id == (el l2 k).id) = false := by simpa using hi
            have hne2 : ((el l1 k).id != (el l2 k).id) = true := by simpa using hi
            clear hEQ hi
            generalize (el l1 k).id = x0 at *
            generalize (el l1 k).x = x1 at *
            generalize (el l1 k).y = x2 at *
            generalize (el l1 k).w = x3 at *
            generalize (el l1 k).h = x4 at *
            generalize (el l2 k).id = y0 at *
            generalize (el l2 k).x = y1 at *
            generalize (el l2 k).y = y2 at *
            generalize (el l2 k).w = y3 at *
            generalize (el l2 k).h = y4 at *
            go_upto_region 6 with fail
            go_big_quiet (fail)
            go_wp2
            rw [← HW.out, World.drewN_drewN]
            go_ret
            exact ⟨ret_bool' (by rw [eq_comm, decide_eq_false_iff_not]; intro e; subst e; exact HX.out rfl), _, rfl⟩
      · obtain rfl : k = n := by omega
        go_wp2
        go_ret
        exact ⟨ret_bool' (by rw [eq_comm, decide_eq_true_iff]; exact ext_el (HN.out.symm.trans HM.out) (fun j hj => hx.out j (by have := HN.out; omega))), _, rfl⟩
  · have hd : Hid (decide (l1 = l2) = false) := by show decide (l1 = l2) = false; rw [decide_eq_false_iff_not]; intro e; subst e; exact hl (HN.out.trans HM.out.symm)
    have hl' : ((n : Int) == (m : Int)) = false := by rw [beq_eq_false_iff_ne]; omega
    clear hl
    go_enter Try.func14, Try.ntmps14
    go_wp2
    go_ret
    exact ⟨ret_bool' hd.out.symm, 0, rfl⟩
set_option maxHeartbeats 2000000 in
theorem snapSame_any (A B : Option Addr) (n c m d : Nat) (l1 l2 r1 r2 : List En) (w : World) (hn : n = l1.length) (hm : m = l2.length) (hb : n ≤ 1000000) (hb2 : m ≤ 1000000) (hA0 : A = none → n = 0 ∧ c = 0) (hB0 : B = none → m = 0 ∧ d = 0) (ha : At w A (ecs l1)) (hb' : At w B (ecs l2)) (hr1 : Is En.id l1 r1) (hr2 : Is En.id l2 r2) :
    Calls Try.prog 17 #[.slice A n c, .slice B m d] w fun e w' => e = .returned (.bool (decide (r1 = r2))) ∧ RowKit.Below w.heap.size w w' := by
  have C1 := Lib.hid (snapOf_is A n c l1 r1 w hn hb hA0 ha hr1)
  have C2 := Lib.hid (fun W (hW : RowKit.Below w.heap.size w W) => snapOf_is B m d l2 r2 W hm hb2 hB0 (hb'.below hW) hr2)
  have q1 := is_len hr1
  have q2 := is_len hr2
  have HQ1 : Hid (r1.length ≤ 1000000) := by show r1.length ≤ _; omega
  have HQ2 : Hid (r2.length ≤ 1000000) := by show r2.length ≤ _; omega
  clear hn hm ha hb' hA0 hB0 hr1 hr2 q1 q2
  go_enter Try.func17, Try.ntmps17
  go_wp2_with fail
  refine C1.out.mono ?_
  rintro e w1 ⟨A1, c1, rfl, hat1, _, hb1⟩
  have HB1 := Lib.hid hb1
  have HAT := Lib.hid hat1
  clear hb1 hat1
  go_wp2_with fail
  refine (C2.out _ HB1.out).mono ?_
  rintro e w2 ⟨A2, c2, rfl, hat2, _, hb2⟩
  have CE := Lib.hid (equalE_any A1 A2 r1.length c1 r2.length c2 r1 r2 w2 rfl rfl HQ1.out HQ2.out (HAT.out.below hb2) hat2)
  have HB2 := Lib.hid (HB1.out.trans (hb2.mono HB1.out.size))
  clear hb2 hat2
  generalize r1.length = z1 at *
  generalize r2.length = z2 at *
  go_wp2_with fail
  refine CE.out.mono ?_
  rintro e w3 ⟨rfl, hq⟩
  have HQ := Lib.hid hq
  clear hq
  go_wp2
  go_ret
  refine ⟨rfl, ?_⟩
  obtain ⟨q, rfl⟩ := HQ.out
  exact drewN_belowS HB2.out q
end Go.Proofs.Ytdaohjimfgdmbaa
