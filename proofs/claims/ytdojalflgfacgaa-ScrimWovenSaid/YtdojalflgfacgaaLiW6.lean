/- Contract of the document's Of. -/
import Derived.Test.YtdojalflgfacgaaWeL2
namespace Go.Proofs.Ytdojalflgfacgaa
open Go.RowKit Li
theorem Best.congr {L : Nat → Int} {n lim b : Nat} {ok ok' : Nat → Prop} (h : Best L n ok lim b) (e : ∀ i, ok i ↔ ok' i) : Best L n ok' lim b :=
  ⟨h.1, h.2.1, (e _).1 h.2.2.1, fun j h1 h2 h3 => h.2.2.2 j h1 h2 ((e _).2 h3)⟩
/-- what the document's loop keeps: who stands at the head, and where. -/
def Head (L : Nat → Int) (n p : Nat) (t : List Nat) (beh : Nat) : Prop := Tail L n p t ∧ ((t = [] ∧ beh = n) ∨ ∃ t', t = beh :: t' ∧ beh < n)
def Ok (L : Nat → Int) (n beh : Nat) (i : Nat) : Prop := beh = n ∨ L i < L beh
theorem Head.le {L : Nat → Int} {n p beh : Nat} {t : List Nat} (h : Head L n p t beh) : beh ≤ n := by
  rcases h.2 with ⟨_, h1⟩ | ⟨_, _, h1⟩ <;> omega
theorem Head.there {L : Nat → Int} {n p beh : Nat} {t : List Nat} (h : Head L n (p + 1) t beh) : ∃ j, j < beh ∧ N L j = p + 1 ∧ Ok L n beh j := by
  rcases h.2 with ⟨h1, h2⟩ | ⟨t', h1, h2⟩
  · subst h1 h2
    have ht := h.1.1
    rcases top_has L beh with h3 | ⟨j, h3, h4⟩
    · simp at ht; omega
    · exact ⟨j, h3, by simp at ht; omega, .inl rfl⟩
  · subst h1
    have hN : N L beh = p + 2 := by
      rcases Nat.eq_zero_or_pos t'.length with h3 | h3
      · have := (h.1.2.1 0 (by simp [h3])).2.1
        simpa using this
      · have := (h.1.2.2 0 (by simp; omega)).2.1
        simpa using this
    obtain ⟨j, h3, h4, h5⟩ := N_has L beh (by omega)
    exact ⟨j, h3, by omega, .inr h4⟩
theorem Head.next {L : Nat → Int} {n p beh b : Nat} {t : List Nat} (h : Head L n (p + 1) t beh) (hb : Best L (p + 1) (Ok L n beh) beh b) : Head L n p (b :: t) b := by
  have hbn : b < n := Nat.lt_of_lt_of_le hb.1 h.le
  rcases h.2 with ⟨h1, h2⟩ | ⟨t', h1, h2⟩
  · subst h1 h2
    exact ⟨h.1.cons_last (Best.congr hb fun i => ⟨fun _ => trivial, fun _ => .inl rfl⟩), .inr ⟨[], rfl, hbn⟩⟩
  · subst h1
    exact ⟨h.1.cons (Best.congr hb fun i => ⟨fun h3 => by rcases h3 with h3 | h3; omega; exact h3, .inr⟩), .inr ⟨_, rfl, hbn⟩⟩
theorem Head.start (L : Nat → Int) (n : Nat) : Head L n (top L n) [] n := ⟨Tail.start L n, .inl ⟨rfl, rfl⟩⟩
set_option maxHeartbeats 8000000 in
set_option maxRecDepth 100000 in
theorem rof_any (A : Option Addr) (n c : Nat) (l : List Int) (w : World) (hn : n = l.length) (hm : n ≤ 1000) (ha : At w A (iv l)) :
    Calls Try.prog 28 #[.slice A n c] w fun e w' => ∃ v r, e = .returned v ∧ Hid (IsRow (ats l) n r) ∧ w'.ownsRow w.heap.size 3 1 v r.length (nv r) ∧ Below w.heap.size w w' := by
  have HN := Lib.hid hn
  have HA := Lib.hid ha
  have HC := Lib.hid (lens_any A n c l w hn hm ha)
  have HT := fun (w' : World) (hb : Below w.heap.size w w') => rlen_any A n c l w' hn hm (ha.below hb)
  obtain ⟨i0, hi, hz0, hz1, hz2⟩ := info_parts infoInt
  clear hn ha
  have hti := top_le (ats l) n
  go_enter Try.func28, Try.ntmps28
  go_wp2_with (first | (go_at_call 34; (with_reducible refine HC.out.mono ?_); rintro e w6 ⟨v, rfl, hown, hb⟩; obtain ⟨A6, c6, rfl, h6, h7⟩ := own_slice hown; have HB := Lib.hid hb; have HL := Lib.hid (At.own hown); have HOE := Lib.hid (own_made (base := w.heap.size) (e := 3) (size := 1) w6 w6.heap.size rfl hb.size); clear hown hb) | (go_at_call 18; (with_reducible refine (HT _ (HB.out.alloc HB.out.size _)).mono ?_); rintro e w7 ⟨rfl, hb7⟩; have HB7 := Lib.hid hb7; clear hb7))
  have HO7 := Lib.hid (own_below HOE.out HB7.out)
  have HW7 : Hid (Below w.heap.size w w7) := by
    have hx := HB.out.alloc HB.out.size (.cells #[] 3)
    exact hx.trans (HB7.out.mono hx.size)
  have HL7 := Lib.hid ((HL.out.alloc (.cells #[] 3)).below HB7.out)
  clear HOE HB7 HB HC HT HL
  go_loopw [4, 5, 6] (fun v b q wr => ∃ (p beh : Nat) (t : List Nat), b = .int .i64 beh ∧ q = .int .i64 p ∧ p ≤ 1000 ∧ Hid (Head (ats l) n p t beh) ∧ Hid (wr.ownsRow w.heap.size 3 1 v t.length (nv t)) ∧ Hid (Below w7.heap.size w7 wr)) (fun _ _ q _ => (intOf q).toNat)
  case atStart => exact ⟨top (ats l) n, n, [], rfl, rfl, by omega, Head.start _ _, HO7, Below.refl _ _⟩
  case round =>
    obtain ⟨p0, beh, t, rfl, rfl, hp0, hhead, hown, hbel⟩ := hrel
    rcases Nat.eq_zero_or_pos p0 with h0 | h0
    · subst h0
      go_wp2
      go_ret
      exact ⟨_, t, rfl, hhead.out.1.row, hown.out, HW7.out.trans (hbel.out.mono HW7.out.size)⟩
    · obtain ⟨p, hp⟩ : ∃ p, p0 = p + 1 := ⟨p0 - 1, by omega⟩
      have HP := Lib.hid hp
      have hthere := Lib.hid (Head.there (hp ▸ hhead.out))
      rw [← hp] at hthere
      clear hp
      have hbn0 := hhead.out.le
      obtain ⟨AO, cO, rfl, hcO, hcO2⟩ := own_slice hown.out
      have HAO := Lib.hid (own_addr hown.out)
      have htl : t.length ≤ n := by have := hhead.out.1.1; omega
      have HBW : Hid (Below w.heap.size w wr) := Lib.hid (HW7.out.trans (hbel.out.mono HW7.out.size))
      have HLw := Lib.hid (HL7.out.below hbel.out)
      go_wp2
      go_loopw [7, 8] (fun b j wx => ∃ (i : Nat) (bst : Int) (d : Nat), i ≤ beh ∧ j = .int .i64 i ∧ b = .int .i64 bst ∧ Hid (Seek (ats l) p0 (Ok (ats l) n beh) i bst) ∧ wx = wr.drewN d) (fun _ j _ => beh - (intOf j).toNat)
      case atStart => exact ⟨0, -1, 0, Nat.zero_le _, rfl, rfl, Seek.start _ _ _, rfl⟩
      case round =>
        obtain ⟨i, bst, d, hib, rfl, rfl, hseek, rfl⟩ := hrel
        by_cases hilt : i < beh
        · have hbw := HBW
          obtain ⟨b1, o1, hA1, hbk, hc1⟩ := HA.out.one (iv_at l i (by have := HN.out; omega))
          subst hA1
          have hd1 := (below_cells hbw.out).1 b1 (o1 + i) hbk
          rw [hc1] at hd1
          have HC1 := Lib.hid hc1
          clear hc1
          obtain ⟨b2, o2, hA2, hb2, hd2⟩ := HLw.out.one (nv_at (lens (ats l) n) i (by rw [lens_len]; omega))
          rw [lens_getD _ _ _ (by omega : i < n)] at hd2
          subst hA2
          have hin : i < n := by omega
          rcases hhead.out.2 with ⟨ht0, hb0⟩ | ⟨t', ht0, hb0⟩
          · subst hb0
            clear ht0
            by_cases hN : N (ats l) i = p0
            · have HNE := Lib.hid hN
              have hNb : ((N (ats l) i : Int) == (p0 : Int)) = true := by rw [beq_iff_eq]; omega
              have hNe : (N (ats l) i : Int) = (p0 : Int) := by omega
              rcases hseek.out with ⟨hb1, _⟩ | ⟨m, hb1, hbm⟩
              · subst hb1
                clear hN
                go_wp2
                go_quiet (fail)
                go_wp2
                go_quiet (fail)
                go_wp2
                go_roundw
                case rel => exact ⟨i + 1, (i : Int), _, by omega, by go_num, rfl, by show Seek _ _ _ _ _; exact hseek.out.take HNE.out (.inl rfl) (.inl rfl), rfl⟩
                case measure => simp [intOf]; omega
              · obtain ⟨b4, o4, hA4, hb4, hc4⟩ := HA.out.one (iv_at l m (by have := hbm.1; have := HN.out; omega))
                injection hA4 with hA4
                injection hA4 with hA41 hA42
                subst hA41 hA42
                have hd4 := (below_cells hbw.out).1 b1 (o1 + m) hbk
                rw [hc4] at hd4
                have HBM := Lib.hid hbm
                have HC4 := Lib.hid hc4
                have hm0 : ¬ (m : Int) < 0 := by omega
                have hmi := hbm.1
                have hmb : m < beh := by omega
                try (have hmn : m < n := by omega)
                subst hb1
                clear hN hc4 hbm
                by_cases hlt4 : ats l i < ats l m
                · have HLT := Lib.hid hlt4
                  go_wp2
                  go_quiet (fail)
                  go_wp2
                  go_quiet (fail)
                  go_wp2
                  go_roundw
                  case rel => exact ⟨i + 1, (i : Int), _, by omega, by go_num, rfl, by show Seek _ _ _ _ _; exact hseek.out.take HNE.out (.inl rfl) (.inr ⟨m, rfl, HLT.out⟩), rfl⟩
                  case measure => simp [intOf]; omega
                · have HLT := Lib.hid hlt4
                  have hl4 : decide (ats l i < ats l m) = false := decide_eq_false hlt4
                  go_wp2
                  go_quiet (fail)
                  go_wp2
                  go_quiet (fail)
                  go_wp2
                  go_roundw
                  case rel => exact ⟨i + 1, (m : Int), _, by omega, by go_num, rfl, by show Seek _ _ _ _ _; exact hseek.out.skip fun _ _ => ⟨m, rfl, by have := HLT.out; omega⟩, rfl⟩
                  case measure => simp [intOf]; omega
            · have HNE := Lib.hid hN
              have hNb : ((N (ats l) i : Int) == (p0 : Int)) = false := by rw [beq_eq_false_iff_ne]; omega
              have hNe : ¬ (N (ats l) i : Int) = (p0 : Int) := by omega
              clear hN
              go_wp2
              go_quiet (fail)
              go_wp2
              go_quiet (fail)
              go_wp2
              go_roundw
              case rel => exact ⟨i + 1, bst, _, by omega, by go_num, rfl, by show Seek _ _ _ _ _; exact hseek.out.skip fun e _ => absurd e HNE.out, rfl⟩
              case measure => simp [intOf]; omega
          · clear ht0
            obtain ⟨b5, o5, hA5, hb5, hc5⟩ := HA.out.one (iv_at l beh (by have := HN.out; omega))
            injection hA5 with hA5
            injection hA5 with hA51 hA52
            subst hA51 hA52
            have hd5 := (below_cells hbw.out).1 b1 (o1 + beh) hbk
            rw [hc5] at hd5
            have HC5 := Lib.hid hc5
            have hbn : ((beh : Int) == (n : Int)) = false := by rw [beq_eq_false_iff_ne]; omega
            have hbn2 : ¬ (beh : Int) = (n : Int) := by omega
            clear hc5
            by_cases hfit : ats l i < ats l beh
            · have HF := Lib.hid hfit
              by_cases hN : N (ats l) i = p0
              · have HNE := Lib.hid hN
                have hNb : ((N (ats l) i : Int) == (p0 : Int)) = true := by rw [beq_iff_eq]; omega
                have hNe : (N (ats l) i : Int) = (p0 : Int) := by omega
                rcases hseek.out with ⟨hb1, _⟩ | ⟨m, hb1, hbm⟩
                · subst hb1
                  clear hN
                  go_wp2
                  go_quiet (fail)
                  go_wp2
                  go_quiet (fail)
                  go_wp2
                  go_roundw
                  case rel => exact ⟨i + 1, (i : Int), _, by omega, by go_num, rfl, by show Seek _ _ _ _ _; exact hseek.out.take HNE.out (.inr HF.out) (.inl rfl), rfl⟩
                  case measure => simp [intOf]; omega
                · obtain ⟨b4, o4, hA4, hb4, hc4⟩ := HA.out.one (iv_at l m (by have := hbm.1; have := HN.out; omega))
                  injection hA4 with hA4
                  injection hA4 with hA41 hA42
                  subst hA41 hA42
                  have hd4 := (below_cells hbw.out).1 b1 (o1 + m) hbk
                  rw [hc4] at hd4
                  have HBM := Lib.hid hbm
                  have HC4 := Lib.hid hc4
                  have hm0 : ¬ (m : Int) < 0 := by omega
                  have hmi := hbm.1
                  have hmb : m < beh := by omega
                  try (have hmn : m < n := by omega)
                  subst hb1
                  clear hN hc4 hbm
                  by_cases hlt4 : ats l i < ats l m
                  · have HLT := Lib.hid hlt4
                    go_wp2
                    go_quiet (fail)
                    go_wp2
                    go_quiet (fail)
                    go_wp2
                    go_roundw
                    case rel => exact ⟨i + 1, (i : Int), _, by omega, by go_num, rfl, by show Seek _ _ _ _ _; exact hseek.out.take HNE.out (.inr HF.out) (.inr ⟨m, rfl, HLT.out⟩), rfl⟩
                    case measure => simp [intOf]; omega
                  · have HLT := Lib.hid hlt4
                    have hl4 : decide (ats l i < ats l m) = false := decide_eq_false hlt4
                    go_wp2
                    go_quiet (fail)
                    go_wp2
                    go_quiet (fail)
                    go_wp2
                    go_roundw
                    case rel => exact ⟨i + 1, (m : Int), _, by omega, by go_num, rfl, by show Seek _ _ _ _ _; exact hseek.out.skip fun _ _ => ⟨m, rfl, by have := HLT.out; omega⟩, rfl⟩
                    case measure => simp [intOf]; omega
              · have HNE := Lib.hid hN
                have hNb : ((N (ats l) i : Int) == (p0 : Int)) = false := by rw [beq_eq_false_iff_ne]; omega
                have hNe : ¬ (N (ats l) i : Int) = (p0 : Int) := by omega
                clear hN
                go_wp2
                go_quiet (fail)
                go_wp2
                go_quiet (fail)
                go_wp2
                go_roundw
                case rel => exact ⟨i + 1, bst, _, by omega, by go_num, rfl, by show Seek _ _ _ _ _; exact hseek.out.skip fun e _ => absurd e HNE.out, rfl⟩
                case measure => simp [intOf]; omega
            · have HF := Lib.hid hfit
              have hfb : decide (ats l i < ats l beh) = false := decide_eq_false hfit
              have HNO : Hid (¬ Ok (ats l) n beh i) := by show ¬ Ok _ _ _ _; rintro (h | h); omega; exact HF.out h
              by_cases hN : N (ats l) i = p0
              · have hNb : ((N (ats l) i : Int) == (p0 : Int)) = true := by rw [beq_iff_eq]; omega
                have hNe : (N (ats l) i : Int) = (p0 : Int) := by omega
                clear hN
                go_wp2
                go_quiet (fail)
                go_wp2
                go_quiet (fail)
                go_wp2
                go_roundw
                case rel => exact ⟨i + 1, bst, _, by omega, by go_num, rfl, by show Seek _ _ _ _ _; exact hseek.out.skip fun _ h => absurd h HNO.out, rfl⟩
                case measure => simp [intOf]; omega
              · have hNb : ((N (ats l) i : Int) == (p0 : Int)) = false := by rw [beq_eq_false_iff_ne]; omega
                have hNe : ¬ (N (ats l) i : Int) = (p0 : Int) := by omega
                clear hN
                go_wp2
                go_quiet (fail)
                go_wp2
                go_quiet (fail)
                go_wp2
                go_roundw
                case rel => exact ⟨i + 1, bst, _, by omega, by go_num, rfl, by show Seek _ _ _ _ _; exact hseek.out.skip fun _ h => absurd h HNO.out, rfl⟩
                case measure => simp [intOf]; omega
        · obtain rfl : i = beh := by omega
          obtain ⟨m, rfl, hbest⟩ := hseek.out.done hthere.out
          have HBEST := Lib.hid hbest
          clear hbest
          go_wp2_with (at_builtin; refine wpList_append_at rfl _ _ 22 rfl w.heap.size 3 i0 (.int .i64 0) 1 8 Try.underlying22 hi hz0 hz1 hz2 rfl (by decide) _ 1 [.int .i64 (m : Int)] rfl (World.ownsRow_lit _ #[.int .i64 (m : Int)] 1 (by have := HBW.out.size; simpa using this) (by unfold maxLen; omega) rfl) AO t.length cO (nv t) rfl HAO.out (by rw [nv_len]; omega) (((At.own hown.out).drewN d).alloc _) (nv_one t) (by unfold maxLen; omega) (by omega) (by have := HBW.out.size; simp; omega) ?_; intro v1 w1 hown1 hgrow1; have HO1 := Lib.hid hown1; have HG1 := Lib.hid hgrow1; clear hown1 hgrow1)
          go_roundw
          case rel =>
            have hsz := HBW.out.size
            have h7 := hbel.out.size
            refine ⟨p, m, m :: t, rfl, by have := HP.out; rw [show ((p0 : Int) - 1) = (p : Int) by omega], by have := HP.out; omega, Head.next (by rw [← HP.out]; exact hhead.out) (by rw [← HP.out]; exact HBEST.out), ?_, ?_⟩
            · show World.ownsRow _ _ _ _ _ _ _
              rw [List.length_cons, Nat.add_comm]
              exact HO1.out
            · refine (((drewN_below hbel.out d).alloc (by simp; omega) _)).grown HG1.out (by simp; omega) (fun q hq => ?_)
              have hq' : (some wr.heap.size : Option Nat) = some q := hq
              injection hq' with hq'
              omega
          case measure => simp [intOf]; omega
end Go.Proofs.Ytdojalflgfacgaa
