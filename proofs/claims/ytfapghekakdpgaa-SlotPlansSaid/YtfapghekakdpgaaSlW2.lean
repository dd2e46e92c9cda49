/- Contracts of a slot's plan: yields, crowded, replace, entering. -/
import Derived.Test.YtfapghekakdpgaaSlW1
import Derived.Test.YtfapghekakdpgaaGrW4
import Derived.OrdersHeld
namespace Go.Proofs.Ytfapghekakdpgaa
open Go.RowKit Gr Go.Maps Sl
set_option linter.unusedVariables false
set_option linter.unusedSimpArgs false
theorem emp_toList : ByteArray.empty.toList = [] := by rw [ByteArray.toList_eq]; rfl
theorem str_ne {s : ByteArray} (h : ¬ s = ByteArray.empty) : s.toList.isEmpty = false := by
  have h1 := M.str_no h
  rw [emp_toList] at h1
  cases e : s.toList with
  | nil => rw [e] at h1; cases h1
  | cons a l => rfl
theorem str_em {s : ByteArray} (h : s = ByteArray.empty) : s.toList.isEmpty = true := by rw [h, emp_toList]; rfl
theorem grown_set (w : World) (a : Addr) (u : Value) : w.grownBy (w.setCell a u) (some a.block) :=
  ⟨rfl, rfl, rfl, by simp, fun k _ hk => heap_setCell_other w a k u (fun e => hk (by rw [e]))⟩
/-- a plan that is being made: its block, and the row of what each kid does. -/
structure PW (w : World) (bp eb base n : Nat) (E : List Int) (tk st : Int) (rl : Value) : Prop where
  blk : Blk w bp 50 #[.slice (some ⟨eb, 0, none⟩) n n, .int .i64 tk, .int .i64 st, rl]
  row : w.ownsRow base 3 1 (.slice (some ⟨eb, 0, none⟩) n n) n (iv E)
  len : E.length = n
theorem PW.ne {w : World} {bp eb base n : Nat} {E : List Int} {tk st : Int} {rl : Value} (h : PW w bp eb base n E tk st rl) : eb ≠ bp := fun e => row_ne_blk h.row h.blk (by decide) (by rw [← e]; rfl)
theorem PW.below {w w' : World} {bp eb base n : Nat} {E : List Int} {tk st : Int} {rl : Value} (h : PW w bp eb base n E tk st rl) (hb : Below w.heap.size w w') : PW w' bp eb base n E tk st rl := ⟨h.blk.below hb, own_below h.row hb, h.len⟩
theorem PW.setE {w : World} {bp eb base n : Nat} {E : List Int} {tk st : Int} {rl : Value} (h : PW w bp eb base n E tk st rl) (i : Nat) (x : Int) : PW (w.setCell ⟨eb, i, none⟩ (.int .i64 x)) bp eb base n (E.set i x) tk st rl :=
  ⟨h.blk.other _ _ _ (fun e => h.ne e.symm), by rw [iv_set]; exact (h.row.stored i _).1, by rw [List.length_set]; exact h.len⟩
theorem PW.setT {w : World} {bp eb base n : Nat} {E : List Int} {tk st : Int} {rl : Value} (h : PW w bp eb base n E tk st rl) (x : Int) : PW (w.setCell ⟨bp, 1, none⟩ (.int .i64 x)) bp eb base n E x st rl :=
  ⟨h.blk.set 1 _, h.row.kept (grown_set w ⟨bp, 1, none⟩ _) (.inr (by intro e; simp [Value.ownBlock] at e; exact h.ne e)), h.len⟩
theorem PW.setS {w : World} {bp eb base n : Nat} {E : List Int} {tk st : Int} {rl : Value} (h : PW w bp eb base n E tk st rl) (x : Int) : PW (w.setCell ⟨bp, 2, none⟩ (.int .i64 x)) bp eb base n E tk x rl :=
  ⟨h.blk.set 2 _, h.row.kept (grown_set w ⟨bp, 2, none⟩ _) (.inr (by intro e; simp [Value.ownBlock] at e; exact h.ne e)), h.len⟩
theorem PW.at {w : World} {bp eb base n : Nat} {E : List Int} {tk st : Int} {rl : Value} (h : PW w bp eb base n E tk st rl) {i : Nat} (hi : i < n) : w.cell? ⟨eb, i, none⟩ = some (.int .i64 (ats E i)) := by rw [h.row.cellAt i (by omega), iv_at E i (by rw [h.len]; exact hi)]
theorem PW.frozenE {w : World} {bp eb base n : Nat} {E : List Int} {tk st : Int} {rl : Value} (h : PW w bp eb base n E tk st rl) (i : Nat) : w.frozen? ⟨eb, i, none⟩ = false := h.row.frozenAt i
def badP (bp eb : Nat) (g : Nat) : Prop := g = bp ∨ g = eb
theorem yields_any (s : ByteArray) (k : Int) (key : ByteArray) (mode : Int) (w : World) : Calls Try.prog 65 #[.agg #[.string s, .int .i64 k], .string key, .int .i64 mode] w fun e w' => e = .returned (.int .i64 (yieldI k key mode)) ∧ Below w.heap.size w w' := by
  unfold yieldI
  by_cases h1 : k = 1
  · rw [if_pos h1]
    have hk : (k == 1) = true := by simpa using h1
    clear h1
    go_enter Try.func65, Try.ntmps65
    go_wp2
    go_ret
    exact ⟨rfl, below_alloc _ _⟩
  · rw [if_neg h1]
    have hk : (k == 1) = false := by simpa using h1
    clear h1
    by_cases h2 : mode = 2
    · have hm : (mode == 2) = true := by simpa using h2
      by_cases h3 : key = ByteArray.empty
      · rw [if_neg (fun h => h.2 h3)]
        have hs := str_em h3
        clear h2 h3
        go_enter Try.func65, Try.ntmps65
        go_wp2
        go_ret
        exact ⟨rfl, below_alloc _ _⟩
      · rw [if_pos ⟨h2, h3⟩]
        have hs := str_ne h3
        clear h2 h3
        go_enter Try.func65, Try.ntmps65
        go_wp2
        go_ret
        exact ⟨rfl, below_alloc _ _⟩
    · have hm : (mode == 2) = false := by simpa using h2
      rw [if_neg (fun h => h2 h.1)]
      clear h2
      go_enter Try.func65, Try.ntmps65
      go_wp2
      go_ret
      exact ⟨rfl, below_alloc _ _⟩
theorem crowd1_any (i bq bo bp : Nat) (A : Option Addr) (n c : Nat) (L : List Sk) (E : Option Addr) (m e : Nat) (Ev : List Int) (x1 x2 x3 : Value) (w : World) (hi : i < n) (hn : n = L.length) (hj : i < m) (hm : m = Ev.length)
    (hq : w.cell? ⟨bq, 0, none⟩ = some (.pointer (some ⟨bp, 0, none⟩))) (ho : w.cell? ⟨bo, 0, none⟩ = some (.slice A n c)) (hp : w.cell? ⟨bp, 0, none⟩ = some (.slice E m e)) (ha : At w A (scs L)) (hE : At w E (iv Ev)) :
    Calls Try.prog 69 #[.int .i64 i, .pointer (some ⟨bq, 0, none⟩), .pointer (some ⟨bo, 0, none⟩)] w fun e w' => e = .returned (.bool (crowdQ L Ev i)) ∧ Below w.heap.size w w' := by
  obtain ⟨b1, o1, rfl, _, hc0, hc1⟩ := at_sk ha (k := i) (by omega)
  obtain ⟨b2, o2, rfl, _, hc2⟩ := hE.one (iv_at Ev i (by omega))
  unfold crowdQ
  generalize (sk L i).1 = s at *
  generalize (sk L i).2 = z at *
  generalize ats Ev i = x at *
  have C := Lib.hid (kghost_any s z w)
  generalize ghI z = g at *
  clear ha hE hn hm
  by_cases h1 : x = 1
  · have hx : (x == 1) = true := by simpa using h1
    rw [decide_eq_true h1, Bool.true_or]
    clear h1
    go_enter Try.func69, Try.ntmps69
    go_wp2
    go_ret
    exact ⟨rfl, Below.refl _ _⟩
  · have hx : (x == 1) = false := by simpa using h1
    rw [decide_eq_false h1, Bool.false_or]
    clear h1
    by_cases h4 : x = 4
    · have hy : (x != 4) = false := by simpa using h4
      rw [decide_eq_true h4, Bool.not_true, Bool.false_and]
      clear h4
      go_enter Try.func69, Try.ntmps69
      go_wp2
      go_ret
      exact ⟨rfl, Below.refl _ _⟩
    · have hy : (x != 4) = true := by simpa using h4
      rw [decide_eq_false h4, Bool.not_false, Bool.true_and]
      clear h4
      go_enter Try.func69, Try.ntmps69
      go_wp2_with fail
      refine C.out.mono ?_
      rintro e9 w1 ⟨rfl, hb⟩
      go_wp2
      go_ret
      exact ⟨rfl, hb⟩
set_option maxHeartbeats 1000000 in
theorem crowded_any (bp : Nat) (A : Option Addr) (n c : Nat) (L : List Sk) (E : Option Addr) (e : Nat) (Ev : List Int) (x1 x2 x3 : Value) (w : World) (hn : n = L.length) (hm : n = Ev.length) (h1 : n ≤ 1000) (hp : Blk w bp 50 #[.slice E n e, x1, x2, x3]) (ha : At w A (scs L)) (hE : At w E (iv Ev)) :
    Calls Try.prog 67 #[.pointer (some ⟨bp, 0, none⟩), .slice A n c] w fun e w' => e = .returned (.bool (crowd L Ev)) ∧ Below w.heap.size w w' := by
  obtain ⟨b0, hb0⟩ : ∃ b, b = w.heap.size := ⟨_, rfl⟩
  obtain ⟨U, hU⟩ : ∃ W, W = (w.alloc (.cells #[.pointer (some ⟨bp, 0, none⟩)] 102)).alloc (.cells #[.slice A n c] 45) := ⟨_, rfl⟩
  have hbU : Below w.heap.size w U := by rw [hU]; exact (below_alloc w _).alloc (by simp) _
  have HK0 := Lib.hid (show Blk U b0 102 #[.pointer (some ⟨bp, 0, none⟩)] by rw [hU, hb0]; exact (Blk.new w _ _).alloc _)
  have HK1 := Lib.hid (show Blk U (b0 + 1) 45 #[.slice A n c] by rw [hU, hb0]; exact Blk.new' (w.alloc _) _ _ _ (by simp))
  have C := Lib.hid (where_crowd n b0 (b0 + 1) (crowdQ L Ev) U (by omega) (fun W i hi hb => crowd1_any i b0 (b0 + 1) bp A n c L E n e Ev x1 x2 x3 W hi hn hi hm ((HK0.out.below hb).cell 0 rfl) ((HK1.out.below hb).cell 0 rfl) (((hp.below hbU).below hb).cell 0 rfl) ((ha.below hbU).below hb) ((hE.below hbU).below hb)))
  have HCW : Hid (crowd L Ev = decide (0 < (wh n (crowdQ L Ev)).length)) := by show _ = _; unfold crowd; rw [hn]
  rw [HCW.out]
  have HU := Lib.hid hU
  have HG := Lib.hid hb0
  have HB := Lib.hid hbU
  have r1 := HK1.out.cell 0 (v := .slice A n c) rfl
  generalize (wh n (crowdQ L Ev)) = LV at *
  clear hU hb0 hbU ha hE hm hn hp HCW
  go_enter Try.func67, Try.ntmps67
  go_upto_region 1 with fail
  rw [← HU.out, ← HG.out]
  go_wp2_with fail
  refine C.out.mono ?_
  rintro e w1 ⟨v, rfl, ho, hb⟩
  obtain ⟨A5, c5, rfl, _, _⟩ := own_slice ho
  have HB1 := Lib.hid (HB.out.trans (hb.mono HB.out.size))
  clear ho hb r1 C
  go_wp2
  go_ret
  exact ⟨ret_bool' (by simp), HB1.out⟩
end Go.Proofs.Ytfapghekakdpgaa
