/- Contracts of a plan's entering, and of Of, Next. -/
import Derived.Test.YtfapghekakdpgaaSlW3b
import Derived.Handy
namespace Go.Proofs.Ytfapghekakdpgaa
open Go.RowKit Gr Go.Maps Sl
set_option linter.unusedVariables false
set_option linter.unusedSimpArgs false
theorem drewN_belowS {B : Nat} {a w : World} (h : Below B a w) (q : Nat) : Below B a (w.drewN q) := ⟨h.os, h.tape, h.output, h.size, h.block⟩
theorem replace_any (bp eb base : Nat) (A : Option Addr) (n c : Nat) (L : List Sk) (key : ByteArray) (mode : Int) (rl : Value) (W0 w : World) (hn : n = L.length) (h1 : n ≤ 1000) (ha : At W0 A (scs L)) (hb0 : Below W0.heap.size W0 w) (hp : PW w bp eb base n (zs n) (-2) 0 rl) (hbp : W0.heap.size ≤ bp) (heb : W0.heap.size ≤ eb) :
    Calls Try.prog 49 #[.pointer (some ⟨bp, 0, none⟩), .slice A n c, .int .i64 (oI (cur L)), .string key, .int .i64 mode] w fun e w' => e = .returned (.tuple #[]) ∧ PW w' bp eb base n (repl L key mode).each (repl L key mode).take (repl L key mode).start rl ∧ Beside (badP bp eb) w w' := by
  obtain hcur | ⟨a, hcur⟩ : cur L = none ∨ ∃ a, cur L = some a := by
    cases cur L with
    | none => exact .inl rfl
    | some a => exact .inr ⟨a, rfl⟩
  · by_cases hkey : key = ByteArray.empty
    · exact repl_010000 0 0 bp eb base A n c L key mode rl W0 w hn h1 ha hb0 hp hbp heb hcur hkey
    · cases hback : back L key with
      | none =>
          by_cases hmode : mode = 1
          · cases hcrowd : crowd L (each2 L key mode) with
            | true => exact repl_000011 0 0 bp eb base A n c L key mode rl W0 w hn h1 ha hb0 hp hbp heb hcur hkey hback hmode hcrowd
            | false => exact repl_000010 0 0 bp eb base A n c L key mode rl W0 w hn h1 ha hb0 hp hbp heb hcur hkey hback hmode hcrowd
          · exact repl_000000 0 0 bp eb base A n c L key mode rl W0 w hn h1 ha hb0 hp hbp heb hcur hkey hback hmode
      | some b =>
          by_cases hheld : (sk L b).2 = 4
          · exact repl_001100 0 b bp eb base A n c L key mode rl W0 w hn h1 ha hb0 hp hbp heb hcur hkey hback hheld
          · by_cases hmode : mode = 1
            · cases hcrowd : crowd L (each2 L key mode) with
              | true => exact repl_001011 0 b bp eb base A n c L key mode rl W0 w hn h1 ha hb0 hp hbp heb hcur hkey hback hheld hmode hcrowd
              | false => exact repl_001010 0 b bp eb base A n c L key mode rl W0 w hn h1 ha hb0 hp hbp heb hcur hkey hback hheld hmode hcrowd
            · exact repl_001000 0 b bp eb base A n c L key mode rl W0 w hn h1 ha hb0 hp hbp heb hcur hkey hback hheld hmode
  · by_cases hkey : key = ByteArray.empty
    · exact repl_110000 a 0 bp eb base A n c L key mode rl W0 w hn h1 ha hb0 hp hbp heb hcur hkey
    · cases hback : back L key with
      | none =>
          by_cases hmode : mode = 1
          · cases hcrowd : crowd L (each2 L key mode) with
            | true => exact repl_100011 a 0 bp eb base A n c L key mode rl W0 w hn h1 ha hb0 hp hbp heb hcur hkey hback hmode hcrowd
            | false => exact repl_100010 a 0 bp eb base A n c L key mode rl W0 w hn h1 ha hb0 hp hbp heb hcur hkey hback hmode hcrowd
          · exact repl_100000 a 0 bp eb base A n c L key mode rl W0 w hn h1 ha hb0 hp hbp heb hcur hkey hback hmode
      | some b =>
          by_cases hheld : (sk L b).2 = 4
          · exact repl_101100 a b bp eb base A n c L key mode rl W0 w hn h1 ha hb0 hp hbp heb hcur hkey hback hheld
          · by_cases hmode : mode = 1
            · cases hcrowd : crowd L (each2 L key mode) with
              | true => exact repl_101011 a b bp eb base A n c L key mode rl W0 w hn h1 ha hb0 hp hbp heb hcur hkey hback hheld hmode hcrowd
              | false => exact repl_101010 a b bp eb base A n c L key mode rl W0 w hn h1 ha hb0 hp hbp heb hcur hkey hback hheld hmode hcrowd
            · exact repl_101000 a b bp eb base A n c L key mode rl W0 w hn h1 ha hb0 hp hbp heb hcur hkey hback hheld hmode
set_option maxHeartbeats 2000000 in
set_option maxRecDepth 100000 in
theorem entering0_any (bp eb base : Nat) (A : Option Addr) (n c : Nat) (L : List Sk) (E : List Int) (tk st : Int) (rl : Value) (U : World) (hn : n = L.length) (h1 : n ≤ 1000) (ha : At U A (scs L)) (hp : PW U bp eb base n E tk st rl) (htk : tk < n) :
    Calls Try.prog 50 #[.pointer (some ⟨bp, 0, none⟩), .slice A n c] U fun e w' => e = .returned (.bool (entQ L ⟨E, tk, st⟩)) ∧ Below U.heap.size U w' := by
  have r0 := hp.blk.cell 0 (v := .slice (some ⟨eb, 0, none⟩) n n) rfl
  have r1 := hp.blk.cell 1 (v := .int .i64 tk) rfl
  have r2 := hp.blk.cell 2 (v := .int .i64 st) rfl
  have hen : entQ L ⟨E, tk, st⟩ = (decide (st = 1) || (decide (0 ≤ tk) && (decide (ats E tk.toNat = 0) && enI (sk L tk.toNat).2))) := rfl
  rw [hen]
  clear hen
  by_cases h2 : st = 1
  · have hs : (st == 1) = true := by simpa using h2
    rw [decide_eq_true h2, Bool.true_or]
    clear h2 ha hp hn
    go_enter Try.func50, Try.ntmps50
    go_wp2_with fail
    go_big_quiet (fail)
    go_wp2
    go_ret
    exact ⟨rfl, drewN_belowS (Below.refl _ _) _⟩
  · have hs : (st == 1) = false := by simpa using h2
    rw [decide_eq_false h2, Bool.false_or]
    clear h2
    by_cases h3 : 0 ≤ tk
    · obtain ⟨t, rfl⟩ : ∃ t : Nat, tk = (t : Int) := ⟨tk.toNat, by omega⟩
      have htn : t < n := by omega
      have ht : decide (0 ≤ (t : Int)) = true := decide_eq_true h3
      have ht2 : decide ((t : Int) ≥ 0) = true := decide_eq_true h3
      rw [decide_eq_true h3, Bool.true_and, show ((t : Int)).toNat = t by omega]
      have r3 := hp.at (i := t) htn
      obtain ⟨x, hx⟩ : ∃ x, x = ats E t := ⟨_, rfl⟩
      rw [← hx] at r3 ⊢
      by_cases h4 : x = 0
      · rw [decide_eq_true h4, Bool.true_and]
        obtain ⟨b1, o1, rfl, hb1, hc0, hc1⟩ := at_sk ha (k := t) (by omega)
        have CEx := fun W => entering_any (sk L t).2 0 0 0 W
        replace CEx : ∀ W, Calls Try.prog 55 #[.agg #[.int .i64 (sk L t).2, .int .i64 0, .int .i64 0, .int .i64 0]] W fun e w' => e = .returned (.bool (enI (sk L t).2)) ∧ Below W.heap.size W w' := CEx
        generalize (sk L t).1 = s at *
        generalize (sk L t).2 = z at *
        generalize enI z = g at *
        have CE := Lib.hid CEx
        obtain rfl : x = 0 := h4
        have hebl : eb < U.heap.size := (hp.row.lt _ rfl).2
        have SH := Lib.hid (fun W (BW : Below U.heap.size U W) => (⟨(BW.cell (p := ⟨bp, 0, none⟩) hp.blk.lt).trans r0, (BW.cell (p := ⟨bp, 1, none⟩) hp.blk.lt).trans r1, (BW.cell (p := ⟨bp, 2, none⟩) hp.blk.lt).trans r2, (BW.cell (p := ⟨eb, t, none⟩) hebl).trans r3, (BW.cell (p := ⟨b1, o1 + t * 2, none⟩) hb1).trans hc0, (BW.cell (p := ⟨b1, o1 + t * 2 + 1, none⟩) hb1).trans hc1⟩ : (fun w' => w'.cell? ⟨bp, 0, none⟩ = some (.slice (some ⟨eb, 0, none⟩) n n) ∧ w'.cell? ⟨bp, 1, none⟩ = some (.int .i64 (t : Int)) ∧ w'.cell? ⟨bp, 2, none⟩ = some (.int .i64 st) ∧ w'.cell? ⟨eb, t, none⟩ = some (.int .i64 0) ∧ w'.cell? ⟨b1, o1 + t * 2, none⟩ = some (.string s) ∧ w'.cell? ⟨b1, o1 + t * 2 + 1, none⟩ = some (.int .i64 z)) W))
        clear hx ha hp hn h3 CEx hc0 hc1 r0 r1 r2 r3
        go_enter Try.func50, Try.ntmps50
        go_upto_region 1 with fail
        have HB0 := Lib.hid (show Below U.heap.size U U.drew from Below_drew (Below.refl _ _))
        obtain ⟨X0, hX0⟩ : ∃ X, X = U.drew := ⟨_, rfl⟩
        refine wp_region_held_drew (S := (fun w' => w'.cell? ⟨bp, 0, none⟩ = some (.slice (some ⟨eb, 0, none⟩) n n) ∧ w'.cell? ⟨bp, 1, none⟩ = some (.int .i64 (t : Int)) ∧ w'.cell? ⟨bp, 2, none⟩ = some (.int .i64 st) ∧ w'.cell? ⟨eb, t, none⟩ = some (.int .i64 0) ∧ w'.cell? ⟨b1, o1 + t * 2, none⟩ = some (.string s) ∧ w'.cell? ⟨b1, o1 + t * 2 + 1, none⟩ = some (.int .i64 z))) (by kernel_rfl) (SH.out _ HB0.out) (fun hH0 => ?_)
        rw [← hX0] at HB0 hH0 ⊢
        clear hX0
        refine wpAnyH_take (i := 0) (oi := Oper.mk (some 5) (Op.move (Operand.tmp 0)) 102 "slot.go:118" #[] none) (v := ?_) rfl (by kernel_rfl) (by kernel_rfl) (by kernel_rfl) (fun _ _ _ h => h) (Or.inl ⟨by rfl, ?_⟩) (by assumption) ?_
        rotate_left 1
        · (intro w hSw; (try dsimp only at hSw); go_simp; (try with_reducible rfl))
        try simp only [Act.put, List.setIfInBounds_toArray, List.set_cons_zero, List.set_cons_succ]
        refine wpAnyH_take (i := 1) (oi := Oper.mk (some 6) (Op.nilCheck (Operand.tmp 5)) 0 "slot.go:118" #[Edge.mk 0 Ground.data] none) (v := ?_) rfl (by kernel_rfl) (by kernel_rfl) (by kernel_rfl) (fun _ _ _ h => h) (Or.inl ⟨by rfl, ?_⟩) (by assumption) ?_
        rotate_left 1
        · (intro w hSw; (try dsimp only at hSw); go_simp; (try with_reducible rfl))
        try simp only [Act.put, List.setIfInBounds_toArray, List.set_cons_zero, List.set_cons_succ]
        refine wpAnyH_take (i := 2) (oi := Oper.mk (some 7) (Op.fieldAddr 50 (Operand.tmp 6) 2) 0 "slot.go:118" #[Edge.mk 1 Ground.data] none) (v := ?_) rfl (by kernel_rfl) (by kernel_rfl) (by kernel_rfl) (fun _ _ _ h => h) (Or.inl ⟨by rfl, ?_⟩) (by assumption) ?_
        rotate_left 1
        · (intro w hSw; (try dsimp only at hSw); go_simp; (try with_reducible rfl))
        try simp only [Act.put, List.setIfInBounds_toArray, List.set_cons_zero, List.set_cons_succ]
        refine wpAnyH_take (i := 3) (oi := Oper.mk (some 8) (Op.load 3 (Operand.tmp 7)) 3 "slot.go:118" #[Edge.mk 2 Ground.data] none) (v := ?_) rfl (by kernel_rfl) (by kernel_rfl) (by kernel_rfl) (fun _ _ _ h => h) (Or.inl ⟨by rfl, ?_⟩) (by assumption) ?_
        rotate_left 1
        · (intro w hSw; (try dsimp only at hSw); go_simp; (try with_reducible rfl))
        try simp only [Act.put, List.setIfInBounds_toArray, List.set_cons_zero, List.set_cons_succ]
        refine wpAnyH_take (i := 4) (oi := Oper.mk (some 9) (Op.binOp BinOp.eql 3 (Operand.tmp 8) (Operand.const (Value.int IntKind.i64 1)) 3) 4 "slot.go:118" #[Edge.mk 3 Ground.data] none) (v := ?_) rfl (by kernel_rfl) (by kernel_rfl) (by kernel_rfl) (fun _ _ _ h => h) (Or.inl ⟨by rfl, ?_⟩) (by assumption) ?_
        rotate_left 1
        · (intro w hSw; (try dsimp only at hSw); go_simp; (try with_reducible rfl))
        try simp only [Act.put, List.setIfInBounds_toArray, List.set_cons_zero, List.set_cons_succ]
        refine wpAnyH_take (i := 5) (oi := Oper.mk (some 10) (Op.move (Operand.tmp 9)) 4 "slot.go:118" #[Edge.mk 4 Ground.data] none) (v := ?_) rfl (by kernel_rfl) (by kernel_rfl) (by kernel_rfl) (fun _ _ _ h => h) (Or.inl ⟨by rfl, ?_⟩) (by assumption) ?_
        rotate_left 1
        · (intro w hSw; (try dsimp only at hSw); go_simp; (try with_reducible rfl))
        try simp only [Act.put, List.setIfInBounds_toArray, List.set_cons_zero, List.set_cons_succ]
        refine wpAnyH_take (i := 6) (oi := Oper.mk (some 11) (Op.move (Operand.tmp 0)) 102 "slot.go:118" #[Edge.mk 5 Ground.guard] (some (5, false))) (v := ?_) rfl (by kernel_rfl) (by kernel_rfl) (by kernel_rfl) (fun _ _ _ h => h) (Or.inl ⟨by rfl, ?_⟩) (by assumption) ?_
        rotate_left 1
        · (intro w hSw; (try dsimp only at hSw); go_simp; (try with_reducible rfl))
        try simp only [Act.put, List.setIfInBounds_toArray, List.set_cons_zero, List.set_cons_succ]
        refine wpAnyH_take (i := 7) (oi := Oper.mk (some 12) (Op.nilCheck (Operand.tmp 11)) 0 "slot.go:118" #[Edge.mk 6 Ground.data, Edge.mk 5 Ground.guard] (some (5, false))) (v := ?_) rfl (by kernel_rfl) (by kernel_rfl) (by kernel_rfl) (fun _ _ _ h => h) (Or.inl ⟨by rfl, ?_⟩) (by assumption) ?_
        rotate_left 1
        · (intro w hSw; (try dsimp only at hSw); go_simp; (try with_reducible rfl))
        try simp only [Act.put, List.setIfInBounds_toArray, List.set_cons_zero, List.set_cons_succ]
        refine wpAnyH_take (i := 8) (oi := Oper.mk (some 13) (Op.fieldAddr 50 (Operand.tmp 12) 1) 0 "slot.go:118" #[Edge.mk 7 Ground.data, Edge.mk 5 Ground.guard] (some (5, false))) (v := ?_) rfl (by kernel_rfl) (by kernel_rfl) (by kernel_rfl) (fun _ _ _ h => h) (Or.inl ⟨by rfl, ?_⟩) (by assumption) ?_
        rotate_left 1
        · (intro w hSw; (try dsimp only at hSw); go_simp; (try with_reducible rfl))
        try simp only [Act.put, List.setIfInBounds_toArray, List.set_cons_zero, List.set_cons_succ]
        refine wpAnyH_take (i := 9) (oi := Oper.mk (some 14) (Op.load 3 (Operand.tmp 13)) 3 "slot.go:118" #[Edge.mk 8 Ground.data, Edge.mk 5 Ground.guard] (some (5, false))) (v := ?_) rfl (by kernel_rfl) (by kernel_rfl) (by kernel_rfl) (fun _ _ _ h => h) (Or.inl ⟨by rfl, ?_⟩) (by assumption) ?_
        rotate_left 1
        · (intro w hSw; (try dsimp only at hSw); go_simp; (try with_reducible rfl))
        try simp only [Act.put, List.setIfInBounds_toArray, List.set_cons_zero, List.set_cons_succ]
        refine wpAnyH_take (i := 10) (oi := Oper.mk (some 15) (Op.binOp BinOp.geq 3 (Operand.tmp 14) (Operand.const (Value.int IntKind.i64 0)) 3) 4 "slot.go:118" #[Edge.mk 9 Ground.data, Edge.mk 5 Ground.guard] (some (5, false))) (v := ?_) rfl (by kernel_rfl) (by kernel_rfl) (by kernel_rfl) (fun _ _ _ h => h) (Or.inl ⟨by rfl, ?_⟩) (by assumption) ?_
        rotate_left 1
        · (intro w hSw; (try dsimp only at hSw); go_simp; (try with_reducible rfl))
        try simp only [Act.put, List.setIfInBounds_toArray, List.set_cons_zero, List.set_cons_succ]
        refine wpAnyH_take (i := 11) (oi := Oper.mk (some 16) (Op.move (Operand.tmp 15)) 4 "slot.go:118" #[Edge.mk 10 Ground.data, Edge.mk 5 Ground.chain, Edge.mk 5 Ground.guard] (some (5, false))) (v := ?_) rfl (by kernel_rfl) (by kernel_rfl) (by kernel_rfl) (fun _ _ _ h => h) (Or.inl ⟨by rfl, ?_⟩) (by assumption) ?_
        rotate_left 1
        · (intro w hSw; (try dsimp only at hSw); go_simp; (try with_reducible rfl))
        try simp only [Act.put, List.setIfInBounds_toArray, List.set_cons_zero, List.set_cons_succ]
        refine wpAnyH_take (i := 12) (oi := Oper.mk (some 17) (Op.move (Operand.tmp 0)) 102 "slot.go:118" #[Edge.mk 11 Ground.guard] (some (11, true))) (v := ?_) rfl (by kernel_rfl) (by kernel_rfl) (by kernel_rfl) (fun _ _ _ h => h) (Or.inl ⟨by rfl, ?_⟩) (by assumption) ?_
        rotate_left 1
        · (intro w hSw; (try dsimp only at hSw); go_simp; (try with_reducible rfl))
        try simp only [Act.put, List.setIfInBounds_toArray, List.set_cons_zero, List.set_cons_succ]
        refine wpAnyH_take (i := 13) (oi := Oper.mk (some 18) (Op.nilCheck (Operand.tmp 17)) 0 "slot.go:118" #[Edge.mk 12 Ground.data, Edge.mk 11 Ground.guard] (some (11, true))) (v := ?_) rfl (by kernel_rfl) (by kernel_rfl) (by kernel_rfl) (fun _ _ _ h => h) (Or.inl ⟨by rfl, ?_⟩) (by assumption) ?_
        rotate_left 1
        · (intro w hSw; (try dsimp only at hSw); go_simp; (try with_reducible rfl))
        try simp only [Act.put, List.setIfInBounds_toArray, List.set_cons_zero, List.set_cons_succ]
        refine wpAnyH_take (i := 14) (oi := Oper.mk (some 19) (Op.fieldAddr 50 (Operand.tmp 18) 0) 0 "slot.go:118" #[Edge.mk 13 Ground.data, Edge.mk 11 Ground.guard] (some (11, true))) (v := ?_) rfl (by kernel_rfl) (by kernel_rfl) (by kernel_rfl) (fun _ _ _ h => h) (Or.inl ⟨by rfl, ?_⟩) (by assumption) ?_
        rotate_left 1
        · (intro w hSw; (try dsimp only at hSw); go_simp; (try with_reducible rfl))
        try simp only [Act.put, List.setIfInBounds_toArray, List.set_cons_zero, List.set_cons_succ]
        refine wpAnyH_take (i := 15) (oi := Oper.mk (some 20) (Op.load 29 (Operand.tmp 19)) 29 "slot.go:118" #[Edge.mk 14 Ground.data, Edge.mk 11 Ground.guard] (some (11, true))) (v := ?_) rfl (by kernel_rfl) (by kernel_rfl) (by kernel_rfl) (fun _ _ _ h => h) (Or.inl ⟨by rfl, ?_⟩) (by assumption) ?_
        rotate_left 1
        · (intro w hSw; (try dsimp only at hSw); go_simp; (try with_reducible rfl))
        try simp only [Act.put, List.setIfInBounds_toArray, List.set_cons_zero, List.set_cons_succ]
        refine wpAnyH_take (i := 16) (oi := Oper.mk (some 21) (Op.move (Operand.tmp 0)) 102 "slot.go:118" #[Edge.mk 11 Ground.guard] (some (11, true))) (v := ?_) rfl (by kernel_rfl) (by kernel_rfl) (by kernel_rfl) (fun _ _ _ h => h) (Or.inl ⟨by rfl, ?_⟩) (by assumption) ?_
        rotate_left 1
        · (intro w hSw; (try dsimp only at hSw); go_simp; (try with_reducible rfl))
        try simp only [Act.put, List.setIfInBounds_toArray, List.set_cons_zero, List.set_cons_succ]
        refine wpAnyH_take (i := 17) (oi := Oper.mk (some 22) (Op.nilCheck (Operand.tmp 21)) 0 "slot.go:118" #[Edge.mk 16 Ground.data, Edge.mk 11 Ground.guard] (some (11, true))) (v := ?_) rfl (by kernel_rfl) (by kernel_rfl) (by kernel_rfl) (fun _ _ _ h => h) (Or.inl ⟨by rfl, ?_⟩) (by assumption) ?_
        rotate_left 1
        · (intro w hSw; (try dsimp only at hSw); go_simp; (try with_reducible rfl))
        try simp only [Act.put, List.setIfInBounds_toArray, List.set_cons_zero, List.set_cons_succ]
        refine wpAnyH_take (i := 18) (oi := Oper.mk (some 23) (Op.fieldAddr 50 (Operand.tmp 22) 1) 0 "slot.go:118" #[Edge.mk 17 Ground.data, Edge.mk 11 Ground.guard] (some (11, true))) (v := ?_) rfl (by kernel_rfl) (by kernel_rfl) (by kernel_rfl) (fun _ _ _ h => h) (Or.inl ⟨by rfl, ?_⟩) (by assumption) ?_
        rotate_left 1
        · (intro w hSw; (try dsimp only at hSw); go_simp; (try with_reducible rfl))
        try simp only [Act.put, List.setIfInBounds_toArray, List.set_cons_zero, List.set_cons_succ]
        refine wpAnyH_take (i := 19) (oi := Oper.mk (some 24) (Op.load 3 (Operand.tmp 23)) 3 "slot.go:118" #[Edge.mk 18 Ground.data, Edge.mk 11 Ground.guard] (some (11, true))) (v := ?_) rfl (by kernel_rfl) (by kernel_rfl) (by kernel_rfl) (fun _ _ _ h => h) (Or.inl ⟨by rfl, ?_⟩) (by assumption) ?_
        rotate_left 1
        · (intro w hSw; (try dsimp only at hSw); go_simp; (try with_reducible rfl))
        try simp only [Act.put, List.setIfInBounds_toArray, List.set_cons_zero, List.set_cons_succ]
        refine wpAnyH_take (i := 20) (oi := Oper.mk (some 25) (Op.indexAddr 29 (Operand.tmp 20) (Operand.tmp 24)) 0 "slot.go:118" #[Edge.mk 15 Ground.data, Edge.mk 19 Ground.data, Edge.mk 11 Ground.guard] (some (11, true))) (v := ?_) rfl (by kernel_rfl) (by kernel_rfl) (by kernel_rfl) (fun _ _ _ h => h) (Or.inl ⟨by rfl, ?_⟩) (by assumption) ?_
        rotate_left 1
        · (intro w hSw; (try dsimp only at hSw); go_simp; (try with_reducible rfl))
        try simp only [Act.put, List.setIfInBounds_toArray, List.set_cons_zero, List.set_cons_succ]
        refine wpAnyH_take (i := 21) (oi := Oper.mk (some 26) (Op.load 3 (Operand.tmp 25)) 3 "slot.go:118" #[Edge.mk 20 Ground.data, Edge.mk 11 Ground.guard] (some (11, true))) (v := ?_) rfl (by kernel_rfl) (by kernel_rfl) (by kernel_rfl) (fun _ _ _ h => h) (Or.inl ⟨by rfl, ?_⟩) (by assumption) ?_
        rotate_left 1
        · (intro w hSw; (try dsimp only at hSw); go_simp; (try with_reducible rfl))
        try simp only [Act.put, List.setIfInBounds_toArray, List.set_cons_zero, List.set_cons_succ]
        refine wpAnyH_take (i := 22) (oi := Oper.mk (some 27) (Op.binOp BinOp.eql 3 (Operand.tmp 26) (Operand.const (Value.int IntKind.i64 0)) 3) 4 "slot.go:118" #[Edge.mk 21 Ground.data, Edge.mk 11 Ground.guard] (some (11, true))) (v := ?_) rfl (by kernel_rfl) (by kernel_rfl) (by kernel_rfl) (fun _ _ _ h => h) (Or.inl ⟨by rfl, ?_⟩) (by assumption) ?_
        rotate_left 1
        · (intro w hSw; (try dsimp only at hSw); go_simp; (try with_reducible rfl))
        try simp only [Act.put, List.setIfInBounds_toArray, List.set_cons_zero, List.set_cons_succ]
        refine wpAnyH_take (i := 23) (oi := Oper.mk (some 28) (Op.pick (Operand.tmp 16) (Operand.tmp 27) (Operand.const (Value.bool false))) 4 "slot.go:118" #[Edge.mk 11 Ground.data, Edge.mk 22 Ground.data, Edge.mk 5 Ground.guard] (some (5, false))) (v := ?_) rfl (by kernel_rfl) (by kernel_rfl) (by kernel_rfl) (fun _ _ _ h => h) (Or.inl ⟨by rfl, ?_⟩) (by assumption) ?_
        rotate_left 1
        · (intro w hSw; (try dsimp only at hSw); go_simp; (try with_reducible rfl))
        try simp only [Act.put, List.setIfInBounds_toArray, List.set_cons_zero, List.set_cons_succ]
        refine wpAnyH_take (i := 24) (oi := Oper.mk (some 29) (Op.move (Operand.tmp 28)) 4 "slot.go:118" #[Edge.mk 23 Ground.data, Edge.mk 11 Ground.chain, Edge.mk 5 Ground.guard] (some (5, false))) (v := ?_) rfl (by kernel_rfl) (by kernel_rfl) (by kernel_rfl) (fun _ _ _ h => h) (Or.inl ⟨by rfl, ?_⟩) (by assumption) ?_
        rotate_left 1
        · (intro w hSw; (try dsimp only at hSw); go_simp; (try with_reducible rfl))
        try simp only [Act.put, List.setIfInBounds_toArray, List.set_cons_zero, List.set_cons_succ]
        refine wpAnyH_take (i := 25) (oi := Oper.mk (some 30) (Op.move (Operand.tmp 1)) 45 "slot.go:118" #[Edge.mk 24 Ground.guard] (some (24, true))) (v := ?_) rfl (by kernel_rfl) (by kernel_rfl) (by kernel_rfl) (fun _ _ _ h => h) (Or.inl ⟨by rfl, ?_⟩) (by assumption) ?_
        rotate_left 1
        · (intro w hSw; (try dsimp only at hSw); go_simp; (try with_reducible rfl))
        try simp only [Act.put, List.setIfInBounds_toArray, List.set_cons_zero, List.set_cons_succ]
        refine wpAnyH_take (i := 26) (oi := Oper.mk (some 31) (Op.move (Operand.tmp 0)) 102 "slot.go:118" #[Edge.mk 24 Ground.guard] (some (24, true))) (v := ?_) rfl (by kernel_rfl) (by kernel_rfl) (by kernel_rfl) (fun _ _ _ h => h) (Or.inl ⟨by rfl, ?_⟩) (by assumption) ?_
        rotate_left 1
        · (intro w hSw; (try dsimp only at hSw); go_simp; (try with_reducible rfl))
        try simp only [Act.put, List.setIfInBounds_toArray, List.set_cons_zero, List.set_cons_succ]
        refine wpAnyH_take (i := 27) (oi := Oper.mk (some 32) (Op.nilCheck (Operand.tmp 31)) 0 "slot.go:118" #[Edge.mk 26 Ground.data, Edge.mk 24 Ground.guard] (some (24, true))) (v := ?_) rfl (by kernel_rfl) (by kernel_rfl) (by kernel_rfl) (fun _ _ _ h => h) (Or.inl ⟨by rfl, ?_⟩) (by assumption) ?_
        rotate_left 1
        · (intro w hSw; (try dsimp only at hSw); go_simp; (try with_reducible rfl))
        try simp only [Act.put, List.setIfInBounds_toArray, List.set_cons_zero, List.set_cons_succ]
        refine wpAnyH_take (i := 28) (oi := Oper.mk (some 33) (Op.fieldAddr 50 (Operand.tmp 32) 1) 0 "slot.go:118" #[Edge.mk 27 Ground.data, Edge.mk 24 Ground.guard] (some (24, true))) (v := ?_) rfl (by kernel_rfl) (by kernel_rfl) (by kernel_rfl) (fun _ _ _ h => h) (Or.inl ⟨by rfl, ?_⟩) (by assumption) ?_
        rotate_left 1
        · (intro w hSw; (try dsimp only at hSw); go_simp; (try with_reducible rfl))
        try simp only [Act.put, List.setIfInBounds_toArray, List.set_cons_zero, List.set_cons_succ]
        refine wpAnyH_take (i := 29) (oi := Oper.mk (some 34) (Op.load 3 (Operand.tmp 33)) 3 "slot.go:118" #[Edge.mk 28 Ground.data, Edge.mk 24 Ground.guard] (some (24, true))) (v := ?_) rfl (by kernel_rfl) (by kernel_rfl) (by kernel_rfl) (fun _ _ _ h => h) (Or.inl ⟨by rfl, ?_⟩) (by assumption) ?_
        rotate_left 1
        · (intro w hSw; (try dsimp only at hSw); go_simp; (try with_reducible rfl))
        try simp only [Act.put, List.setIfInBounds_toArray, List.set_cons_zero, List.set_cons_succ]
        refine wpAnyH_take (i := 30) (oi := Oper.mk (some 35) (Op.indexAddr 45 (Operand.tmp 30) (Operand.tmp 34)) 0 "slot.go:118" #[Edge.mk 25 Ground.data, Edge.mk 29 Ground.data, Edge.mk 24 Ground.guard] (some (24, true))) (v := ?_) rfl (by kernel_rfl) (by kernel_rfl) (by kernel_rfl) (fun _ _ _ h => h) (Or.inl ⟨by rfl, ?_⟩) (by assumption) ?_
        rotate_left 1
        · (intro w hSw; (try dsimp only at hSw); go_simp; (try with_reducible rfl))
        try simp only [Act.put, List.setIfInBounds_toArray, List.set_cons_zero, List.set_cons_succ]
        refine wpAnyH_take (i := 31) (oi := Oper.mk (some 36) (Op.load 86 (Operand.tmp 35)) 86 "slot.go:118" #[Edge.mk 30 Ground.data, Edge.mk 24 Ground.guard] (some (24, true))) (v := ?_) rfl (by kernel_rfl) (by kernel_rfl) (by kernel_rfl) (fun _ _ _ h => h) (Or.inl ⟨by rfl, ?_⟩) (by assumption) ?_
        rotate_left 1
        · (intro w hSw; (try dsimp only at hSw); go_simp; (try with_reducible rfl))
        try simp only [Act.put, List.setIfInBounds_toArray, List.set_cons_zero, List.set_cons_succ]
        refine wpAnyH_ready (rs := [32]) (by kernel_rfl) (by simp) ?_
        refine (AllReadyH.cons (o := Oper.mk (some 37) (Op.call (Call.mk (Callee.value (Operand.func 54)) #[Operand.tmp 36] #[86])) 92 "slot.go:118" #[Edge.mk 31 Ground.data, Edge.mk 24 Ground.chain, Edge.mk 24 Ground.guard] (some (24, true))) rfl (fun K hK => ?_) AllReadyH.nil)
        go_simp
        go_at_call 54
        (with_reducible refine (slook_any s z _).mono ?_)
        rintro e9 X1 ⟨rfl, hb⟩
        have HB1 := Lib.hid (HB0.out.trans (hb.mono HB0.out.size))
        clear hb HB0
        go_wp2_with fail
        refine hK.out _ _ ?_ (fun hH1 => ?_)
        · exact SH.out _ HB1.out
        clear hK K
        try clear hH0
        try simp only [Act.put, List.setIfInBounds_toArray, List.set_cons_zero, List.set_cons_succ]
        refine wpAnyH_ready (rs := [33]) (by kernel_rfl) (by simp) ?_
        refine (AllReadyH.cons (o := Oper.mk (some 38) (Op.call (Call.mk (Callee.value (Operand.func 55)) #[Operand.tmp 37] #[92])) 4 "slot.go:118" #[Edge.mk 32 Ground.data, Edge.mk 32 Ground.chain, Edge.mk 24 Ground.guard] (some (24, true))) rfl (fun K hK => ?_) AllReadyH.nil)
        go_simp
        go_at_call 55
        (with_reducible refine (CE.out _).mono ?_)
        rintro e9 X2 ⟨rfl, hb⟩
        have HB2 := Lib.hid (HB1.out.trans (hb.mono HB1.out.size))
        clear hb HB1
        go_wp2_with fail
        refine hK.out _ _ ?_ (fun hH2 => ?_)
        · exact SH.out _ HB2.out
        clear hK K
        try clear hH1
        try simp only [Act.put, List.setIfInBounds_toArray, List.set_cons_zero, List.set_cons_succ]
        refine wpAnyH_take (i := 34) (oi := Oper.mk (some 39) (Op.pick (Operand.tmp 29) (Operand.tmp 38) (Operand.const (Value.bool false))) 4 "slot.go:118" #[Edge.mk 24 Ground.data, Edge.mk 33 Ground.data, Edge.mk 5 Ground.guard] (some (5, false))) (v := ?_) rfl (by kernel_rfl) (by kernel_rfl) (by kernel_rfl) (fun _ _ _ h => h) (Or.inl ⟨by rfl, ?_⟩) (by assumption) ?_
        rotate_left 1
        · (intro w hSw; (try dsimp only at hSw); go_simp; (try with_reducible rfl))
        try simp only [Act.put, List.setIfInBounds_toArray, List.set_cons_zero, List.set_cons_succ]
        refine wpAnyH_take (i := 35) (oi := Oper.mk (some 40) (Op.pick (Operand.tmp 10) (Operand.const (Value.bool true)) (Operand.tmp 39)) 4 "slot.go:118" #[Edge.mk 5 Ground.data, Edge.mk 34 Ground.data] none) (v := ?_) rfl (by kernel_rfl) (by kernel_rfl) (by kernel_rfl) (fun _ _ _ h => h) (Or.inl ⟨by rfl, ?_⟩) (by assumption) ?_
        rotate_left 1
        · (intro w hSw; (try dsimp only at hSw); go_simp; (try with_reducible rfl))
        try simp only [Act.put, List.setIfInBounds_toArray, List.set_cons_zero, List.set_cons_succ]
        refine wpAnyH_take (i := 36) (oi := Oper.mk (some 4) (Op.assign (Operand.tmp 40)) 4 "slot.go:118" #[Edge.mk 35 Ground.data, Edge.mk 33 Ground.chain, Edge.mk 0 Ground.phase, Edge.mk 1 Ground.phase, Edge.mk 2 Ground.phase, Edge.mk 3 Ground.phase, Edge.mk 4 Ground.phase, Edge.mk 5 Ground.phase, Edge.mk 6 Ground.phase, Edge.mk 7 Ground.phase, Edge.mk 8 Ground.phase, Edge.mk 9 Ground.phase, Edge.mk 10 Ground.phase, Edge.mk 11 Ground.phase, Edge.mk 12 Ground.phase, Edge.mk 13 Ground.phase, Edge.mk 14 Ground.phase, Edge.mk 15 Ground.phase, Edge.mk 16 Ground.phase, Edge.mk 17 Ground.phase, Edge.mk 18 Ground.phase, Edge.mk 19 Ground.phase, Edge.mk 20 Ground.phase, Edge.mk 21 Ground.phase, Edge.mk 22 Ground.phase, Edge.mk 23 Ground.phase, Edge.mk 24 Ground.phase, Edge.mk 25 Ground.phase, Edge.mk 26 Ground.phase, Edge.mk 27 Ground.phase, Edge.mk 28 Ground.phase, Edge.mk 29 Ground.phase, Edge.mk 30 Ground.phase, Edge.mk 31 Ground.phase, Edge.mk 32 Ground.phase, Edge.mk 33 Ground.phase, Edge.mk 34 Ground.phase, Edge.mk 35 Ground.phase] none) (v := ?_) rfl (by kernel_rfl) (by kernel_rfl) (by kernel_rfl) (fun _ _ _ h => h) (Or.inl ⟨by rfl, ?_⟩) (by assumption) ?_
        rotate_left 1
        · (intro w hSw; (try dsimp only at hSw); go_simp; (try with_reducible rfl))
        try simp only [Act.put, List.setIfInBounds_toArray, List.set_cons_zero, List.set_cons_succ]
        refine wpAnyH_done (by kernel_rfl) ?_ _
        go_wp2_with fail
        go_ret
        exact ⟨rfl, HB2.out⟩
      · rw [decide_eq_false h4, Bool.false_and]
        have hx0 : (x == 0) = false := by simpa using h4
        clear h4 hx ha hp hn h3
        go_enter Try.func50, Try.ntmps50
        go_wp2_with fail
        go_big_quiet (fail)
        go_wp2
        go_ret
        exact ⟨rfl, drewN_belowS (Below.refl _ _) _⟩
    · have ht : decide (0 ≤ tk) = false := decide_eq_false h3
      have ht2 : decide (tk ≥ 0) = false := decide_eq_false h3
      rw [ht, Bool.false_and]
      clear ha hp hn h3
      go_enter Try.func50, Try.ntmps50
      go_wp2_with fail
      go_big_quiet (fail)
      go_wp2
      go_ret
      exact ⟨rfl, drewN_belowS (Below.refl _ _) _⟩
theorem sof1_any (i bp bo eb : Nat) (A : Option Addr) (n c : Nat) (L : List Sk) (E : List Int) (base : Nat) (tk st : Int) (rl : Value) (w : World) (hi : i < n) (hn : n = L.length) (ho : w.cell? ⟨bo, 0, none⟩ = some (.slice A n c)) (hp : PW w bp eb base n E tk st rl) (ha : At w A (scs L)) :
    Calls Try.prog 52 #[.int .i64 i, .pointer (some ⟨bp, 0, none⟩), .pointer (some ⟨bo, 0, none⟩)] w fun e w' => e = .returned (.bool (relQ L E i)) ∧ Below w.heap.size w w' := by
  obtain ⟨b1, o1, rfl, _, _, hc1⟩ := at_sk ha (k := i) (by omega)
  have r0 := hp.blk.cell 0 (v := .slice (some ⟨eb, 0, none⟩) n n) rfl
  have r3 := hp.at (i := i) hi
  unfold relQ
  generalize (sk L i).2 = z at *
  generalize ats E i = x at *
  clear ha hn hp
  by_cases h2 : x = 2
  · have hx : (x == 2) = true := by simpa using h2
    rw [decide_eq_true h2, Bool.true_or]
    clear h2
    go_enter Try.func52, Try.ntmps52
    go_wp2
    go_ret
    exact ⟨rfl, Below.refl _ _⟩
  · have hx : (x == 2) = false := by simpa using h2
    rw [decide_eq_false h2, Bool.false_or]
    clear h2
    by_cases h0 : x = 0
    · have hy : (x == 0) = true := by simpa using h0
      have hz : (z == 4) = decide (z = 4) := by by_cases h : z = 4 <;> simp [h]
      rw [decide_eq_true h0, Bool.true_and]
      clear h0
      go_enter Try.func52, Try.ntmps52
      go_wp2
      go_ret
      exact ⟨ret_bool' (by first | exact hz | simp), Below.refl _ _⟩
    · have hy : (x == 0) = false := by simpa using h0
      rw [decide_eq_false h0, Bool.false_and]
      clear h0
      go_enter Try.func52, Try.ntmps52
      go_wp2
      go_ret
      exact ⟨rfl, Below.refl _ _⟩
theorem next1_any (i bo : Nat) (A : Option Addr) (n c : Nat) (L : List Sk) (w : World) (hi : i < n) (hn : n = L.length) (ho : w.cell? ⟨bo, 0, none⟩ = some (.slice A n c)) (ha : At w A (scs L)) :
    Calls Try.prog 56 #[.int .i64 i, .pointer (some ⟨bo, 0, none⟩)] w fun e w' => e = .returned (.bool (nextQ L i)) ∧ Below w.heap.size w w' := by
  obtain ⟨b1, o1, rfl, _, _, hc1⟩ := at_sk ha (k := i) (by omega)
  unfold nextQ
  generalize (sk L i).2 = z at *
  have hz : (z == 4) = decide (z = 4) := by by_cases h : z = 4 <;> simp [h]
  clear ha hn
  go_enter Try.func56, Try.ntmps56
  go_wp2
  go_ret
  exact ⟨ret_bool' (by first | exact hz | simp), Below.refl _ _⟩
end Go.Proofs.Ytfapghekakdpgaa
