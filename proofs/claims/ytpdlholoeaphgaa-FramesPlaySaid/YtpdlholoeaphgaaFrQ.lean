/- A queue of jobs in memory: three rows and two numbers, anywhere in a block. Its Len. -/
import Derived.Test.YtpdlholoeaphgaaBlk
import Derived.Test.YtpdlholoeaphgaaProg
import Derived.Handy
import Derived.Test.YtpdlholoeaphgaaBeside
namespace Go.Proofs.Ytpdlholoeaphgaa
open Go.RowKit
/-- a job that waits: its token, and what is to be done. -/
structure Fr.Wt where
  tok : Int
  k : Int
  n : Int
deriving DecidableEq, Repr
open Fr
/-- its four cells, with so many frames left. -/
def wc (l : Int) (t : Wt) : List Value := [.int .i64 t.tok, .int .i64 l, .int .i64 t.k, .int .i64 t.n]
theorem wc_len (l : Int) (t : Wt) : (wc l t).length = 4 := rfl
def rowv (l : Int) (xs : List Wt) : List Value := xs.flatMap (wc l)
/-- the cells of a block that holds a queue. -/
def qc (pre post : List Value) (r1 r2 : Value) (last most : Int) : Array Value := (pre ++ [.slice none 0 0, r1, r2, .int .i64 last, .int .i64 most] ++ post).toArray
theorem qc_at (pre post : List Value) (r1 r2 : Value) (last most : Int) :
    (qc pre post r1 r2 last most)[pre.length]? = some (.slice none 0 0) ∧ (qc pre post r1 r2 last most)[pre.length + 1]? = some r1 ∧ (qc pre post r1 r2 last most)[pre.length + 2]? = some r2 ∧ (qc pre post r1 r2 last most)[pre.length + 3]? = some (.int .i64 last) ∧ (qc pre post r1 r2 last most)[pre.length + 4]? = some (.int .i64 most) := by
  unfold qc
  refine ⟨?_, ?_, ?_, ?_, ?_⟩ <;> simp
theorem arr_at (x0 x1 x2 : Value) (w : World) :
    (Instr.index 76 (.agg #[x0, x1, x2]) (.int .i64 0)).run Try.prog w = .ok x0 w ∧ (Instr.index 76 (.agg #[x0, x1, x2]) (.int .i64 1)).run Try.prog w = .ok x1 w ∧ (Instr.index 76 (.agg #[x0, x1, x2]) (.int .i64 2)).run Try.prog w = .ok x2 w := by
  have hu := Try.underlying76
  have hz := Try.sizeOf38
  have ha := Try.isAgg38
  refine ⟨?_, ?_, ?_⟩ <;> simp only [Instr.index] <;> go_simp
@[go_sem] theorem arr_at0 (x0 x1 x2 : Value) (w : World) : (Instr.index 76 (.agg #[x0, x1, x2]) (.int .i64 0)).run Try.prog w = .ok x0 w := (arr_at x0 x1 x2 w).1
@[go_sem] theorem arr_at1 (x0 x1 x2 : Value) (w : World) : (Instr.index 76 (.agg #[x0, x1, x2]) (.int .i64 1)).run Try.prog w = .ok x1 w := (arr_at x0 x1 x2 w).2.1
@[go_sem] theorem arr_at2 (x0 x1 x2 : Value) (w : World) : (Instr.index 76 (.agg #[x0, x1, x2]) (.int .i64 2)).run Try.prog w = .ok x2 w := (arr_at x0 x1 x2 w).2.2
theorem ret_int {k : IntKind} {a b : Int} (h : a = b) : Ending.returned (.int k a) = .returned (.int k b) := by rw [h]
set_option maxRecDepth 100000 in
set_option maxHeartbeats 4000000 in
theorem qlen_any (b o n1 n2 c1 c2 : Nat) (A1 A2 : Option Addr) (w : World) (h0 : w.cell? ⟨b, o, none⟩ = some (.slice none 0 0)) (h1 : w.cell? ⟨b, o + 1, none⟩ = some (.slice A1 n1 c1)) (h2 : w.cell? ⟨b, o + 2, none⟩ = some (.slice A2 n2 c2)) (hn1 : n1 ≤ 65536) (hn2 : n2 ≤ 65536) :
    Calls Try.prog 13 #[.pointer (some ⟨b, o, none⟩)] w fun e w' => e = .returned (.int .i64 ((n1 + n2 : Nat) : Int)) ∧ w = w' := by
  go_enter Try.func13, Try.ntmps13
  go_wp2
  go_rounds 4
  all_goals (go_ret; exact ⟨ret_int (by omega), rfl⟩)
end Go.Proofs.Ytpdlholoeaphgaa
