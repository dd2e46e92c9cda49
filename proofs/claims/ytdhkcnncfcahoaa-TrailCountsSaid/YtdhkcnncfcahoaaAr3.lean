/- Contracts of arena's New; a store into the map of nodes. -/
import Derived.Test.YtdhkcnncfcahoaaAr2
import Derived.Carry
namespace Go.Proofs.Ytdhkcnncfcahoaa
open Go.RowKit
theorem wp_store_is {P : Program} {w : World} {o : Oper} {a : Act} {K' : Act → World → Prop} {Q : Exit → Act → World → Prop} (m x v : Operand) (t K E : TypeId) (hop : o.op = Op.insert t m x v ∨ o.op = Op.mapUpdate t m x v)
    (hk : P.underlying K = some (.int .i64)) (ht : P.underlying t = some (.map K E)) (b n : Nat) (f : Int → Option Value) (hm : a.eval m = .map (some b)) (h : MapIs P K w b f n) (hn : n < maxLen) (i : Int) (hi : (ikey i).wf = true) (val : Value)
    (hx : a.eval x = .int .i64 i) (hv : a.eval v = val) (hK : ∀ w', MapIs P K w' b (fun j => if j = i then some val else f j) (if (f i).isSome then n else n + 1) → w.grownBy w' (some b) → w'.heap.size = w.heap.size → K' (a.put o.dst undef) w') : o.wp P a w K' Q := by
  obtain ⟨w', hrun, r1, r2, r3⟩ := h.store hk ht hn i hi val
  have h3 := hK w' r1 r2 r3
  unfold Oper.wp
  rcases hop with hop | hop
  · simp [execOp, hop, hm, hx, hv, hrun, Result.andThen]
    exact h3
  · simp [execOp, hop, hm, hx, hv, hrun, Result.andThen]
    exact h3
theorem wpList_store_is {P : Program} {w : World} {ops : Array Oper} {rest : List Oper} {o : Oper} {a : Act} {Q : Exit → Act → World → Prop} (hg : o.guard = none) (m x v : Operand) (t K E : TypeId) (hop : o.op = Op.insert t m x v ∨ o.op = Op.mapUpdate t m x v)
    (hk : P.underlying K = some (.int .i64)) (ht : P.underlying t = some (.map K E)) (b n : Nat) (f : Int → Option Value) (hm : a.eval m = .map (some b)) (h : MapIs P K w b f n) (hn : n < maxLen) (i : Int) (hi : (ikey i).wf = true) (val : Value)
    (hx : a.eval x = .int .i64 i) (hv : a.eval v = val) (hK : ∀ w', MapIs P K w' b (fun j => if j = i then some val else f j) (if (f i).isSome then n else n + 1) → w.grownBy w' (some b) → w'.heap.size = w.heap.size → wpList P ops Q rest (a.put o.dst undef) w') : wpList P ops Q (o :: rest) a w :=
  wpList_plain hg fun _ hK' => wp_store_is m x v t K E hop hk ht b n f hm h hn i hi val hx hv fun w' r1 r2 r3 => hK' _ _ (hK w' r1 r2 r3)
theorem clip3_any (w : World) : Calls Try.prog 11 #[.int .i64 3, .int .i64 1, .int .i64 65536] w fun e w' => e = .returned (.int .i64 3) ∧ w' = w := by
  go_enter Try.func11, Try.ntmps11
  go_wp2
  go_ret
  exact ⟨rfl, rfl⟩
def rootCells : Array Value := #[.int .i64 0, .int .i64 2, .string ⟨#[114, 111, 111, 116]⟩, .string ⟨#[]⟩, .slice none 0 0, .slice none 0 0, .slice none 0 0, .int .i64 (-1), .slice none 0 0]
def rootF (r : Nat) (i : Int) : Option Value := if i = 0 then some (.pointer (some ⟨r, 0, none⟩)) else none
set_option maxHeartbeats 1000000 in
theorem new3_any (w : World) : Calls Try.prog 6 #[.int .i64 3] w fun e w' => ∃ b m r, e = .returned (.pointer (some ⟨b, 0, none⟩)) ∧ DomIs w' b m (rootF r) 1 1 3 ∧ w'.heap[r]? = some (.cells rootCells 47 (0, 0)) ∧ w.heap.size ≤ r ∧ r ≠ m ∧ r ≠ b ∧ b ≠ m ∧ w.heap.size ≤ b ∧ w.heap.size ≤ m ∧ Below w.heap.size w w' := by
  have hmm := @run_makeMap Try.prog
  have HM := Lib.hid ((MapIs.made Try.prog 3 w).below ((Below.refl _ _).alloc (Nat.le_refl _) (.cells rootCells 47)))
  go_enter Try.func6, Try.ntmps6
  go_wp2_with (first | (refine wpList_store_is rfl _ _ _ 48 3 39 (.inl rfl) Try.underlying3 Try.underlying48 w.heap.size 0 _ rfl HM.out (by unfold maxLen; omega) 0 (by decide) _ rfl rfl ?_; intro w1 hm1 hg1 hs1; have HM1 := Lib.hid hm1; have HG1 := Lib.hid hg1; have HS1 := Lib.hid hs1; clear hm1 hg1 hs1) | (go_at_call 11; refine (clip3_any _).mono ?_; rintro e w5 ⟨rfl, rfl⟩))
  go_ret
  have hsz : w5.heap.size = w.heap.size + 2 := by rw [HS1.out]; simp
  have hr : w5.heap[w.heap.size + 1]? = some (.cells rootCells 47 (0, 0)) := by
    rw [HG1.out.block (w.heap.size + 1) (by simp) (by simp)]
    have := heap_alloc_new (w.alloc (.map #[] 0)) (.cells rootCells 47)
    rw [size_alloc] at this
    exact this
  have hb5 : Below w.heap.size w w5 := ((below_alloc w (.map #[] 0)).alloc (by simp) (.cells rootCells 47)).grown HG1.out (by simp; omega) (fun q hq => by injection hq with hq; omega)
  have hba := below_alloc w5 (.cells #[.map (some w.heap.size), .int .i64 1, .int .i64 3] 51)
  refine ⟨w5.heap.size, w.heap.size, w.heap.size + 1, rfl, ⟨heap_alloc_new _ _, ?_⟩, (hba.block _ (by omega)).trans hr, by omega, by omega, by omega, by omega, by omega, Nat.le_refl _, hb5.trans (hba.mono hb5.size)⟩
  exact HM1.out.below hba
end Go.Proofs.Ytdhkcnncfcahoaa
