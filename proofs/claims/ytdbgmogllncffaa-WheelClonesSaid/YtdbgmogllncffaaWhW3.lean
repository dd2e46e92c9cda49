/- A heap of timers in memory; contracts of its Len and Less. -/
import Derived.Test.YtdbgmogllncffaaWhW2
import Derived.Test.YtdbgmogllncffaaOpenG
import Derived.Test.YtdbgmogllncffaaMapL
import Derived.Test.YtdbgmogllncffaaBeside
import Derived.Shelf.SlicesQ.Load
import Derived.Laws.IdiomCopy
import Derived.Deep.AppendLies
namespace Go.Proofs.Ytdbgmogllncffaa
open Go.RowKit Go.Sort Wh
def tv (xs : List Tm) : List Value := xs.flatMap tc
theorem tv_len (xs : List Tm) : (tv xs).length = xs.length * 4 := Op.flat_len tc 4 tc_len xs
theorem tv_one (xs : List Tm) : ∀ v ∈ tv xs, v.oneCell' = true := by
  intro v hv
  simp only [tv, List.mem_flatMap] at hv
  obtain ⟨t, _, h⟩ := hv
  exact tc_one t v h
theorem tv_at (xs : List Tm) (k : Nat) (h : k < xs.length) (q : Nat) (hq : q < 4) : (tv xs)[k * 4 + q]? = (tc (g xs k))[q]? := by
  have h1 := Op.flat_at tc 4 tc_len xs k h q hq
  have h2 : g xs k = xs[k] := g_of (by simp [h])
  rw [h2]
  exact h1
theorem tv_app (a b : List Tm) : tv (a ++ b) = tv a ++ tv b := by simp [tv]
def PlaceOk (f : Int → Option Value) (xs : List Tm) : Prop :=
  (∀ (p : Nat) (t : Tm), xs[p]? = some t → f (Tm.tok t) = some (.int .i64 (p : Nat))) ∧ (∀ i v, OkI i → f i = some v → ∃ (p : Nat) (t : Tm), xs[p]? = some t ∧ t.tok = i)
def Pm (w : World) (mv : Value) (xs : List Tm) : Prop :=
  (mv = .map none ∧ xs = []) ∨ ∃ m f, mv = .map (some m) ∧ MapOf Try.prog 3 ikey OkI w m f xs.length ∧ PlaceOk f xs
/-- the block b of w is a heap of the timers xs, with two numbers behind it. -/
structure Pl (w : World) (b : Nat) (rv mv : Value) (last most : Int) (xs : List Tm) : Prop where
  blk : Blk w b 58 #[rv, mv, .int .i64 last, .int .i64 most]
  row : w.ownsRow 0 47 4 rv xs.length (tv xs)
  map : Pm w mv xs
  tok : ∀ t ∈ xs, OkI t.tok
  few : xs.length ≤ 65536
theorem Pm.block {w w' : World} {mv : Value} {xs : List Tm} (h : Pm w mv xs) (hb : ∀ m, mv = .map (some m) → w'.heap[m]? = w.heap[m]?) : Pm w' mv xs := by
  rcases h with h | ⟨m, f, rfl, h1, h2⟩
  · exact .inl h
  · exact .inr ⟨m, f, rfl, h1.block (hb m rfl), h2⟩
theorem Pm.below {w w' : World} {mv : Value} {xs : List Tm} (h : Pm w mv xs) (hb : Below w.heap.size w w') : Pm w' mv xs := by
  rcases h with h | ⟨m, f, rfl, h1, h2⟩
  · exact .inl h
  · exact .inr ⟨m, f, rfl, h1.below hb, h2⟩
theorem Pl.below {w w' : World} {b : Nat} {rv mv : Value} {last most : Int} {xs : List Tm} (h : Pl w b rv mv last most xs) (hb : Below w.heap.size w w') : Pl w' b rv mv last most xs :=
  ⟨h.blk.below hb, own_below h.row hb, h.map.below hb, h.tok, h.few⟩
theorem gr_below {w w' : World} (h : ∃ q os', w' = grow (w.drewN q) os') : Below w.heap.size w w' := by
  obtain ⟨q, os', rfl⟩ := h
  exact ⟨rfl, rfl, rfl, by simp [grow], fun j hj => by simp [grow, Array.getElem?_append_left hj]⟩
theorem own_head {w : World} {base : Nat} {e : TypeId} {size n : Nat} {v : Value} {xs : List Value} (h : w.ownsRow base e size v n xs) (hn : 0 < n) : ∃ g c, v = .slice (some ⟨g, 0, none⟩) n c ∧ base ≤ g ∧ g < w.heap.size ∧ n ≤ c ∧ c ≤ maxLen := by
  obtain ⟨g, c, hv, h1, h2⟩ := h.form hn
  obtain ⟨A, c', hv', h3, h4⟩ := own_slice h
  rw [hv] at hv'
  injection hv' with _ _ hc
  exact ⟨g, c, hv, h1, h2, by omega, by omega⟩
theorem row_cell {w : World} {g0 c : Nat} {xs : List Tm} (h : w.ownsRow 0 47 4 (.slice (some ⟨g0, 0, none⟩) xs.length c) xs.length (tv xs)) (i : Nat) (hi : i < xs.length) (q : Nat) (hq : q < 4) : w.cell? ⟨g0, i * 4 + q, none⟩ = (tc (g xs i))[q]? := by
  rw [h.cellAt _ (by omega)]
  exact tv_at xs i hi q hq
theorem row_load {w : World} {g0 c : Nat} {xs : List Tm} (h : w.ownsRow 0 47 4 (.slice (some ⟨g0, 0, none⟩) xs.length c) xs.length (tv xs)) (i : Nat) (hi : i < xs.length) :
    Sem.run Try.prog (loadCellsFrom ⟨g0, i * 4, none⟩ 0 4 #[]) w = .ok (tc (g xs i)).toArray w := by
  refine run_loadCellsFrom_list _ _ _ _ 4 rfl fun j v hv => ?_
  have hj : j < 4 := (List.getElem?_eq_some_iff.1 hv).1
  have e : (⟨g0, i * 4, none⟩ : Addr).add j = ⟨g0, i * 4 + j, none⟩ := by
    unfold Addr.add
    by_cases h0 : j = 0 <;> simp [h0]
  rw [e, row_cell h i hi j hj]
  exact hv
theorem plen_any (b n c : Nat) (A : Option Addr) (w : World) (h0 : w.cell? ⟨b, 0, none⟩ = some (.slice A n c)) :
    Calls Try.prog 22 #[.pointer (some ⟨b, 0, none⟩)] w fun e w' => e = .returned (.int .i64 n) ∧ w = w' := by
  go_enter Try.func22, Try.ntmps22
  go_wp2
  go_ret
  exact ⟨rfl, rfl⟩
theorem wlen_any (b n c : Nat) (A : Option Addr) (w : World) (h0 : w.cell? ⟨b, 0, none⟩ = some (.slice A n c)) :
    Calls Try.prog 10 #[.pointer (some ⟨b, 0, none⟩)] w fun e w' => e = .returned (.int .i64 n) ∧ w = w' := by
  go_enter Try.func10, Try.ntmps10
  go_wp2_with (go_at_call 22; refine (plen_any b n c A _ h0).mono ?_; rintro e w' ⟨rfl, rfl⟩)
  go_ret
  exact ⟨rfl, rfl⟩
theorem cf_lt (x y : Tm) : cfT x y < 0 ↔ lt x y := by
  unfold cfT or2 c3 lt
  by_cases h1 : x.dl < y.dl
  · simp [h1]
  · by_cases h2 : y.dl < x.dl
    · have h3 : ¬ x.dl = y.dl := by omega
      simp [h1, h2, h3]
    · have h3 : x.dl = y.dl := by omega
      by_cases h4 : x.tok < y.tok
      · simp [h3, h4]
      · by_cases h5 : y.tok < x.tok <;> simp [h3, h4, h5]
set_option maxHeartbeats 4000000 in
set_option maxRecDepth 100000 in
theorem less_any (b : Nat) (rv mv : Value) (last most : Int) (xs : List Tm) (i j : Nat) (w : World) (h : Pl w b rv mv last most xs) (hi : i < xs.length) (hj : j < xs.length) :
    Calls Try.prog 71 #[.pointer (some ⟨b, 0, none⟩), .int .i64 i, .int .i64 j] w fun e w' => e = .returned (.bool (decide (lt (g xs i) (g xs j)))) ∧ ∃ q os', w' = grow (w.drewN q) os' := by
  have mixed : Try.prog.follows .mixedOrders = true := by kernel_rfl
  obtain ⟨g0, c, rfl, _, hg0, hc1, hc2⟩ := own_head h.row (by omega)
  have hf := h.few
  have f0 : ∀ n os, (grow (w.drewN n) os).cell? ⟨b, 0, none⟩ = some (.slice (some ⟨g0, 0, none⟩) xs.length c) := cell_grown h.blk.lt (h.blk.cell 0 rfl)
  have ho : ∀ n os, (grow (w.drewN n) os).ownsRow 0 47 4 (.slice (some ⟨g0, 0, none⟩) xs.length c) xs.length (tv xs) := fun n os => own_below h.row (gr_below ⟨n, os, rfl⟩)
  have x0 : ∀ n os, (grow (w.drewN n) os).cell? ⟨g0, i * 4, none⟩ = some (.int .i64 (g xs i).tok) := fun n os => row_cell (ho n os) i hi 0 (by omega)
  have x1 : ∀ n os, (grow (w.drewN n) os).cell? ⟨g0, i * 4 + 1, none⟩ = some (.int .i64 (g xs i).dl) := fun n os => row_cell (ho n os) i hi 1 (by omega)
  have x2 : ∀ n os, (grow (w.drewN n) os).cell? ⟨g0, i * 4 + 2, none⟩ = some (.int .i64 (g xs i).k) := fun n os => row_cell (ho n os) i hi 2 (by omega)
  have x3 : ∀ n os, (grow (w.drewN n) os).cell? ⟨g0, i * 4 + 3, none⟩ = some (.int .i64 (g xs i).n) := fun n os => row_cell (ho n os) i hi 3 (by omega)
  have y0 : ∀ n os, (grow (w.drewN n) os).cell? ⟨g0, j * 4, none⟩ = some (.int .i64 (g xs j).tok) := fun n os => row_cell (ho n os) j hj 0 (by omega)
  have y1 : ∀ n os, (grow (w.drewN n) os).cell? ⟨g0, j * 4 + 1, none⟩ = some (.int .i64 (g xs j).dl) := fun n os => row_cell (ho n os) j hj 1 (by omega)
  have y2 : ∀ n os, (grow (w.drewN n) os).cell? ⟨g0, j * 4 + 2, none⟩ = some (.int .i64 (g xs j).k) := fun n os => row_cell (ho n os) j hj 2 (by omega)
  have y3 : ∀ n os, (grow (w.drewN n) os).cell? ⟨g0, j * 4 + 3, none⟩ = some (.int .i64 (g xs j).n) := fun n os => row_cell (ho n os) j hj 3 (by omega)
  have C : Hid (∀ n os, Calls Try.prog 25 #[.agg (tc (g xs i)).toArray, .agg (tc (g xs j)).toArray] (grow (w.drewN n) os) fun e w' => e = .returned (.int .i64 (cfT (g xs i) (g xs j))) ∧ ∃ q os', w' = grow ((grow (w.drewN n) os).drewN q) os') := fun n os => inOrder_g _ _ _
  have E : Hid (decide (cfT (g xs i) (g xs j) < 0) = decide (lt (g xs i) (g xs j))) := by
    show _ = _
    rw [Bool.eq_iff_iff]; simp [cf_lt]
  clear ho h
  generalize g xs i = x at *
  generalize g xs j = y at *
  obtain ⟨xa, xb, xc, xd⟩ := x
  obtain ⟨ya, yb, yc, yd⟩ := y
  unfold tc at C
  simp only at x0 x1 x2 x3 y0 y1 y2 y3 C E
  generalize hN : xs.length = N at *
  have z1 : (0 : Int) ≤ (i : Int) := by omega
  have z2 : (i : Int) < (N : Int) := by omega
  have z3 : (0 : Int) ≤ (j : Int) := by omega
  have z4 : (j : Int) < (N : Int) := by omega
  generalize cfT _ _ = r at *
  go_enter Try.func71, Try.ntmps71
  go_wp2_with fail
  go_quiet_grown (first | (go_at_call 25; refine Calls.grown_of (C.out _ _)))
  go_wp2
  go_ret
  exact ⟨congrArg (fun z => Ending.returned (Value.bool z)) E.out, nq, osq, rfl⟩
end Go.Proofs.Ytdbgmogllncffaa
