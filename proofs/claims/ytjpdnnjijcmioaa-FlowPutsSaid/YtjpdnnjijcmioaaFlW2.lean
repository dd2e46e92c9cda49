/- Contracts of flow's Stack and Wrap. -/
import Derived.Test.YtjpdnnjijcmioaaFlW1
namespace Go.Proofs.Ytjpdnnjijcmioaa
open Go.RowKit M Fl
/-- a closure that has a body is entered. -/
theorem enters {P : Program} {f : FuncId} {g : Func} {b : Code} (hf : P.funcs[f]? = some g) (hn : g.name ≠ "runtime.NumGoroutine") (hb : g.body = some b) (a : Array Value) (W : World) : (callFunc f a).run P W = .ok (.enter f a) W := by
  simp [callFunc, hf, hn, hb]
def bgS : Nat → Int → Bool := fun _ _ => true
def bgW (width : Int) : Nat → Int → Bool := fun _ r => decide (ln width < r)
theorem stack1_any (i : Nat) (r : Int) (w : World) : Calls Try.prog 64 #[.int .i64 i, .int .i64 r] w fun e w' => e = .returned (.bool true) ∧ w = w' := by
  go_enter Try.func64, Try.ntmps64
  go_wp2
  go_ret
  exact ⟨rfl, rfl⟩
theorem wrap1_any (i : Nat) (r most : Int) (b : Nat) (w : World) (hc : w.cell? ⟨b, 0, none⟩ = some (.int .i64 most)) : Calls Try.prog 63 #[.int .i64 i, .int .i64 r, .pointer (some ⟨b, 0, none⟩)] w fun e w' => e = .returned (.bool (decide (most < r))) ∧ w = w' := by
  go_enter Try.func63, Try.ntmps63
  go_wp2
  go_ret
  exact ⟨rfl, rfl⟩
/-- what Stack, Wrap and Grid answer -/
def Put (w w' : World) (sp : Int) (bg : Nat → Int → Bool) (L : List Bx) (n : Nat) (e : Ending) : Prop :=
  ∃ v, e = .returned (.tuple #[v, .agg #[.int .i64 (run sp bg L n).2.2.1, .int .i64 (run sp bg L n).2.2.2]]) ∧ w'.ownsRow w.heap.size 73 2 v n (cc (pts sp bg L n)) ∧ Below w.heap.size w w'
set_option maxHeartbeats 2000000 in
set_option maxRecDepth 100000 in
theorem stack_any (gap : Int) (A : Option Addr) (n c : Nat) (L : List Bx) (w : World) (hn : n = L.length) (hb : n ≤ 1000) (ha : At w A (cc L)) :
    Calls Try.prog 53 #[.int .i64 gap, .slice A n c] w fun e w' => Put w w' (ln gap) bgS L n e := by
  have C := Lib.hid (rows_any 64 #[] (fun a W => enters Try.func64 (by decide +kernel) rfl _ _) gap A n c L bgS (w.alloc (.cells #[.int .i64 0, .int .i64 0] 64)) hn hb (ha.alloc _) (fun W i r _ => stack1_any i r W))
  clear hn ha
  go_enter Try.func53, Try.ntmps53
  go_wp2_with fail
  refine C.out.mono ?_
  rintro e W ⟨v, rfl, hown, hbel⟩
  have VR : V2 W w.heap.size 0 0 := (V2.new w 0 0 _).below hbel
  have HO := Lib.hid hown
  have HB := Lib.hid hbel
  have HV := Lib.hid VR
  obtain ⟨p0, p1, q0, q1⟩ := VR
  clear hown hbel C
  go_wp2_with fail
  clear p0 p1 q0 q1
  have hlt := HV.out.lt
  refine bodyPost_ret (results_tmp_mid rfl _ _ w.heap.size 0 [.int .i64 (run (ln gap) bgS L n).2.2.1, .int .i64 (run (ln gap) bgS L n).2.2.2] _ rfl (range2 ((HV.out.set0 _).set1 _).c0 ((HV.out.set0 _).set1 _).c1) Try.underlying64 rfl (by kernel_rfl)) rfl ?_
  refine ⟨_, rfl, own_mono (own_other (own_other HO.out _ 0 _ (by rw [size_alloc]; omega)) _ 1 _ (by rw [size_alloc]; omega)) (by rw [size_alloc]; omega), ?_⟩
  have h9 : Below w.heap.size w W := (below_alloc w _).trans (HB.out.mono (by rw [size_alloc]; omega))
  exact below_setg (below_setg h9 _ 0 _ (Nat.le_refl _) (by omega)) _ 1 _ (Nat.le_refl _) (by rw [setCell_size']; omega)
set_option maxHeartbeats 2000000 in
set_option maxRecDepth 100000 in
theorem wrap_any (width gap : Int) (A : Option Addr) (n c : Nat) (L : List Bx) (w : World) (hn : n = L.length) (hb : n ≤ 1000) (ha : At w A (cc L)) :
    Calls Try.prog 52 #[.int .i64 width, .int .i64 gap, .slice A n c] w fun e w' => Put w w' (ln gap) (bgW width) L n e := by
  obtain ⟨W1, hW1⟩ : ∃ W1, W1 = (w.alloc (.cells #[.int .i64 0, .int .i64 0] 64)).alloc (.cells #[.int .i64 (ln width)] 3) := ⟨_, rfl⟩
  have hs1 : W1.heap.size = w.heap.size + 2 := by rw [hW1]; simp
  have hc1 : W1.cell? ⟨w.heap.size + 1, 0, none⟩ = some (.int .i64 (ln width)) := by rw [hW1]; simp
  have hv1 : V2 W1 w.heap.size 0 0 := by rw [hW1]; exact (V2.new w 0 0 _).alloc _
  have hb1 : Below w.heap.size w W1 := by rw [hW1]; exact (below_alloc w _).alloc (by simp) _
  have ha1 : At W1 A (cc L) := by rw [hW1]; exact (ha.alloc _).alloc _
  have C := Lib.hid (rows_any 63 #[.pointer (some ⟨w.heap.size + 1, 0, none⟩)] (fun a W => enters Try.func63 (by decide +kernel) rfl _ _) gap A n c L (bgW width) W1 hn hb ha1 (fun W i r hW => wrap1_any i r (ln width) (w.heap.size + 1) W ((hW.cell (p := ⟨w.heap.size + 1, 0, none⟩) (by show w.heap.size + 1 < _; omega)).trans hc1)))
  clear hn ha ha1 hc1
  go_enter Try.func52, Try.ntmps52
  go_wp2_with (go_at_call 61; refine (length_any _ _).mono ?_; rintro e w9 ⟨rfl, rfl⟩)
  rw [← hW1]
  refine C.out.mono ?_
  rintro e W ⟨v, rfl, hown, hbel⟩
  have VR : V2 W w.heap.size 0 0 := hv1.below hbel
  have HO := Lib.hid hown
  have HB := Lib.hid hbel
  have HV := Lib.hid VR
  obtain ⟨p0, p1, q0, q1⟩ := VR
  clear hown hbel C hW1 hv1
  go_wp2_with fail
  clear p0 p1 q0 q1
  have hlt := HV.out.lt
  refine bodyPost_ret (results_tmp_mid rfl _ _ w.heap.size 0 [.int .i64 (run (ln gap) (bgW width) L n).2.2.1, .int .i64 (run (ln gap) (bgW width) L n).2.2.2] _ rfl (range2 ((HV.out.set0 _).set1 _).c0 ((HV.out.set0 _).set1 _).c1) Try.underlying64 rfl (by kernel_rfl)) rfl ?_
  refine ⟨_, rfl, own_mono (own_other (own_other HO.out _ 0 _ (by omega)) _ 1 _ (by omega)) (by omega), ?_⟩
  have h9 : Below w.heap.size w W := hb1.trans (HB.out.mono (by omega))
  exact below_setg (below_setg h9 _ 0 _ (Nat.le_refl _) (by omega)) _ 1 _ (Nat.le_refl _) (by rw [setCell_size']; omega)
end Go.Proofs.Ytjpdnnjijcmioaa
