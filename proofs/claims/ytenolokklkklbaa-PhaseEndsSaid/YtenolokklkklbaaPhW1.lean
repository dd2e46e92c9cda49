/- What comes of a kid's calls, in memory; contracts of the methods that write it. -/
import Derived.Test.YtenolokklkklbaaMem
import Derived.Test.YtenolokklkklbaaBeside
import Derived.Test.YtenolokklkklbaaBlk
import Derived.Test.YtenolokklkklbaaAppAt
import Derived.Test.YtenolokklkklbaaPhMath
import Derived.Test.YtenolokklkklbaaProg
import Derived.Test.YtenolokklkklbaaChecked
import Derived.Tactics
import Derived.Tactics2
import Derived.Laws.Small
import Derived.Laws.StructEq
import Derived.KernelRfl
import Derived.Deep.QuietTactic
import Derived.BigQuiet
import Derived.RegionTactic
import Derived.Maps.AppendAt
import Derived.Deep.DeepCutAuto
import Derived.Lib.MinMax
import Derived.StillTailTactics
namespace Go.Proofs.Ytenolokklkklbaa
open Go.RowKit Ph
set_option linter.unusedVariables false
attribute [-go_sem] Builtin.append_
namespace Ph
def iv (l : List Int) : List Value := l.map (Value.int .i64)
theorem iv_len (l : List Int) : (iv l).length = l.length := by simp [iv]
theorem iv_app (a b : List Int) : iv (a ++ b) = iv a ++ iv b := by simp [iv]
theorem iv_one (l : List Int) : ∀ u ∈ iv l, u.oneCell' = true := by
  intro u hu
  simp only [iv, List.mem_map] at hu
  obtain ⟨s, _, rfl⟩ := hu
  rfl
theorem infoInt : (Try.prog.info? 3).map (fun i => (i.zero, i.size, i.bytes)) = some (some (.int .i64 0), 1, 8) := by kernel_rfl
theorem info_parts {P : Program} {t : TypeId} {z : Value} {a b : Nat} (h : (P.info? t).map (fun i => (i.zero, i.size, i.bytes)) = some (some z, a, b)) : ∃ i, P.info? t = some i ∧ i.zero = some z ∧ i.size = a ∧ i.bytes = b := by
  cases hi : P.info? t with
  | none => rw [hi] at h; cases h
  | some i =>
    rw [hi] at h
    injection h with h
    injection h with h1 h2
    injection h2 with h2 h3
    exact ⟨i, rfl, h1, h2, h3⟩
theorem row_ne_blk {w : World} {base s n : Nat} {e t : TypeId} {v : Value} {xs : List Value} {g : Nat} {cs : Array Value} (h : w.ownsRow base e s v n xs) (hb : Blk w g t cs) (hne : e ≠ t) : v.ownBlock ≠ some g := by
  intro hv
  rcases h.2 with ⟨rfl, _⟩ | ⟨g', c, cur, rfl, _, hh, _⟩
  · cases hv
  · injection hv with hv
    subst hv
    unfold Blk at hb
    simp only at hb
    rw [hh] at hb
    injection hb with hb
    injection hb with _ hb _
    exact hne hb
/-- the cells of a state, and of what comes of a call -/
def stc (s : St) : Array Value := #[.int .i64 s.k, .int .i64 s.m, .int .i64 s.x, .int .i64 s.y, .int .i64 s.d, .int .i64 s.e]
def ouc (o : Ou) (hv : Value) : Array Value := #[.int .i64 o.s.k, .int .i64 o.s.m, .int .i64 o.s.x, .int .i64 o.s.y, .int .i64 o.s.d, .int .i64 o.s.e, hv, .int .i64 o.j, .int .i64 o.mj, .bool o.en, .bool o.me, .bool o.go]
structure Ob (w : World) (B b : Nat) (o : Ou) (hv : Value) : Prop where
  base : B ≤ b
  blk : Blk w b 34 (ouc o hv)
  row : w.ownsRow B 3 1 hv o.h.length (iv o.h)
variable {w w' : World} {B b : Nat} {o o' : Ou} {hv : Value}
theorem Ob.put (h : Ob w B b o hv) (j : Nat) (v : Value) (e : (ouc o hv).setIfInBounds j v = ouc o' hv) (eh : o'.h = o.h) : Ob (w.setCell ⟨b, j, none⟩ v) B b o' hv := by
  refine ⟨h.base, ?_, ?_⟩
  · have := h.blk.set j v
    rwa [e] at this
  · have hn := row_ne_blk h.row h.blk (by decide)
    have hb : Beside (fun x => x = b) w (w.setCell ⟨b, j, none⟩ v) := (Beside.refl (fun x => x = b) w).set (.inl rfl) _ _
    rw [eh]
    exact hb.keepsOwn h.row (fun q hq e => hn (by rw [hq, e]))
theorem Ob.lt (h : Ob w B b o hv) : b < w.heap.size := h.blk.lt
theorem Ob.below (h : Ob w B b o hv) (hb : Below w.heap.size w w') : Ob w' B b o hv := ⟨h.base, h.blk.below hb, own_below h.row hb⟩
theorem Ob.cells (h : Ob w B b o hv) : w.cell? ⟨b, 0, none⟩ = some (.int .i64 o.s.k) ∧ w.cell? ⟨b, 1, none⟩ = some (.int .i64 o.s.m) ∧ w.cell? ⟨b, 2, none⟩ = some (.int .i64 o.s.x) ∧ w.cell? ⟨b, 3, none⟩ = some (.int .i64 o.s.y) ∧ w.cell? ⟨b, 4, none⟩ = some (.int .i64 o.s.d) ∧ w.cell? ⟨b, 5, none⟩ = some (.int .i64 o.s.e) ∧ w.cell? ⟨b, 6, none⟩ = some hv ∧ w.cell? ⟨b, 7, none⟩ = some (.int .i64 o.j) ∧ w.cell? ⟨b, 8, none⟩ = some (.int .i64 o.mj) ∧ w.cell? ⟨b, 9, none⟩ = some (.bool o.en) ∧ w.cell? ⟨b, 10, none⟩ = some (.bool o.me) ∧ w.cell? ⟨b, 11, none⟩ = some (.bool o.go) :=
  ⟨h.blk.cell 0 rfl, h.blk.cell 1 rfl, h.blk.cell 2 rfl, h.blk.cell 3 rfl, h.blk.cell 4 rfl, h.blk.cell 5 rfl, h.blk.cell 6 rfl, h.blk.cell 7 rfl, h.blk.cell 8 rfl, h.blk.cell 9 rfl, h.blk.cell 10 rfl, h.blk.cell 11 rfl⟩
theorem Ob.frz (h : Ob w B b o hv) : w.frozen? ⟨b, 0, none⟩ = false ∧ w.frozen? ⟨b, 1, none⟩ = false ∧ w.frozen? ⟨b, 2, none⟩ = false ∧ w.frozen? ⟨b, 3, none⟩ = false ∧ w.frozen? ⟨b, 4, none⟩ = false ∧ w.frozen? ⟨b, 5, none⟩ = false ∧ w.frozen? ⟨b, 6, none⟩ = false ∧ w.frozen? ⟨b, 7, none⟩ = false ∧ w.frozen? ⟨b, 8, none⟩ = false ∧ w.frozen? ⟨b, 9, none⟩ = false ∧ w.frozen? ⟨b, 10, none⟩ = false ∧ w.frozen? ⟨b, 11, none⟩ = false :=
  ⟨h.blk.frozen 0, h.blk.frozen 1, h.blk.frozen 2, h.blk.frozen 3, h.blk.frozen 4, h.blk.frozen 5, h.blk.frozen 6, h.blk.frozen 7, h.blk.frozen 8, h.blk.frozen 9, h.blk.frozen 10, h.blk.frozen 11⟩
theorem bset {B b : Nat} {w : World} (hB : B ≤ b) (j : Nat) (v : Value) : Below B w (w.setCell ⟨b, j, none⟩ v) := (Below.refl _ _).setCell (p := ⟨b, j, none⟩) hB _
theorem bset' {B b : Nat} {w w' : World} (hw : Below B w w') (hB : B ≤ b) (j : Nat) (v : Value) : Below B w (w'.setCell ⟨b, j, none⟩ v) := hw.setCell (p := ⟨b, j, none⟩) hB _
set_option maxHeartbeats 1000000 in
set_option maxRecDepth 100000 in
theorem become_any (k : Int) (h : Ob w B b o hv) : Calls Try.prog 28 #[.pointer (some ⟨b, 0, none⟩), .int .i64 k] w fun e w' => e = .returned (.tuple #[]) ∧ Ob w' B b (o.become k) hv ∧ Below B w w' := by
  have H := Lib.hid h
  obtain ⟨c0, _, _, _, c4, _⟩ := h.cells
  obtain ⟨z0, _, _, _, z4, _⟩ := h.frz
  clear h
  go_enter Try.func28, Try.ntmps28
  go_wp2
  go_end0
  exact ⟨rfl, (H.out.put 0 (.int .i64 k) (o' := o.kind k) rfl rfl).put 4 (.int .i64 0) rfl rfl, bset' (bset H.out.base _ _) H.out.base _ _⟩
set_option maxHeartbeats 1000000 in
set_option maxRecDepth 100000 in
theorem endMove_any (h : Ob w B b o hv) : Calls Try.prog 30 #[.pointer (some ⟨b, 0, none⟩)] w fun e w' => e = .returned (.tuple #[]) ∧ Ob w' B b o.endMove hv ∧ Below B w w' := by
  have H := Lib.hid h
  obtain ⟨c0, c1, c2, c3, c4, c5, c6, c7, c8, c9, c10, c11⟩ := h.cells
  obtain ⟨z0, z1, z2, z3, z4, z5, z6, z7, z8, z9, z10, z11⟩ := h.frz
  clear h
  by_cases hm : o.s.m = 0
  · have HE : Hid (o.endMove = o) := by show _ = _; unfold Ou.endMove; rw [if_pos hm]
    go_enter Try.func30, Try.ntmps30
    go_wp2
    (try simp only [Exit.inBlock, Exit.then]); refine bodyPost_ret (results_none rfl _ _ _) rfl ?_
    exact ⟨rfl, by rw [HE.out]; exact H.out, Below.refl _ _⟩
  · have HE : Hid (o.endMove = o.unmoved) := by show _ = _; unfold Ou.endMove; rw [if_neg hm]
    go_enter Try.func30, Try.ntmps30
    go_wp2
    go_end0
    exact ⟨rfl, by
      rw [HE.out]
      exact (((((((H.out.put 0 (.int .i64 o.s.k) (o' := o) rfl rfl).put 1 (.int .i64 0) (o' := ⟨⟨o.s.k, 0, o.s.x, o.s.y, o.s.d, o.s.e⟩, o.h, o.j, o.mj, o.en, o.me, o.go⟩) rfl rfl).put 2 (.int .i64 0) (o' := ⟨⟨o.s.k, 0, 0, o.s.y, o.s.d, o.s.e⟩, o.h, o.j, o.mj, o.en, o.me, o.go⟩) rfl rfl).put 3 (.int .i64 0) (o' := ⟨⟨o.s.k, 0, 0, 0, o.s.d, o.s.e⟩, o.h, o.j, o.mj, o.en, o.me, o.go⟩) rfl rfl).put 5 (.int .i64 0) (o' := ⟨⟨o.s.k, 0, 0, 0, o.s.d, 0⟩, o.h, o.j, o.mj, o.en, o.me, o.go⟩) rfl rfl).put 10 (.bool true) (o' := o.unmoved) rfl rfl)),
      bset' (bset' (bset' (bset' (bset' (bset H.out.base _ _) H.out.base _ _) H.out.base _ _) H.out.base _ _) H.out.base _ _) H.out.base _ _⟩
set_option maxHeartbeats 1000000 in
set_option maxRecDepth 100000 in
theorem report_any (a n c : Nat) (l : List Int) (hn : n = l.length) (ha : At w (some ⟨a, 0, none⟩) (iv l)) (hf : o.h.length + n ≤ 100) (h : Ob w B b o hv) : Calls Try.prog 31 #[.pointer (some ⟨b, 0, none⟩), .slice (some ⟨a, 0, none⟩) n c] w fun e w' => e = .returned (.tuple #[]) ∧ (∃ hv', Ob w' B b (o.report l) hv') ∧ Below B w w' := by
  have hlt := h.lt
  have hB := h.base
  have hrb := row_ne_blk h.row h.blk (by decide)
  obtain ⟨A0, c0, rfl, hc0, hm0⟩ := own_slice h.row
  have H := Lib.hid h
  have HA := Lib.hid ha
  have HN := Lib.hid hn
  have HF := Lib.hid hf
  obtain ⟨_, _, _, _, _, _, c6, _⟩ := h.cells
  obtain ⟨_, _, _, _, _, _, z6, _⟩ := h.frz
  obtain ⟨i0, hi, hz0, hz1, hz2⟩ := info_parts infoInt
  clear h ha hn hf
  go_enter Try.func31, Try.ntmps31
  go_wp2_with (at_builtin; refine wpList_append_at rfl _ _ 32 rfl B 3 i0 (.int .i64 0) 1 8 Try.underlying32 hi hz0 hz1 hz2 rfl (by decide) _ o.h.length (iv o.h) rfl H.out.row (some ⟨a, 0, none⟩) n c (iv l) rfl (fun h => nomatch h) (by rw [iv_len, HN.out, Nat.mul_one]) HA.out (iv_one l) (by unfold maxLen; have := HF.out; omega) (by have := HF.out; omega) (by omega) ?_; intro v1 w1 hown1 hgrow1; obtain ⟨A1, k1, rfl, hk1c, hk1m⟩ := own_slice hown1; clear hk1c hk1m; have HO1 := Lib.hid hown1; have HG1 := Lib.hid hgrow1; have c6' := hgrow1.cell c6 (fun e => hrb e.symm); have hk1 := (hgrow1.block b hlt (fun e => hrb e.symm)).trans H.out.blk; have HK := Lib.hid hk1; have z6' : w1.frozen? ⟨b, 6, none⟩ = false := frz0 hk1 6; clear hown1 hgrow1 hk1)
  go_end0
  refine ⟨rfl, ⟨.slice A1 (o.h.length + n) k1, H.out.base, ?_, ?_⟩, ?_⟩
  · have := Blk.set (w := w1) (g := b) HK.out 6 (.slice A1 (o.h.length + n) k1)
    exact this
  · have hn2 := row_ne_blk HO1.out (show Blk w1 b _ _ from HK.out) (by decide)
    have hb : Beside (fun x => x = b) w1 (w1.setCell ⟨b, 6, none⟩ (.slice A1 (o.h.length + n) k1)) := (Beside.refl (fun x => x = b) w1).set (.inl rfl) _ _
    have h9 := hb.keepsOwn HO1.out (fun q hq e => hn2 (by rw [hq, e]))
    show World.ownsRow _ _ _ _ _ (o.h ++ l).length (iv (o.h ++ l))
    rw [iv_app, List.length_append, ← HN.out]
    exact h9
  · exact bset' ((Below.refl B w).grown HG1.out (by omega) (fun q hq => own_from H.out.row q hq)) hB _ _
end Ph
end Go.Proofs.Ytenolokklkklbaa
