/- ScrimTurns: classes and numbers are turned there and back. -/
import Derived.Test.YtibcfmfihcgijaaRows
import Derived.WalkKit
import Derived.ProofKit
import Derived.OpenShut
import Derived.ShutString
import Derived.ChangeOld
import Derived.Below
import Derived.Carry
import Derived.Test.YtibcfmfihcgijaaPrSE
import Derived.Test.YtibcfmfihcgijaaPrSD
namespace Go.Proofs.Ytibcfmfihcgijaa.scrimTurns
open Go.ChangeShapes Go.WideShapes Go.ChangeAt Go.RowKit M
open Go.ChangeMaps (open_string shut_string)
set_option linter.unusedVariables false
theorem own : ownKnob Try.prog.godebug = none := by kernel_rfl
theorem laidOut : laidOutB Try.prog = true := by kernel_rfl
theorem walk (w : World) (a0 : Option Addr) (n0 c0 : Nat) (s0 : List ByteArray) (b0 : Option Addr) (m0 e0 : Nat) (u0 : List Par) (w0 : StrsIn w a0 n0 c0 s0) (x0 : PairsIn w b0 m0 e0 u0) (a1 : Option Addr) (n1 c1 : Nat) (s1 : List ByteArray) (b1 : Option Addr) (m1 e1 : Nat) (u1 : List Par) (w1 : StrsIn w a1 n1 c1 s1) (x1 : PairsIn w b1 m1 e1 u1) (a2 : Option Addr) (n2 c2 : Nat) (s2 : List ByteArray) (b2 : Option Addr) (m2 e2 : Nat) (u2 : List Par) (w2 : StrsIn w a2 n2 c2 s2) (x2 : PairsIn w b2 m2 e2 u2) :
    Calls Try.prog 10 #[.agg #[.slice a0 n0 c0, .slice b0 m0 e0], .agg #[.slice a1 n1 c1, .slice b1 m1 e1], .agg #[.slice a2 n2 c2, .slice b2 m2 e2]] w fun e w' => e = .returned (.bool true) ∧ Below w.heap.size w w' :=
  scrimTurns_any a0 a1 a2 b0 b1 b2 n0 n1 n2 c0 c1 c2 m0 m1 m2 e0 e1 e2 s0 s1 s2 u0 u1 u2 w w0.1 w1.1 w2.1 (Nat.le_trans w0.2.1 w0.2.2.1) (Nat.le_trans w1.2.1 w1.2.2.1) (Nat.le_trans w2.2.1 w2.2.2.1) w0.2.2.2.1 w1.2.2.2.1 w2.2.2.2.1 x0.1 x1.1 x2.1 (Nat.le_trans x0.2.1 x0.2.2.1) (Nat.le_trans x1.2.1 x1.2.2.1) (Nat.le_trans x2.2.1 x2.2.2.1) x0.2.2.2.1 x1.2.2.2.1 x2.2.2.2.1
set_option maxRecDepth 100000 in
theorem lifted (os : Os) (started : os.Started) (H : Type) (enc : TypeId × Value → H) :
    ReturnsInHanded {} Try.checked os 10 .any (Rows.scrimTurnsSpec.pre6 enc Try.prog Try.f10 Rows.scrimTurnsRow.domain false) (Rows.scrimTurnsSpec.post enc Try.prog Try.f10 false true false false) := by
  refine returnsInHanded_of_change (C := Try.checked) own started (by kernel_rfl) Try.func10
    (ChangeSpec.witness6 (enc := enc) (C := Try.checked) false ⟨#[], #[.agg #[.slice none 0 0, .slice none 0 0], .agg #[.slice none 0 0, .slice none 0 0], .agg #[.slice none 0 0, .slice none 0 0]], []⟩ 8 (by kernel_rfl) (by kernel_rfl) (by kernel_rfl) (by kernel_rfl)) ?_
  intro W base args ds gs before hval0 hW hcnd _
  have hval : ∀ (j : Nat) t v, Try.f10.params[j]? = some t → args[j]? = some v → Value.okWide Try.prog W .any base t v := hval0
  have hW' := hW
  obtain ⟨p, q, hA0, hV, rfl, hfz, hnd⟩ := hW
  have hA : DataW.TrodAll enc Try.prog W 0 (fun _ => true) true Try.f10.params.toList args.toList ds p := hA0
  rw [Try.params10] at hA hval
  obtain ⟨v0, vs0, d0, ds0, p0, q0, hargs, rfl, rfl, h0, r0⟩ := trodAll_cons hA
  obtain ⟨v1, vs1, d1, ds1, p1, q1, rfl, rfl, rfl, h1, r1⟩ := trodAll_cons r0
  obtain ⟨v2, vs2, d2, ds2, p2, q2, rfl, rfl, rfl, h2, r2⟩ := trodAll_cons r1
  obtain ⟨rfl, rfl, rfl⟩ := trodAll_nil r2
  obtain rfl : args = #[v0, v1, v2] := by cases args; simp_all
  obtain ⟨rfl, rfl⟩ := trodVars_none hV
  have k0 := h0
  have lt0 : ∀ x ∈ p0, x.block < W.heap.size := by obtain ⟨m, hm⟩ := k0; exact DataW.trod_lt m _ _ _ hm
  obtain ⟨a0, n0, c0, s0, b0, m0, e0, u0, rfl, w0, x0⟩ := wear_in Try.underlying59 (by kernel_rfl) rfl rfl (by kernel_rfl) (by kernel_rfl) Try.underlying22 Try.underlying9 (by kernel_rfl) Try.underlying41 Try.underlying78 (by kernel_rfl) rfl rfl (by kernel_rfl) (by kernel_rfl) Try.underlying9 Try.underlying3 (hval 0 59 v0 rfl rfl) h0
  have k1 := h1
  have lt1 : ∀ x ∈ p1, x.block < W.heap.size := by obtain ⟨m, hm⟩ := k1; exact DataW.trod_lt m _ _ _ hm
  obtain ⟨a1, n1, c1, s1, b1, m1, e1, u1, rfl, w1, x1⟩ := wear_in Try.underlying59 (by kernel_rfl) rfl rfl (by kernel_rfl) (by kernel_rfl) Try.underlying22 Try.underlying9 (by kernel_rfl) Try.underlying41 Try.underlying78 (by kernel_rfl) rfl rfl (by kernel_rfl) (by kernel_rfl) Try.underlying9 Try.underlying3 (hval 1 59 v1 rfl rfl) h1
  have k2 := h2
  have lt2 : ∀ x ∈ p2, x.block < W.heap.size := by obtain ⟨m, hm⟩ := k2; exact DataW.trod_lt m _ _ _ hm
  obtain ⟨a2, n2, c2, s2, b2, m2, e2, u2, rfl, w2, x2⟩ := wear_in Try.underlying59 (by kernel_rfl) rfl rfl (by kernel_rfl) (by kernel_rfl) Try.underlying22 Try.underlying9 (by kernel_rfl) Try.underlying41 Try.underlying78 (by kernel_rfl) rfl rfl (by kernel_rfl) (by kernel_rfl) Try.underlying9 Try.underlying3 (hval 2 59 v2 rfl rfl) h2
  clear hA0 hval0
  refine (walk W a0 n0 c0 s0 b0 m0 e0 u0 w0 x0 a1 n1 c1 s1 b1 m1 e1 u1 w1 x1 a2 n2 c2 s2 b2 m2 e2 u2 w2 x2).mono fun e W' ⟨he, bel⟩ => ?_
  subst he
  exact ⟨_, rfl, _, _, _, [], _, [], hW', trodAll_mk1 (shut_bool Try.underlying4 _), (trodAll_cons_mk (Below.trod laidOut (by kernel_rfl) (of_decide_eq_true (by kernel_rfl)) k0 bel lt0) (trodAll_cons_mk (Below.trod laidOut (by kernel_rfl) (of_decide_eq_true (by kernel_rfl)) k1 bel lt1) (trodAll_cons_mk (Below.trod laidOut (by kernel_rfl) (of_decide_eq_true (by kernel_rfl)) k2 bel lt2) trodAll_mk0))), rfl, bel.frame _, fun h => by cases h⟩
theorem over : Rows.scrimTurnsRow.holds Try.pinned (OpenSpec.ofChange Rows.scrimTurnsSpec) :=
  OpenClaim.holds_of_wide 10 Try.f10 rfl rfl rfl rfl rfl rfl rfl ⟨rfl, rfl, rfl, rfl, rfl⟩ rfl rfl rfl rfl rfl (by kernel_rfl) Try.func10 (by kernel_rfl)
    (of_decide_eq_true (by kernel_rfl)) (by unfold Func.isWrapper; first | (rw [if_pos (by decide +kernel)]; kernel_rfl) | (rw [if_neg (by decide +kernel)]; exact ⟨rfl, rfl⟩))
    (fun os started H enc _ => lifted os started H enc)
theorem proved : Rows.ScrimTurnsSaid := over
#print axioms proved
end Go.Proofs.Ytibcfmfihcgijaa.scrimTurns
