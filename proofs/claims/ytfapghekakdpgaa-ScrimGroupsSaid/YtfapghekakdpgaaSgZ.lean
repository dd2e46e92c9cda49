/- ScrimGroups, of any arguments. -/
import Derived.Test.YtfapghekakdpgaaSgW3
namespace Go.Proofs.Ytfapghekakdpgaa
open Go.RowKit Gr Sg
open Go.ChangeShapes Go.WideShapes Go.ChangeAt
def RowsArg (w : World) (v : Value) : Prop := ∃ A n c R, v = .slice A n c ∧ Op.SliceOf w rc (fun r : Row => Op.SliceOf w tc OkS r.1 r.2.1 r.2.2.1 r.2.2.2) A n c R
/-- what a program says of these types. -/
structure TyR (P : Program) : Prop where
  ty : Ty P
  u : P.underlying 65 = some (.slice 23)
theorem tyR : TyR Try.prog := ⟨tyA, Try.underlying65⟩
section
variable {H : Type} {P : Program} {enc : TypeId × Value → H} {w : World} {base : Nat} {spare : Nat → Bool} {held : Bool}
theorem row_opens (T : Ty P) : Op.Opens enc P w base spare held 23 fun cs => ∃ r : Row, cs = rc r ∧ Op.SliceOf w tc OkS r.1 r.2.1 r.2.2.1 r.2.2.2 := fun fuel cs x h => by
  obtain ⟨A, n, c, L, e, hL⟩ := strs_opens T fuel cs x h
  exact ⟨(A, n, c, L), e, hL⟩
variable {r : Reach} {b0 : Nat} {v : Value} {d : DataW H} {p : List MemPlace}
theorem rows_arg (T : TyR P) (hval : Value.okWide P w r b0 65 v) (h : DataW.Trod enc P w base spare held 65 v d p) : RowsArg w v := by
  obtain ⟨A, n, c, rfl, A', n', c', L, e, hL⟩ := arg_slice T.u (Op.o_slice 1 T.u T.ty.c7 (fun _ => rfl) (row_opens T.ty)) hval h
  injection e with e _
  injection e with e1 e2 e3
  subst e1 e2 e3
  exact ⟨_, _, _, _, rfl, hL⟩
end
theorem scrimGroups_arg (w : World) (v0 : Value) (h0 : RowsArg w v0) :
    Calls Try.prog 10 #[v0] w fun e w' => e = .returned (.bool true) ∧ Below w.heap.size w w' := by
  obtain ⟨A, n, c, R, rfl, hL⟩ := h0
  obtain ⟨e0, e1, e2, e3, e4, _⟩ := hL
  refine scrimGroups_any A n c R w e0 e3 (fun r hr => ?_)
  obtain ⟨f0, f1, f2, f3, f4, _⟩ := e4 r hr
  rw [tc_sv] at f3
  exact ⟨f0, by omega, f3, f4⟩
end Go.Proofs.Ytfapghekakdpgaa
