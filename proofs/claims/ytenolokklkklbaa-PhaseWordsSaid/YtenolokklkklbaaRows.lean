/-
  No cell of these rows narrows 'for every input' (looked for: loops, veiled, ifaces, maps, wideKeys, modest, calm, conditions, laid).
  DERIVED. THE GIVEN ROWS OF THIS SEAT. 3 by the template 'for every input the law returns true; each argument reads behind the call as it read before'; 0 by the template 'total and deterministic' (their statements: YtenolokklkklbaaTotals.lean).
  GIVEN WITH THE SEED: the statements are not yours to turn. If you find one false, say at which input.
  Laid BY PROGRAM, IN A SANDBOX (cutbox-rows.mjs): the forced cells as the released guide's own fill.sh prints them over the translation d2ffb4222d77f50a… (all of the seat's roots in one cut). By AI agents, Wed Nov 11 2026. No macro, syntax, notation, axiom, sorry.
-/
import Derived.Test.YtenolokklkklbaaChecked
import GoSem.Claim
import GoSem.ClaimJoined
import GoSem.ClaimMapViews
import Derived.JoinedTies
import Derived.KernelRfl
namespace Go.Proofs.Ytenolokklkklbaa
/- THE CELL 'sum', in the pinned program and in every row, IS THE sha256 OF THE DUMP (.gsa) THAT YtenolokklkklbaaProg.lean LOADS. Nothing in Lean hashes anything: it is a label: what it is worth is what the hold of that sum in a sandbox is worth. -/
noncomputable def Try.pinned : Pinned := { name := "ytenolokklkklbaa", sum := "d2ffb4222d77f50a95775025351c952118e3912e09504487f668d0a118d88947", checked := Try.checked }
namespace Rows
def none {H : Type} : Left H := { results := [], args := [] }

/-- 'scrimlaw21.PhaseWords': WHATEVER THE INPUT: true; the input reads as it did. -/
def phaseWordsSpec : ChangeSpec := { name := "phaseWords", fn := fun _ => fun
  | [d1, d2] => { results := [.lit (.bool true)], args := [d1, d2] }
  | _ => none }
def phaseWordsRow : OpenClaim := { program := "ytenolokklkklbaa", sum := "d2ffb4222d77f50a95775025351c952118e3912e09504487f668d0a118d88947", func := "scrim/scrimlaw21.PhaseWords", spec := "phaseWords", apart := false }
def PhaseWordsSaid : Prop := phaseWordsRow.holds Try.pinned (OpenSpec.ofChange phaseWordsSpec)

/-- ITS FALSE NEIGHBOUR: 'it returns false'. Refute it at one input. -/
def phaseWordsWrong : ChangeSpec := { name := "phaseWords", fn := fun _ => fun
  | [d1, d2] => { results := [.lit (.bool false)], args := [d1, d2] }
  | _ => none }
def PhaseWordsWrongFalsely : Prop := phaseWordsRow.holds Try.pinned (OpenSpec.ofChange phaseWordsWrong)

/-- 'scrimlaw21.PhaseEnds': WHATEVER THE INPUT: true; the input reads as it did. -/
def phaseEndsSpec : ChangeSpec := { name := "phaseEnds", fn := fun _ => fun
  | [d1, d2] => { results := [.lit (.bool true)], args := [d1, d2] }
  | _ => none }
def phaseEndsRow : OpenClaim := { program := "ytenolokklkklbaa", sum := "d2ffb4222d77f50a95775025351c952118e3912e09504487f668d0a118d88947", func := "scrim/scrimlaw21.PhaseEnds", spec := "phaseEnds", apart := false }
def PhaseEndsSaid : Prop := phaseEndsRow.holds Try.pinned (OpenSpec.ofChange phaseEndsSpec)

/-- ITS FALSE NEIGHBOUR: 'it returns false'. Refute it at one input. -/
def phaseEndsWrong : ChangeSpec := { name := "phaseEnds", fn := fun _ => fun
  | [d1, d2] => { results := [.lit (.bool false)], args := [d1, d2] }
  | _ => none }
def PhaseEndsWrongFalsely : Prop := phaseEndsRow.holds Try.pinned (OpenSpec.ofChange phaseEndsWrong)

/-- 'scrimlaw21.PhaseJobs': WHATEVER THE INPUT: true; the input reads as it did. -/
def phaseJobsSpec : ChangeSpec := { name := "phaseJobs", fn := fun _ => fun
  | [d1, d2] => { results := [.lit (.bool true)], args := [d1, d2] }
  | _ => none }
def phaseJobsRow : OpenClaim := { program := "ytenolokklkklbaa", sum := "d2ffb4222d77f50a95775025351c952118e3912e09504487f668d0a118d88947", func := "scrim/scrimlaw21.PhaseJobs", spec := "phaseJobs", apart := false }
def PhaseJobsSaid : Prop := phaseJobsRow.holds Try.pinned (OpenSpec.ofChange phaseJobsSpec)

/-- ITS FALSE NEIGHBOUR: 'it returns false'. Refute it at one input. -/
def phaseJobsWrong : ChangeSpec := { name := "phaseJobs", fn := fun _ => fun
  | [d1, d2] => { results := [.lit (.bool false)], args := [d1, d2] }
  | _ => none }
def PhaseJobsWrongFalsely : Prop := phaseJobsRow.holds Try.pinned (OpenSpec.ofChange phaseJobsWrong)

/- THE SECOND FORM. 'bulk': how many values and letters a reading holds, each counted each time it is reached (what is shared counts as often as it is met; a slice's spare places count too). A statement '..UptoSaid' is the law's where the arguments, and the package variables that the reading takes, are together of bulk at most 1048576: NARROWER than '..Said'. Prove '..Said' where nothing that the law and all that it calls make is longer than what came in: it says more and counts as full. Else prove '..UptoSaid'. A law counts once. -/
mutual
def uptoBulk {H : Type} : DataW H → Nat
  | .lit (.string bytes) => bytes.length + 1
  | .lit _ => 1
  | .nil => 1
  | .ptr d => uptoBulk d + 1
  | .slice elems spare => uptoBulkAll elems + uptoBulkAll spare + 1
  | .agg parts => uptoBulkAll parts + 1
  | .iface _ d => uptoBulk d + 1
  | .map entries => uptoBulkEntries entries + 1
  | .held _ => 1
def uptoBulkAll {H : Type} : List (DataW H) → Nat
  | [] => 0
  | d :: r => uptoBulk d + uptoBulkAll r
def uptoBulkEntries {H : Type} : List (Lit × DataW H) → Nat
  | [] => 0
  | x :: r => uptoBulkEntry x + uptoBulkEntries r
def uptoBulkEntry {H : Type} : Lit × DataW H → Nat
  | (.string bytes, d) => bytes.length + uptoBulk d + 1
  | (_, d) => uptoBulk d + 1
 end
def uptoSmall : (H : Type) → List (DataW H) → Bool := fun _ ds => decide (uptoBulkAll ds ≤ 1048576)
def OpenSpec.upto (s : _root_.Go.ChangeSpec) : _root_.Go.OpenSpec := { _root_.Go.OpenSpec.ofChange s with cond := some uptoSmall }

/-- 'scrimlaw21.PhaseWords', WHERE WHAT IT READS IS OF BULK AT MOST 1048576: true; the input reads as it did. -/
def phaseWordsUptoRow : OpenClaim := { program := "ytenolokklkklbaa", sum := "d2ffb4222d77f50a95775025351c952118e3912e09504487f668d0a118d88947", func := "scrim/scrimlaw21.PhaseWords", spec := "phaseWords", apart := false, narrowed := true }
def PhaseWordsUptoSaid : Prop := phaseWordsUptoRow.holds Try.pinned (OpenSpec.upto phaseWordsSpec)

/-- 'scrimlaw21.PhaseEnds', WHERE WHAT IT READS IS OF BULK AT MOST 1048576: true; the input reads as it did. -/
def phaseEndsUptoRow : OpenClaim := { program := "ytenolokklkklbaa", sum := "d2ffb4222d77f50a95775025351c952118e3912e09504487f668d0a118d88947", func := "scrim/scrimlaw21.PhaseEnds", spec := "phaseEnds", apart := false, narrowed := true }
def PhaseEndsUptoSaid : Prop := phaseEndsUptoRow.holds Try.pinned (OpenSpec.upto phaseEndsSpec)

/-- 'scrimlaw21.PhaseJobs', WHERE WHAT IT READS IS OF BULK AT MOST 1048576: true; the input reads as it did. -/
def phaseJobsUptoRow : OpenClaim := { program := "ytenolokklkklbaa", sum := "d2ffb4222d77f50a95775025351c952118e3912e09504487f668d0a118d88947", func := "scrim/scrimlaw21.PhaseJobs", spec := "phaseJobs", apart := false, narrowed := true }
def PhaseJobsUptoSaid : Prop := phaseJobsUptoRow.holds Try.pinned (OpenSpec.upto phaseJobsSpec)

end Rows
end Go.Proofs.Ytenolokklkklbaa
