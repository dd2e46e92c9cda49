/-
  No cell of these rows narrows 'for every input' (looked for: loops, veiled, ifaces, maps, wideKeys, modest, calm, conditions, laid).
  DERIVED. THE GIVEN ROWS OF THIS SEAT. 8 by the template 'for every input the law returns true; each argument reads behind the call as it read before'; 0 by the template 'total and deterministic' (their statements: YtibcfmfihcgijaaTotals.lean).
  GIVEN WITH THE SEED: the statements are not yours to turn. If you find one false, say at which input.
  Laid BY PROGRAM, IN A SANDBOX (cutbox-rows.mjs): the forced cells as the released guide's own fill.sh prints them over the translation 90c1f00e00768c63… (all of the seat's roots in one cut). By AI agents, Wed Nov 11 2026. No macro, syntax, notation, axiom, sorry.
-/
import Derived.Test.YtibcfmfihcgijaaChecked
import GoSem.Claim
import GoSem.ClaimJoined
import GoSem.ClaimMapViews
import Derived.JoinedTies
import Derived.KernelRfl
namespace Go.Proofs.Ytibcfmfihcgijaa
/- THE CELL 'sum', in the pinned program and in every row, IS THE sha256 OF THE DUMP (.gsa) THAT YtibcfmfihcgijaaProg.lean LOADS. Nothing in Lean hashes anything: it is a label: what it is worth is what the hold of that sum in a sandbox is worth. -/
noncomputable def Try.pinned : Pinned := { name := "ytibcfmfihcgijaa", sum := "90c1f00e00768c63135c2842a3b111e436ad274e6d95f8b3040217cd4df6ec40", checked := Try.checked }
namespace Rows
def none {H : Type} : Left H := { results := [], args := [] }

/-- 'scrimlaw03.ClassesLists': WHATEVER THE INPUT: true; the input reads as it did. -/
def classesListsSpec : ChangeSpec := { name := "classesLists", fn := fun _ => fun
  | [d1, d2] => { results := [.lit (.bool true)], args := [d1, d2] }
  | _ => none }
def classesListsRow : OpenClaim := { program := "ytibcfmfihcgijaa", sum := "90c1f00e00768c63135c2842a3b111e436ad274e6d95f8b3040217cd4df6ec40", func := "scrim/scrimlaw03.ClassesLists", spec := "classesLists", unfollowed := true, recurses := true, apart := false }
def ClassesListsSaid : Prop := classesListsRow.holds Try.pinned (OpenSpec.ofChange classesListsSpec)

/-- ITS FALSE NEIGHBOUR: 'it returns false'. Refute it at one input. -/
def classesListsWrong : ChangeSpec := { name := "classesLists", fn := fun _ => fun
  | [d1, d2] => { results := [.lit (.bool false)], args := [d1, d2] }
  | _ => none }
def ClassesListsWrongFalsely : Prop := classesListsRow.holds Try.pinned (OpenSpec.ofChange classesListsWrong)

/-- 'scrimlaw03.ClassesSame': WHATEVER THE INPUT: true; the input reads as it did. -/
def classesSameSpec : ChangeSpec := { name := "classesSame", fn := fun _ => fun
  | [d1, d2] => { results := [.lit (.bool true)], args := [d1, d2] }
  | _ => none }
def classesSameRow : OpenClaim := { program := "ytibcfmfihcgijaa", sum := "90c1f00e00768c63135c2842a3b111e436ad274e6d95f8b3040217cd4df6ec40", func := "scrim/scrimlaw03.ClassesSame", spec := "classesSame", apart := false }
def ClassesSameSaid : Prop := classesSameRow.holds Try.pinned (OpenSpec.ofChange classesSameSpec)

/-- ITS FALSE NEIGHBOUR: 'it returns false'. Refute it at one input. -/
def classesSameWrong : ChangeSpec := { name := "classesSame", fn := fun _ => fun
  | [d1, d2] => { results := [.lit (.bool false)], args := [d1, d2] }
  | _ => none }
def ClassesSameWrongFalsely : Prop := classesSameRow.holds Try.pinned (OpenSpec.ofChange classesSameWrong)

/-- 'scrimlaw03.ClassesTurns': WHATEVER THE INPUT: true; the input reads as it did. -/
def classesTurnsSpec : ChangeSpec := { name := "classesTurns", fn := fun _ => fun
  | [d1, d2] => { results := [.lit (.bool true)], args := [d1, d2] }
  | _ => none }
def classesTurnsRow : OpenClaim := { program := "ytibcfmfihcgijaa", sum := "90c1f00e00768c63135c2842a3b111e436ad274e6d95f8b3040217cd4df6ec40", func := "scrim/scrimlaw03.ClassesTurns", spec := "classesTurns", recurses := true, apart := false }
def ClassesTurnsSaid : Prop := classesTurnsRow.holds Try.pinned (OpenSpec.ofChange classesTurnsSpec)

/-- ITS FALSE NEIGHBOUR: 'it returns false'. Refute it at one input. -/
def classesTurnsWrong : ChangeSpec := { name := "classesTurns", fn := fun _ => fun
  | [d1, d2] => { results := [.lit (.bool false)], args := [d1, d2] }
  | _ => none }
def ClassesTurnsWrongFalsely : Prop := classesTurnsRow.holds Try.pinned (OpenSpec.ofChange classesTurnsWrong)

/-- 'scrimlaw03.ClassesLeast': WHATEVER THE INPUT: true; the input reads as it did. -/
def classesLeastSpec : ChangeSpec := { name := "classesLeast", fn := fun _ => fun
  | [d1, d2, d3] => { results := [.lit (.bool true)], args := [d1, d2, d3] }
  | _ => none }
def classesLeastRow : OpenClaim := { program := "ytibcfmfihcgijaa", sum := "90c1f00e00768c63135c2842a3b111e436ad274e6d95f8b3040217cd4df6ec40", func := "scrim/scrimlaw03.ClassesLeast", spec := "classesLeast", apart := false }
def ClassesLeastSaid : Prop := classesLeastRow.holds Try.pinned (OpenSpec.ofChange classesLeastSpec)

/-- ITS FALSE NEIGHBOUR: 'it returns false'. Refute it at one input. -/
def classesLeastWrong : ChangeSpec := { name := "classesLeast", fn := fun _ => fun
  | [d1, d2, d3] => { results := [.lit (.bool false)], args := [d1, d2, d3] }
  | _ => none }
def ClassesLeastWrongFalsely : Prop := classesLeastRow.holds Try.pinned (OpenSpec.ofChange classesLeastWrong)

/-- 'scrimlaw03.ClassesApply': WHATEVER THE INPUT: true; the input reads as it did. -/
def classesApplySpec : ChangeSpec := { name := "classesApply", fn := fun _ => fun
  | [d1, d2] => { results := [.lit (.bool true)], args := [d1, d2] }
  | _ => none }
def classesApplyRow : OpenClaim := { program := "ytibcfmfihcgijaa", sum := "90c1f00e00768c63135c2842a3b111e436ad274e6d95f8b3040217cd4df6ec40", func := "scrim/scrimlaw03.ClassesApply", spec := "classesApply", apart := false }
def ClassesApplySaid : Prop := classesApplyRow.holds Try.pinned (OpenSpec.ofChange classesApplySpec)

/-- ITS FALSE NEIGHBOUR: 'it returns false'. Refute it at one input. -/
def classesApplyWrong : ChangeSpec := { name := "classesApply", fn := fun _ => fun
  | [d1, d2] => { results := [.lit (.bool false)], args := [d1, d2] }
  | _ => none }
def ClassesApplyWrongFalsely : Prop := classesApplyRow.holds Try.pinned (OpenSpec.ofChange classesApplyWrong)

/-- 'scrimlaw04.PropsLeast': WHATEVER THE INPUT: true; the input reads as it did. -/
def propsLeastSpec : ChangeSpec := { name := "propsLeast", fn := fun _ => fun
  | [d1, d2, d3] => { results := [.lit (.bool true)], args := [d1, d2, d3] }
  | _ => none }
def propsLeastRow : OpenClaim := { program := "ytibcfmfihcgijaa", sum := "90c1f00e00768c63135c2842a3b111e436ad274e6d95f8b3040217cd4df6ec40", func := "scrim/scrimlaw04.PropsLeast", spec := "propsLeast", inPlace := ["internal/bytealg.abigen_runtime_cmpstring"], unfollowed := true, recurses := true, apart := false }
def PropsLeastSaid : Prop := propsLeastRow.holds Try.pinned (OpenSpec.ofChange propsLeastSpec)

/-- ITS FALSE NEIGHBOUR: 'it returns false'. Refute it at one input. -/
def propsLeastWrong : ChangeSpec := { name := "propsLeast", fn := fun _ => fun
  | [d1, d2, d3] => { results := [.lit (.bool false)], args := [d1, d2, d3] }
  | _ => none }
def PropsLeastWrongFalsely : Prop := propsLeastRow.holds Try.pinned (OpenSpec.ofChange propsLeastWrong)

/-- 'scrimlaw04.PropsApply': WHATEVER THE INPUT: true; the input reads as it did. -/
def propsApplySpec : ChangeSpec := { name := "propsApply", fn := fun _ => fun
  | [d1, d2] => { results := [.lit (.bool true)], args := [d1, d2] }
  | _ => none }
def propsApplyRow : OpenClaim := { program := "ytibcfmfihcgijaa", sum := "90c1f00e00768c63135c2842a3b111e436ad274e6d95f8b3040217cd4df6ec40", func := "scrim/scrimlaw04.PropsApply", spec := "propsApply", inPlace := ["internal/bytealg.abigen_runtime_cmpstring"], unfollowed := true, recurses := true, apart := false }
def PropsApplySaid : Prop := propsApplyRow.holds Try.pinned (OpenSpec.ofChange propsApplySpec)

/-- ITS FALSE NEIGHBOUR: 'it returns false'. Refute it at one input. -/
def propsApplyWrong : ChangeSpec := { name := "propsApply", fn := fun _ => fun
  | [d1, d2] => { results := [.lit (.bool false)], args := [d1, d2] }
  | _ => none }
def PropsApplyWrongFalsely : Prop := propsApplyRow.holds Try.pinned (OpenSpec.ofChange propsApplyWrong)

/-- 'scrimtop.ScrimTurns': WHATEVER THE INPUT: true; the input reads as it did. -/
def scrimTurnsSpec : ChangeSpec := { name := "scrimTurns", fn := fun _ => fun
  | [d1, d2, d3] => { results := [.lit (.bool true)], args := [d1, d2, d3] }
  | _ => none }
def scrimTurnsRow : OpenClaim := { program := "ytibcfmfihcgijaa", sum := "90c1f00e00768c63135c2842a3b111e436ad274e6d95f8b3040217cd4df6ec40", func := "scrim/scrimtop.ScrimTurns", spec := "scrimTurns", inPlace := ["internal/bytealg.abigen_runtime_cmpstring"], unfollowed := true, recurses := true, apart := false }
def ScrimTurnsSaid : Prop := scrimTurnsRow.holds Try.pinned (OpenSpec.ofChange scrimTurnsSpec)

/-- ITS FALSE NEIGHBOUR: 'it returns false'. Refute it at one input. -/
def scrimTurnsWrong : ChangeSpec := { name := "scrimTurns", fn := fun _ => fun
  | [d1, d2, d3] => { results := [.lit (.bool false)], args := [d1, d2, d3] }
  | _ => none }
def ScrimTurnsWrongFalsely : Prop := scrimTurnsRow.holds Try.pinned (OpenSpec.ofChange scrimTurnsWrong)

/- THE SECOND FORM. 'bulk': how many values and letters a reading holds, each counted each time it is reached (what is shared counts as often as it is met; a slice's spare places count too). A statement '..UptoSaid' is the law's where the arguments, and the package variables that the reading takes, are together of bulk at most 1048576: NARROWER than '..Said'. Prove '..Said' where nothing that the law and all that it calls make is longer than what came in: it says more and counts as full. Else prove '..UptoSaid'. A law counts once. -/
mutual
def uptoBulk {H : Type} : DataW H → Nat
  | .lit (.string bytes) => bytes.length + 1
  | .lit _ => 1
  | .nil => 1
  | .ptr d => uptoBulk d + 1
  | .slice elems spare => uptoBulkAll elems + uptoBulkAll spare + 1
  | .agg parts => uptoBulkAll parts + 1
  | .iface _ d => uptoBulk d + 1
  | .map entries => uptoBulkEntries entries + 1
  | .held _ => 1
def uptoBulkAll {H : Type} : List (DataW H) → Nat
  | [] => 0
  | d :: r => uptoBulk d + uptoBulkAll r
def uptoBulkEntries {H : Type} : List (Lit × DataW H) → Nat
  | [] => 0
  | x :: r => uptoBulkEntry x + uptoBulkEntries r
def uptoBulkEntry {H : Type} : Lit × DataW H → Nat
  | (.string bytes, d) => bytes.length + uptoBulk d + 1
  | (_, d) => uptoBulk d + 1
 end
def uptoSmall : (H : Type) → List (DataW H) → Bool := fun _ ds => decide (uptoBulkAll ds ≤ 1048576)
def OpenSpec.upto (s : _root_.Go.ChangeSpec) : _root_.Go.OpenSpec := { _root_.Go.OpenSpec.ofChange s with cond := some uptoSmall }

/-- 'scrimlaw03.ClassesLists', WHERE WHAT IT READS IS OF BULK AT MOST 1048576: true; the input reads as it did. -/
def classesListsUptoRow : OpenClaim := { program := "ytibcfmfihcgijaa", sum := "90c1f00e00768c63135c2842a3b111e436ad274e6d95f8b3040217cd4df6ec40", func := "scrim/scrimlaw03.ClassesLists", spec := "classesLists", unfollowed := true, recurses := true, apart := false, narrowed := true }
def ClassesListsUptoSaid : Prop := classesListsUptoRow.holds Try.pinned (OpenSpec.upto classesListsSpec)

/-- 'scrimlaw03.ClassesSame', WHERE WHAT IT READS IS OF BULK AT MOST 1048576: true; the input reads as it did. -/
def classesSameUptoRow : OpenClaim := { program := "ytibcfmfihcgijaa", sum := "90c1f00e00768c63135c2842a3b111e436ad274e6d95f8b3040217cd4df6ec40", func := "scrim/scrimlaw03.ClassesSame", spec := "classesSame", apart := false, narrowed := true }
def ClassesSameUptoSaid : Prop := classesSameUptoRow.holds Try.pinned (OpenSpec.upto classesSameSpec)

/-- 'scrimlaw03.ClassesTurns', WHERE WHAT IT READS IS OF BULK AT MOST 1048576: true; the input reads as it did. -/
def classesTurnsUptoRow : OpenClaim := { program := "ytibcfmfihcgijaa", sum := "90c1f00e00768c63135c2842a3b111e436ad274e6d95f8b3040217cd4df6ec40", func := "scrim/scrimlaw03.ClassesTurns", spec := "classesTurns", recurses := true, apart := false, narrowed := true }
def ClassesTurnsUptoSaid : Prop := classesTurnsUptoRow.holds Try.pinned (OpenSpec.upto classesTurnsSpec)

/-- 'scrimlaw03.ClassesLeast', WHERE WHAT IT READS IS OF BULK AT MOST 1048576: true; the input reads as it did. -/
def classesLeastUptoRow : OpenClaim := { program := "ytibcfmfihcgijaa", sum := "90c1f00e00768c63135c2842a3b111e436ad274e6d95f8b3040217cd4df6ec40", func := "scrim/scrimlaw03.ClassesLeast", spec := "classesLeast", apart := false, narrowed := true }
def ClassesLeastUptoSaid : Prop := classesLeastUptoRow.holds Try.pinned (OpenSpec.upto classesLeastSpec)

/-- 'scrimlaw03.ClassesApply', WHERE WHAT IT READS IS OF BULK AT MOST 1048576: true; the input reads as it did. -/
def classesApplyUptoRow : OpenClaim := { program := "ytibcfmfihcgijaa", sum := "90c1f00e00768c63135c2842a3b111e436ad274e6d95f8b3040217cd4df6ec40", func := "scrim/scrimlaw03.ClassesApply", spec := "classesApply", apart := false, narrowed := true }
def ClassesApplyUptoSaid : Prop := classesApplyUptoRow.holds Try.pinned (OpenSpec.upto classesApplySpec)

/-- 'scrimlaw04.PropsLeast', WHERE WHAT IT READS IS OF BULK AT MOST 1048576: true; the input reads as it did. -/
def propsLeastUptoRow : OpenClaim := { program := "ytibcfmfihcgijaa", sum := "90c1f00e00768c63135c2842a3b111e436ad274e6d95f8b3040217cd4df6ec40", func := "scrim/scrimlaw04.PropsLeast", spec := "propsLeast", inPlace := ["internal/bytealg.abigen_runtime_cmpstring"], unfollowed := true, recurses := true, apart := false, narrowed := true }
def PropsLeastUptoSaid : Prop := propsLeastUptoRow.holds Try.pinned (OpenSpec.upto propsLeastSpec)

/-- 'scrimlaw04.PropsApply', WHERE WHAT IT READS IS OF BULK AT MOST 1048576: true; the input reads as it did. -/
def propsApplyUptoRow : OpenClaim := { program := "ytibcfmfihcgijaa", sum := "90c1f00e00768c63135c2842a3b111e436ad274e6d95f8b3040217cd4df6ec40", func := "scrim/scrimlaw04.PropsApply", spec := "propsApply", inPlace := ["internal/bytealg.abigen_runtime_cmpstring"], unfollowed := true, recurses := true, apart := false, narrowed := true }
def PropsApplyUptoSaid : Prop := propsApplyUptoRow.holds Try.pinned (OpenSpec.upto propsApplySpec)

/-- 'scrimtop.ScrimTurns', WHERE WHAT IT READS IS OF BULK AT MOST 1048576: true; the input reads as it did. -/
def scrimTurnsUptoRow : OpenClaim := { program := "ytibcfmfihcgijaa", sum := "90c1f00e00768c63135c2842a3b111e436ad274e6d95f8b3040217cd4df6ec40", func := "scrim/scrimtop.ScrimTurns", spec := "scrimTurns", inPlace := ["internal/bytealg.abigen_runtime_cmpstring"], unfollowed := true, recurses := true, apart := false, narrowed := true }
def ScrimTurnsUptoSaid : Prop := scrimTurnsUptoRow.holds Try.pinned (OpenSpec.upto scrimTurnsSpec)

end Rows
end Go.Proofs.Ytibcfmfihcgijaa
