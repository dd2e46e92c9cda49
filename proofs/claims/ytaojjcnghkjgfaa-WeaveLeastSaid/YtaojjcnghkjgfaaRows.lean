/-
  No cell of these rows narrows 'for every input' (looked for: loops, veiled, ifaces, maps, wideKeys, modest, calm, conditions, laid).
  DERIVED. THE GIVEN ROWS OF THIS SEAT. 8 by the template 'for every input the law returns true; each argument reads behind the call as it read before'; 0 by the template 'total and deterministic' (their statements: YtaojjcnghkjgfaaTotals.lean).
  GIVEN WITH THE SEED: the statements are not yours to turn. If you find one false, say at which input.
  Laid BY PROGRAM, IN A SANDBOX (cutbox-rows.mjs): the forced cells as the released guide's own fill.sh prints them over the translation a175f533250e5ff9… (all of the seat's roots in one cut). By AI agents, Wed Nov 11 2026. No macro, syntax, notation, axiom, sorry.
-/
import Derived.Test.YtaojjcnghkjgfaaChecked
import GoSem.Claim
import GoSem.ClaimJoined
import GoSem.ClaimMapViews
import Derived.JoinedTies
import Derived.KernelRfl
namespace Go.Proofs.Ytaojjcnghkjgfaa
/- THE CELL 'sum', in the pinned program and in every row, IS THE sha256 OF THE DUMP (.gsa) THAT YtaojjcnghkjgfaaProg.lean LOADS. Nothing in Lean hashes anything: it is a label: what it is worth is what the hold of that sum in a sandbox is worth. -/
noncomputable def Try.pinned : Pinned := { name := "ytaojjcnghkjgfaa", sum := "a175f533250e5ff9cc71bd056e0dce183533dc45f1534e42ccc5884b58c0cdb2", checked := Try.checked }
namespace Rows
def none {H : Type} : Left H := { results := [], args := [] }

/-- 'scrimlaw11.MatchPairs': WHATEVER THE INPUT: true; the input reads as it did. -/
def matchPairsSpec : ChangeSpec := { name := "matchPairs", fn := fun _ => fun
  | [d1, d2] => { results := [.lit (.bool true)], args := [d1, d2] }
  | _ => none }
def matchPairsRow : OpenClaim := { program := "ytaojjcnghkjgfaa", sum := "a175f533250e5ff9cc71bd056e0dce183533dc45f1534e42ccc5884b58c0cdb2", func := "scrim/scrimlaw11.MatchPairs", spec := "matchPairs", plainKeys := false, apart := false }
def MatchPairsSaid : Prop := matchPairsRow.holds Try.pinned (OpenSpec.ofChange matchPairsSpec)

/-- ITS FALSE NEIGHBOUR: 'it returns false'. Refute it at one input. -/
def matchPairsWrong : ChangeSpec := { name := "matchPairs", fn := fun _ => fun
  | [d1, d2] => { results := [.lit (.bool false)], args := [d1, d2] }
  | _ => none }
def MatchPairsWrongFalsely : Prop := matchPairsRow.holds Try.pinned (OpenSpec.ofChange matchPairsWrong)

/-- 'scrimlaw11.MatchEnds': WHATEVER THE INPUT: true; the input reads as it did. -/
def matchEndsSpec : ChangeSpec := { name := "matchEnds", fn := fun _ => fun
  | [d1, d2] => { results := [.lit (.bool true)], args := [d1, d2] }
  | _ => none }
def matchEndsRow : OpenClaim := { program := "ytaojjcnghkjgfaa", sum := "a175f533250e5ff9cc71bd056e0dce183533dc45f1534e42ccc5884b58c0cdb2", func := "scrim/scrimlaw11.MatchEnds", spec := "matchEnds", plainKeys := false, apart := false }
def MatchEndsSaid : Prop := matchEndsRow.holds Try.pinned (OpenSpec.ofChange matchEndsSpec)

/-- ITS FALSE NEIGHBOUR: 'it returns false'. Refute it at one input. -/
def matchEndsWrong : ChangeSpec := { name := "matchEnds", fn := fun _ => fun
  | [d1, d2] => { results := [.lit (.bool false)], args := [d1, d2] }
  | _ => none }
def MatchEndsWrongFalsely : Prop := matchEndsRow.holds Try.pinned (OpenSpec.ofChange matchEndsWrong)

/-- 'scrimlaw11.MatchOnce': WHATEVER THE INPUT: true; the input reads as it did. -/
def matchOnceSpec : ChangeSpec := { name := "matchOnce", fn := fun _ => fun
  | [d1, d2] => { results := [.lit (.bool true)], args := [d1, d2] }
  | _ => none }
def matchOnceRow : OpenClaim := { program := "ytaojjcnghkjgfaa", sum := "a175f533250e5ff9cc71bd056e0dce183533dc45f1534e42ccc5884b58c0cdb2", func := "scrim/scrimlaw11.MatchOnce", spec := "matchOnce", plainKeys := false, apart := false }
def MatchOnceSaid : Prop := matchOnceRow.holds Try.pinned (OpenSpec.ofChange matchOnceSpec)

/-- ITS FALSE NEIGHBOUR: 'it returns false'. Refute it at one input. -/
def matchOnceWrong : ChangeSpec := { name := "matchOnce", fn := fun _ => fun
  | [d1, d2] => { results := [.lit (.bool false)], args := [d1, d2] }
  | _ => none }
def MatchOnceWrongFalsely : Prop := matchOnceRow.holds Try.pinned (OpenSpec.ofChange matchOnceWrong)

/-- 'scrimlaw11.MatchAll': WHATEVER THE INPUT: true; the input reads as it did. -/
def matchAllSpec : ChangeSpec := { name := "matchAll", fn := fun _ => fun
  | [d1, d2] => { results := [.lit (.bool true)], args := [d1, d2] }
  | _ => none }
def matchAllRow : OpenClaim := { program := "ytaojjcnghkjgfaa", sum := "a175f533250e5ff9cc71bd056e0dce183533dc45f1534e42ccc5884b58c0cdb2", func := "scrim/scrimlaw11.MatchAll", spec := "matchAll", plainKeys := false, apart := false }
def MatchAllSaid : Prop := matchAllRow.holds Try.pinned (OpenSpec.ofChange matchAllSpec)

/-- ITS FALSE NEIGHBOUR: 'it returns false'. Refute it at one input. -/
def matchAllWrong : ChangeSpec := { name := "matchAll", fn := fun _ => fun
  | [d1, d2] => { results := [.lit (.bool false)], args := [d1, d2] }
  | _ => none }
def MatchAllWrongFalsely : Prop := matchAllRow.holds Try.pinned (OpenSpec.ofChange matchAllWrong)

/-- 'scrimlaw12.WeaveSteps': WHATEVER THE INPUT: true; the input reads as it did. -/
def weaveStepsSpec : ChangeSpec := { name := "weaveSteps", fn := fun _ => fun
  | [d1, d2] => { results := [.lit (.bool true)], args := [d1, d2] }
  | _ => none }
def weaveStepsRow : OpenClaim := { program := "ytaojjcnghkjgfaa", sum := "a175f533250e5ff9cc71bd056e0dce183533dc45f1534e42ccc5884b58c0cdb2", func := "scrim/scrimlaw12.WeaveSteps", spec := "weaveSteps", inPlace := ["slices.overlaps[int]"], unfollowed := true, recurses := true, plainKeys := false, apart := false }
def WeaveStepsSaid : Prop := weaveStepsRow.holds Try.pinned (OpenSpec.ofChange weaveStepsSpec)

/-- ITS FALSE NEIGHBOUR: 'it returns false'. Refute it at one input. -/
def weaveStepsWrong : ChangeSpec := { name := "weaveSteps", fn := fun _ => fun
  | [d1, d2] => { results := [.lit (.bool false)], args := [d1, d2] }
  | _ => none }
def WeaveStepsWrongFalsely : Prop := weaveStepsRow.holds Try.pinned (OpenSpec.ofChange weaveStepsWrong)

/-- 'scrimlaw12.WeaveLeast': WHATEVER THE INPUT: true; the input reads as it did. -/
def weaveLeastSpec : ChangeSpec := { name := "weaveLeast", fn := fun _ => fun
  | [d1, d2, d3] => { results := [.lit (.bool true)], args := [d1, d2, d3] }
  | _ => none }
def weaveLeastRow : OpenClaim := { program := "ytaojjcnghkjgfaa", sum := "a175f533250e5ff9cc71bd056e0dce183533dc45f1534e42ccc5884b58c0cdb2", func := "scrim/scrimlaw12.WeaveLeast", spec := "weaveLeast", unfollowed := true, recurses := true, plainKeys := false, apart := false }
def WeaveLeastSaid : Prop := weaveLeastRow.holds Try.pinned (OpenSpec.ofChange weaveLeastSpec)

/-- ITS FALSE NEIGHBOUR: 'it returns false'. Refute it at one input. -/
def weaveLeastWrong : ChangeSpec := { name := "weaveLeast", fn := fun _ => fun
  | [d1, d2, d3] => { results := [.lit (.bool false)], args := [d1, d2, d3] }
  | _ => none }
def WeaveLeastWrongFalsely : Prop := weaveLeastRow.holds Try.pinned (OpenSpec.ofChange weaveLeastWrong)

/-- 'scrimlaw12.WeaveCounts': WHATEVER THE INPUT: true; the input reads as it did. -/
def weaveCountsSpec : ChangeSpec := { name := "weaveCounts", fn := fun _ => fun
  | [d1, d2] => { results := [.lit (.bool true)], args := [d1, d2] }
  | _ => none }
def weaveCountsRow : OpenClaim := { program := "ytaojjcnghkjgfaa", sum := "a175f533250e5ff9cc71bd056e0dce183533dc45f1534e42ccc5884b58c0cdb2", func := "scrim/scrimlaw12.WeaveCounts", spec := "weaveCounts", unfollowed := true, recurses := true, plainKeys := false, apart := false }
def WeaveCountsSaid : Prop := weaveCountsRow.holds Try.pinned (OpenSpec.ofChange weaveCountsSpec)

/-- ITS FALSE NEIGHBOUR: 'it returns false'. Refute it at one input. -/
def weaveCountsWrong : ChangeSpec := { name := "weaveCounts", fn := fun _ => fun
  | [d1, d2] => { results := [.lit (.bool false)], args := [d1, d2] }
  | _ => none }
def WeaveCountsWrongFalsely : Prop := weaveCountsRow.holds Try.pinned (OpenSpec.ofChange weaveCountsWrong)

/-- 'scrimtop.ScrimWoven': WHATEVER THE INPUT: true; the input reads as it did. -/
def scrimWovenSpec : ChangeSpec := { name := "scrimWoven", fn := fun _ => fun
  | [d1, d2] => { results := [.lit (.bool true)], args := [d1, d2] }
  | _ => none }
def scrimWovenRow : OpenClaim := { program := "ytaojjcnghkjgfaa", sum := "a175f533250e5ff9cc71bd056e0dce183533dc45f1534e42ccc5884b58c0cdb2", func := "scrim/scrimtop.ScrimWoven", spec := "scrimWoven", inPlace := ["slices.overlaps[int]"], unfollowed := true, recurses := true, plainKeys := false, apart := false }
def ScrimWovenSaid : Prop := scrimWovenRow.holds Try.pinned (OpenSpec.ofChange scrimWovenSpec)

/-- ITS FALSE NEIGHBOUR: 'it returns false'. Refute it at one input. -/
def scrimWovenWrong : ChangeSpec := { name := "scrimWoven", fn := fun _ => fun
  | [d1, d2] => { results := [.lit (.bool false)], args := [d1, d2] }
  | _ => none }
def ScrimWovenWrongFalsely : Prop := scrimWovenRow.holds Try.pinned (OpenSpec.ofChange scrimWovenWrong)

/- THE SECOND FORM. 'bulk': how many values and letters a reading holds, each counted each time it is reached (what is shared counts as often as it is met; a slice's spare places count too). A statement '..UptoSaid' is the law's where the arguments, and the package variables that the reading takes, are together of bulk at most 1048576: NARROWER than '..Said'. Prove '..Said' where nothing that the law and all that it calls make is longer than what came in: it says more and counts as full. Else prove '..UptoSaid'. A law counts once. -/
mutual
def uptoBulk {H : Type} : DataW H → Nat
  | .lit (.string bytes) => bytes.length + 1
  | .lit _ => 1
  | .nil => 1
  | .ptr d => uptoBulk d + 1
  | .slice elems spare => uptoBulkAll elems + uptoBulkAll spare + 1
  | .agg parts => uptoBulkAll parts + 1
  | .iface _ d => uptoBulk d + 1
  | .map entries => uptoBulkEntries entries + 1
  | .held _ => 1
def uptoBulkAll {H : Type} : List (DataW H) → Nat
  | [] => 0
  | d :: r => uptoBulk d + uptoBulkAll r
def uptoBulkEntries {H : Type} : List (Lit × DataW H) → Nat
  | [] => 0
  | x :: r => uptoBulkEntry x + uptoBulkEntries r
def uptoBulkEntry {H : Type} : Lit × DataW H → Nat
  | (.string bytes, d) => bytes.length + uptoBulk d + 1
  | (_, d) => uptoBulk d + 1
 end
def uptoSmall : (H : Type) → List (DataW H) → Bool := fun _ ds => decide (uptoBulkAll ds ≤ 1048576)
def OpenSpec.upto (s : _root_.Go.ChangeSpec) : _root_.Go.OpenSpec := { _root_.Go.OpenSpec.ofChange s with cond := some uptoSmall }

/-- 'scrimlaw11.MatchPairs', WHERE WHAT IT READS IS OF BULK AT MOST 1048576: true; the input reads as it did. -/
def matchPairsUptoRow : OpenClaim := { program := "ytaojjcnghkjgfaa", sum := "a175f533250e5ff9cc71bd056e0dce183533dc45f1534e42ccc5884b58c0cdb2", func := "scrim/scrimlaw11.MatchPairs", spec := "matchPairs", plainKeys := false, apart := false, narrowed := true }
def MatchPairsUptoSaid : Prop := matchPairsUptoRow.holds Try.pinned (OpenSpec.upto matchPairsSpec)

/-- 'scrimlaw11.MatchEnds', WHERE WHAT IT READS IS OF BULK AT MOST 1048576: true; the input reads as it did. -/
def matchEndsUptoRow : OpenClaim := { program := "ytaojjcnghkjgfaa", sum := "a175f533250e5ff9cc71bd056e0dce183533dc45f1534e42ccc5884b58c0cdb2", func := "scrim/scrimlaw11.MatchEnds", spec := "matchEnds", plainKeys := false, apart := false, narrowed := true }
def MatchEndsUptoSaid : Prop := matchEndsUptoRow.holds Try.pinned (OpenSpec.upto matchEndsSpec)

/-- 'scrimlaw11.MatchOnce', WHERE WHAT IT READS IS OF BULK AT MOST 1048576: true; the input reads as it did. -/
def matchOnceUptoRow : OpenClaim := { program := "ytaojjcnghkjgfaa", sum := "a175f533250e5ff9cc71bd056e0dce183533dc45f1534e42ccc5884b58c0cdb2", func := "scrim/scrimlaw11.MatchOnce", spec := "matchOnce", plainKeys := false, apart := false, narrowed := true }
def MatchOnceUptoSaid : Prop := matchOnceUptoRow.holds Try.pinned (OpenSpec.upto matchOnceSpec)

/-- 'scrimlaw11.MatchAll', WHERE WHAT IT READS IS OF BULK AT MOST 1048576: true; the input reads as it did. -/
def matchAllUptoRow : OpenClaim := { program := "ytaojjcnghkjgfaa", sum := "a175f533250e5ff9cc71bd056e0dce183533dc45f1534e42ccc5884b58c0cdb2", func := "scrim/scrimlaw11.MatchAll", spec := "matchAll", plainKeys := false, apart := false, narrowed := true }
def MatchAllUptoSaid : Prop := matchAllUptoRow.holds Try.pinned (OpenSpec.upto matchAllSpec)

/-- 'scrimlaw12.WeaveSteps', WHERE WHAT IT READS IS OF BULK AT MOST 1048576: true; the input reads as it did. -/
def weaveStepsUptoRow : OpenClaim := { program := "ytaojjcnghkjgfaa", sum := "a175f533250e5ff9cc71bd056e0dce183533dc45f1534e42ccc5884b58c0cdb2", func := "scrim/scrimlaw12.WeaveSteps", spec := "weaveSteps", inPlace := ["slices.overlaps[int]"], unfollowed := true, recurses := true, plainKeys := false, apart := false, narrowed := true }
def WeaveStepsUptoSaid : Prop := weaveStepsUptoRow.holds Try.pinned (OpenSpec.upto weaveStepsSpec)

/-- 'scrimlaw12.WeaveLeast', WHERE WHAT IT READS IS OF BULK AT MOST 1048576: true; the input reads as it did. -/
def weaveLeastUptoRow : OpenClaim := { program := "ytaojjcnghkjgfaa", sum := "a175f533250e5ff9cc71bd056e0dce183533dc45f1534e42ccc5884b58c0cdb2", func := "scrim/scrimlaw12.WeaveLeast", spec := "weaveLeast", unfollowed := true, recurses := true, plainKeys := false, apart := false, narrowed := true }
def WeaveLeastUptoSaid : Prop := weaveLeastUptoRow.holds Try.pinned (OpenSpec.upto weaveLeastSpec)

/-- 'scrimlaw12.WeaveCounts', WHERE WHAT IT READS IS OF BULK AT MOST 1048576: true; the input reads as it did. -/
def weaveCountsUptoRow : OpenClaim := { program := "ytaojjcnghkjgfaa", sum := "a175f533250e5ff9cc71bd056e0dce183533dc45f1534e42ccc5884b58c0cdb2", func := "scrim/scrimlaw12.WeaveCounts", spec := "weaveCounts", unfollowed := true, recurses := true, plainKeys := false, apart := false, narrowed := true }
def WeaveCountsUptoSaid : Prop := weaveCountsUptoRow.holds Try.pinned (OpenSpec.upto weaveCountsSpec)

/-- 'scrimtop.ScrimWoven', WHERE WHAT IT READS IS OF BULK AT MOST 1048576: true; the input reads as it did. -/
def scrimWovenUptoRow : OpenClaim := { program := "ytaojjcnghkjgfaa", sum := "a175f533250e5ff9cc71bd056e0dce183533dc45f1534e42ccc5884b58c0cdb2", func := "scrim/scrimtop.ScrimWoven", spec := "scrimWoven", inPlace := ["slices.overlaps[int]"], unfollowed := true, recurses := true, plainKeys := false, apart := false, narrowed := true }
def ScrimWovenUptoSaid : Prop := scrimWovenUptoRow.holds Try.pinned (OpenSpec.upto scrimWovenSpec)

end Rows
end Go.Proofs.Ytaojjcnghkjgfaa
