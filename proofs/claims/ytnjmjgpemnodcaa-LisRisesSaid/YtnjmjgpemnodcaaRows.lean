/-
  No cell of these rows narrows 'for every input' (looked for: loops, veiled, ifaces, maps, wideKeys, modest, calm, conditions, laid).
  DERIVED. THE GIVEN ROWS OF THIS SEAT. 4 by the template 'for every input the law returns true; each argument reads behind the call as it read before'; 0 by the template 'total and deterministic' (their statements: YtnjmjgpemnodcaaTotals.lean).
  GIVEN WITH THE SEED: the statements are not yours to turn. If you find one false, say at which input.
  Laid BY PROGRAM, IN A SANDBOX (cutbox-rows.mjs): the forced cells as the released guide's own fill.sh prints them over the translation a7293923ae4c4c5c… (all of the seat's roots in one cut). By AI agents, Wed Nov 11 2026. No macro, syntax, notation, axiom, sorry.
-/
import Derived.Test.YtnjmjgpemnodcaaChecked
import GoSem.Claim
import GoSem.ClaimJoined
import GoSem.ClaimMapViews
import Derived.JoinedTies
import Derived.KernelRfl
namespace Go.Proofs.Ytnjmjgpemnodcaa
/- THE CELL 'sum', in the pinned program and in every row, IS THE sha256 OF THE DUMP (.gsa) THAT YtnjmjgpemnodcaaProg.lean LOADS. Nothing in Lean hashes anything: it is a label: what it is worth is what the hold of that sum in a sandbox is worth. -/
noncomputable def Try.pinned : Pinned := { name := "ytnjmjgpemnodcaa", sum := "a7293923ae4c4c5c676e4e8a9fc67c879a02a4d64da236edd138bbadb0c87e5b", checked := Try.checked }
namespace Rows
def none {H : Type} : Left H := { results := [], args := [] }

/-- 'scrimlaw10.LisRows': WHATEVER THE INPUT: true; the input reads as it did. -/
def lisRowsSpec : ChangeSpec := { name := "lisRows", fn := fun _ => fun
  | [d] => { results := [.lit (.bool true)], args := [d] }
  | _ => none }
def lisRowsRow : OpenClaim := { program := "ytnjmjgpemnodcaa", sum := "a7293923ae4c4c5c676e4e8a9fc67c879a02a4d64da236edd138bbadb0c87e5b", func := "scrim/scrimlaw10.LisRows", spec := "lisRows", unfollowed := true, recurses := true, apart := false }
def LisRowsSaid : Prop := lisRowsRow.holds Try.pinned (OpenSpec.ofChange lisRowsSpec)

/-- ITS FALSE NEIGHBOUR: 'it returns false'. Refute it at one input. -/
def lisRowsWrong : ChangeSpec := { name := "lisRows", fn := fun _ => fun
  | [d] => { results := [.lit (.bool false)], args := [d] }
  | _ => none }
def LisRowsWrongFalsely : Prop := lisRowsRow.holds Try.pinned (OpenSpec.ofChange lisRowsWrong)

/-- 'scrimlaw10.LisRises': WHATEVER THE INPUT: true; the input reads as it did. -/
def lisRisesSpec : ChangeSpec := { name := "lisRises", fn := fun _ => fun
  | [d] => { results := [.lit (.bool true)], args := [d] }
  | _ => none }
def lisRisesRow : OpenClaim := { program := "ytnjmjgpemnodcaa", sum := "a7293923ae4c4c5c676e4e8a9fc67c879a02a4d64da236edd138bbadb0c87e5b", func := "scrim/scrimlaw10.LisRises", spec := "lisRises", unfollowed := true, recurses := true, apart := false }
def LisRisesSaid : Prop := lisRisesRow.holds Try.pinned (OpenSpec.ofChange lisRisesSpec)

/-- ITS FALSE NEIGHBOUR: 'it returns false'. Refute it at one input. -/
def lisRisesWrong : ChangeSpec := { name := "lisRises", fn := fun _ => fun
  | [d] => { results := [.lit (.bool false)], args := [d] }
  | _ => none }
def LisRisesWrongFalsely : Prop := lisRisesRow.holds Try.pinned (OpenSpec.ofChange lisRisesWrong)

/-- 'scrimlaw10.LisLongest': WHATEVER THE INPUT: true; the input reads as it did. -/
def lisLongestSpec : ChangeSpec := { name := "lisLongest", fn := fun _ => fun
  | [d1, d2] => { results := [.lit (.bool true)], args := [d1, d2] }
  | _ => none }
def lisLongestRow : OpenClaim := { program := "ytnjmjgpemnodcaa", sum := "a7293923ae4c4c5c676e4e8a9fc67c879a02a4d64da236edd138bbadb0c87e5b", func := "scrim/scrimlaw10.LisLongest", spec := "lisLongest", unfollowed := true, recurses := true, apart := false }
def LisLongestSaid : Prop := lisLongestRow.holds Try.pinned (OpenSpec.ofChange lisLongestSpec)

/-- ITS FALSE NEIGHBOUR: 'it returns false'. Refute it at one input. -/
def lisLongestWrong : ChangeSpec := { name := "lisLongest", fn := fun _ => fun
  | [d1, d2] => { results := [.lit (.bool false)], args := [d1, d2] }
  | _ => none }
def LisLongestWrongFalsely : Prop := lisLongestRow.holds Try.pinned (OpenSpec.ofChange lisLongestWrong)

/-- 'scrimlaw10.LisOthers': WHATEVER THE INPUT: true; the input reads as it did. -/
def lisOthersSpec : ChangeSpec := { name := "lisOthers", fn := fun _ => fun
  | [d] => { results := [.lit (.bool true)], args := [d] }
  | _ => none }
def lisOthersRow : OpenClaim := { program := "ytnjmjgpemnodcaa", sum := "a7293923ae4c4c5c676e4e8a9fc67c879a02a4d64da236edd138bbadb0c87e5b", func := "scrim/scrimlaw10.LisOthers", spec := "lisOthers", unfollowed := true, recurses := true, apart := false }
def LisOthersSaid : Prop := lisOthersRow.holds Try.pinned (OpenSpec.ofChange lisOthersSpec)

/-- ITS FALSE NEIGHBOUR: 'it returns false'. Refute it at one input. -/
def lisOthersWrong : ChangeSpec := { name := "lisOthers", fn := fun _ => fun
  | [d] => { results := [.lit (.bool false)], args := [d] }
  | _ => none }
def LisOthersWrongFalsely : Prop := lisOthersRow.holds Try.pinned (OpenSpec.ofChange lisOthersWrong)

/- THE SECOND FORM. 'bulk': how many values and letters a reading holds, each counted each time it is reached (what is shared counts as often as it is met; a slice's spare places count too). A statement '..UptoSaid' is the law's where the arguments, and the package variables that the reading takes, are together of bulk at most 1048576: NARROWER than '..Said'. Prove '..Said' where nothing that the law and all that it calls make is longer than what came in: it says more and counts as full. Else prove '..UptoSaid'. A law counts once. -/
mutual
def uptoBulk {H : Type} : DataW H → Nat
  | .lit (.string bytes) => bytes.length + 1
  | .lit _ => 1
  | .nil => 1
  | .ptr d => uptoBulk d + 1
  | .slice elems spare => uptoBulkAll elems + uptoBulkAll spare + 1
  | .agg parts => uptoBulkAll parts + 1
  | .iface _ d => uptoBulk d + 1
  | .map entries => uptoBulkEntries entries + 1
  | .held _ => 1
def uptoBulkAll {H : Type} : List (DataW H) → Nat
  | [] => 0
  | d :: r => uptoBulk d + uptoBulkAll r
def uptoBulkEntries {H : Type} : List (Lit × DataW H) → Nat
  | [] => 0
  | x :: r => uptoBulkEntry x + uptoBulkEntries r
def uptoBulkEntry {H : Type} : Lit × DataW H → Nat
  | (.string bytes, d) => bytes.length + uptoBulk d + 1
  | (_, d) => uptoBulk d + 1
 end
def uptoSmall : (H : Type) → List (DataW H) → Bool := fun _ ds => decide (uptoBulkAll ds ≤ 1048576)
def OpenSpec.upto (s : _root_.Go.ChangeSpec) : _root_.Go.OpenSpec := { _root_.Go.OpenSpec.ofChange s with cond := some uptoSmall }

/-- 'scrimlaw10.LisRows', WHERE WHAT IT READS IS OF BULK AT MOST 1048576: true; the input reads as it did. -/
def lisRowsUptoRow : OpenClaim := { program := "ytnjmjgpemnodcaa", sum := "a7293923ae4c4c5c676e4e8a9fc67c879a02a4d64da236edd138bbadb0c87e5b", func := "scrim/scrimlaw10.LisRows", spec := "lisRows", unfollowed := true, recurses := true, apart := false, narrowed := true }
def LisRowsUptoSaid : Prop := lisRowsUptoRow.holds Try.pinned (OpenSpec.upto lisRowsSpec)

/-- 'scrimlaw10.LisRises', WHERE WHAT IT READS IS OF BULK AT MOST 1048576: true; the input reads as it did. -/
def lisRisesUptoRow : OpenClaim := { program := "ytnjmjgpemnodcaa", sum := "a7293923ae4c4c5c676e4e8a9fc67c879a02a4d64da236edd138bbadb0c87e5b", func := "scrim/scrimlaw10.LisRises", spec := "lisRises", unfollowed := true, recurses := true, apart := false, narrowed := true }
def LisRisesUptoSaid : Prop := lisRisesUptoRow.holds Try.pinned (OpenSpec.upto lisRisesSpec)

/-- 'scrimlaw10.LisLongest', WHERE WHAT IT READS IS OF BULK AT MOST 1048576: true; the input reads as it did. -/
def lisLongestUptoRow : OpenClaim := { program := "ytnjmjgpemnodcaa", sum := "a7293923ae4c4c5c676e4e8a9fc67c879a02a4d64da236edd138bbadb0c87e5b", func := "scrim/scrimlaw10.LisLongest", spec := "lisLongest", unfollowed := true, recurses := true, apart := false, narrowed := true }
def LisLongestUptoSaid : Prop := lisLongestUptoRow.holds Try.pinned (OpenSpec.upto lisLongestSpec)

/-- 'scrimlaw10.LisOthers', WHERE WHAT IT READS IS OF BULK AT MOST 1048576: true; the input reads as it did. -/
def lisOthersUptoRow : OpenClaim := { program := "ytnjmjgpemnodcaa", sum := "a7293923ae4c4c5c676e4e8a9fc67c879a02a4d64da236edd138bbadb0c87e5b", func := "scrim/scrimlaw10.LisOthers", spec := "lisOthers", unfollowed := true, recurses := true, apart := false, narrowed := true }
def LisOthersUptoSaid : Prop := lisOthersUptoRow.holds Try.pinned (OpenSpec.upto lisOthersSpec)

end Rows
end Go.Proofs.Ytnjmjgpemnodcaa
