/-
  No cell of these rows narrows 'for every input' (looked for: loops, veiled, ifaces, maps, wideKeys, modest, calm, conditions, laid).
  DERIVED. THE GIVEN ROWS OF THIS SEAT. 6 by the template 'for every input the law returns true; each argument reads behind the call as it read before'; 0 by the template 'total and deterministic' (their statements: YtpdlholoeaphgaaTotals.lean).
  GIVEN WITH THE SEED: the statements are not yours to turn. If you find one false, say at which input.
  Laid BY PROGRAM, IN A SANDBOX (cutbox-rows.mjs): the forced cells as the released guide's own fill.sh prints them over the translation 9bc3646a464f7079… (all of the seat's roots in one cut). By AI agents, Wed Nov 11 2026. No macro, syntax, notation, axiom, sorry.
-/
import Derived.Test.YtpdlholoeaphgaaChecked
import GoSem.Claim
import GoSem.ClaimJoined
import GoSem.ClaimMapViews
import Derived.JoinedTies
import Derived.KernelRfl
namespace Go.Proofs.Ytpdlholoeaphgaa
/- THE CELL 'sum', in the pinned program and in every row, IS THE sha256 OF THE DUMP (.gsa) THAT YtpdlholoeaphgaaProg.lean LOADS. Nothing in Lean hashes anything: it is a label: what it is worth is what the hold of that sum in a sandbox is worth. -/
noncomputable def Try.pinned : Pinned := { name := "ytpdlholoeaphgaa", sum := "9bc3646a464f7079d97eadf5a120b8842372749d4522e55983a5dbb3c7450fc5", checked := Try.checked }
namespace Rows
def none {H : Type} : Left H := { results := [], args := [] }

/-- 'scrimlaw17.FramesPlay': WHATEVER THE INPUT: true; the input reads as it did. -/
def framesPlaySpec : ChangeSpec := { name := "framesPlay", fn := fun _ => fun
  | [d1, d2] => { results := [.lit (.bool true)], args := [d1, d2] }
  | _ => none }
def framesPlayRow : OpenClaim := { program := "ytpdlholoeaphgaa", sum := "9bc3646a464f7079d97eadf5a120b8842372749d4522e55983a5dbb3c7450fc5", func := "scrim/scrimlaw17.FramesPlay", spec := "framesPlay", unfollowed := true, recurses := true, apart := false }
def FramesPlaySaid : Prop := framesPlayRow.holds Try.pinned (OpenSpec.ofChange framesPlaySpec)

/-- ITS FALSE NEIGHBOUR: 'it returns false'. Refute it at one input. -/
def framesPlayWrong : ChangeSpec := { name := "framesPlay", fn := fun _ => fun
  | [d1, d2] => { results := [.lit (.bool false)], args := [d1, d2] }
  | _ => none }
def FramesPlayWrongFalsely : Prop := framesPlayRow.holds Try.pinned (OpenSpec.ofChange framesPlayWrong)

/-- 'scrimlaw17.FramesSecond': WHATEVER THE INPUT: true; the input reads as it did. -/
def framesSecondSpec : ChangeSpec := { name := "framesSecond", fn := fun _ => fun
  | [d] => { results := [.lit (.bool true)], args := [d] }
  | _ => none }
def framesSecondRow : OpenClaim := { program := "ytpdlholoeaphgaa", sum := "9bc3646a464f7079d97eadf5a120b8842372749d4522e55983a5dbb3c7450fc5", func := "scrim/scrimlaw17.FramesSecond", spec := "framesSecond", unfollowed := true, recurses := true, apart := false }
def FramesSecondSaid : Prop := framesSecondRow.holds Try.pinned (OpenSpec.ofChange framesSecondSpec)

/-- ITS FALSE NEIGHBOUR: 'it returns false'. Refute it at one input. -/
def framesSecondWrong : ChangeSpec := { name := "framesSecond", fn := fun _ => fun
  | [d] => { results := [.lit (.bool false)], args := [d] }
  | _ => none }
def FramesSecondWrongFalsely : Prop := framesSecondRow.holds Try.pinned (OpenSpec.ofChange framesSecondWrong)

/-- 'scrimlaw17.FramesClones': WHATEVER THE INPUT: true; the input reads as it did. -/
def framesClonesSpec : ChangeSpec := { name := "framesClones", fn := fun _ => fun
  | [d1, d2] => { results := [.lit (.bool true)], args := [d1, d2] }
  | _ => none }
def framesClonesRow : OpenClaim := { program := "ytpdlholoeaphgaa", sum := "9bc3646a464f7079d97eadf5a120b8842372749d4522e55983a5dbb3c7450fc5", func := "scrim/scrimlaw17.FramesClones", spec := "framesClones", unfollowed := true, recurses := true, apart := false }
def FramesClonesSaid : Prop := framesClonesRow.holds Try.pinned (OpenSpec.ofChange framesClonesSpec)

/-- ITS FALSE NEIGHBOUR: 'it returns false'. Refute it at one input. -/
def framesClonesWrong : ChangeSpec := { name := "framesClones", fn := fun _ => fun
  | [d1, d2] => { results := [.lit (.bool false)], args := [d1, d2] }
  | _ => none }
def FramesClonesWrongFalsely : Prop := framesClonesRow.holds Try.pinned (OpenSpec.ofChange framesClonesWrong)

/-- 'scrimlaw18.SchedPlays': WHATEVER THE INPUT: true; the input reads as it did. -/
def schedPlaysSpec : ChangeSpec := { name := "schedPlays", fn := fun _ => fun
  | [d1, d2] => { results := [.lit (.bool true)], args := [d1, d2] }
  | _ => none }
def schedPlaysRow : OpenClaim := { program := "ytpdlholoeaphgaa", sum := "9bc3646a464f7079d97eadf5a120b8842372749d4522e55983a5dbb3c7450fc5", func := "scrim/scrimlaw18.SchedPlays", spec := "schedPlays", unfollowed := true, recurses := true, apart := false }
def SchedPlaysSaid : Prop := schedPlaysRow.holds Try.pinned (OpenSpec.ofChange schedPlaysSpec)

/-- ITS FALSE NEIGHBOUR: 'it returns false'. Refute it at one input. -/
def schedPlaysWrong : ChangeSpec := { name := "schedPlays", fn := fun _ => fun
  | [d1, d2] => { results := [.lit (.bool false)], args := [d1, d2] }
  | _ => none }
def SchedPlaysWrongFalsely : Prop := schedPlaysRow.holds Try.pinned (OpenSpec.ofChange schedPlaysWrong)

/-- 'scrimlaw18.SchedClones': WHATEVER THE INPUT: true; the input reads as it did. -/
def schedClonesSpec : ChangeSpec := { name := "schedClones", fn := fun _ => fun
  | [d1, d2] => { results := [.lit (.bool true)], args := [d1, d2] }
  | _ => none }
def schedClonesRow : OpenClaim := { program := "ytpdlholoeaphgaa", sum := "9bc3646a464f7079d97eadf5a120b8842372749d4522e55983a5dbb3c7450fc5", func := "scrim/scrimlaw18.SchedClones", spec := "schedClones", inPlace := ["maps.clone"], unfollowed := true, recurses := true, apart := false }
def SchedClonesSaid : Prop := schedClonesRow.holds Try.pinned (OpenSpec.ofChange schedClonesSpec)

/-- ITS FALSE NEIGHBOUR: 'it returns false'. Refute it at one input. -/
def schedClonesWrong : ChangeSpec := { name := "schedClones", fn := fun _ => fun
  | [d1, d2] => { results := [.lit (.bool false)], args := [d1, d2] }
  | _ => none }
def SchedClonesWrongFalsely : Prop := schedClonesRow.holds Try.pinned (OpenSpec.ofChange schedClonesWrong)

/-- 'scrimlaw18.SchedEnds': WHATEVER THE INPUT: true; the input reads as it did. -/
def schedEndsSpec : ChangeSpec := { name := "schedEnds", fn := fun _ => fun
  | [d1, d2] => { results := [.lit (.bool true)], args := [d1, d2] }
  | _ => none }
def schedEndsRow : OpenClaim := { program := "ytpdlholoeaphgaa", sum := "9bc3646a464f7079d97eadf5a120b8842372749d4522e55983a5dbb3c7450fc5", func := "scrim/scrimlaw18.SchedEnds", spec := "schedEnds", unfollowed := true, recurses := true, apart := false }
def SchedEndsSaid : Prop := schedEndsRow.holds Try.pinned (OpenSpec.ofChange schedEndsSpec)

/-- ITS FALSE NEIGHBOUR: 'it returns false'. Refute it at one input. -/
def schedEndsWrong : ChangeSpec := { name := "schedEnds", fn := fun _ => fun
  | [d1, d2] => { results := [.lit (.bool false)], args := [d1, d2] }
  | _ => none }
def SchedEndsWrongFalsely : Prop := schedEndsRow.holds Try.pinned (OpenSpec.ofChange schedEndsWrong)

/- THE SECOND FORM. 'bulk': how many values and letters a reading holds, each counted each time it is reached (what is shared counts as often as it is met; a slice's spare places count too). A statement '..UptoSaid' is the law's where the arguments, and the package variables that the reading takes, are together of bulk at most 1048576: NARROWER than '..Said'. Prove '..Said' where nothing that the law and all that it calls make is longer than what came in: it says more and counts as full. Else prove '..UptoSaid'. A law counts once. -/
mutual
def uptoBulk {H : Type} : DataW H → Nat
  | .lit (.string bytes) => bytes.length + 1
  | .lit _ => 1
  | .nil => 1
  | .ptr d => uptoBulk d + 1
  | .slice elems spare => uptoBulkAll elems + uptoBulkAll spare + 1
  | .agg parts => uptoBulkAll parts + 1
  | .iface _ d => uptoBulk d + 1
  | .map entries => uptoBulkEntries entries + 1
  | .held _ => 1
def uptoBulkAll {H : Type} : List (DataW H) → Nat
  | [] => 0
  | d :: r => uptoBulk d + uptoBulkAll r
def uptoBulkEntries {H : Type} : List (Lit × DataW H) → Nat
  | [] => 0
  | x :: r => uptoBulkEntry x + uptoBulkEntries r
def uptoBulkEntry {H : Type} : Lit × DataW H → Nat
  | (.string bytes, d) => bytes.length + uptoBulk d + 1
  | (_, d) => uptoBulk d + 1
 end
def uptoSmall : (H : Type) → List (DataW H) → Bool := fun _ ds => decide (uptoBulkAll ds ≤ 1048576)
def OpenSpec.upto (s : _root_.Go.ChangeSpec) : _root_.Go.OpenSpec := { _root_.Go.OpenSpec.ofChange s with cond := some uptoSmall }

/-- 'scrimlaw17.FramesPlay', WHERE WHAT IT READS IS OF BULK AT MOST 1048576: true; the input reads as it did. -/
def framesPlayUptoRow : OpenClaim := { program := "ytpdlholoeaphgaa", sum := "9bc3646a464f7079d97eadf5a120b8842372749d4522e55983a5dbb3c7450fc5", func := "scrim/scrimlaw17.FramesPlay", spec := "framesPlay", unfollowed := true, recurses := true, apart := false, narrowed := true }
def FramesPlayUptoSaid : Prop := framesPlayUptoRow.holds Try.pinned (OpenSpec.upto framesPlaySpec)

/-- 'scrimlaw17.FramesSecond', WHERE WHAT IT READS IS OF BULK AT MOST 1048576: true; the input reads as it did. -/
def framesSecondUptoRow : OpenClaim := { program := "ytpdlholoeaphgaa", sum := "9bc3646a464f7079d97eadf5a120b8842372749d4522e55983a5dbb3c7450fc5", func := "scrim/scrimlaw17.FramesSecond", spec := "framesSecond", unfollowed := true, recurses := true, apart := false, narrowed := true }
def FramesSecondUptoSaid : Prop := framesSecondUptoRow.holds Try.pinned (OpenSpec.upto framesSecondSpec)

/-- 'scrimlaw17.FramesClones', WHERE WHAT IT READS IS OF BULK AT MOST 1048576: true; the input reads as it did. -/
def framesClonesUptoRow : OpenClaim := { program := "ytpdlholoeaphgaa", sum := "9bc3646a464f7079d97eadf5a120b8842372749d4522e55983a5dbb3c7450fc5", func := "scrim/scrimlaw17.FramesClones", spec := "framesClones", unfollowed := true, recurses := true, apart := false, narrowed := true }
def FramesClonesUptoSaid : Prop := framesClonesUptoRow.holds Try.pinned (OpenSpec.upto framesClonesSpec)

/-- 'scrimlaw18.SchedPlays', WHERE WHAT IT READS IS OF BULK AT MOST 1048576: true; the input reads as it did. -/
def schedPlaysUptoRow : OpenClaim := { program := "ytpdlholoeaphgaa", sum := "9bc3646a464f7079d97eadf5a120b8842372749d4522e55983a5dbb3c7450fc5", func := "scrim/scrimlaw18.SchedPlays", spec := "schedPlays", unfollowed := true, recurses := true, apart := false, narrowed := true }
def SchedPlaysUptoSaid : Prop := schedPlaysUptoRow.holds Try.pinned (OpenSpec.upto schedPlaysSpec)

/-- 'scrimlaw18.SchedClones', WHERE WHAT IT READS IS OF BULK AT MOST 1048576: true; the input reads as it did. -/
def schedClonesUptoRow : OpenClaim := { program := "ytpdlholoeaphgaa", sum := "9bc3646a464f7079d97eadf5a120b8842372749d4522e55983a5dbb3c7450fc5", func := "scrim/scrimlaw18.SchedClones", spec := "schedClones", inPlace := ["maps.clone"], unfollowed := true, recurses := true, apart := false, narrowed := true }
def SchedClonesUptoSaid : Prop := schedClonesUptoRow.holds Try.pinned (OpenSpec.upto schedClonesSpec)

/-- 'scrimlaw18.SchedEnds', WHERE WHAT IT READS IS OF BULK AT MOST 1048576: true; the input reads as it did. -/
def schedEndsUptoRow : OpenClaim := { program := "ytpdlholoeaphgaa", sum := "9bc3646a464f7079d97eadf5a120b8842372749d4522e55983a5dbb3c7450fc5", func := "scrim/scrimlaw18.SchedEnds", spec := "schedEnds", unfollowed := true, recurses := true, apart := false, narrowed := true }
def SchedEndsUptoSaid : Prop := schedEndsUptoRow.holds Try.pinned (OpenSpec.upto schedEndsSpec)

end Rows
end Go.Proofs.Ytpdlholoeaphgaa
