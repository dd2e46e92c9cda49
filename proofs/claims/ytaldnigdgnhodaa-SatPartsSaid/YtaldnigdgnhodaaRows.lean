/-
  No cell of these rows narrows 'for every input' (looked for: loops, veiled, ifaces, maps, wideKeys, modest, calm, conditions, laid).
  DERIVED. THE GIVEN ROWS OF THIS SEAT. 5 by the template 'for every input the law returns true; each argument reads behind the call as it read before'; 0 by the template 'total and deterministic' (their statements: YtaldnigdgnhodaaTotals.lean).
  GIVEN WITH THE SEED: the statements are not yours to turn. If you find one false, say at which input.
  Laid BY PROGRAM, IN A SANDBOX (cutbox-rows.mjs): the forced cells as the released guide's own fill.sh prints them over the translation d4fe84ea7a7cef9e… (all of the seat's roots in one cut). By AI agents, Wed Nov 11 2026. No macro, syntax, notation, axiom, sorry.
-/
import Derived.Test.YtaldnigdgnhodaaChecked
import GoSem.Claim
import GoSem.ClaimJoined
import GoSem.ClaimMapViews
import Derived.JoinedTies
import Derived.KernelRfl
namespace Go.Proofs.Ytaldnigdgnhodaa
/- THE CELL 'sum', in the pinned program and in every row, IS THE sha256 OF THE DUMP (.gsa) THAT YtaldnigdgnhodaaProg.lean LOADS. Nothing in Lean hashes anything: it is a label: what it is worth is what the hold of that sum in a sandbox is worth. -/
noncomputable def Try.pinned : Pinned := { name := "ytaldnigdgnhodaa", sum := "d4fe84ea7a7cef9e33f4c1fa56f07b4b5acc9dfd1b25ce006d194fc2ecb4ecd1", checked := Try.checked }
namespace Rows
def none {H : Type} : Left H := { results := [], args := [] }

/-- 'scrimlaw01.SatSums': WHATEVER THE INPUT: true; the input reads as it did. -/
def satSumsSpec : ChangeSpec := { name := "satSums", fn := fun _ => fun
  | [d1, d2] => { results := [.lit (.bool true)], args := [d1, d2] }
  | _ => none }
def satSumsRow : OpenClaim := { program := "ytaldnigdgnhodaa", sum := "d4fe84ea7a7cef9e33f4c1fa56f07b4b5acc9dfd1b25ce006d194fc2ecb4ecd1", func := "scrim/scrimlaw01.SatSums", spec := "satSums", apart := false }
def SatSumsSaid : Prop := satSumsRow.holds Try.pinned (OpenSpec.ofChange satSumsSpec)

/-- ITS FALSE NEIGHBOUR: 'it returns false'. Refute it at one input. -/
def satSumsWrong : ChangeSpec := { name := "satSums", fn := fun _ => fun
  | [d1, d2] => { results := [.lit (.bool false)], args := [d1, d2] }
  | _ => none }
def SatSumsWrongFalsely : Prop := satSumsRow.holds Try.pinned (OpenSpec.ofChange satSumsWrong)

/-- 'scrimlaw01.SatParts': WHATEVER THE INPUT: true; the input reads as it did. -/
def satPartsSpec : ChangeSpec := { name := "satParts", fn := fun _ => fun
  | [d1, d2] => { results := [.lit (.bool true)], args := [d1, d2] }
  | _ => none }
def satPartsRow : OpenClaim := { program := "ytaldnigdgnhodaa", sum := "d4fe84ea7a7cef9e33f4c1fa56f07b4b5acc9dfd1b25ce006d194fc2ecb4ecd1", func := "scrim/scrimlaw01.SatParts", spec := "satParts", apart := false }
def SatPartsSaid : Prop := satPartsRow.holds Try.pinned (OpenSpec.ofChange satPartsSpec)

/-- ITS FALSE NEIGHBOUR: 'it returns false'. Refute it at one input. -/
def satPartsWrong : ChangeSpec := { name := "satParts", fn := fun _ => fun
  | [d1, d2] => { results := [.lit (.bool false)], args := [d1, d2] }
  | _ => none }
def SatPartsWrongFalsely : Prop := satPartsRow.holds Try.pinned (OpenSpec.ofChange satPartsWrong)

/-- 'scrimlaw01.SatLists': WHATEVER THE INPUT: true; the input reads as it did. -/
def satListsSpec : ChangeSpec := { name := "satLists", fn := fun _ => fun
  | [d] => { results := [.lit (.bool true)], args := [d] }
  | _ => none }
def satListsRow : OpenClaim := { program := "ytaldnigdgnhodaa", sum := "d4fe84ea7a7cef9e33f4c1fa56f07b4b5acc9dfd1b25ce006d194fc2ecb4ecd1", func := "scrim/scrimlaw01.SatLists", spec := "satLists", apart := false }
def SatListsSaid : Prop := satListsRow.holds Try.pinned (OpenSpec.ofChange satListsSpec)

/-- ITS FALSE NEIGHBOUR: 'it returns false'. Refute it at one input. -/
def satListsWrong : ChangeSpec := { name := "satLists", fn := fun _ => fun
  | [d] => { results := [.lit (.bool false)], args := [d] }
  | _ => none }
def SatListsWrongFalsely : Prop := satListsRow.holds Try.pinned (OpenSpec.ofChange satListsWrong)

/-- 'scrimlaw01.SatClips': WHATEVER THE INPUT: true; the input reads as it did. -/
def satClipsSpec : ChangeSpec := { name := "satClips", fn := fun _ => fun
  | [d1, d2, d3] => { results := [.lit (.bool true)], args := [d1, d2, d3] }
  | _ => none }
def satClipsRow : OpenClaim := { program := "ytaldnigdgnhodaa", sum := "d4fe84ea7a7cef9e33f4c1fa56f07b4b5acc9dfd1b25ce006d194fc2ecb4ecd1", func := "scrim/scrimlaw01.SatClips", spec := "satClips", apart := false }
def SatClipsSaid : Prop := satClipsRow.holds Try.pinned (OpenSpec.ofChange satClipsSpec)

/-- ITS FALSE NEIGHBOUR: 'it returns false'. Refute it at one input. -/
def satClipsWrong : ChangeSpec := { name := "satClips", fn := fun _ => fun
  | [d1, d2, d3] => { results := [.lit (.bool false)], args := [d1, d2, d3] }
  | _ => none }
def SatClipsWrongFalsely : Prop := satClipsRow.holds Try.pinned (OpenSpec.ofChange satClipsWrong)

/-- 'scrimlaw01.SatClock': WHATEVER THE INPUT: true; the input reads as it did. -/
def satClockSpec : ChangeSpec := { name := "satClock", fn := fun _ => fun
  | [d1, d2] => { results := [.lit (.bool true)], args := [d1, d2] }
  | _ => none }
def satClockRow : OpenClaim := { program := "ytaldnigdgnhodaa", sum := "d4fe84ea7a7cef9e33f4c1fa56f07b4b5acc9dfd1b25ce006d194fc2ecb4ecd1", func := "scrim/scrimlaw01.SatClock", spec := "satClock", apart := false }
def SatClockSaid : Prop := satClockRow.holds Try.pinned (OpenSpec.ofChange satClockSpec)

/-- ITS FALSE NEIGHBOUR: 'it returns false'. Refute it at one input. -/
def satClockWrong : ChangeSpec := { name := "satClock", fn := fun _ => fun
  | [d1, d2] => { results := [.lit (.bool false)], args := [d1, d2] }
  | _ => none }
def SatClockWrongFalsely : Prop := satClockRow.holds Try.pinned (OpenSpec.ofChange satClockWrong)

/- THE SECOND FORM. 'bulk': how many values and letters a reading holds, each counted each time it is reached (what is shared counts as often as it is met; a slice's spare places count too). A statement '..UptoSaid' is the law's where the arguments, and the package variables that the reading takes, are together of bulk at most 1048576: NARROWER than '..Said'. Prove '..Said' where nothing that the law and all that it calls make is longer than what came in: it says more and counts as full. Else prove '..UptoSaid'. A law counts once. -/
mutual
def uptoBulk {H : Type} : DataW H → Nat
  | .lit (.string bytes) => bytes.length + 1
  | .lit _ => 1
  | .nil => 1
  | .ptr d => uptoBulk d + 1
  | .slice elems spare => uptoBulkAll elems + uptoBulkAll spare + 1
  | .agg parts => uptoBulkAll parts + 1
  | .iface _ d => uptoBulk d + 1
  | .map entries => uptoBulkEntries entries + 1
  | .held _ => 1
def uptoBulkAll {H : Type} : List (DataW H) → Nat
  | [] => 0
  | d :: r => uptoBulk d + uptoBulkAll r
def uptoBulkEntries {H : Type} : List (Lit × DataW H) → Nat
  | [] => 0
  | x :: r => uptoBulkEntry x + uptoBulkEntries r
def uptoBulkEntry {H : Type} : Lit × DataW H → Nat
  | (.string bytes, d) => bytes.length + uptoBulk d + 1
  | (_, d) => uptoBulk d + 1
 end
def uptoSmall : (H : Type) → List (DataW H) → Bool := fun _ ds => decide (uptoBulkAll ds ≤ 1048576)
def OpenSpec.upto (s : _root_.Go.ChangeSpec) : _root_.Go.OpenSpec := { _root_.Go.OpenSpec.ofChange s with cond := some uptoSmall }

/-- 'scrimlaw01.SatSums', WHERE WHAT IT READS IS OF BULK AT MOST 1048576: true; the input reads as it did. -/
def satSumsUptoRow : OpenClaim := { program := "ytaldnigdgnhodaa", sum := "d4fe84ea7a7cef9e33f4c1fa56f07b4b5acc9dfd1b25ce006d194fc2ecb4ecd1", func := "scrim/scrimlaw01.SatSums", spec := "satSums", apart := false, narrowed := true }
def SatSumsUptoSaid : Prop := satSumsUptoRow.holds Try.pinned (OpenSpec.upto satSumsSpec)

/-- 'scrimlaw01.SatParts', WHERE WHAT IT READS IS OF BULK AT MOST 1048576: true; the input reads as it did. -/
def satPartsUptoRow : OpenClaim := { program := "ytaldnigdgnhodaa", sum := "d4fe84ea7a7cef9e33f4c1fa56f07b4b5acc9dfd1b25ce006d194fc2ecb4ecd1", func := "scrim/scrimlaw01.SatParts", spec := "satParts", apart := false, narrowed := true }
def SatPartsUptoSaid : Prop := satPartsUptoRow.holds Try.pinned (OpenSpec.upto satPartsSpec)

/-- 'scrimlaw01.SatLists', WHERE WHAT IT READS IS OF BULK AT MOST 1048576: true; the input reads as it did. -/
def satListsUptoRow : OpenClaim := { program := "ytaldnigdgnhodaa", sum := "d4fe84ea7a7cef9e33f4c1fa56f07b4b5acc9dfd1b25ce006d194fc2ecb4ecd1", func := "scrim/scrimlaw01.SatLists", spec := "satLists", apart := false, narrowed := true }
def SatListsUptoSaid : Prop := satListsUptoRow.holds Try.pinned (OpenSpec.upto satListsSpec)

/-- 'scrimlaw01.SatClips', WHERE WHAT IT READS IS OF BULK AT MOST 1048576: true; the input reads as it did. -/
def satClipsUptoRow : OpenClaim := { program := "ytaldnigdgnhodaa", sum := "d4fe84ea7a7cef9e33f4c1fa56f07b4b5acc9dfd1b25ce006d194fc2ecb4ecd1", func := "scrim/scrimlaw01.SatClips", spec := "satClips", apart := false, narrowed := true }
def SatClipsUptoSaid : Prop := satClipsUptoRow.holds Try.pinned (OpenSpec.upto satClipsSpec)

/-- 'scrimlaw01.SatClock', WHERE WHAT IT READS IS OF BULK AT MOST 1048576: true; the input reads as it did. -/
def satClockUptoRow : OpenClaim := { program := "ytaldnigdgnhodaa", sum := "d4fe84ea7a7cef9e33f4c1fa56f07b4b5acc9dfd1b25ce006d194fc2ecb4ecd1", func := "scrim/scrimlaw01.SatClock", spec := "satClock", apart := false, narrowed := true }
def SatClockUptoSaid : Prop := satClockUptoRow.holds Try.pinned (OpenSpec.upto satClockSpec)

end Rows
end Go.Proofs.Ytaldnigdgnhodaa
