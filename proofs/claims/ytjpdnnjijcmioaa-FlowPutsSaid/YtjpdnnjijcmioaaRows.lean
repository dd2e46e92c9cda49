/-
  No cell of these rows narrows 'for every input' (looked for: loops, veiled, ifaces, maps, wideKeys, modest, calm, conditions, laid).
  DERIVED. THE GIVEN ROWS OF THIS SEAT. 9 by the template 'for every input the law returns true; each argument reads behind the call as it read before'; 0 by the template 'total and deterministic' (their statements: YtjpdnnjijcmioaaTotals.lean).
  GIVEN WITH THE SEED: the statements are not yours to turn. If you find one false, say at which input.
  Laid BY PROGRAM, IN A SANDBOX (cutbox-rows.mjs): the forced cells as the released guide's own fill.sh prints them over the translation ff6041c275d9d331… (all of the seat's roots in one cut). By AI agents, Wed Nov 11 2026. No macro, syntax, notation, axiom, sorry.
-/
import Derived.Test.YtjpdnnjijcmioaaChecked
import GoSem.Claim
import GoSem.ClaimJoined
import GoSem.ClaimMapViews
import Derived.JoinedTies
import Derived.KernelRfl
namespace Go.Proofs.Ytjpdnnjijcmioaa
/- THE CELL 'sum', in the pinned program and in every row, IS THE sha256 OF THE DUMP (.gsa) THAT YtjpdnnjijcmioaaProg.lean LOADS. Nothing in Lean hashes anything: it is a label: what it is worth is what the hold of that sum in a sandbox is worth. -/
noncomputable def Try.pinned : Pinned := { name := "ytjpdnnjijcmioaa", sum := "ff6041c275d9d3310d5dcbd8552b72d8c1470c6324644fde3e105e73774de07b", checked := Try.checked }
namespace Rows
def none {H : Type} : Left H := { results := [], args := [] }

/-- 'scrimlaw13.RectPoints': WHATEVER THE INPUT: true; the input reads as it did. -/
def rectPointsSpec : ChangeSpec := { name := "rectPoints", fn := fun _ => fun
  | [d1, d2, d3] => { results := [.lit (.bool true)], args := [d1, d2, d3] }
  | _ => none }
def rectPointsRow : OpenClaim := { program := "ytjpdnnjijcmioaa", sum := "ff6041c275d9d3310d5dcbd8552b72d8c1470c6324644fde3e105e73774de07b", func := "scrim/scrimlaw13.RectPoints", spec := "rectPoints", apart := false }
def RectPointsSaid : Prop := rectPointsRow.holds Try.pinned (OpenSpec.ofChange rectPointsSpec)

/-- ITS FALSE NEIGHBOUR: 'it returns false'. Refute it at one input. -/
def rectPointsWrong : ChangeSpec := { name := "rectPoints", fn := fun _ => fun
  | [d1, d2, d3] => { results := [.lit (.bool false)], args := [d1, d2, d3] }
  | _ => none }
def RectPointsWrongFalsely : Prop := rectPointsRow.holds Try.pinned (OpenSpec.ofChange rectPointsWrong)

/-- 'scrimlaw13.RectOver': WHATEVER THE INPUT: true; the input reads as it did. -/
def rectOverSpec : ChangeSpec := { name := "rectOver", fn := fun _ => fun
  | [d1, d2] => { results := [.lit (.bool true)], args := [d1, d2] }
  | _ => none }
def rectOverRow : OpenClaim := { program := "ytjpdnnjijcmioaa", sum := "ff6041c275d9d3310d5dcbd8552b72d8c1470c6324644fde3e105e73774de07b", func := "scrim/scrimlaw13.RectOver", spec := "rectOver", apart := false }
def RectOverSaid : Prop := rectOverRow.holds Try.pinned (OpenSpec.ofChange rectOverSpec)

/-- ITS FALSE NEIGHBOUR: 'it returns false'. Refute it at one input. -/
def rectOverWrong : ChangeSpec := { name := "rectOver", fn := fun _ => fun
  | [d1, d2] => { results := [.lit (.bool false)], args := [d1, d2] }
  | _ => none }
def RectOverWrongFalsely : Prop := rectOverRow.holds Try.pinned (OpenSpec.ofChange rectOverWrong)

/-- 'scrimlaw13.RectOffsets': WHATEVER THE INPUT: true; the input reads as it did. -/
def rectOffsetsSpec : ChangeSpec := { name := "rectOffsets", fn := fun _ => fun
  | [d1, d2] => { results := [.lit (.bool true)], args := [d1, d2] }
  | _ => none }
def rectOffsetsRow : OpenClaim := { program := "ytjpdnnjijcmioaa", sum := "ff6041c275d9d3310d5dcbd8552b72d8c1470c6324644fde3e105e73774de07b", func := "scrim/scrimlaw13.RectOffsets", spec := "rectOffsets", apart := false }
def RectOffsetsSaid : Prop := rectOffsetsRow.holds Try.pinned (OpenSpec.ofChange rectOffsetsSpec)

/-- ITS FALSE NEIGHBOUR: 'it returns false'. Refute it at one input. -/
def rectOffsetsWrong : ChangeSpec := { name := "rectOffsets", fn := fun _ => fun
  | [d1, d2] => { results := [.lit (.bool false)], args := [d1, d2] }
  | _ => none }
def RectOffsetsWrongFalsely : Prop := rectOffsetsRow.holds Try.pinned (OpenSpec.ofChange rectOffsetsWrong)

/-- 'scrimlaw13.RectSnaps': WHATEVER THE INPUT: true; the input reads as it did. -/
def rectSnapsSpec : ChangeSpec := { name := "rectSnaps", fn := fun _ => fun
  | [d1, d2] => { results := [.lit (.bool true)], args := [d1, d2] }
  | _ => none }
def rectSnapsRow : OpenClaim := { program := "ytjpdnnjijcmioaa", sum := "ff6041c275d9d3310d5dcbd8552b72d8c1470c6324644fde3e105e73774de07b", func := "scrim/scrimlaw13.RectSnaps", spec := "rectSnaps", unfollowed := true, recurses := true, apart := false }
def RectSnapsSaid : Prop := rectSnapsRow.holds Try.pinned (OpenSpec.ofChange rectSnapsSpec)

/-- ITS FALSE NEIGHBOUR: 'it returns false'. Refute it at one input. -/
def rectSnapsWrong : ChangeSpec := { name := "rectSnaps", fn := fun _ => fun
  | [d1, d2] => { results := [.lit (.bool false)], args := [d1, d2] }
  | _ => none }
def RectSnapsWrongFalsely : Prop := rectSnapsRow.holds Try.pinned (OpenSpec.ofChange rectSnapsWrong)

/-- 'scrimlaw13.RectMoved': WHATEVER THE INPUT: true; the input reads as it did. -/
def rectMovedSpec : ChangeSpec := { name := "rectMoved", fn := fun _ => fun
  | [d] => { results := [.lit (.bool true)], args := [d] }
  | _ => none }
def rectMovedRow : OpenClaim := { program := "ytjpdnnjijcmioaa", sum := "ff6041c275d9d3310d5dcbd8552b72d8c1470c6324644fde3e105e73774de07b", func := "scrim/scrimlaw13.RectMoved", spec := "rectMoved", unfollowed := true, recurses := true, apart := false }
def RectMovedSaid : Prop := rectMovedRow.holds Try.pinned (OpenSpec.ofChange rectMovedSpec)

/-- ITS FALSE NEIGHBOUR: 'it returns false'. Refute it at one input. -/
def rectMovedWrong : ChangeSpec := { name := "rectMoved", fn := fun _ => fun
  | [d] => { results := [.lit (.bool false)], args := [d] }
  | _ => none }
def RectMovedWrongFalsely : Prop := rectMovedRow.holds Try.pinned (OpenSpec.ofChange rectMovedWrong)

/-- 'scrimlaw14.FlowPuts': WHATEVER THE INPUT: true; the input reads as it did. -/
def flowPutsSpec : ChangeSpec := { name := "flowPuts", fn := fun _ => fun
  | [d] => { results := [.lit (.bool true)], args := [d] }
  | _ => none }
def flowPutsRow : OpenClaim := { program := "ytjpdnnjijcmioaa", sum := "ff6041c275d9d3310d5dcbd8552b72d8c1470c6324644fde3e105e73774de07b", func := "scrim/scrimlaw14.FlowPuts", spec := "flowPuts", unfollowed := true, recurses := true, apart := false }
def FlowPutsSaid : Prop := flowPutsRow.holds Try.pinned (OpenSpec.ofChange flowPutsSpec)

/-- ITS FALSE NEIGHBOUR: 'it returns false'. Refute it at one input. -/
def flowPutsWrong : ChangeSpec := { name := "flowPuts", fn := fun _ => fun
  | [d] => { results := [.lit (.bool false)], args := [d] }
  | _ => none }
def FlowPutsWrongFalsely : Prop := flowPutsRow.holds Try.pinned (OpenSpec.ofChange flowPutsWrong)

/-- 'scrimlaw14.FlowApart': WHATEVER THE INPUT: true; the input reads as it did. -/
def flowApartSpec : ChangeSpec := { name := "flowApart", fn := fun _ => fun
  | [d] => { results := [.lit (.bool true)], args := [d] }
  | _ => none }
def flowApartRow : OpenClaim := { program := "ytjpdnnjijcmioaa", sum := "ff6041c275d9d3310d5dcbd8552b72d8c1470c6324644fde3e105e73774de07b", func := "scrim/scrimlaw14.FlowApart", spec := "flowApart", unfollowed := true, recurses := true, apart := false }
def FlowApartSaid : Prop := flowApartRow.holds Try.pinned (OpenSpec.ofChange flowApartSpec)

/-- ITS FALSE NEIGHBOUR: 'it returns false'. Refute it at one input. -/
def flowApartWrong : ChangeSpec := { name := "flowApart", fn := fun _ => fun
  | [d] => { results := [.lit (.bool false)], args := [d] }
  | _ => none }
def FlowApartWrongFalsely : Prop := flowApartRow.holds Try.pinned (OpenSpec.ofChange flowApartWrong)

/-- 'scrimlaw14.FlowFits': WHATEVER THE INPUT: true; the input reads as it did. -/
def flowFitsSpec : ChangeSpec := { name := "flowFits", fn := fun _ => fun
  | [d] => { results := [.lit (.bool true)], args := [d] }
  | _ => none }
def flowFitsRow : OpenClaim := { program := "ytjpdnnjijcmioaa", sum := "ff6041c275d9d3310d5dcbd8552b72d8c1470c6324644fde3e105e73774de07b", func := "scrim/scrimlaw14.FlowFits", spec := "flowFits", unfollowed := true, recurses := true, apart := false }
def FlowFitsSaid : Prop := flowFitsRow.holds Try.pinned (OpenSpec.ofChange flowFitsSpec)

/-- ITS FALSE NEIGHBOUR: 'it returns false'. Refute it at one input. -/
def flowFitsWrong : ChangeSpec := { name := "flowFits", fn := fun _ => fun
  | [d] => { results := [.lit (.bool false)], args := [d] }
  | _ => none }
def FlowFitsWrongFalsely : Prop := flowFitsRow.holds Try.pinned (OpenSpec.ofChange flowFitsWrong)

/-- 'scrimlaw14.FlowColumns': WHATEVER THE INPUT: true; the input reads as it did. -/
def flowColumnsSpec : ChangeSpec := { name := "flowColumns", fn := fun _ => fun
  | [d] => { results := [.lit (.bool true)], args := [d] }
  | _ => none }
def flowColumnsRow : OpenClaim := { program := "ytjpdnnjijcmioaa", sum := "ff6041c275d9d3310d5dcbd8552b72d8c1470c6324644fde3e105e73774de07b", func := "scrim/scrimlaw14.FlowColumns", spec := "flowColumns", unfollowed := true, recurses := true, apart := false }
def FlowColumnsSaid : Prop := flowColumnsRow.holds Try.pinned (OpenSpec.ofChange flowColumnsSpec)

/-- ITS FALSE NEIGHBOUR: 'it returns false'. Refute it at one input. -/
def flowColumnsWrong : ChangeSpec := { name := "flowColumns", fn := fun _ => fun
  | [d] => { results := [.lit (.bool false)], args := [d] }
  | _ => none }
def FlowColumnsWrongFalsely : Prop := flowColumnsRow.holds Try.pinned (OpenSpec.ofChange flowColumnsWrong)

/- THE SECOND FORM. 'bulk': how many values and letters a reading holds, each counted each time it is reached (what is shared counts as often as it is met; a slice's spare places count too). A statement '..UptoSaid' is the law's where the arguments, and the package variables that the reading takes, are together of bulk at most 1048576: NARROWER than '..Said'. Prove '..Said' where nothing that the law and all that it calls make is longer than what came in: it says more and counts as full. Else prove '..UptoSaid'. A law counts once. -/
mutual
def uptoBulk {H : Type} : DataW H → Nat
  | .lit (.string bytes) => bytes.length + 1
  | .lit _ => 1
  | .nil => 1
  | .ptr d => uptoBulk d + 1
  | .slice elems spare => uptoBulkAll elems + uptoBulkAll spare + 1
  | .agg parts => uptoBulkAll parts + 1
  | .iface _ d => uptoBulk d + 1
  | .map entries => uptoBulkEntries entries + 1
  | .held _ => 1
def uptoBulkAll {H : Type} : List (DataW H) → Nat
  | [] => 0
  | d :: r => uptoBulk d + uptoBulkAll r
def uptoBulkEntries {H : Type} : List (Lit × DataW H) → Nat
  | [] => 0
  | x :: r => uptoBulkEntry x + uptoBulkEntries r
def uptoBulkEntry {H : Type} : Lit × DataW H → Nat
  | (.string bytes, d) => bytes.length + uptoBulk d + 1
  | (_, d) => uptoBulk d + 1
 end
def uptoSmall : (H : Type) → List (DataW H) → Bool := fun _ ds => decide (uptoBulkAll ds ≤ 1048576)
def OpenSpec.upto (s : _root_.Go.ChangeSpec) : _root_.Go.OpenSpec := { _root_.Go.OpenSpec.ofChange s with cond := some uptoSmall }

/-- 'scrimlaw13.RectPoints', WHERE WHAT IT READS IS OF BULK AT MOST 1048576: true; the input reads as it did. -/
def rectPointsUptoRow : OpenClaim := { program := "ytjpdnnjijcmioaa", sum := "ff6041c275d9d3310d5dcbd8552b72d8c1470c6324644fde3e105e73774de07b", func := "scrim/scrimlaw13.RectPoints", spec := "rectPoints", apart := false, narrowed := true }
def RectPointsUptoSaid : Prop := rectPointsUptoRow.holds Try.pinned (OpenSpec.upto rectPointsSpec)

/-- 'scrimlaw13.RectOver', WHERE WHAT IT READS IS OF BULK AT MOST 1048576: true; the input reads as it did. -/
def rectOverUptoRow : OpenClaim := { program := "ytjpdnnjijcmioaa", sum := "ff6041c275d9d3310d5dcbd8552b72d8c1470c6324644fde3e105e73774de07b", func := "scrim/scrimlaw13.RectOver", spec := "rectOver", apart := false, narrowed := true }
def RectOverUptoSaid : Prop := rectOverUptoRow.holds Try.pinned (OpenSpec.upto rectOverSpec)

/-- 'scrimlaw13.RectOffsets', WHERE WHAT IT READS IS OF BULK AT MOST 1048576: true; the input reads as it did. -/
def rectOffsetsUptoRow : OpenClaim := { program := "ytjpdnnjijcmioaa", sum := "ff6041c275d9d3310d5dcbd8552b72d8c1470c6324644fde3e105e73774de07b", func := "scrim/scrimlaw13.RectOffsets", spec := "rectOffsets", apart := false, narrowed := true }
def RectOffsetsUptoSaid : Prop := rectOffsetsUptoRow.holds Try.pinned (OpenSpec.upto rectOffsetsSpec)

/-- 'scrimlaw13.RectSnaps', WHERE WHAT IT READS IS OF BULK AT MOST 1048576: true; the input reads as it did. -/
def rectSnapsUptoRow : OpenClaim := { program := "ytjpdnnjijcmioaa", sum := "ff6041c275d9d3310d5dcbd8552b72d8c1470c6324644fde3e105e73774de07b", func := "scrim/scrimlaw13.RectSnaps", spec := "rectSnaps", unfollowed := true, recurses := true, apart := false, narrowed := true }
def RectSnapsUptoSaid : Prop := rectSnapsUptoRow.holds Try.pinned (OpenSpec.upto rectSnapsSpec)

/-- 'scrimlaw13.RectMoved', WHERE WHAT IT READS IS OF BULK AT MOST 1048576: true; the input reads as it did. -/
def rectMovedUptoRow : OpenClaim := { program := "ytjpdnnjijcmioaa", sum := "ff6041c275d9d3310d5dcbd8552b72d8c1470c6324644fde3e105e73774de07b", func := "scrim/scrimlaw13.RectMoved", spec := "rectMoved", unfollowed := true, recurses := true, apart := false, narrowed := true }
def RectMovedUptoSaid : Prop := rectMovedUptoRow.holds Try.pinned (OpenSpec.upto rectMovedSpec)

/-- 'scrimlaw14.FlowPuts', WHERE WHAT IT READS IS OF BULK AT MOST 1048576: true; the input reads as it did. -/
def flowPutsUptoRow : OpenClaim := { program := "ytjpdnnjijcmioaa", sum := "ff6041c275d9d3310d5dcbd8552b72d8c1470c6324644fde3e105e73774de07b", func := "scrim/scrimlaw14.FlowPuts", spec := "flowPuts", unfollowed := true, recurses := true, apart := false, narrowed := true }
def FlowPutsUptoSaid : Prop := flowPutsUptoRow.holds Try.pinned (OpenSpec.upto flowPutsSpec)

/-- 'scrimlaw14.FlowApart', WHERE WHAT IT READS IS OF BULK AT MOST 1048576: true; the input reads as it did. -/
def flowApartUptoRow : OpenClaim := { program := "ytjpdnnjijcmioaa", sum := "ff6041c275d9d3310d5dcbd8552b72d8c1470c6324644fde3e105e73774de07b", func := "scrim/scrimlaw14.FlowApart", spec := "flowApart", unfollowed := true, recurses := true, apart := false, narrowed := true }
def FlowApartUptoSaid : Prop := flowApartUptoRow.holds Try.pinned (OpenSpec.upto flowApartSpec)

/-- 'scrimlaw14.FlowFits', WHERE WHAT IT READS IS OF BULK AT MOST 1048576: true; the input reads as it did. -/
def flowFitsUptoRow : OpenClaim := { program := "ytjpdnnjijcmioaa", sum := "ff6041c275d9d3310d5dcbd8552b72d8c1470c6324644fde3e105e73774de07b", func := "scrim/scrimlaw14.FlowFits", spec := "flowFits", unfollowed := true, recurses := true, apart := false, narrowed := true }
def FlowFitsUptoSaid : Prop := flowFitsUptoRow.holds Try.pinned (OpenSpec.upto flowFitsSpec)

/-- 'scrimlaw14.FlowColumns', WHERE WHAT IT READS IS OF BULK AT MOST 1048576: true; the input reads as it did. -/
def flowColumnsUptoRow : OpenClaim := { program := "ytjpdnnjijcmioaa", sum := "ff6041c275d9d3310d5dcbd8552b72d8c1470c6324644fde3e105e73774de07b", func := "scrim/scrimlaw14.FlowColumns", spec := "flowColumns", unfollowed := true, recurses := true, apart := false, narrowed := true }
def FlowColumnsUptoSaid : Prop := flowColumnsUptoRow.holds Try.pinned (OpenSpec.upto flowColumnsSpec)

end Rows
end Go.Proofs.Ytjpdnnjijcmioaa
