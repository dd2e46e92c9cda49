/-
  DERIVED. GIVEN WITH THE SEED: THE CARDS: each row of YtibcfmfihcgijaaDoorRows.lean that lists a variable, with what it lists TIED to the program's text (the seventh form; the later family's looks); each row that meets fmt, with fmt's text TOLD by the authors' own Lean function (tested against real Go, not proved from fmt's source: count such statements apart). THE CARD IS WHAT COUNTS. Prove the row's statement (the work); the ties are given (YtibcfmfihcgijaaDoorTie.lean); close each card by the builder's one call (the guide's Derived/Test/ToyasCard.lean, 'card_holds'). Laid BY PROGRAM, IN A SANDBOX (cutbox-door.mjs). By AI agents, Wed Nov 11 2026. No macro, syntax, notation, axiom, sorry.
-/
import Derived.Test.YtibcfmfihcgijaaDoorRows
import GoSem.ClaimSeven
namespace Go.Proofs.YtibcfmfihcgijaaDoor
namespace Rows

/-- THE TIED CARD OF 'scrimlaw04.PropsMaps'. -/
def propsMapsCard : Claim7 := { stood := { row := propsMapsRow, standIns := [], harness := (true, "c214c1bd0ce534138e10c86c13e73da29bc12234fa413f82dbca22a5d9a1c6d7"), looks := false }, kinds := [], alts := [], laidByText := true, laidKinds := [.data, .data, .data], laidTests := true, laidLooks := .later }
def PropsMapsCardSaid : Prop := Claim7.holds Tryd.pinned (.plain (OpenSpec.ofChange propsMapsSpec)) propsMapsCard

/-- THE TIED CARD OF 'scrimlaw04.PropsSame'. -/
def propsSameCard : Claim7 := { stood := { row := propsSameRow, standIns := [], harness := (true, "c214c1bd0ce534138e10c86c13e73da29bc12234fa413f82dbca22a5d9a1c6d7"), looks := false }, kinds := [], alts := [], laidByText := true, laidKinds := [.data, .data, .data], laidTests := true, laidLooks := .later }
def PropsSameCardSaid : Prop := Claim7.holds Tryd.pinned (.plain (OpenSpec.ofChange propsSameSpec)) propsSameCard

/-- THE TIED CARD OF 'scrimlaw04.PropsTurns'. -/
def propsTurnsCard : Claim7 := { stood := { row := propsTurnsRow, standIns := [], harness := (true, "c214c1bd0ce534138e10c86c13e73da29bc12234fa413f82dbca22a5d9a1c6d7"), looks := false }, kinds := [], alts := [], laidByText := true, laidKinds := [.data, .data, .data], laidTests := true, laidLooks := .later }
def PropsTurnsCardSaid : Prop := Claim7.holds Tryd.pinned (.plain (OpenSpec.ofChange propsTurnsSpec)) propsTurnsCard

/-- THE SECOND FORM's CARD OF 'scrimlaw04.PropsMaps'. -/
def propsMapsUptoCard : Claim7 := { stood := { row := propsMapsUptoRow, standIns := [], harness := (true, "c214c1bd0ce534138e10c86c13e73da29bc12234fa413f82dbca22a5d9a1c6d7"), looks := false }, kinds := [], alts := [], laidByText := true, laidKinds := [.data, .data, .data], laidTests := true, laidLooks := .later }
def PropsMapsUptoCardSaid : Prop := Claim7.holds Tryd.pinned (.plain (OpenSpec.upto propsMapsSpec)) propsMapsUptoCard

/-- THE SECOND FORM's CARD OF 'scrimlaw04.PropsSame'. -/
def propsSameUptoCard : Claim7 := { stood := { row := propsSameUptoRow, standIns := [], harness := (true, "c214c1bd0ce534138e10c86c13e73da29bc12234fa413f82dbca22a5d9a1c6d7"), looks := false }, kinds := [], alts := [], laidByText := true, laidKinds := [.data, .data, .data], laidTests := true, laidLooks := .later }
def PropsSameUptoCardSaid : Prop := Claim7.holds Tryd.pinned (.plain (OpenSpec.upto propsSameSpec)) propsSameUptoCard

/-- THE SECOND FORM's CARD OF 'scrimlaw04.PropsTurns'. -/
def propsTurnsUptoCard : Claim7 := { stood := { row := propsTurnsUptoRow, standIns := [], harness := (true, "c214c1bd0ce534138e10c86c13e73da29bc12234fa413f82dbca22a5d9a1c6d7"), looks := false }, kinds := [], alts := [], laidByText := true, laidKinds := [.data, .data, .data], laidTests := true, laidLooks := .later }
def PropsTurnsUptoCardSaid : Prop := Claim7.holds Tryd.pinned (.plain (OpenSpec.upto propsTurnsSpec)) propsTurnsUptoCard
end Rows
end Go.Proofs.YtibcfmfihcgijaaDoor
