/-
  No cell of these rows narrows 'for every input' (looked for: loops, veiled, ifaces, maps, wideKeys, modest, calm, conditions, laid).
  DERIVED. THE GIVEN ROWS OF THIS SEAT. 8 by the template 'for every input the law returns true; each argument reads behind the call as it read before'; 0 by the template 'total and deterministic' (their statements: YtfapghekakdpgaaTotals.lean).
  GIVEN WITH THE SEED: the statements are not yours to turn. If you find one false, say at which input.
  Laid BY PROGRAM, IN A SANDBOX (cutbox-rows.mjs): the forced cells as the released guide's own fill.sh prints them over the translation 889fdacdbdb89167… (all of the seat's roots in one cut). By AI agents, Wed Nov 11 2026. No macro, syntax, notation, axiom, sorry.
-/
import Derived.Test.YtfapghekakdpgaaChecked
import GoSem.Claim
import GoSem.ClaimJoined
import GoSem.ClaimMapViews
import Derived.JoinedTies
import Derived.KernelRfl
namespace Go.Proofs.Ytfapghekakdpgaa
/- THE CELL 'sum', in the pinned program and in every row, IS THE sha256 OF THE DUMP (.gsa) THAT YtfapghekakdpgaaProg.lean LOADS. Nothing in Lean hashes anything: it is a label: what it is worth is what the hold of that sum in a sandbox is worth. -/
noncomputable def Try.pinned : Pinned := { name := "ytfapghekakdpgaa", sum := "889fdacdbdb89167502ac1058c0509e7c44a7d0d500635c0f0361d26234975a2", checked := Try.checked }
namespace Rows
def none {H : Type} : Left H := { results := [], args := [] }

/-- 'scrimlaw25.GroupPlans': WHATEVER THE INPUT: true; the input reads as it did. -/
def groupPlansSpec : ChangeSpec := { name := "groupPlans", fn := fun _ => fun
  | [d1, d2] => { results := [.lit (.bool true)], args := [d1, d2] }
  | _ => none }
def groupPlansRow : OpenClaim := { program := "ytfapghekakdpgaa", sum := "889fdacdbdb89167502ac1058c0509e7c44a7d0d500635c0f0361d26234975a2", func := "scrim/scrimlaw25.GroupPlans", spec := "groupPlans", unfollowed := true, recurses := true, apart := false }
def GroupPlansSaid : Prop := groupPlansRow.holds Try.pinned (OpenSpec.ofChange groupPlansSpec)

/-- ITS FALSE NEIGHBOUR: 'it returns false'. Refute it at one input. -/
def groupPlansWrong : ChangeSpec := { name := "groupPlans", fn := fun _ => fun
  | [d1, d2] => { results := [.lit (.bool false)], args := [d1, d2] }
  | _ => none }
def GroupPlansWrongFalsely : Prop := groupPlansRow.holds Try.pinned (OpenSpec.ofChange groupPlansWrong)

/-- 'scrimlaw25.GroupOnce': WHATEVER THE INPUT: true; the input reads as it did. -/
def groupOnceSpec : ChangeSpec := { name := "groupOnce", fn := fun _ => fun
  | [d1, d2] => { results := [.lit (.bool true)], args := [d1, d2] }
  | _ => none }
def groupOnceRow : OpenClaim := { program := "ytfapghekakdpgaa", sum := "889fdacdbdb89167502ac1058c0509e7c44a7d0d500635c0f0361d26234975a2", func := "scrim/scrimlaw25.GroupOnce", spec := "groupOnce", unfollowed := true, recurses := true, apart := false }
def GroupOnceSaid : Prop := groupOnceRow.holds Try.pinned (OpenSpec.ofChange groupOnceSpec)

/-- ITS FALSE NEIGHBOUR: 'it returns false'. Refute it at one input. -/
def groupOnceWrong : ChangeSpec := { name := "groupOnce", fn := fun _ => fun
  | [d1, d2] => { results := [.lit (.bool false)], args := [d1, d2] }
  | _ => none }
def GroupOnceWrongFalsely : Prop := groupOnceRow.holds Try.pinned (OpenSpec.ofChange groupOnceWrong)

/-- 'scrimlaw25.GroupKeeps': WHATEVER THE INPUT: true; the input reads as it did. -/
def groupKeepsSpec : ChangeSpec := { name := "groupKeeps", fn := fun _ => fun
  | [d] => { results := [.lit (.bool true)], args := [d] }
  | _ => none }
def groupKeepsRow : OpenClaim := { program := "ytfapghekakdpgaa", sum := "889fdacdbdb89167502ac1058c0509e7c44a7d0d500635c0f0361d26234975a2", func := "scrim/scrimlaw25.GroupKeeps", spec := "groupKeeps", unfollowed := true, recurses := true, apart := false }
def GroupKeepsSaid : Prop := groupKeepsRow.holds Try.pinned (OpenSpec.ofChange groupKeepsSpec)

/-- ITS FALSE NEIGHBOUR: 'it returns false'. Refute it at one input. -/
def groupKeepsWrong : ChangeSpec := { name := "groupKeeps", fn := fun _ => fun
  | [d] => { results := [.lit (.bool false)], args := [d] }
  | _ => none }
def GroupKeepsWrongFalsely : Prop := groupKeepsRow.holds Try.pinned (OpenSpec.ofChange groupKeepsWrong)

/-- 'scrimlaw26.SlotPlans': WHATEVER THE INPUT: true; the input reads as it did. -/
def slotPlansSpec : ChangeSpec := { name := "slotPlans", fn := fun _ => fun
  | [d1, d2, d3] => { results := [.lit (.bool true)], args := [d1, d2, d3] }
  | _ => none }
def slotPlansRow : OpenClaim := { program := "ytfapghekakdpgaa", sum := "889fdacdbdb89167502ac1058c0509e7c44a7d0d500635c0f0361d26234975a2", func := "scrim/scrimlaw26.SlotPlans", spec := "slotPlans", unfollowed := true, recurses := true, apart := false }
def SlotPlansSaid : Prop := slotPlansRow.holds Try.pinned (OpenSpec.ofChange slotPlansSpec)

/-- ITS FALSE NEIGHBOUR: 'it returns false'. Refute it at one input. -/
def slotPlansWrong : ChangeSpec := { name := "slotPlans", fn := fun _ => fun
  | [d1, d2, d3] => { results := [.lit (.bool false)], args := [d1, d2, d3] }
  | _ => none }
def SlotPlansWrongFalsely : Prop := slotPlansRow.holds Try.pinned (OpenSpec.ofChange slotPlansWrong)

/-- 'scrimlaw26.SlotNext': WHATEVER THE INPUT: true; the input reads as it did. -/
def slotNextSpec : ChangeSpec := { name := "slotNext", fn := fun _ => fun
  | [d] => { results := [.lit (.bool true)], args := [d] }
  | _ => none }
def slotNextRow : OpenClaim := { program := "ytfapghekakdpgaa", sum := "889fdacdbdb89167502ac1058c0509e7c44a7d0d500635c0f0361d26234975a2", func := "scrim/scrimlaw26.SlotNext", spec := "slotNext", unfollowed := true, recurses := true, apart := false }
def SlotNextSaid : Prop := slotNextRow.holds Try.pinned (OpenSpec.ofChange slotNextSpec)

/-- ITS FALSE NEIGHBOUR: 'it returns false'. Refute it at one input. -/
def slotNextWrong : ChangeSpec := { name := "slotNext", fn := fun _ => fun
  | [d] => { results := [.lit (.bool false)], args := [d] }
  | _ => none }
def SlotNextWrongFalsely : Prop := slotNextRow.holds Try.pinned (OpenSpec.ofChange slotNextWrong)

/-- 'scrimlaw26.SlotOrder': WHATEVER THE INPUT: true; the input reads as it did. -/
def slotOrderSpec : ChangeSpec := { name := "slotOrder", fn := fun _ => fun
  | [d1, d2, d3] => { results := [.lit (.bool true)], args := [d1, d2, d3] }
  | _ => none }
def slotOrderRow : OpenClaim := { program := "ytfapghekakdpgaa", sum := "889fdacdbdb89167502ac1058c0509e7c44a7d0d500635c0f0361d26234975a2", func := "scrim/scrimlaw26.SlotOrder", spec := "slotOrder", unfollowed := true, recurses := true, apart := false }
def SlotOrderSaid : Prop := slotOrderRow.holds Try.pinned (OpenSpec.ofChange slotOrderSpec)

/-- ITS FALSE NEIGHBOUR: 'it returns false'. Refute it at one input. -/
def slotOrderWrong : ChangeSpec := { name := "slotOrder", fn := fun _ => fun
  | [d1, d2, d3] => { results := [.lit (.bool false)], args := [d1, d2, d3] }
  | _ => none }
def SlotOrderWrongFalsely : Prop := slotOrderRow.holds Try.pinned (OpenSpec.ofChange slotOrderWrong)

/-- 'scrimlaw26.SlotEnds': WHATEVER THE INPUT: true; the input reads as it did. -/
def slotEndsSpec : ChangeSpec := { name := "slotEnds", fn := fun _ => fun
  | [d1, d2, d3] => { results := [.lit (.bool true)], args := [d1, d2, d3] }
  | _ => none }
def slotEndsRow : OpenClaim := { program := "ytfapghekakdpgaa", sum := "889fdacdbdb89167502ac1058c0509e7c44a7d0d500635c0f0361d26234975a2", func := "scrim/scrimlaw26.SlotEnds", spec := "slotEnds", unfollowed := true, recurses := true, apart := false }
def SlotEndsSaid : Prop := slotEndsRow.holds Try.pinned (OpenSpec.ofChange slotEndsSpec)

/-- ITS FALSE NEIGHBOUR: 'it returns false'. Refute it at one input. -/
def slotEndsWrong : ChangeSpec := { name := "slotEnds", fn := fun _ => fun
  | [d1, d2, d3] => { results := [.lit (.bool false)], args := [d1, d2, d3] }
  | _ => none }
def SlotEndsWrongFalsely : Prop := slotEndsRow.holds Try.pinned (OpenSpec.ofChange slotEndsWrong)

/-- 'scrimtop.ScrimGroups': WHATEVER THE INPUT: true; the input reads as it did. -/
def scrimGroupsSpec : ChangeSpec := { name := "scrimGroups", fn := fun _ => fun
  | [d] => { results := [.lit (.bool true)], args := [d] }
  | _ => none }
def scrimGroupsRow : OpenClaim := { program := "ytfapghekakdpgaa", sum := "889fdacdbdb89167502ac1058c0509e7c44a7d0d500635c0f0361d26234975a2", func := "scrim/scrimtop.ScrimGroups", spec := "scrimGroups", unfollowed := true, recurses := true, apart := false }
def ScrimGroupsSaid : Prop := scrimGroupsRow.holds Try.pinned (OpenSpec.ofChange scrimGroupsSpec)

/-- ITS FALSE NEIGHBOUR: 'it returns false'. Refute it at one input. -/
def scrimGroupsWrong : ChangeSpec := { name := "scrimGroups", fn := fun _ => fun
  | [d] => { results := [.lit (.bool false)], args := [d] }
  | _ => none }
def ScrimGroupsWrongFalsely : Prop := scrimGroupsRow.holds Try.pinned (OpenSpec.ofChange scrimGroupsWrong)

/- THE SECOND FORM. 'bulk': how many values and letters a reading holds, each counted each time it is reached (what is shared counts as often as it is met; a slice's spare places count too). A statement '..UptoSaid' is the law's where the arguments, and the package variables that the reading takes, are together of bulk at most 1048576: NARROWER than '..Said'. Prove '..Said' where nothing that the law and all that it calls make is longer than what came in: it says more and counts as full. Else prove '..UptoSaid'. A law counts once. -/
mutual
def uptoBulk {H : Type} : DataW H → Nat
  | .lit (.string bytes) => bytes.length + 1
  | .lit _ => 1
  | .nil => 1
  | .ptr d => uptoBulk d + 1
  | .slice elems spare => uptoBulkAll elems + uptoBulkAll spare + 1
  | .agg parts => uptoBulkAll parts + 1
  | .iface _ d => uptoBulk d + 1
  | .map entries => uptoBulkEntries entries + 1
  | .held _ => 1
def uptoBulkAll {H : Type} : List (DataW H) → Nat
  | [] => 0
  | d :: r => uptoBulk d + uptoBulkAll r
def uptoBulkEntries {H : Type} : List (Lit × DataW H) → Nat
  | [] => 0
  | x :: r => uptoBulkEntry x + uptoBulkEntries r
def uptoBulkEntry {H : Type} : Lit × DataW H → Nat
  | (.string bytes, d) => bytes.length + uptoBulk d + 1
  | (_, d) => uptoBulk d + 1
 end
def uptoSmall : (H : Type) → List (DataW H) → Bool := fun _ ds => decide (uptoBulkAll ds ≤ 1048576)
def OpenSpec.upto (s : _root_.Go.ChangeSpec) : _root_.Go.OpenSpec := { _root_.Go.OpenSpec.ofChange s with cond := some uptoSmall }

/-- 'scrimlaw25.GroupPlans', WHERE WHAT IT READS IS OF BULK AT MOST 1048576: true; the input reads as it did. -/
def groupPlansUptoRow : OpenClaim := { program := "ytfapghekakdpgaa", sum := "889fdacdbdb89167502ac1058c0509e7c44a7d0d500635c0f0361d26234975a2", func := "scrim/scrimlaw25.GroupPlans", spec := "groupPlans", unfollowed := true, recurses := true, apart := false, narrowed := true }
def GroupPlansUptoSaid : Prop := groupPlansUptoRow.holds Try.pinned (OpenSpec.upto groupPlansSpec)

/-- 'scrimlaw25.GroupOnce', WHERE WHAT IT READS IS OF BULK AT MOST 1048576: true; the input reads as it did. -/
def groupOnceUptoRow : OpenClaim := { program := "ytfapghekakdpgaa", sum := "889fdacdbdb89167502ac1058c0509e7c44a7d0d500635c0f0361d26234975a2", func := "scrim/scrimlaw25.GroupOnce", spec := "groupOnce", unfollowed := true, recurses := true, apart := false, narrowed := true }
def GroupOnceUptoSaid : Prop := groupOnceUptoRow.holds Try.pinned (OpenSpec.upto groupOnceSpec)

/-- 'scrimlaw25.GroupKeeps', WHERE WHAT IT READS IS OF BULK AT MOST 1048576: true; the input reads as it did. -/
def groupKeepsUptoRow : OpenClaim := { program := "ytfapghekakdpgaa", sum := "889fdacdbdb89167502ac1058c0509e7c44a7d0d500635c0f0361d26234975a2", func := "scrim/scrimlaw25.GroupKeeps", spec := "groupKeeps", unfollowed := true, recurses := true, apart := false, narrowed := true }
def GroupKeepsUptoSaid : Prop := groupKeepsUptoRow.holds Try.pinned (OpenSpec.upto groupKeepsSpec)

/-- 'scrimlaw26.SlotPlans', WHERE WHAT IT READS IS OF BULK AT MOST 1048576: true; the input reads as it did. -/
def slotPlansUptoRow : OpenClaim := { program := "ytfapghekakdpgaa", sum := "889fdacdbdb89167502ac1058c0509e7c44a7d0d500635c0f0361d26234975a2", func := "scrim/scrimlaw26.SlotPlans", spec := "slotPlans", unfollowed := true, recurses := true, apart := false, narrowed := true }
def SlotPlansUptoSaid : Prop := slotPlansUptoRow.holds Try.pinned (OpenSpec.upto slotPlansSpec)

/-- 'scrimlaw26.SlotNext', WHERE WHAT IT READS IS OF BULK AT MOST 1048576: true; the input reads as it did. -/
def slotNextUptoRow : OpenClaim := { program := "ytfapghekakdpgaa", sum := "889fdacdbdb89167502ac1058c0509e7c44a7d0d500635c0f0361d26234975a2", func := "scrim/scrimlaw26.SlotNext", spec := "slotNext", unfollowed := true, recurses := true, apart := false, narrowed := true }
def SlotNextUptoSaid : Prop := slotNextUptoRow.holds Try.pinned (OpenSpec.upto slotNextSpec)

/-- 'scrimlaw26.SlotOrder', WHERE WHAT IT READS IS OF BULK AT MOST 1048576: true; the input reads as it did. -/
def slotOrderUptoRow : OpenClaim := { program := "ytfapghekakdpgaa", sum := "889fdacdbdb89167502ac1058c0509e7c44a7d0d500635c0f0361d26234975a2", func := "scrim/scrimlaw26.SlotOrder", spec := "slotOrder", unfollowed := true, recurses := true, apart := false, narrowed := true }
def SlotOrderUptoSaid : Prop := slotOrderUptoRow.holds Try.pinned (OpenSpec.upto slotOrderSpec)

/-- 'scrimlaw26.SlotEnds', WHERE WHAT IT READS IS OF BULK AT MOST 1048576: true; the input reads as it did. -/
def slotEndsUptoRow : OpenClaim := { program := "ytfapghekakdpgaa", sum := "889fdacdbdb89167502ac1058c0509e7c44a7d0d500635c0f0361d26234975a2", func := "scrim/scrimlaw26.SlotEnds", spec := "slotEnds", unfollowed := true, recurses := true, apart := false, narrowed := true }
def SlotEndsUptoSaid : Prop := slotEndsUptoRow.holds Try.pinned (OpenSpec.upto slotEndsSpec)

/-- 'scrimtop.ScrimGroups', WHERE WHAT IT READS IS OF BULK AT MOST 1048576: true; the input reads as it did. -/
def scrimGroupsUptoRow : OpenClaim := { program := "ytfapghekakdpgaa", sum := "889fdacdbdb89167502ac1058c0509e7c44a7d0d500635c0f0361d26234975a2", func := "scrim/scrimtop.ScrimGroups", spec := "scrimGroups", unfollowed := true, recurses := true, apart := false, narrowed := true }
def ScrimGroupsUptoSaid : Prop := scrimGroupsUptoRow.holds Try.pinned (OpenSpec.upto scrimGroupsSpec)

end Rows
end Go.Proofs.Ytfapghekakdpgaa
