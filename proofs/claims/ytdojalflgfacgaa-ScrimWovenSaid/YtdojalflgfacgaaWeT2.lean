/- Contract of the document's Apply. -/
import Derived.Test.YtdojalflgfacgaaWeT1
import Derived.Test.YtdojalflgfacgaaWeL3
namespace Go.Proofs.Ytdojalflgfacgaa
open Go.RowKit We
attribute [-go_sem] Builtin.append_
def ApD (w' : World) (base : Nat) (v : Value) (ok : Bool) : Option (List Int) → Prop
  | none => v = .slice none 0 0 ∧ ok = false
  | some o => ok = true ∧ w'.ownsRow base 3 1 v o.length (iv o)
end Go.Proofs.Ytdojalflgfacgaa
