/- A map's store and its comma-ok look-up, at the operation; maps keyed by ints. -/
import Derived.Test.YtfapghekakdpgaaMapK
import Derived.Test.YtfapghekakdpgaaProg
import Derived.WalkKit
namespace Go.Proofs.Ytfapghekakdpgaa
open Go.RowKit Go.Maps
theorem wpList_store_mo {α : Type} [DecidableEq α] {P : Program} {w : World} {ops : Array Oper} {rest : List Oper} {o : Oper} {a : Act} {Q : Exit → Act → World → Prop} {kv : α → Value} {kl : α → Lit} {ok : α → Prop} (hg : o.guard = none) (m x v : Operand) (t K E : TypeId) (hop : o.op = Op.mapUpdate t m x v)
    (W : Way P K kv kl ok) (ht : P.underlying t = some (.map K E)) (b n : Nat) (f : α → Option Value) (hm : a.eval m = .map (some b)) (h : MapOf P K kl ok w b f n) (hn : n < maxLen) (i : α) (hi : ok i) (val : Value)
    (hx : a.eval x = kv i) (hv : a.eval v = val) (hK : ∀ w', MapOf P K kl ok w' b (fun j => if j = i then some val else f j) (if (f i).isSome then n else n + 1) → w.grownBy w' (some b) → w'.heap.size = w.heap.size → wpList P ops Q rest (a.put o.dst undef) w') : wpList P ops Q (o :: rest) a w :=
  wpList_plain hg fun K' hK' => by
    obtain ⟨w', hrun, r1, r2, r3⟩ := h.store W ht hn i hi val
    have h3 := hK' _ _ (hK w' r1 r2 r3)
    unfold Oper.wp
    simp [execOp, hop, hm, hx, hv, hrun, Result.andThen]
    exact h3
theorem wpList_lookok_mo {α : Type} {P : Program} {w : World} {ops : Array Oper} {rest : List Oper} {o : Oper} {a : Act} {Q : Exit → Act → World → Prop} {kv : α → Value} {kl : α → Lit} {ok : α → Prop} (hg : o.guard = none) (m x : Operand) (t K E : TypeId) (hop : o.op = Op.lookup t m x true)
    (W : Way P K kv kl ok) (ht : P.underlying t = some (.map K E)) {z0 : Value} (hz : ∀ w, (zeroValue E).run P w = .ok z0 w) (b n : Nat) (f : α → Option Value) (hm : a.eval m = .map (some b)) (h : MapOf P K kl ok w b f n) (i : α) (hi : ok i)
    (hx : a.eval x = kv i) (v : Value) (c : Bool) (hv : (f i).getD z0 = v) (hc : (f i).isSome = c) (hK : wpList P ops Q rest (a.put o.dst (.tuple #[v, .bool c])) w) : wpList P ops Q (o :: rest) a w :=
  wpList_plain hg fun K' hK' => by
    have hrun := h.look_ok W ht hz i hi
    rw [hv, hc] at hrun
    have h3 := hK' _ _ hK
    unfold Oper.wp
    simp [execOp, hop, hm, hx, hrun, Result.andThen]
    exact h3
def OkI (i : Int) : Prop := (Lit.int .i64 i).wf = true
theorem intWay {P : Program} {K : TypeId} (hk : P.underlying K = some (.int .i64)) : Way P K (Value.int .i64) ikey OkI where
  keyed := int_keyed hk
  reads := fun _ h => keyOf_int_mk hk h
  inj := fun _ _ _ _ h => by injection h
end Go.Proofs.Ytfapghekakdpgaa
