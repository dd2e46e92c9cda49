/- Contracts of layer 3: Clean by Apply; the document's own Apply. -/
import Derived.Test.YtcboeehmhpkodaaClW6
import Derived.Deep.RegionHeld3
import Derived.Deep.RegionLaw
import Derived.Deep.AppendLies
import Derived.StillTactics
namespace Go.Proofs.Ytcboeehmhpkodaa
open Go.RowKit M
theorem cclean_any (A : Option Addr) (n c : Nat) (l : List ByteArray) (w : World) (hn : n = l.length) (hb : n ≤ 100000) (ha : At w A (sv l)) (hl : ∀ s ∈ l, s.size ≤ maxLen) :
    Calls Try.prog 21 #[.slice A n c] w fun e w' => ∃ v, e = .returned v ∧ w'.ownsRow w.heap.size 9 1 v (clean l).length (sv (clean l)) ∧ Below w.heap.size w w' := by
  have HC := Lib.hid (capply_any A none n c 0 0 l [] w hn rfl hb (by omega) ha (At.nil _ _) (fun _ => ⟨rfl, rfl⟩) hl (fun _ h => by cases h))
  clear hn ha hl
  go_enter Try.func21, Try.ntmps21
  go_wp2_with (go_at_call 33; refine HC.out.mono ?_; rintro e w1 ⟨v, rfl, hown, hbel⟩; have HO := Lib.hid hown; have HB := Lib.hid hbel; clear hown hbel)
  go_ret
  exact ⟨_, rfl, HO.out, HB.out⟩
theorem apply_next (l : List ByteArray) (steps : List Stp) (k : Nat) (h : k < steps.length) : apply l (steps.take (k + 1)) = stepOne (apply l (steps.take k)) steps[k] := by
  unfold apply
  rw [take_next steps k h, List.foldl_append]
  rfl
theorem apply_len (l : List ByteArray) (steps : List Stp) : (apply l steps).length ≤ l.length + steps.length := by
  have h : ∀ (st : List Stp) (acc : List ByteArray), (st.foldl stepOne acc).length ≤ acc.length + st.length := by
    intro st
    induction st with
    | nil => simp
    | cons a st ih =>
      intro acc
      have h1 := ih (stepOne acc a)
      have h2 : (stepOne acc a).length ≤ acc.length + 1 := by
        unfold stepOne
        split
        · exact Nat.le_succ_of_le (List.length_filter_le _ _)
        · exact add_len _ _
      simp only [List.foldl_cons, List.length_cons]
      omega
  have h1 := h steps (clean l)
  have h2 := clean_len l
  unfold apply
  omega
end Go.Proofs.Ytcboeehmhpkodaa
