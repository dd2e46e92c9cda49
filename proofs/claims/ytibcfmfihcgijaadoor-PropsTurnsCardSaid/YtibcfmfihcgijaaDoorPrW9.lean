/- Contract of props' find, at int. -/
import Derived.Test.YtibcfmfihcgijaaDoorPrW8
namespace Go.Proofs.YtibcfmfihcgijaaDoor
open Go.RowKit M
set_option maxHeartbeats 2000000 in
set_option maxRecDepth 100000 in
theorem find_any (A : Option Addr) (n c : Nat) (l : List Par) (t : ByteArray) (w : World) (hn : n = l.length) (hm : n ≤ 100000) (ha : At w A (pv l))
    (hmono : ∀ a b, a ≤ b → b < l.length → cmpAt l t b < 0 → cmpAt l t a < 0) :
    Calls Tryd.prog 34 #[.slice A n c, .string t] w fun e w' =>
      ∃ k : Nat, Srch l t k ∧ ((∃ h : k < l.length, cmpAt l t k = 0 ∧ e = .returned (.tuple #[.int .i64 l[k].2, .bool true])) ∨ (¬ (k < l.length ∧ cmpAt l t k = 0) ∧ e = .returned (.tuple #[.int .i64 0, .bool false]))) ∧ Below w.heap.size w w' := by
  have hB : Calls Tryd.prog 59 #[.slice A n c, .string t, .func (.func 60) #[] #[]] w fun e w' =>
      (∃ (k b1 o1 : Nat) (z : Int), A = some ⟨b1, o1, none⟩ ∧ e = .returned (.tuple #[.int .i64 k, .bool true]) ∧ k < n ∧ w'.cell? ⟨b1, o1 + k * 2 + 1, none⟩ = some (.int .i64 z) ∧ Hid (Srch l t k ∧ ∃ h : k < l.length, cmpAt l t k = 0 ∧ z = l[k].2) ∧ Below w.heap.size w w') ∨ (∃ k : Nat, e = .returned (.tuple #[.int .i64 k, .bool false]) ∧ Hid (Srch l t k ∧ ¬ (k < l.length ∧ cmpAt l t k = 0)) ∧ Below w.heap.size w w') := by
    refine (bsearch_any A n c l t w hn hm ha hmono).mono ?_
    rintro e w1 ⟨k, rfl, hS, hbel⟩
    by_cases hk : k < n ∧ cmpAt l t k = 0
    · have hkl : k < l.length := by omega
      obtain ⟨b1, o1, rfl, hb1, hc1, hc1'⟩ := at_pair ha hkl
      have hd1 := (below_cells hbel).1 b1 (o1 + k * 2 + 1) hb1
      rw [hc1'] at hd1
      exact .inl ⟨k, b1, o1, _, rfl, by simp [hk.1, hk.2], hk.1, hd1, Lib.hid ⟨hS, hkl, hk.2, rfl⟩, hbel⟩
    · exact .inr ⟨k, by simp only [hk, decide_false], Lib.hid ⟨hS, fun h => hk ⟨by omega, h.2⟩⟩, hbel⟩
  clear hn ha hmono
  go_enter Tryd.func34, Tryd.ntmps34
  go_wp2_with (first | (go_at_call 59; refine hB.mono ?_; clear hB; rintro e w1 (⟨k, b1, o1, z, rfl, rfl, hk, hd, HQ, hbel⟩ | ⟨k, rfl, HQ, hbel⟩)))
  · obtain ⟨hS, hkl, hk2, rfl⟩ := HQ.out
    go_ret2
    exact ⟨k, hS, .inl ⟨hkl, hk2, rfl⟩, hbel⟩
  · go_ret2
    exact ⟨k, HQ.out.1, .inr ⟨HQ.out.2, rfl⟩, hbel⟩
end Go.Proofs.YtibcfmfihcgijaaDoor
