/- Contracts of layer 2: Reserved, Check and the document's own ones. -/
import Derived.Test.YtaldnigdgnhodaaDoorNames
import Derived.Test.YtaldnigdgnhodaaDoorShelf
import Derived.WalkLawsBesides
import Derived.Outline
namespace Go.Proofs.YtaldnigdgnhodaaDoor
open Go.RowKit M
theorem reserved_any (s : ByteArray) (w : World) :
    Calls Tryd.prog 20 #[.string s] w fun e w' => e = .returned (.bool (Lib.hasPrefix s.data.toList [116, 45])) ∧ w = w' := by
  go_enter Tryd.func20, Tryd.ntmps20
  go_wp2_with (go_at_call 31; refine (Tryd.strings_HasPrefix _ _ _).mono ?_; rintro e w' ⟨rfl, rfl⟩)
  go_ret
  exact ⟨rfl, rfl⟩
theorem res_raw (s : ByteArray) (h : 2 ≤ s.size) : ((s.extract 0 2).toList == [116, 45]) = Lib.hasPrefix s.data.toList [116, 45] := by
  have := Lib.hasPrefix_raw s ⟨#[116, 45]⟩
  rw [show decide ((ByteArray.mk #[116, 45]).size ≤ s.size) = true from decide_eq_true h] at this
  rw [Bool.true_and] at this
  rw [← show Lib.hasPrefix s.data.toList (ByteArray.mk #[116, 45]).data.toList = Lib.hasPrefix s.data.toList [116, 45] from rfl, ← this, Lib.toList_data ⟨#[116, 45]⟩]
  rfl
theorem res_short (s : ByteArray) (h : ¬ 2 ≤ s.size) : Lib.hasPrefix s.data.toList [116, 45] = false := by
  have := Lib.hasPrefix_raw s ⟨#[116, 45]⟩
  rw [show decide ((ByteArray.mk #[116, 45]).size ≤ s.size) = false from decide_eq_false h] at this
  rw [Bool.false_and] at this
  exact this.symm
theorem rreserved_any (s : ByteArray) (w : World) (hs : s.size ≤ maxLen) :
    Calls Tryd.prog 21 #[.string s] w fun e w' => e = .returned (.bool (Lib.hasPrefix s.data.toList [116, 45])) ∧ w = w' := by
  unfold maxLen at hs
  by_cases h : 2 ≤ s.size
  · have H := Lib.hid (res_raw s h)
    go_enter Tryd.func21, Tryd.ntmps21
    go_wp2
    go_ret
    exact ⟨ret_bool H.out, rfl⟩
  · have H := Lib.hid (res_short s h)
    go_enter Tryd.func21, Tryd.ntmps21
    go_wp2
    go_ret
    exact ⟨ret_bool H.out.symm, rfl⟩
def chkS (s : ByteArray) : Int := if nameS s then (if Lib.hasPrefix s.data.toList [116, 45] then 6 else 0) else 2
theorem ret_num {k : IntKind} {a b : Int} (h : a = b) : Ending.returned (.int k a) = .returned (.int k b) := by rw [h]
theorem check_any (s : ByteArray) (w : World) (hs : s.size ≤ maxLen) :
    Calls Tryd.prog 18 #[.string s] w fun e w' => e = .returned (.int .i64 (chkS s)) ∧ w = w' := by
  cases hn : nameS s <;> cases hr : Lib.hasPrefix s.data.toList [116, 45]
  all_goals
    have HC : Hid (chkS s = if nameS s then (if Lib.hasPrefix s.data.toList [116, 45] then 6 else 0) else 2) := rfl
    rw [hn, hr] at HC
    go_enter Tryd.func18, Tryd.ntmps18
    go_wp2_with (first | (go_at_call 10; refine (name_any _ _ hs).mono ?_; rintro e w' ⟨rfl, rfl⟩) | (go_at_call 20; refine (reserved_any _ _).mono ?_; rintro e w' ⟨rfl, rfl⟩))
    go_ret
    exact ⟨ret_num (by rw [HC.out]; rfl), rfl⟩
theorem rcheck_any (s : ByteArray) (w : World) (hs : s.size ≤ maxLen) :
    Calls Tryd.prog 19 #[.string s] w fun e w' => e = .returned (.int .i64 (chkS s)) ∧ w = w' := by
  cases hn : nameS s <;> cases hr : Lib.hasPrefix s.data.toList [116, 45]
  all_goals
    have HC : Hid (chkS s = if nameS s then (if Lib.hasPrefix s.data.toList [116, 45] then 6 else 0) else 2) := rfl
    rw [hn, hr] at HC
    go_enter Tryd.func19, Tryd.ntmps19
    go_wp2_with (first | (go_at_call 11; refine (rname_any _ _ hs).mono ?_; rintro e w' ⟨rfl, rfl⟩) | (go_at_call 21; refine (rreserved_any _ _ hs).mono ?_; rintro e w' ⟨rfl, rfl⟩))
    go_ret
    exact ⟨ret_num (by rw [HC.out]; rfl), rfl⟩
end Go.Proofs.YtaldnigdgnhodaaDoor
