/- Marks of kids as plain maths: what a look's classes are, which looks may be; looks that are marked alike are the same. -/
import Derived.Test.YtcboeehmhpkodaaClMath
import Derived.Test.YtcboeehmhpkodaaPrMath
namespace Go.Proofs.Ytcboeehmhpkodaa
open M
namespace Ds
abbrev tWait : ByteArray := ⟨#[116, 45, 119, 97, 105, 116]⟩
abbrev tEF : ByteArray := ⟨#[116, 45, 101, 110, 116, 101, 114, 45, 102, 114, 111, 109]⟩
abbrev tEA : ByteArray := ⟨#[116, 45, 101, 110, 116, 101, 114, 45, 97, 99, 116, 105, 118, 101]⟩
abbrev tET : ByteArray := ⟨#[116, 45, 101, 110, 116, 101, 114, 45, 116, 111]⟩
abbrev tHold : ByteArray := ⟨#[116, 45, 104, 111, 108, 100]⟩
abbrev tLF : ByteArray := ⟨#[116, 45, 108, 101, 97, 118, 101, 45, 102, 114, 111, 109]⟩
abbrev tLA : ByteArray := ⟨#[116, 45, 108, 101, 97, 118, 101, 45, 97, 99, 116, 105, 118, 101]⟩
abbrev tLT : ByteArray := ⟨#[116, 45, 108, 101, 97, 118, 101, 45, 116, 111]⟩
abbrev tMv : ByteArray := ⟨#[116, 45, 109, 111, 118, 101]⟩
abbrev tGh : ByteArray := ⟨#[116, 45, 103, 104, 111, 115, 116]⟩
abbrev tDX : ByteArray := ⟨#[116, 45, 100, 120]⟩
abbrev tDY : ByteArray := ⟨#[116, 45, 100, 121]⟩
abbrev tOn : ByteArray := ⟨#[111, 110]⟩
def kindM (k : Int) : List ByteArray := if k = 1 then [tWait] else if k = 2 then [tEF, tEA] else if k = 3 then [tEA, tET] else if k = 4 then [tHold] else if k = 5 then [tLF, tLA] else if k = 6 then [tLA, tLT] else []
theorem kindM1 : kindM 1 = [tWait] := by decide
theorem kindM2 : kindM 2 = [tEF, tEA] := by decide
theorem kindM3 : kindM 3 = [tEA, tET] := by decide
theorem kindM4 : kindM 4 = [tHold] := by decide
theorem kindM5 : kindM 5 = [tLF, tLA] := by decide
theorem kindM6 : kindM 6 = [tLA, tLT] := by decide
theorem kindM_no {k : Int} (h : ¬ (1 ≤ k ∧ k ≤ 6)) : kindM k = [] := by
  unfold kindM
  rw [if_neg (by omega), if_neg (by omega), if_neg (by omega), if_neg (by omega), if_neg (by omega), if_neg (by omega)]
def marks (k m : Int) : List ByteArray := kindM k ++ if m = 0 then [] else [tMv]
def ghost (k : Int) : Bool := decide (4 ≤ k ∧ k ≤ 6)
def mayB (k m x y : Int) : Bool := decide ((0 ≤ k ∧ k ≤ 6) ∧ ((m = 0 ∧ x = 0 ∧ y = 0) ∨ (m = 1 ∧ k = 0 ∧ (-2147483648 ≤ x ∧ x ≤ 2147483647) ∧ (-2147483648 ≤ y ∧ y ≤ 2147483647)) ∨ (m = 2 ∧ k = 0 ∧ x = 0 ∧ y = 0)))
def attrsM (k : Int) : List (ByteArray × ByteArray) := if ghost k then [(tGh, ⟨#[]⟩)] else []
def stylesM (m x y : Int) : List (ByteArray × Int) := if m = 1 then [(tDX, x), (tDY, y)] else []
theorem attrs_set : ofP (V := ByteArray) (ofP [] ++ [(tGh, ⟨#[]⟩)]) = [(tGh, ⟨#[]⟩)] := by rfl
theorem styles_set1 (x : Int) : ofP (V := Int) (ofP [] ++ [(tDX, x)]) = [(tDX, x)] := by rfl
theorem styles_set2 (x y : Int) : ofP (V := Int) ([(tDX, x)] ++ [(tDY, y)]) = [(tDX, x), (tDY, y)] := by
  have e1 : blt tDY tDX = false := by decide +kernel
  have e2 : ¬ (tDY = tDX) := by decide +kernel
  show setP [(tDX, x)] (tDY, y) = _
  unfold setP
  rw [if_neg (by rw [e1]; exact Bool.false_ne_true), if_neg e2]
  rfl
theorem clean_marks (k m x y : Int) (h : mayB k m x y = true) : clean (marks k m) = marks k m := by
  unfold mayB at h
  have h := of_decide_eq_true h
  have hk : (m = 0 ∧ (k = 0 ∨ k = 1 ∨ k = 2 ∨ k = 3 ∨ k = 4 ∨ k = 5 ∨ k = 6)) ∨ (k = 0 ∧ (m = 1 ∨ m = 2)) := by omega
  rcases hk with ⟨rfl, rfl | rfl | rfl | rfl | rfl | rfl | rfl⟩ | ⟨rfl, rfl | rfl⟩ <;> rfl
/-- looks that may be, and are marked alike, are the same -/
theorem alike {k m x y k' m' x' y' : Int} (h : mayB k m x y = true) (h' : mayB k' m' x' y' = true) :
    (decide (marks k m = marks k' m') && decide (attrsM k = attrsM k') && decide (stylesM m x y = stylesM m' x' y')) = (k == k' && m == m' && x == x' && y == y') := by
  unfold mayB at h h'
  have h := of_decide_eq_true h
  have h' := of_decide_eq_true h'
  have hk : (m = 0 ∧ (k = 0 ∨ k = 1 ∨ k = 2 ∨ k = 3 ∨ k = 4 ∨ k = 5 ∨ k = 6) ∧ x = 0 ∧ y = 0) ∨ (k = 0 ∧ (m = 1 ∨ (m = 2 ∧ x = 0 ∧ y = 0))) := by omega
  have hk' : (m' = 0 ∧ (k' = 0 ∨ k' = 1 ∨ k' = 2 ∨ k' = 3 ∨ k' = 4 ∨ k' = 5 ∨ k' = 6) ∧ x' = 0 ∧ y' = 0) ∨ (k' = 0 ∧ (m' = 1 ∨ (m' = 2 ∧ x' = 0 ∧ y' = 0))) := by omega
  clear h h'
  rcases hk with ⟨rfl, rfl | rfl | rfl | rfl | rfl | rfl | rfl, rfl, rfl⟩ | ⟨rfl, rfl | ⟨rfl, rfl, rfl⟩⟩ <;> rcases hk' with ⟨rfl, rfl | rfl | rfl | rfl | rfl | rfl | rfl, rfl, rfl⟩ | ⟨rfl, rfl | ⟨rfl, rfl, rfl⟩⟩ <;> first | rfl | (simp [marks, kindM, attrsM, stylesM, ghost]; done) | (simp only [marks, kindM, attrsM, stylesM, ghost]; by_cases hx : x = x' <;> by_cases hy : y = y' <;> simp [hx, hy]; done)
end Ds
end Go.Proofs.Ytcboeehmhpkodaa
