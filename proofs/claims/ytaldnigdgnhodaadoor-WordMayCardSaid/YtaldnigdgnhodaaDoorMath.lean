/- Plain facts on bytes and lists of bytes for layer 2: which bytes are letters, digits, parts of keys, values, texts; no program stands here. -/
import Derived.KernelRfl
namespace Go.Proofs.YtaldnigdgnhodaaDoor.M
def letB (n : Int) : Bool := decide (97 ≤ n ∧ n ≤ 122)
def digB (n : Int) : Bool := decide (48 ≤ n ∧ n ≤ 57)
def keyB (n : Int) : Bool := decide ((97 ≤ n ∧ n ≤ 122) ∨ (48 ≤ n ∧ n ≤ 57) ∨ n = 45)
def texB (n : Int) : Bool := decide (32 ≤ n ∧ n ≤ 126 ∧ n ≠ 39)
def valB (n : Int) : Bool := decide (33 ≤ n ∧ n ≤ 126 ∧ n ≠ 39 ∧ n ≠ 40 ∧ n ≠ 41)
def allB (p : Int → Bool) (l : List UInt8) : Bool := l.all fun c => p c.toNat
theorem allB_nil (p : Int → Bool) : allB p [] = true := rfl
theorem allB_snoc (p : Int → Bool) (l : List UInt8) (c : UInt8) : allB p (l ++ [c]) = (allB p l && p c.toNat) := by simp [allB]
theorem take_snoc (s : ByteArray) (k : Nat) (h : k < s.size) : s.data.toList.take (k + 1) = s.data.toList.take k ++ [s[k]] := by
  rw [List.take_succ_eq_append_getElem (by simpa using h)]; rfl
theorem allB_take (p : Int → Bool) (s : ByteArray) (k : Nat) (h : k < s.size) (h' : allB p (s.data.toList.take k) = true) :
    allB p (s.data.toList.take (k + 1)) = p (s[k].toNat : Int) := by rw [take_snoc s k h, allB_snoc, h']; simp
theorem allB_stop (p : Int → Bool) (s : ByteArray) (k : Nat) (h : k < s.size) (h' : p (s[k].toNat : Int) = false) : allB p s.data.toList = false := by
  rw [← List.take_append_drop (k + 1) s.data.toList, take_snoc s k h]
  simp [allB]
  intro _ hh
  rw [h'] at hh; cases hh
theorem allB_whole (p : Int → Bool) (s : ByteArray) (k : Nat) (h : s.size ≤ k) (h' : allB p (s.data.toList.take k) = true) : allB p s.data.toList = true := by
  rw [List.take_of_length_le (by simpa using h)] at h'; exact h'
theorem allB_at (p : Int → Bool) (s : ByteArray) (k : Nat) (h : k < s.size) (h' : allB p s.data.toList = true) : p (s[k].toNat : Int) = true := by
  unfold allB at h'
  rw [List.all_eq_true] at h'
  exact h' s[k] (by show s.data[k] ∈ s.data.toList; exact Array.mem_toList_iff.2 (Array.getElem_mem _))
theorem valB_no (n : Int) (h : valB n = false) : n < 33 ∨ (33 ≤ n ∧ 126 < n) ∨ (33 ≤ n ∧ n ≤ 126 ∧ (n == 39) = true) ∨ (33 ≤ n ∧ n ≤ 126 ∧ (n == 39) = false ∧ (n == 40) = true) ∨ (33 ≤ n ∧ n ≤ 126 ∧ (n == 39) = false ∧ (n == 40) = false ∧ (n == 41) = true) := by
  unfold valB at h; rw [decide_eq_false_iff_not] at h; simp; omega
theorem valB_yes (n : Int) (h : valB n = true) : 33 ≤ n ∧ n ≤ 126 ∧ (n == 39) = false ∧ (n == 40) = false ∧ (n == 41) = false := by
  unfold valB at h; rw [decide_eq_true_eq] at h; simp; omega
theorem texB_no (n : Int) (h : texB n = false) : n < 32 ∨ (32 ≤ n ∧ 126 < n) ∨ (32 ≤ n ∧ n ≤ 126 ∧ (n == 39) = true) := by
  unfold texB at h; rw [decide_eq_false_iff_not] at h; simp; omega
theorem texB_yes (n : Int) (h : texB n = true) : 32 ≤ n ∧ n ≤ 126 ∧ (n == 39) = false := by
  unfold texB at h; rw [decide_eq_true_eq] at h; simp; omega
def keyS (s : ByteArray) : Bool := decide (1 ≤ s.size ∧ s.size ≤ 16) && allB keyB s.data.toList
def firstB (s : ByteArray) : Int := if h : 0 < s.size then (s[0].toNat : Int) else 0
def nameS (s : ByteArray) : Bool := keyS s && letB (firstB s)
def valS (s : ByteArray) : Bool := decide (s.size ≤ 32) && allB valB s.data.toList
def texS (s : ByteArray) : Bool := decide (s.size ≤ 64) && allB texB s.data.toList
def cutS (s : ByteArray) (n : Nat) : ByteArray := if n < s.size then s.extract 0 n else s
theorem cutS_le (s : ByteArray) (n : Nat) : (cutS s n).size ≤ s.size := by
  unfold cutS; split
  · simp; omega
  · exact Nat.le_refl _
theorem cutS_le2 (s : ByteArray) (n : Nat) : (cutS s n).size ≤ n := by
  unfold cutS; split
  · simp; omega
  · omega
theorem keyS_size (s : ByteArray) (h : keyS s = true) : 0 < s.size := by unfold keyS at h; simp at h; omega
theorem keyS_all (s : ByteArray) (h : keyS s = true) : allB keyB s.data.toList = true := by unfold keyS at h; simp at h; exact h.2
theorem firstB_eq (s : ByteArray) (h : 0 < s.size) : firstB s = (s[0].toNat : Int) := by unfold firstB; rw [dif_pos h]
/-- of a key's byte: a letter is one from 'a' on. -/
theorem letB_key (n : Int) (h : keyB n = true) : letB n = decide (97 ≤ n) := by
  unfold keyB at h; unfold letB; rw [Bool.eq_iff_iff]; simp at h ⊢; omega
theorem nameS_no (s : ByteArray) (h : keyS s = false) : nameS s = false := by unfold nameS; rw [h]; rfl
theorem nameS_yes (s : ByteArray) (h : keyS s = true) : nameS s = letB (firstB s) := by unfold nameS; rw [h]; rfl
def resS (s : ByteArray) : Bool := decide (2 ≤ s.size ∧ (s.extract 0 2).data.toList = [116, 45])
end Go.Proofs.YtaldnigdgnhodaaDoor.M
