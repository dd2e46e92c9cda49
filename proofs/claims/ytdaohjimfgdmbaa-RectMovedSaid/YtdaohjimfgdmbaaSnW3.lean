/- One element laid into the sort's row; what the walk of CompactFunc keeps, in plain words. No program is named. -/
import Derived.Test.YtdaohjimfgdmbaaSnSort
import Derived.Sort.WalkB2
import Derived.Sort.WalkB12
namespace Go.Proofs.Ytdaohjimfgdmbaa
open Go.RowKit Go.Sort Go.Proofs
namespace Sn
section
variable {α : Type} [Inhabited α]
theorem setMany_one (enc : α → List Value) (k : Nat) (hk : ∀ x, (enc x).length = k) (d : Array α) (i : Nat) (hi : i < d.size) (y : α) :
    setMany (flatK enc k d) (i * k) (enc y) = flatK enc k (d.setIfInBounds i y) := by
  refine ext_get! (by simp) fun t ht => ?_
  have ht' : t < d.size * k := by simpa using ht
  have k0 : 0 < k := by rcases Nat.eq_zero_or_pos k with h | h; · subst h; simp at ht'
                        · exact h
  have htk : t / k < d.size := by rw [Nat.div_lt_iff_lt_mul k0]; exact ht'
  rw [get_setMany _ _ _ t (by simpa using ht'), get_flatK _ _ _ t ht', get_flatK _ _ _ t (by simpa using ht'), hk]
  by_cases b : t / k = i
  · rw [if_pos ((blk_iff k i t k0).2 b)]
    subst b
    rw [show t - t / k * k = t % k by rw [Nat.mod_eq_sub_div_mul]]
    simp [hi]
  · rw [if_neg (fun h => b ((blk_iff k i t k0).1 h))]
    congr 2
    rw [getElem!_pos d _ htk, getElem!_pos (d.setIfInBounds i y) _ (by simpa using htk), Array.getElem_setIfInBounds_ne _ (Ne.symm b)]
variable {enc : α → List Value} {k : Nat} {w0 W : World} {blk off : Nat} {d0 dk : Array α}
theorem SWK_set (h : SWK enc k w0 blk off dk W) (R : RowK enc k w0 blk off d0) (i : Nat) (hi : i < dk.size) (y : α) :
    SWK enc k w0 blk off (dk.setIfInBounds i y) (W.setCells blk (off + i * k) (enc y)) := by
  obtain ⟨n, os, rfl⟩ := h
  refine ⟨n, os, ?_⟩
  unfold sortWorldK
  rw [setCells_grow os blk _ _ _ (by rw [size_putRowK]; exact R.hblk)]
  congr 1
  unfold putRowK
  have b : i * k + k ≤ dk.size * k := by
    have := Nat.mul_le_mul_right k (show i + 1 ≤ dk.size from hi); rwa [Nat.add_mul, Nat.one_mul] at this
  rw [setCells_putRow _ _ _ _ _ _ (by rw [R.hk, size_flatK]; exact b), setMany_one enc k R.hk dk i hi y]
end
/-- the inner walk of CompactFunc: m have been seen, k are kept; from k on the row is as it was. -/
structure Walk {α : Type} [Inhabited α] (nm : α → Int) (d : Array α) (m k : Nat) (dk : Array α) : Prop where
  size : dk.size = d.size
  le : k < m
  tail : ∀ j, k ≤ j → dk[j]! = d[j]!
  head : dk.toList.take k = comp nm (d.toList.take m)
section
variable {α : Type} [Inhabited α] {nm : α → Int} {d dk : Array α}
theorem get_toList (d : Array α) (i : Nat) (hi : i < d.toList.length) : d.toList[i] = d[i]! := by
  rw [getElem!_pos d i (by simpa using hi)]; simp
/-- no two neighbours have been alike so far. -/
theorem more {k : Nat} (hk : k < d.size) (h0 : 0 < k) (h : comp nm (d.toList.take k) = d.toList.take k) (hne : nm d[k]! ≠ nm d[k - 1]!) : comp nm (d.toList.take (k + 1)) = d.toList.take (k + 1) := by
  have hl : k < d.toList.length := by simpa using hk
  rw [comp_take h0 hl, get_toList d k hl, get_toList d (k - 1) (by omega), if_neg hne, h, List.take_add_one, List.getElem?_eq_getElem hl, get_toList d k hl]
  rfl
theorem Walk.start {k : Nat} (hk : k < d.size) (h0 : 0 < k) (h : comp nm (d.toList.take k) = d.toList.take k) (he : nm d[k]! = nm d[k - 1]!) : Walk nm d (k + 1) k d := by
  have hl : k < d.toList.length := by simpa using hk
  refine ⟨rfl, Nat.lt_succ_self _, fun _ _ => rfl, ?_⟩
  rw [comp_take h0 hl, get_toList d k hl, get_toList d (k - 1) (by omega), if_pos he, List.append_nil, h]
theorem Walk.skip {m k : Nat} (h : Walk nm d m k dk) (hm : m < d.size) (he : nm dk[m]! = nm dk[m - 1]!) : Walk nm d (m + 1) k dk := by
  have hl : m < d.toList.length := by simpa using hm
  have hkm := h.le
  refine ⟨h.size, Nat.lt_succ_of_lt h.le, h.tail, ?_⟩
  rw [h.tail m (by omega), h.tail (m - 1) (by omega)] at he
  rw [comp_take (by omega) hl, get_toList d m hl, get_toList d (m - 1) (by omega), if_pos he, List.append_nil, h.head]
theorem Walk.keep {m k : Nat} (h : Walk nm d m k dk) (hm : m < d.size) (he : nm dk[m]! ≠ nm dk[m - 1]!) : Walk nm d (m + 1) (k + 1) (dk.setIfInBounds k dk[m]!) := by
  have hl : m < d.toList.length := by simpa using hm
  have hkm := h.le
  have hsz := h.size
  rw [h.tail m (by omega), h.tail (m - 1) (by omega)] at he
  refine ⟨by simpa using h.size, Nat.succ_lt_succ h.le, fun j hj => ?_, ?_⟩
  · rw [← h.tail j (by omega)]
    rcases Nat.lt_or_ge j dk.size with q | q
    · rw [getElem!_pos dk j q, getElem!_pos _ j (by simpa using q), Array.getElem_setIfInBounds_ne _ (by omega)]
    · rw [getElem!_neg dk j (by omega), getElem!_neg _ j (by simpa using q)]
  · rw [comp_take (by omega) hl, get_toList d m hl, get_toList d (m - 1) (by omega), if_neg he, ← h.head, ← h.tail m (by omega), Array.toList_setIfInBounds, List.take_add_one]
    congr 1
    · rw [List.take_set_of_le (Nat.le_refl _)]
    · rw [List.getElem?_set_self (by simp; omega)]; rfl
theorem Walk.done {k : Nat} (h : Walk nm d d.size k dk) : dk.toList.take k = comp nm d.toList := by
  rw [h.head, List.take_of_length_le (by simp)]
end
end Sn
end Go.Proofs.Ytdaohjimfgdmbaa
