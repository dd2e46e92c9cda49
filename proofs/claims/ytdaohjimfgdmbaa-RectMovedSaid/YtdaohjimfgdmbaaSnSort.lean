/- What the library's stable sort, by an order of numbers, gives to snapshots. No program is named. -/
import Derived.Test.YtdaohjimfgdmbaaStMath
import Derived.Test.YtdaohjimfgdmbaaSnMath
import Derived.Shelf.SlSortCmp.KitK
namespace Go.Proofs.Ytdaohjimfgdmbaa
open Go.RowKit Go.Sort Go.Proofs
namespace Sn
section
variable {α : Type} (nm : α → Int)
/-- the three-way order of names. -/
def cf (x y : α) : Int := if nm x < nm y then -1 else if nm y < nm x then 1 else 0
theorem lt_cf (x y : α) : ltOf (cf nm) x y = decide (nm x < nm y) := by
  unfold ltOf cf
  split
  · rename_i h; simp [h]
  · rename_i h
    split <;> simp <;> omega
theorem swo : SWO (ltOf (cf nm)) := by
  refine ⟨fun x => ?_, fun x y z => ?_, fun x y z => ?_⟩
  · rw [lt_cf]; simp
  · rw [lt_cf, lt_cf, lt_cf]; simp only [decide_eq_true_eq]; omega
  · rw [lt_cf, lt_cf, lt_cf]; simp only [decide_eq_false_iff_not]; omega
theorem ne (x y : α) (h : ltOf (cf nm) x y = true) : nm x ≠ nm y := by
  rw [lt_cf] at h
  have := of_decide_eq_true h
  omega
variable [Inhabited α] {nm}
theorem seg_whole (d : Array α) : St.seg d 0 d.size = d.toList := by
  refine List.ext_getElem (by simp [St.seg]) fun i h1 h2 => ?_
  have h3 : i < d.size := by simpa [St.seg] using h1
  simp [St.seg, h3]
theorem le_of {d : Array α} (h : SortedIn (ltOf (cf nm)) 0 d.size d) : d.toList.Pairwise fun x y => nm x ≤ nm y := by
  rw [List.pairwise_iff_getElem]
  intro i j hi hj hij
  have := h i j (Nat.zero_le _) hij (by simpa using hj)
  rw [lt_cf] at this
  have e : ∀ k (hk : k < d.size), d[k]! = d[k] := fun k hk => getElem!_pos d k hk
  rw [e i (by simpa using hi), e j (by simpa using hj)] at this
  have := of_decide_eq_false this
  simpa using this
/-- what the sort leaves of what was turned round: the first of each run are the snapshot. -/
theorem sorted_is {l : List α} {d d' : Array α} (hl : d.toList = l.reverse) (k : St.Kept (nm := nm) 0 d.size d d') (s : SortedIn (ltOf (cf nm)) 0 d.size d') : Is nm l (comp nm d'.toList) := by
  have hs : d'.size = d.size := k.size
  refine Is.of_sorted (le_of (by rw [hs]; exact s)) fun x => ?_
  have := k.sm x
  rw [Nat.sub_zero, seg_whole, ← hs, seg_whole, hl] at this
  exact this
end
end Sn
end Go.Proofs.Ytdaohjimfgdmbaa
