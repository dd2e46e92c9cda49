/- slices.CompactFunc by equal numbers, at this seat's translation. -/
import Derived.Test.YtdaohjimfgdmbaaSnW4
namespace Go.Proofs.Ytdaohjimfgdmbaa
open Go.Shelf Go.RowKit Go.Lib Go.Sort Go.Proofs Sn
def zE0 : Value := .agg #[.int .i64 0, .int .i64 0, .int .i64 0, .int .i64 0, .int .i64 0]
theorem zE0_one (n : Nat) : ∀ v ∈ (Builtin.zeroCells zE0.cells n).toList, v.oneCell' = true := by
  intro v hv
  rw [Array.mem_toList_iff] at hv
  unfold Builtin.zeroCells at hv
  obtain ⟨i, _, rfl⟩ := Array.mem_map.1 hv
  have h5 : zE0.cells.size = 5 := rfl
  rw [h5]
  have : i % 5 < 5 := Nat.mod_lt _ (by decide)
  match i % 5, this with
  | 0, _ => rfl
  | 1, _ => rfl
  | 2, _ => rfl
  | 3, _ => rfl
  | 4, _ => rfl
theorem compact_row (blk cap : Nat) (d : Array En) (w : World) (hcap : d.size ≤ cap) (R : RowK ec 5 w blk 0 d) (hsz : d.size < 1000000000000) :
    Calls Try.prog 40 #[.slice (some ⟨blk, 0, none⟩) d.size cap, .func (.func 41) #[] #[]] w fun e w' => e = .returned (.slice (some ⟨blk, 0, none⟩) (comp En.id d.toList).length cap) ∧ Compacted En.id ec 5 zE0 blk 0 d w w' :=
  compact_all St.EN.laid Try.func40 En.id 5 Try.isAgg74 Try.sizeOf74 ec 41 (enters_of Try.func41 (by kernel_rfl) rfl) same_g zE0 Try.zeroValue74 rfl zE0_one blk 0 cap d w hcap R hsz
end Go.Proofs.Ytdaohjimfgdmbaa
