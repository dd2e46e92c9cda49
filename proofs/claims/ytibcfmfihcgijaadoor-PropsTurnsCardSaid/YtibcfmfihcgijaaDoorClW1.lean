/- Contracts of layer 3's reading functions and of the statements' own helpers: Cut, Few, Same, Has. -/
import Derived.Test.YtibcfmfihcgijaaDoorMem
import Derived.Test.YtibcfmfihcgijaaDoorClMath
import Derived.Test.YtibcfmfihcgijaaDoorProg
import Derived.Deep.QuietTactic
import Derived.BigQuiet
import Derived.RegionTactic
namespace Go.Proofs.YtibcfmfihcgijaaDoor
open Go.RowKit M
theorem cut_any (s : ByteArray) (n : Int) (w : World) (h0 : 0 ≤ n) (_h1 : n ≤ 1000000) :
    Calls Tryd.prog 8 #[.string s, .int .i64 n] w fun e w' => e = .returned (.string (cutS s n.toNat)) ∧ w = w' := by
  by_cases h : n < s.size
  · have H : Hid (cutS s n.toNat = s.extract 0 n.toNat) := by show cutS s n.toNat = _; unfold cutS; rw [if_pos (by omega)]
    go_enter Tryd.func8, Tryd.ntmps8
    go_wp2
    go_ret
    exact ⟨ret_str' H.out.symm, rfl⟩
  · have H : Hid (cutS s n.toNat = s) := by show cutS s n.toNat = _; unfold cutS; rw [if_neg (by omega)]
    go_enter Tryd.func8, Tryd.ntmps8
    go_wp2
    go_ret
    exact ⟨ret_str' H.out.symm, rfl⟩
theorem take_eq_next {xs ys : List ByteArray} {k : Nat} (hx : k < xs.length) (hy : k < ys.length) (h : xs.take k = ys.take k) (e : xs[k] = ys[k]) : xs.take (k + 1) = ys.take (k + 1) := by
  rw [take_next xs k hx, take_next ys k hy, h, e]
end Go.Proofs.YtibcfmfihcgijaaDoor
