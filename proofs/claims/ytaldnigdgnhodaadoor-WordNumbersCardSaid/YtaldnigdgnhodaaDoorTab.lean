/- The rows' list of package-level tables gives the table of powers of ten. -/
import Derived.Test.YtaldnigdgnhodaaDoorLaws
import Derived.Test.YtaldnigdgnhodaaDoorRows
import Derived.Lib.LaidTab
import Derived.MakeChecks
import Derived.Stop.LaidErr
namespace Go.Proofs.YtaldnigdgnhodaaDoor
open Go.RowKit M
theorem gPowType : (Tryd.prog.globals[0]?).map (·.type) = some 48 := by kernel_rfl
theorem tab_of_laid {W : World} (h : laidMetH Tryd.prog [("math/bits.deBruijn32tab", Rows.laid_math_bits_deBruijn32tab), ("math/bits.deBruijn64tab", Rows.laid_math_bits_deBruijn64tab), ("internal/strconv.uint64pow10", Rows.laid_internal_strconv_uint64pow10)] W) : Hid (Tab W) := by
  rw [MakeChecks.laidMetH_plain _ _ _ (by kernel_rfl)] at h
  exact Lib.tabIs_of_head (rest := []) gPow gPowType Tryd.underlying48 Tryd.underlying40 (by kernel_rfl) (by kernel_rfl) (laidMet.tail (laidMet.tail h))
end Go.Proofs.YtaldnigdgnhodaaDoor
