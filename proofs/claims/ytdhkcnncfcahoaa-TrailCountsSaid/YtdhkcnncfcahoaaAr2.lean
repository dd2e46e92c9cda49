/- Contracts of arena's reading methods, of a Dom that was made. -/
import Derived.Test.YtdhkcnncfcahoaaProg
import Derived.Test.YtdhkcnncfcahoaaMem
import Derived.Test.YtdhkcnncfcahoaaArMap
import Derived.Deep.QuietTactic
import Derived.BigQuiet
import Derived.RegionTactic
import Derived.WalkSpells
namespace Go.Proofs.Ytdhkcnncfcahoaa
open Go.RowKit
structure DomIs (w : World) (b m : Nat) (f : Int → Option Value) (n : Nat) (nx mo : Int) : Prop where
  cells : w.heap[b]? = some (.cells #[.map (some m), .int .i64 nx, .int .i64 mo] 51 (0, 0))
  map : MapIs Try.prog 3 w m f n
theorem DomIs.c0 {w : World} {b m : Nat} {f : Int → Option Value} {n : Nat} {nx mo : Int} (h : DomIs w b m f n nx mo) : w.cell? ⟨b, 0, none⟩ = some (.map (some m)) := by rw [cell_of_row w b 0 _ _ (0, 0) h.cells]; rfl
theorem DomIs.c1 {w : World} {b m : Nat} {f : Int → Option Value} {n : Nat} {nx mo : Int} (h : DomIs w b m f n nx mo) : w.cell? ⟨b, 1, none⟩ = some (.int .i64 nx) := by rw [cell_of_row w b 1 _ _ (0, 0) h.cells]; rfl
theorem DomIs.c2 {w : World} {b m : Nat} {f : Int → Option Value} {n : Nat} {nx mo : Int} (h : DomIs w b m f n nx mo) : w.cell? ⟨b, 2, none⟩ = some (.int .i64 mo) := by rw [cell_of_row w b 2 _ _ (0, 0) h.cells]; rfl
theorem DomIs.heap {w w' : World} {b m : Nat} {f : Int → Option Value} {n : Nat} {nx mo : Int} (h : DomIs w b m f n nx mo) (hb : w'.heap[b]? = w.heap[b]?) (hm : w'.heap[m]? = w.heap[m]?) : DomIs w' b m f n nx mo := ⟨hb.trans h.cells, h.map.block hm⟩
theorem DomIs.lt {w : World} {b m : Nat} {f : Int → Option Value} {n : Nat} {nx mo : Int} (h : DomIs w b m f n nx mo) : b < w.heap.size ∧ m < w.heap.size := ⟨(Array.getElem?_eq_some_iff.1 h.cells).1, h.map.lt⟩
theorem DomIs.below {w w' : World} {b m : Nat} {f : Int → Option Value} {n : Nat} {nx mo : Int} (h : DomIs w b m f n nx mo) (hb : Below w.heap.size w w') : DomIs w' b m f n nx mo := h.heap (hb.block b h.lt.1) (hb.block m h.lt.2)
theorem zeroNode : ∀ w, (zeroValue 39).run Try.prog w = .ok (.pointer none) w := by intro w; go_simp
theorem made_any (b m : Nat) (f : Int → Option Value) (n : Nat) (nx mo : Int) (w : World) (h : DomIs w b m f n nx mo) :
    Calls Try.prog 25 #[.pointer (some ⟨b, 0, none⟩)] w fun e w' => e = .returned (.pointer (some ⟨b, 0, none⟩)) ∧ w' = w := by
  have h0 := h.c0
  have hq := fun (w : World) (r : Option Nat) => run_eql_map_nil (P := Try.prog) w 48 _ _ r Try.underlying48
  go_enter Try.func25, Try.ntmps25
  go_wp2
  go_ret
  exact ⟨rfl, rfl⟩
theorem find_any (b m : Nat) (f : Int → Option Value) (n : Nat) (nx mo : Int) (i : Int) (w : World) (h : DomIs w b m f n nx mo) (hi : (Lit.int .i64 i).wf = true) :
    Calls Try.prog 19 #[.pointer (some ⟨b, 0, none⟩), .int .i64 i] w fun e w' => e = .returned ((f i).getD (.pointer none)) ∧ w' = w := by
  have h0 := h.c0
  have hl := h.map.look (t := 48) Try.underlying3 Try.underlying48 zeroNode i hi
  generalize (f i).getD (.pointer none) = v at hl
  have H := Lib.hid h
  clear h hi
  go_enter Try.func19, Try.ntmps19
  go_wp2_with (go_at_call 25; refine (made_any b m f n nx mo _ H.out).mono ?_; rintro e w5 ⟨rfl, rfl⟩)
  go_ret
  exact ⟨rfl, rfl⟩
theorem count_any (b m : Nat) (f : Int → Option Value) (n : Nat) (nx mo : Int) (w : World) (h : DomIs w b m f n nx mo) (hn : n ≤ 100000) :
    Calls Try.prog 30 #[.pointer (some ⟨b, 0, none⟩)] w fun e w' => e = .returned (.int .i64 ((n : Int) - 1)) ∧ w' = w := by
  have h0 := h.c0
  have hl := fun ty => h.map.len (t := 48) (E := 39) Try.underlying48 ty
  have hw : IntKind.i64.wrap ((n : Int) - 1) = (n : Int) - 1 := by rw [IntKind.wrap_i64]; omega
  have H := Lib.hid h
  clear h
  go_enter Try.func30, Try.ntmps30
  go_wp2_with (go_at_call 25; refine (made_any b m f n nx mo _ H.out).mono ?_; rintro e w5 ⟨rfl, rfl⟩)
  go_ret
  exact ⟨rfl, rfl⟩
theorem DomIs.drewN {w : World} {b m : Nat} {f : Int → Option Value} {n : Nat} {nx mo : Int} (h : DomIs w b m f n nx mo) (q : Nat) : DomIs (w.drewN q) b m f n nx mo := h.heap rfl rfl
theorem room_any (b m : Nat) (f : Int → Option Value) (n : Nat) (nx mo : Int) (w : World) (h : DomIs w b m f n nx mo) (hn : n ≤ 100000) (hmo : 0 ≤ mo ∧ mo ≤ 100000) :
    Calls Try.prog 24 #[.pointer (some ⟨b, 0, none⟩)] w fun e w' => e = .returned (.int .i64 (mo - ((n : Int) - 1))) ∧ ∃ q, w' = w.drewN q := by
  have h2 := h.c2
  have hw : IntKind.i64.wrap (mo - ((n : Int) - 1)) = mo - ((n : Int) - 1) := by rw [IntKind.wrap_i64]; omega
  have mixed : Try.prog.follows .mixedOrders = true := by kernel_rfl
  have H := Lib.hid h
  clear h
  go_enter Try.func24, Try.ntmps24
  go_wp2
  go_quiet (first | (go_at_call 25; refine Calls.quiet_of_same (made_any b m f n nx mo _ (H.out.drewN _))) | (go_at_call 30; refine Calls.quiet_of_same (count_any b m f n nx mo _ (H.out.drewN _) hn)))
  go_wp2
  go_ret
  exact ⟨rfl, _, rfl⟩
end Go.Proofs.Ytdhkcnncfcahoaa
