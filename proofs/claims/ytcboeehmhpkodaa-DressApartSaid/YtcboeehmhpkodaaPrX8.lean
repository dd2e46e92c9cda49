/- props' Drop, Mine, Set, Get of a map, of numbers and of texts; the document's own Mine. -/
import Derived.Test.YtcboeehmhpkodaaPrX7
import Derived.Test.YtcboeehmhpkodaaPrS3
import Derived.Maps.AppendAt
namespace Go.Proofs.Ytcboeehmhpkodaa
open Go.RowKit M
set_option maxHeartbeats 2000000 in
theorem set_any (A : Option Addr) (n c : Nat) (l : List Par) (x : ByteArray) (z : Int) (w : World) (hn : n = l.length) (hb : n ≤ 10000) (hA0 : A = none → n = 0 ∧ c = 0) (ha : At w A (pv l)) :
    Calls Try.prog 26 #[.slice A n c, .string x, .int .i64 z] w fun e w' => ∃ v, e = .returned v ∧ w'.ownsRow w.heap.size 56 2 v (ofP (l ++ [(x, z)])).length (pv (ofP (l ++ [(x, z)]))) ∧ Below w.heap.size w w' := by
  obtain ⟨W, hW⟩ : ∃ W, W = (w.alloc (.cells #[.string x, .int .i64 z] 56)).alloc (.cells #[.slice A n c, .slice (some ⟨w.heap.size, 0, none⟩) 1 1] 34) := ⟨_, rfl⟩
  have hws : W.heap.size = w.heap.size + 2 := by rw [hW]; simp
  have hwb : Below w.heap.size w W := by rw [hW]; exact (below_alloc _ _).alloc (by simp) _
  have HC := Lib.hid (concat_any A (some ⟨w.heap.size, 0, none⟩) n c (w.heap.size + 1) l (x, z) W hn (by omega) hA0 (ha.below hwb) (fun h => nomatch h) (fun _ => ⟨_, 0, rfl, by omega, fun j u hu => by
    rw [hW]
    refine Lib.cell?_alloc_some _ ?_
    have e : pv [(x, z)] = [.string x, .int .i64 z] := rfl
    rw [e] at hu
    match j, hu with
    | 0, hu => simp at hu; subst hu; simp
    | 1, hu => simp at hu; subst hu; simp⟩) (by omega) (by rw [hW]; simp) (by rw [hW]; simp))
  have hl1 : n + 1 = (l ++ [(x, z)]).length := by simp [hn]
  have HL := Lib.hid hl1
  have HWB := Lib.hid hwb
  have HWE := Lib.hid hW
  clear hn hA0 ha hl1 hwb
  go_enter Try.func26, Try.ntmps26
  go_wp2_with fail
  rw [← hW]
  clear hW
  refine HC.out.mono ?_
  rintro e w1 ⟨v, rfl, hown, hbel⟩
  obtain ⟨A1, c1, rfl, _, _, hat⟩ := at_of_own' hown
  have HAT := Lib.hid hat
  have HAN := Lib.hid (own_addr hown)
  have HB := Lib.hid (HWB.out.trans (hbel.mono HWB.out.size))
  clear hown hat hbel HC
  go_wp2_with fail
  refine (of_any A1 _ c1 (l ++ [(x, z)]) w1 HL.out (by omega) HAN.out HAT.out).mono ?_
  rintro e w2 ⟨v2, rfl, hown2, hb2⟩
  have HO := Lib.hid (own_mono hown2 HB.out.size)
  have HB2 := Lib.hid (HB.out.trans (hb2.mono HB.out.size))
  clear hown2 hb2
  go_wp2
  go_ret
  exact ⟨_, rfl, HO.out, HB2.out⟩
end Go.Proofs.Ytcboeehmhpkodaa
