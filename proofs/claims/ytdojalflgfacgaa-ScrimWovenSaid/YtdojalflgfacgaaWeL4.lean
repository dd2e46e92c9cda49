/- The statements' fixed facts. -/
import Derived.Test.YtdojalflgfacgaaWeL3
namespace Go.Proofs.Ytdojalflgfacgaa
open Go.RowKit We
theorem row_lit : Li.IsRow (ats (olds [1, 2, 3] [3, 1, 4])) (comm [1, 2, 3] [3, 1, 4]).length [1] := by
  refine ⟨by decide +kernel, fun k hk => ?_, fun k hk => ?_⟩
  · have : k = 0 := by simp at hk; omega
    subst this
    exact ⟨by decide +kernel, by decide +kernel, trivial, by decide +kernel⟩
  · simp at hk
theorem steps_lit : steps [1, 2, 3] [3, 1, 4] (stayIds [1, 2, 3] [3, 1, 4] [1]) = [(1, 2, 0), (2, 4, 2), (3, 3, 0)] := by decide +kernel
theorem merge_lit : merge (once [1, 2, 3, 4]) (once [4, 5, 2]) = [1, 4, 5, 2, 3] := by decide +kernel
theorem ok_list {l : List Int} (h : l.all (fun x => (Lit.int .i64 x).wf) = true) : ∀ x ∈ l, OkI x := List.all_eq_true.1 h
theorem steps_any (A B : Option Addr) (n c m d : Nat) (fr to : List Int) (a b : List Int) (r : List Nat) (w : World) (hn : n = fr.length) (hm : m = to.length) (h1 : n ≤ 1000) (h2 : m ≤ 1000) (ha : At w A (iv fr)) (hb : At w B (iv to)) (hof : ∀ x ∈ fr, OkI x) (hot : ∀ x ∈ to, OkI x)
    (hea : a = once fr) (heb : b = once to) (hr : Li.IsRow (ats (olds a b)) (comm a b).length r) :
    Calls Try.prog 7 #[.slice A n c, .slice B m d] w fun e w' => ∃ v, e = .returned v ∧ w'.ownsRow w.heap.size 31 3 v (steps a b (stayIds a b r)).length (sc (steps a b (stayIds a b r))) ∧ Below w.heap.size w w' :=
  callsIn_wide.1 (steps_in A B n c m d fr to a b r w hn hm h1 h2 ha hb hof hot hea heb hr)
theorem awake12_any (w : World) : Calls Try.prog 5 #[] w fun e w' => e = .returned (.bool true) ∧ Below w.heap.size w w' := by
  have HA1 := Lib.hid ((at_new w #[.int .i64 1, .int .i64 2, .int .i64 3] 3 w.heap.size rfl (iv [1, 2, 3]) rfl).alloc (.cells #[.int .i64 3, .int .i64 1, .int .i64 4] 3))
  have HA2 := Lib.hid (at_new (w.alloc (.cells #[.int .i64 1, .int .i64 2, .int .i64 3] 3)) #[.int .i64 3, .int .i64 1, .int .i64 4] 3 (w.heap.size + 1) (by simp) (iv [3, 1, 4]) rfl)
  have HB := Lib.hid ((below_alloc w (.cells #[.int .i64 1, .int .i64 2, .int .i64 3] 3)).alloc (by simp) (.cells #[.int .i64 3, .int .i64 1, .int .i64 4] 3))
  have C1 := Lib.hid (steps_any (some ⟨w.heap.size, 0, none⟩) (some ⟨w.heap.size + 1, 0, none⟩) 3 3 3 3 [1, 2, 3] [3, 1, 4] [1, 2, 3] [3, 1, 4] [1] _ rfl rfl (by omega) (by omega) HA1.out HA2.out (ok_list (by decide +kernel)) (ok_list (by decide +kernel)) (by decide) (by decide) row_lit)
  go_enter Try.func5, Try.ntmps5
  go_wp2_with fail
  refine C1.out.mono ?_
  rintro e w6 ⟨v, rfl, hown, hb6⟩
  rw [steps_lit] at hown
  obtain ⟨A6, c6, rfl, hc6, hm6⟩ := own_slice hown
  have T6 := Lib.hid (At.own hown)
  have HB6 := Lib.hid (HB.out.trans (hb6.mono HB.out.size))
  have P1 := Lib.hid ((at_new w6 #[.int .i64 1, .int .i64 2, .int .i64 3, .int .i64 4] 3 w6.heap.size rfl (iv [1, 2, 3, 4]) rfl).alloc (.cells #[.int .i64 4, .int .i64 5, .int .i64 2] 3))
  have P2 := Lib.hid (at_new (w6.alloc (.cells #[.int .i64 1, .int .i64 2, .int .i64 3, .int .i64 4] 3)) #[.int .i64 4, .int .i64 5, .int .i64 2] 3 (w6.heap.size + 1) (by simp) (iv [4, 5, 2]) rfl)
  have HB7 := Lib.hid ((HB6.out.alloc HB6.out.size (.cells #[.int .i64 1, .int .i64 2, .int .i64 3, .int .i64 4] 3)).alloc (HB6.out.alloc HB6.out.size _).size (.cells #[.int .i64 4, .int .i64 5, .int .i64 2] 3))
  have T7 := Lib.hid ((T6.out.alloc (.cells #[.int .i64 1, .int .i64 2, .int .i64 3, .int .i64 4] 3)).alloc (.cells #[.int .i64 4, .int .i64 5, .int .i64 2] 3))
  have C2 := Lib.hid (merge_any (some ⟨w6.heap.size, 0, none⟩) (some ⟨w6.heap.size + 1, 0, none⟩) 4 4 3 3 [1, 2, 3, 4] [4, 5, 2] _ rfl rfl (by omega) (by omega) P1.out P2.out (ok_list (by decide +kernel)) (ok_list (by decide +kernel)))
  clear hown hb6 C1 HA1 HA2 HB
  go_wp2_with fail
  refine C2.out.mono ?_
  rintro e w7 ⟨v, rfl, hown, hb7⟩
  rw [merge_lit] at hown
  obtain ⟨A7, c7, rfl, hc7, hm7⟩ := own_slice hown
  have HT7 := Lib.hid ((At.own hown).alloc (.cells #[.int .i64 1, .int .i64 4, .int .i64 5, .int .i64 2, .int .i64 3] 3))
  have HT8 := Lib.hid (at_new w7 #[.int .i64 1, .int .i64 4, .int .i64 5, .int .i64 2, .int .i64 3] 3 w7.heap.size rfl (iv [1, 4, 5, 2, 3]) rfl)
  have T8 := Lib.hid ((T7.out.below hb7).alloc (.cells #[.int .i64 1, .int .i64 4, .int .i64 5, .int .i64 2, .int .i64 3] 3))
  have HB8 := Lib.hid ((HB7.out.trans (hb7.mono HB7.out.size)).alloc (HB7.out.trans (hb7.mono HB7.out.size)).size (.cells #[.int .i64 1, .int .i64 4, .int .i64 5, .int .i64 2, .int .i64 3] 3))
  clear hown hb7 C2 P1 P2
  obtain ⟨b6, o6, rfl, hb6, x1, x2, x3⟩ := at_three T8.out (k := 0) (by simp)
  obtain ⟨b6', o6', e6, _, y1, y2, y3⟩ := at_three T8.out (k := 2) (by simp)
  injection e6 with e6
  injection e6 with e7 e8
  subst e7 e8
  simp only [Nat.zero_mul, Nat.add_zero, Nat.reduceMul, List.getElem_cons_zero, List.getElem_cons_succ, Nat.add_assoc, Nat.reduceAdd] at x1 x2 x3 y1 y2 y3
  go_wp2_with (refine (numbersI_any A7 _ 5 c7 5 5 [1, 4, 5, 2, 3] [1, 4, 5, 2, 3] _ rfl rfl (by omega) (by omega) HT7.out HT8.out).mono ?_; rintro e w9 ⟨rfl, q, rfl⟩)
  go_ret
  exact ⟨ret_bool' (by simp), drewN_below HB8.out _⟩
end Go.Proofs.Ytdojalflgfacgaa
