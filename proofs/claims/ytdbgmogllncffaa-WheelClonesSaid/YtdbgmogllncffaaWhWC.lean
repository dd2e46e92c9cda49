/- The statements' own fixed fact of wheels. -/
import Derived.Test.YtdbgmogllncffaaWhWB
namespace Go.Proofs.Ytdbgmogllncffaa
open Go.RowKit Go.Sort Wh
theorem heap_head {xs : List Tm} (h : Heap xs.length (g xs)) {x : Tm} (hx : x ∈ xs) : ¬ lt x (g xs 0) := by
  obtain ⟨k, hk⟩ := List.getElem?_of_mem hx
  have := heap_min h k (List.getElem?_eq_some_iff.1 hk).1
  rwa [g_of hk] at this
theorem head_mem {xs : List Tm} (h : 0 < xs.length) : g xs 0 ∈ xs := List.mem_of_getElem? (g_at h)
set_option maxHeartbeats 4000000 in
set_option maxRecDepth 100000 in
theorem awake_any (w : World) : Calls Try.prog 6 #[] w fun e w' => e = .returned (.bool true) ∧ Below w.heap.size w w' := by
  have q24 : ∀ (a : Addr) (w : World), (binOp .eql 24 (.pointer (some a)) (.pointer none)).run Try.prog w = .ok (.bool false) w := fun a w => by go_simp
  have C1 := Lib.hid (new_any 9 w)
  rw [show clp 9 1 65536 = 9 by decide] at C1
  go_enter Try.func6, Try.ntmps6
  go_wp2_with fail
  refine C1.out.mono ?_
  rintro e w1 ⟨rfl, hw1, hb1, hlt1⟩
  have C2 := Lib.hid (add_ok w.heap.size _ _ 0 9 5 1 0 [] w1 hw1 (by omega) (by omega) (by simp) (by omega) (by omega) (fun x hx => by simp at hx))
  have HN1 : Hid (∀ q, Bad w.heap.size (.slice none 0 0) (.map none) q → w.heap.size ≤ q) := fun q hq => by rcases hq with rfl | h9 | h9; exact Nat.le_refl _; cases h9; cases h9
  have HB1 := Lib.hid hb1
  clear hw1 hb1 C1
  generalize hb : w.heap.size = b at *
  have HBB := Lib.hid hb
  have SZ : Hid (∀ W, Below b w W → b ≤ W.heap.size) := fun W h => by have := h.size; have := HBB.out; omega
  clear hb
  go_wp2_with fail
  refine C2.out.mono ?_
  rintro e w2 ⟨rfl, rv2, mv2, xs2, hw2, hp2, hb2, hf2⟩
  have e2 : xs2 = [⟨1, 5, 1, 0⟩] := by
    have := List.perm_singleton.1 (by simpa using hp2 : xs2.Perm [⟨1, clp 5 0 1099511627776, 1, 0⟩])
    rw [this, show clp 5 0 1099511627776 = 5 by decide]
  subst e2
  have C3 := Lib.hid (add_ok b rv2 mv2 (0 + 1) 9 3 2 7 [⟨1, 5, 1, 0⟩] w2 hw2 (by omega) (by omega) (by simp) (by omega) (by omega) (fun x hx => by rw [List.mem_singleton.1 hx]; decide))
  have HN2 : Hid (∀ q, Bad b rv2 mv2 q → b ≤ q) := fun q hq => by rcases bad_fresh hf2 q hq with h9 | h9; exact HN1.out q h9; have := SZ.out _ HB1.out; omega
  have HB2 : Hid (Below b w w2) := hb2.below HB1.out (SZ.out _ HB1.out) HN1.out
  clear hw2 hp2 hb2 hf2 C2
  go_wp2_with fail
  refine C3.out.mono ?_
  rintro e w3 ⟨rfl, rv3, mv3, xs3, hw3, hp3, hb3, hf3⟩
  have hp3' : xs3.Perm [⟨1, 5, 1, 0⟩, ⟨2, 3, 2, 7⟩] := by
    have : ([⟨1, 5, 1, 0⟩] ++ [⟨0 + 1 + 1, clp 3 0 1099511627776, 2, 7⟩] : List Tm) = [⟨1, 5, 1, 0⟩, ⟨2, 3, 2, 7⟩] := by
      rw [show clp 3 0 1099511627776 = 3 by decide]; rfl
    rwa [this] at hp3
  have hl3 : xs3.length = 2 := hp3'.length_eq
  have hg3 : g xs3 0 = ⟨2, 3, 2, 7⟩ := by
    have h1 := hp3'.mem_iff.1 (head_mem (xs := xs3) (by omega))
    have h2 := heap_head hw3.heap (hp3'.mem_iff.2 (by simp : (⟨2, 3, 2, 7⟩ : Tm) ∈ [⟨1, 5, 1, 0⟩, ⟨2, 3, 2, 7⟩]))
    simp only [List.mem_cons, List.not_mem_nil, or_false] at h1
    rcases h1 with h1 | h1
    · rw [h1] at h2; exact absurd (by decide) h2
    · exact h1
  have C4 := Lib.hid (due_yes b 1 rv3 mv3 (0 + 1 + 1) 9 4 xs3 w3 hw3 hl3 (by rw [hg3]; decide))
  rw [hg3] at C4
  have HP3 := Lib.hid hp3'
  have HN3 : Hid (∀ q, Bad b rv3 mv3 q → b ≤ q) := fun q hq => by rcases bad_fresh hf3 q hq with h9 | h9; exact HN2.out q h9; have := SZ.out _ HB2.out; omega
  have HB3 : Hid (Below b w w3) := hb3.below HB2.out (SZ.out _ HB2.out) HN2.out
  clear hw3 hp3 hp3' hb3 hf3 C3 hl3 hg3
  unfold tmv at C4
  go_wp2_with fail
  refine C4.out.mono ?_
  rintro e w4 ⟨rfl, rv4, xs4, hw4, hp4, hb4, hf4⟩
  have e4 : xs4 = [⟨1, 5, 1, 0⟩] := by
    have h1 := hp4.symm.trans HP3.out
    have h2 : (⟨2, 3, 2, 7⟩ :: xs4 : List Tm).Perm (⟨2, 3, 2, 7⟩ :: [⟨1, 5, 1, 0⟩]) := h1.trans (List.Perm.swap _ _ _)
    exact List.perm_singleton.1 h2.cons_inv
  subst e4
  obtain ⟨V, hV⟩ : ∃ V, V = w4.alloc (.cells #[.int .i64 2, .int .i64 3, .int .i64 2, .int .i64 7] 47) := ⟨_, rfl⟩
  have hbV : Below w4.heap.size w4 V := hV ▸ below_alloc _ _
  have HTV : Hid (Blk V w4.heap.size 47 #[.int .i64 2, .int .i64 3, .int .i64 2, .int .i64 7]) := hV ▸ Blk.new _ _ _
  have C5 := Lib.hid (due_no b rv4 mv3 (0 + 1 + 1) 9 4 [⟨1, 5, 1, 0⟩] V (hw4.below hbV) (.inr (by decide)))
  have HW5 := Lib.hid (hw4.below hbV)
  have HB5 : Hid (Below b w V) := (hb4.below HB3.out (SZ.out _ HB3.out) HN3.out).trans (hbV.mono (SZ.out _ (hb4.below HB3.out (SZ.out _ HB3.out) HN3.out)))
  have HV := Lib.hid hV
  clear hw4 hp4 hb4 hf4 C4 hV hbV HN3 HP3
  unfold tm0 at C5
  go_upto_region 7 with fail
  rw [← HV.out]
  go_wp2_with fail
  refine C5.out.mono ?_
  rintro e w6 ⟨rfl, hb6⟩
  obtain ⟨U, hU⟩ : ∃ U, U = w6.alloc (.cells #[.int .i64 0, .int .i64 0, .int .i64 0, .int .i64 0] 47) := ⟨_, rfl⟩
  have hbU : Below V.heap.size V U := hb6.trans ((hU ▸ below_alloc w6 _ : Below w6.heap.size w6 U).mono hb6.size)
  have hTU := HTV.out.below hbU
  have t0 : U.cell? ⟨w4.heap.size, 0, none⟩ = some (.int .i64 2) := hTU.cell 0 rfl
  have t1 : U.cell? ⟨w4.heap.size, 1, none⟩ = some (.int .i64 3) := hTU.cell 1 rfl
  have t2 : U.cell? ⟨w4.heap.size, 2, none⟩ = some (.int .i64 2) := hTU.cell 2 rfl
  have t3 : U.cell? ⟨w4.heap.size, 3, none⟩ = some (.int .i64 7) := hTU.cell 3 rfl
  have C6 := Lib.hid (wlen_wl (HW5.out.below hbU).pl)
  rw [show (([⟨1, 5, 1, 0⟩] : List Tm).length : Int) = 1 from rfl] at C6
  have HE : Hid (Below b w U) := HB5.out.trans (hbU.mono (SZ.out _ HB5.out))
  have HU := Lib.hid hU
  clear hb6 hU hbU hTU C5 HW5
  go_upto_region 8 with fail
  rw [← HU.out]
  go_wp2_with fail
  refine C6.out.mono ?_
  rintro e w7 ⟨rfl, rfl⟩
  go_wp2
  go_ret
  exact ⟨rfl, by rw [HBB.out]; exact HE.out⟩
end Go.Proofs.Ytdbgmogllncffaa
