/- Contract of a queue's List. -/
import Derived.Test.YtpdlholoeaphgaaFrW6
namespace Go.Proofs.Ytpdlholoeaphgaa
open Go.RowKit Fr
attribute [-go_sem] Builtin.append_
set_option maxHeartbeats 8000000 in
set_option maxRecDepth 100000 in
theorem flist_any (b o : Nat) (T : TypeId) (pre post : List Value) (r1 r2 : Value) (last most : Int) (a1 a2 : List Wt) (w : World) (h : Qm w b T pre post r1 r2 last most a1 a2) (ho : pre.length = o) :
    Calls Try.prog 15 #[.pointer (some ⟨b, o, none⟩)] w fun e w' => ∃ v, e = .returned v ∧ w'.ownsRow w.heap.size 49 4 v (a1.length + a2.length) (rowv 1 a1 ++ rowv 2 a2) ∧ Below w.heap.size w w' := by
  obtain ⟨i0, hi, hz0, hz1, hz2'⟩ := Fr.info_parts Fr.info
  obtain ⟨f0, f1, f2, _, _⟩ := h.cells ho
  obtain ⟨A1, c1, hr1, hc1, _⟩ := own_slice h.row1
  obtain ⟨A2, c2, hr2, hc2, _⟩ := own_slice h.row2
  have HR1 : Hid ((A1 = none → a1.length = 0 ∧ c1 = 0) ∧ At w A1 (rowv 0 a1)) := ⟨own_addr (hr1 ▸ h.row1), At.own (hr1 ▸ h.row1)⟩
  have HR2 : Hid ((A2 = none → a2.length = 0 ∧ c2 = 0) ∧ At w A2 (rowv 0 a2)) := ⟨own_addr (hr2 ▸ h.row2), At.own (hr2 ▸ h.row2)⟩
  have hf := h.few
  rw [hr1] at f1
  rw [hr2] at f2
  have HF := Lib.hid hf
  clear h ho hr1 hr2 hf
  generalize hN1 : a1.length = N1 at *
  generalize hN2 : a2.length = N2 at *
  have hn1 : N1 ≤ 65536 := by have := HF.out; omega
  have hn2 : N2 ≤ 65536 := by have := HF.out; omega
  have HN1 := Lib.hid hN1
  have HN2 := Lib.hid hN2
  clear hN1 hN2
  go_enter Try.func15, Try.ntmps15
  go_wp2_with fail
  go_loopw [3, 12] (fun v i wr => ∃ k : Int, 0 ≤ k ∧ k ≤ 3 ∧ i = .int .i64 k ∧ Hid (k ≤ 1 → v = .slice none 0 0) ∧ Hid (k = 2 → wr.ownsRow w.heap.size 49 4 v N1 (rowv 1 a1)) ∧ Hid (k = 3 → wr.ownsRow w.heap.size 49 4 v (N1 + N2) (rowv 1 a1 ++ rowv 2 a2)) ∧ Below w.heap.size w wr) (fun _ i _ => 3 - (intOf i).toNat)
  case atStart => exact ⟨0, by omega, by omega, rfl, Lib.hid (fun _ => rfl), Lib.hid (fun h => by omega), Lib.hid (fun h => by omega), Below.refl _ _⟩
  case round =>
    obtain ⟨k, hk0, hk3, rfl, ho1, ho2, ho3, hbel⟩ := hrel
    rcases (by omega : k = 0 ∨ k = 1 ∨ k = 2 ∨ k = 3) with rfl | rfl | rfl | rfl
    · obtain rfl := ho1.out (by omega)
      go_wp2_with fail
      go_rounds 1
      refine ⟨⟨1, by omega, by omega, rfl, Lib.hid (fun _ => rfl), Lib.hid (fun h => by omega), Lib.hid (fun h => by omega), hbel⟩, ?_⟩
      simp [intOf]
    · have hown : wr.ownsRow w.heap.size 49 4 u3 0 [] := by rw [ho1.out (by omega)]; exact World.ownsRow_nil _ _ _ _
      obtain ⟨hA, HAt⟩ : Hid ((A1 = none → N1 = 0 ∧ c1 = 0) ∧ At w A1 (rowv 0 a1)) := HR1.out
      have HAt := Lib.hid HAt
      clear hA
      go_wp2_with fail
      go_loopw [3, 18] (fun v i wr => ∃ m : Nat, m ≤ N1 ∧ i = .int .i64 m ∧ Hid (wr.ownsRow w.heap.size 49 4 v m (rowv 1 (a1.take m))) ∧ Below w.heap.size w wr) (fun _ i _ => N1 - (intOf i).toNat)
      case atStart => exact ⟨0, Nat.zero_le _, rfl, Lib.hid (by simpa [rowv] using hown), hbel⟩
      case round =>
        obtain ⟨m, hm, rfl, hown, hbel⟩ := hrel
        by_cases hlt : m < N1
        · have hm1 : m < a1.length := by have := HN1.out; omega
          obtain ⟨b1, o1, rfl, hb1, hc0, hc1, hc2, hc3⟩ := at_wt HAt.out hm1
          have hd0 := ((below_cells hbel).1 b1 (o1 + m * 4) hb1).trans hc0
          have hd1 := ((below_cells hbel).1 b1 (o1 + m * 4 + 1) hb1).trans hc1
          have hd2 := ((below_cells hbel).1 b1 (o1 + m * 4 + 2) hb1).trans hc2
          have hd3 := ((below_cells hbel).1 b1 (o1 + m * 4 + 3) hb1).trans hc3
          clear hc0 hc1 hc2 hc3
          obtain ⟨tt, htt⟩ : ∃ tt, tt = (el a1 m).tok := ⟨_, rfl⟩
          obtain ⟨z2, hz2⟩ : ∃ z, z = (el a1 m).k := ⟨_, rfl⟩
          obtain ⟨z3, hz3⟩ : ∃ z, z = (el a1 m).n := ⟨_, rfl⟩
          rw [← htt] at hd0
          rw [← hz2] at hd2
          rw [← hz3] at hd3
          obtain ⟨V, hV⟩ : ∃ V, V = wr.alloc (.cells #[.int .i64 tt, .int .i64 1, .int .i64 z2, .int .i64 z3] 49) := ⟨_, rfl⟩
          have hVb : Below wr.heap.size wr V := by rw [hV]; exact below_alloc wr _
          have hVk : Blk V wr.heap.size 49 #[.int .i64 tt, .int .i64 1, .int .i64 z2, .int .i64 z3] := by rw [hV]; exact Blk.new wr _ _
          have k0 : V.cell? ⟨wr.heap.size, 0, none⟩ = some (.int .i64 tt) := hVk.cell 0 rfl
          have k1 : V.cell? ⟨wr.heap.size, 1, none⟩ = some (.int .i64 1) := hVk.cell 1 rfl
          have k2 : V.cell? ⟨wr.heap.size, 2, none⟩ = some (.int .i64 z2) := hVk.cell 2 rfl
          have k3 : V.cell? ⟨wr.heap.size, 3, none⟩ = some (.int .i64 z3) := hVk.cell 3 rfl
          have OA : (V.alloc (.cells #[.int .i64 tt, .int .i64 1, .int .i64 z2, .int .i64 z3] 49)).ownsRow w.heap.size 49 4 _ m (rowv 1 (a1.take m)) := own_below (own_below hown.out hVb) (below_alloc V _)
          obtain ⟨v2, w2, hrun2, hown2, hgrow2, _, _⟩ := run_append_own_at (P := Try.prog) (V.alloc (.cells #[.int .i64 tt, .int .i64 1, .int .i64 z2, .int .i64 z3] 49)) w.heap.size 38 38 49 i0 _ 4 32 Try.underlying38 hi hz0 hz1 hz2' rfl (by decide) _ _ _ OA ⟨V.heap.size, 0, none⟩ 1 1 [.int .i64 tt, .int .i64 1, .int .i64 z2, .int .i64 z3] rfl (cells_new' V _ _ _ rfl _ rfl) (by intro u hu; simp at hu; rcases hu with rfl | rfl | rfl | rfl <;> rfl) (by have := HF.out; unfold maxLen; omega) (by have := HF.out; omega) (by have := hbel.size; have := hVb.size; simp; omega)
          have hv0 := own_from hown.out
          have HB2 : Hid (Below w.heap.size w w2) := (Fr.below_join hbel (hVb.mono (by have := hbel.size; omega) |> fun h => Fr.below_join (hVb) (below_alloc V _))).grown hgrow2 (by have := hbel.size; have := hVb.size; simp; omega) (fun q hq => hv0 q hq)
          have HO2 : Hid (w2.ownsRow w.heap.size 49 4 v2 (m + 1) (rowv 1 (a1.take (m + 1)))) := by
            show World.ownsRow _ _ _ _ _ _ _
            have e : a1.take (m + 1) = a1.take m ++ [el a1 m] := by rw [List.take_add_one, el_at hm1]; rfl
            rw [e, rowv_snoc, show wc 1 (el a1 m) = [.int .i64 tt, .int .i64 1, .int .i64 z2, .int .i64 z3] by rw [htt, hz2, hz3]; rfl]
            exact hown2
          obtain ⟨A3, c3, hv3, _, _⟩ := own_slice hown2
          subst hv3
          obtain ⟨A4, c4, hv4, _, _⟩ := own_slice hown.out
          subst hv4
          have HV := Lib.hid hV
          clear hgrow2 hown2 OA hown hVk hVb hv0 htt hz2 hz3 hV
          go_upto_region 9 with fail
          rw [← HV.out]
          go_wp2_with fail
          refine ⟨⟨m + 1, by omega, by go_num, HO2, HB2.out⟩, ?_⟩
          simp [intOf]; omega
        · obtain rfl : m = N1 := by omega
          go_wp2_with fail
          refine ⟨⟨2, by omega, by omega, rfl, Lib.hid (fun h => by omega), Lib.hid (fun _ => ?_), Lib.hid (fun h => by omega), hbel⟩, ?_⟩
          · have h9 := hown.out
            rw [List.take_of_length_le (by have := HN1.out; omega)] at h9
            exact h9
          · simp [intOf]
    · have hown := ho2.out rfl
      obtain ⟨hA, HAt⟩ : Hid ((A2 = none → N2 = 0 ∧ c2 = 0) ∧ At w A2 (rowv 0 a2)) := HR2.out
      have HAt := Lib.hid HAt
      clear hA
      go_wp2_with fail
      go_loopw [3, 18] (fun v i wr => ∃ m : Nat, m ≤ N2 ∧ i = .int .i64 m ∧ Hid (wr.ownsRow w.heap.size 49 4 v (N1 + m) (rowv 1 a1 ++ rowv 2 (a2.take m))) ∧ Below w.heap.size w wr) (fun _ i _ => N2 - (intOf i).toNat)
      case atStart => exact ⟨0, Nat.zero_le _, rfl, Lib.hid (by simpa [rowv] using hown), hbel⟩
      case round =>
        obtain ⟨m, hm, rfl, hown, hbel⟩ := hrel
        by_cases hlt : m < N2
        · have hm1 : m < a2.length := by have := HN2.out; omega
          obtain ⟨b1, o1, rfl, hb1, hc0, hc1, hc2, hc3⟩ := at_wt HAt.out hm1
          have hd0 := ((below_cells hbel).1 b1 (o1 + m * 4) hb1).trans hc0
          have hd1 := ((below_cells hbel).1 b1 (o1 + m * 4 + 1) hb1).trans hc1
          have hd2 := ((below_cells hbel).1 b1 (o1 + m * 4 + 2) hb1).trans hc2
          have hd3 := ((below_cells hbel).1 b1 (o1 + m * 4 + 3) hb1).trans hc3
          clear hc0 hc1 hc2 hc3
          obtain ⟨tt, htt⟩ : ∃ tt, tt = (el a2 m).tok := ⟨_, rfl⟩
          obtain ⟨z2, hz2⟩ : ∃ z, z = (el a2 m).k := ⟨_, rfl⟩
          obtain ⟨z3, hz3⟩ : ∃ z, z = (el a2 m).n := ⟨_, rfl⟩
          rw [← htt] at hd0
          rw [← hz2] at hd2
          rw [← hz3] at hd3
          obtain ⟨V, hV⟩ : ∃ V, V = wr.alloc (.cells #[.int .i64 tt, .int .i64 2, .int .i64 z2, .int .i64 z3] 49) := ⟨_, rfl⟩
          have hVb : Below wr.heap.size wr V := by rw [hV]; exact below_alloc wr _
          have hVk : Blk V wr.heap.size 49 #[.int .i64 tt, .int .i64 2, .int .i64 z2, .int .i64 z3] := by rw [hV]; exact Blk.new wr _ _
          have k0 : V.cell? ⟨wr.heap.size, 0, none⟩ = some (.int .i64 tt) := hVk.cell 0 rfl
          have k1 : V.cell? ⟨wr.heap.size, 1, none⟩ = some (.int .i64 2) := hVk.cell 1 rfl
          have k2 : V.cell? ⟨wr.heap.size, 2, none⟩ = some (.int .i64 z2) := hVk.cell 2 rfl
          have k3 : V.cell? ⟨wr.heap.size, 3, none⟩ = some (.int .i64 z3) := hVk.cell 3 rfl
          have OA : (V.alloc (.cells #[.int .i64 tt, .int .i64 2, .int .i64 z2, .int .i64 z3] 49)).ownsRow w.heap.size 49 4 _ (N1 + m) (rowv 1 a1 ++ rowv 2 (a2.take m)) := own_below (own_below hown.out hVb) (below_alloc V _)
          obtain ⟨v2, w2, hrun2, hown2, hgrow2, _, _⟩ := run_append_own_at (P := Try.prog) (V.alloc (.cells #[.int .i64 tt, .int .i64 2, .int .i64 z2, .int .i64 z3] 49)) w.heap.size 38 38 49 i0 _ 4 32 Try.underlying38 hi hz0 hz1 hz2' rfl (by decide) _ _ _ OA ⟨V.heap.size, 0, none⟩ 1 1 [.int .i64 tt, .int .i64 2, .int .i64 z2, .int .i64 z3] rfl (cells_new' V _ _ _ rfl _ rfl) (by intro u hu; simp at hu; rcases hu with rfl | rfl | rfl | rfl <;> rfl) (by have := HF.out; unfold maxLen; omega) (by have := HF.out; omega) (by have := hbel.size; have := hVb.size; simp; omega)
          have hv0 := own_from hown.out
          have HB2 : Hid (Below w.heap.size w w2) := (Fr.below_join hbel (hVb.mono (by have := hbel.size; omega) |> fun h => Fr.below_join (hVb) (below_alloc V _))).grown hgrow2 (by have := hbel.size; have := hVb.size; simp; omega) (fun q hq => hv0 q hq)
          have HO2 : Hid (w2.ownsRow w.heap.size 49 4 v2 (N1 + (m + 1)) (rowv 1 a1 ++ rowv 2 (a2.take (m + 1)))) := by
            show World.ownsRow _ _ _ _ _ _ _
            have e : a2.take (m + 1) = a2.take m ++ [el a2 m] := by rw [List.take_add_one, el_at hm1]; rfl
            rw [e, rowv_snoc, ← List.append_assoc, show wc 2 (el a2 m) = [.int .i64 tt, .int .i64 2, .int .i64 z2, .int .i64 z3] by rw [htt, hz2, hz3]; rfl, ← Nat.add_assoc]
            exact hown2
          obtain ⟨A3, c3, hv3, _, _⟩ := own_slice hown2
          subst hv3
          obtain ⟨A4, c4, hv4, _, _⟩ := own_slice hown.out
          subst hv4
          have HV := Lib.hid hV
          clear hgrow2 hown2 OA hown hVk hVb hv0 htt hz2 hz3 hV
          go_upto_region 9 with fail
          rw [← HV.out]
          go_wp2_with fail
          refine ⟨⟨m + 1, by omega, by go_num, HO2, HB2.out⟩, ?_⟩
          simp [intOf]; omega
        · obtain rfl : m = N2 := by omega
          go_wp2_with fail
          refine ⟨⟨3, by omega, by omega, rfl, Lib.hid (fun h => by omega), Lib.hid (fun h => by omega), Lib.hid (fun _ => ?_), hbel⟩, ?_⟩
          · have h9 := hown.out
            rw [List.take_of_length_le (by have := HN2.out; omega)] at h9
            exact h9
          · simp [intOf]
    · go_wp2_with fail
      go_ret
      exact ⟨_, rfl, ho3.out (by trivial), hbel⟩
end Go.Proofs.Ytpdlholoeaphgaa
