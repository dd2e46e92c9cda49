/- Contracts of slices.Clone at jobs, and of a queue's Clone. -/
import Derived.Test.YtpdlholoeaphgaaFrW5
namespace Go.Proofs.Ytpdlholoeaphgaa
open Go.RowKit Fr
set_option maxHeartbeats 2000000 in
set_option maxRecDepth 100000 in
theorem fclone_any (A : Option Addr) (n c : Nat) (l : List Wt) (w : World) (hn : n = l.length) (hb : n ≤ 1000000000000) (hA0 : A = none → n = 0 ∧ c = 0) (ha : At w A (rowv 0 l)) :
    Calls Try.prog 38 #[.slice A n c] w fun e w' => ∃ v, e = .returned v ∧ w'.ownsRow w.heap.size 49 4 v n (rowv 0 l) ∧ Below w.heap.size w w' := by
  have hl := rowv_len 0 l
  rw [← hn] at hl
  clear hn
  have HL := Lib.hid hl
  have HA := Lib.hid ha
  clear hl ha
  obtain ⟨i0, hi, hz0, hz1, hz2⟩ := Fr.info_parts Fr.info
  have q22 : ∀ (w : World) (a : Option Addr) (n c n' c' : Nat), (binOp .eql 38 (.slice a n c) (.slice none n' c')).run Try.prog w = .ok (.bool a.isNone) w := fun w a n c n' c' => Lib.run_eql_slice_nil w _ _ a n c n' c' Try.underlying38
  cases A with
  | none =>
    obtain ⟨rfl, rfl⟩ := hA0 rfl
    go_enter Try.func38, Try.ntmps38
    go_wp2
    go_ret
    refine ⟨_, rfl, ?_, Below.refl _ _⟩
    have h0 : rowv 0 l = [] := List.eq_nil_of_length_eq_zero (by simpa using HL.out)
    rw [h0]
    exact World.ownsRow_nil _ _ _ _
  | some a =>
    go_enter Try.func38, Try.ntmps38
    go_wp2_with (at_builtin; refine wpList_append_at rfl _ _ 38 rfl w.heap.size 49 i0 _ 4 32 Try.underlying38 hi hz0 hz1 hz2 rfl (by decide) _ 0 [] rfl (own_made w _ rfl (Nat.le_refl _)) (some a) n c (rowv 0 l) rfl (fun h => nomatch h) HL.out (HA.out.alloc _) (rowv_one 0 l) ?_ ?_ ?_ ?_)
    · unfold maxLen; omega
    · omega
    · simp
    · intro v w1 hown hgrow
      go_wp2
      go_ret
      refine ⟨v, rfl, by simpa using hown, ?_⟩
      exact ((Below.refl _ w).alloc (Nat.le_refl _) _).grown hgrow (by simp) (by intro k hk; simp [Value.ownBlock] at hk; omega)
theorem fclone_nil (w : World) : Calls Try.prog 38 #[.slice none 0 0] w fun e w' => e = .returned (.slice none 0 0) ∧ w' = w := by
  have q22 : ∀ (w : World) (a : Option Addr) (n c n' c' : Nat), (binOp .eql 38 (.slice a n c) (.slice none n' c')).run Try.prog w = .ok (.bool a.isNone) w := fun w a n c n' c' => Lib.run_eql_slice_nil w _ _ a n c n' c' Try.underlying38
  go_enter Try.func38, Try.ntmps38
  go_wp2
  go_ret
  exact ⟨rfl, rfl⟩
/-- what the copying of rows keeps. -/
structure Fr.Cp (w wr : World) (B : Nat) (r1 r2 : Value) (last most : Int) (a1 a2 : List Wt) (k : Int) (x1 x2 : Value) : Prop where
  blk : Blk wr B 78 #[.slice none 0 0, x1, x2, .int .i64 last, .int .i64 most]
  below : Below B w wr
  one : k ≤ 1 → x1 = r1 ∧ x2 = r2
  own1 : 2 ≤ k → wr.ownsRow (B + 1) 49 4 x1 a1.length (rowv 0 a1)
  two : k = 2 → x2 = r2
  own2 : 3 ≤ k → wr.ownsRow (B + 1) 49 4 x2 a2.length (rowv 0 a2) ∧ ∀ q, x1.ownBlock = some q → x2.ownBlock = some q → False
set_option maxHeartbeats 4000000 in
set_option maxRecDepth 100000 in
theorem qclone_any (b o : Nat) (T : TypeId) (pre post : List Value) (r1 r2 : Value) (last most : Int) (a1 a2 : List Wt) (w : World) (h : Qm w b T pre post r1 r2 last most a1 a2) (ho : pre.length = o) :
    Calls Try.prog 19 #[.pointer (some ⟨b, o, none⟩)] w fun e w' => ∃ r1' r2', e = .returned (.pointer (some ⟨w.heap.size, 0, none⟩)) ∧ Qm w' w.heap.size 78 [] [] r1' r2' last most a1 a2 ∧ Below w.heap.size w w' ∧ (∀ q, Qb w.heap.size r1' r2' q → w.heap.size ≤ q) ∧ w.heap.size < w'.heap.size := by
  obtain ⟨f0, f1, f2, f3, f4⟩ := h.cells ho
  obtain ⟨A1, c1, hr1, hc1, _⟩ := own_slice h.row1
  obtain ⟨A2, c2, hr2, hc2, _⟩ := own_slice h.row2
  have hAt1 := At.own (hr1 ▸ h.row1)
  have hAt2 := At.own (hr2 ▸ h.row2)
  have hA1 := own_addr (hr1 ▸ h.row1)
  have hA2 := own_addr (hr2 ▸ h.row2)
  have hf := h.few
  have hbl := h.blk.lt
  subst hr1 hr2
  obtain ⟨V, hV⟩ : ∃ V, V = w.alloc (.cells #[.slice none 0 0, .slice A1 a1.length c1, .slice A2 a2.length c2, .int .i64 last, .int .i64 most] 78) := ⟨_, rfl⟩
  have hbV : Below w.heap.size w V := hV ▸ below_alloc _ _
  have hB : Blk V w.heap.size 78 #[.slice none 0 0, .slice A1 a1.length c1, .slice A2 a2.length c2, .int .i64 last, .int .i64 most] := hV ▸ Blk.new _ _ _
  have hCp0 : Fr.Cp w V w.heap.size (.slice A1 a1.length c1) (.slice A2 a2.length c2) last most a1 a2 0 (.slice A1 a1.length c1) (.slice A2 a2.length c2) := ⟨hB, hbV, fun _ => ⟨rfl, rfl⟩, fun h => by omega, fun h => by omega, fun h => by omega⟩
  have g0 : V.cell? ⟨b, o, none⟩ = some (.slice none 0 0) := (hbV.cell (p := ⟨b, o, none⟩) hbl).trans f0
  have g1 : V.cell? ⟨b, o + 1, none⟩ = some (.slice A1 a1.length c1) := (hbV.cell (p := ⟨b, o + 1, none⟩) hbl).trans f1
  have g2 : V.cell? ⟨b, o + 2, none⟩ = some (.slice A2 a2.length c2) := (hbV.cell (p := ⟨b, o + 2, none⟩) hbl).trans f2
  have C1 := Lib.hid (fun W (hW : Below w.heap.size w W) => fclone_any A1 a1.length c1 a1 W rfl (by omega) hA1 (hAt1.below hW))
  have C2 := Lib.hid (fun W (hW : Below w.heap.size w W) => fclone_any A2 a2.length c2 a2 W rfl (by omega) hA2 (hAt2.below hW))
  have HC0 := Lib.hid hCp0
  have HV := Lib.hid hV
  have HF := Lib.hid hf
  clear h ho hAt1 hAt2 hA1 hA2 hf hV hbV hB hCp0
  generalize hN1 : a1.length = N1 at *
  generalize hN2 : a2.length = N2 at *
  have HN1 := Lib.hid hN1
  have HN2 := Lib.hid hN2
  clear hN1 hN2
  go_enter Try.func19, Try.ntmps19
  go_upto_region 2 with fail
  rw [← HV.out]
  go_wp2_with fail
  go_loopw [13] (fun i wr => ∃ (k : Int) (x1 x2 : Value), 0 ≤ k ∧ k ≤ 3 ∧ i = .int .i64 k ∧ Hid (Fr.Cp w wr w.heap.size (.slice A1 N1 c1) (.slice A2 N2 c2) last most a1 a2 k x1 x2)) (fun i _ => 3 - (intOf i).toNat)
  case atStart => exact ⟨0, _, _, by omega, by omega, rfl, HC0⟩
  case round =>
    obtain ⟨k, x1, x2, hk0, hk3, rfl, hcp⟩ := hrel
    rcases (by omega : k = 0 ∨ k = 1 ∨ k = 2 ∨ k = 3) with rfl | rfl | rfl | rfl
    · obtain ⟨e1, e2⟩ := hcp.out.one (by omega)
      have k0 : wr.cell? ⟨w.heap.size, 0, none⟩ = some (.slice none 0 0) := hcp.out.blk.cell 0 rfl
      have k0z : wr.frozen? ⟨w.heap.size, 0, none⟩ = false := hcp.out.blk.frozen 0
      have HN : Hid (Fr.Cp w (wr.setCell ⟨w.heap.size, 0, none⟩ (.slice none 0 0)) w.heap.size (.slice A1 N1 c1) (.slice A2 N2 c2) last most a1 a2 1 x1 x2) :=
        ⟨hcp.out.blk.set 0 _, hcp.out.below.setCell (p := ⟨w.heap.size, 0, none⟩) (Nat.le_refl _) _, fun _ => ⟨e1, e2⟩, fun h => by omega, fun h => by omega, fun h => by omega⟩
      go_wp2_with (go_at_call 38; (with_reducible refine (fclone_nil _).mono ?_); rintro e w5 ⟨rfl, rfl⟩)
      refine ⟨⟨1, x1, x2, by omega, by omega, rfl, HN⟩, ?_⟩
      simp [intOf]
    · obtain ⟨e1, e2⟩ := hcp.out.one (by omega)
      have HBL := Lib.hid hcp.out.below
      go_wp2_with (go_at_call 38; (with_reducible refine (C1.out _ HBL.out).mono ?_); rintro e w5 ⟨v5, rfl, hown, hb5⟩; have HO := Lib.hid hown; have hBk := hcp.out.blk.below hb5; have k0 : w5.cell? ⟨w.heap.size, 1, none⟩ = some x1 := hBk.cell 1 rfl; have k0z : w5.frozen? ⟨w.heap.size, 1, none⟩ = false := hBk.frozen 1; have HBk := Lib.hid hBk; have HB5 := Lib.hid hb5; obtain ⟨A5, c5, hv5, _, _⟩ := own_slice hown; subst hv5; clear hown hBk hb5)
      have hlt := hcp.out.blk.lt
      refine ⟨⟨2, .slice A5 N1 c5, x2, by omega, by omega, rfl, ⟨HBk.out.set 1 _, (Fr.below_join hcp.out.below HB5.out).setCell (p := ⟨w.heap.size, 1, none⟩) (Nat.le_refl _) _, fun h => by omega, fun _ => ?_, fun _ => e2, fun h => by omega⟩⟩, ?_⟩
      · rw [HN1.out]
        exact ((Beside.refl (fun x => x = w.heap.size) w5).set (.inl rfl) 1 _).keepsOwn (own_mono HO.out (by omega)) (fun q hq e => by have := own_from HO.out q hq; omega)
      · simp [intOf]
    · have e2 := hcp.out.two rfl
      have hown1 := Lib.hid (hcp.out.own1 (by omega))
      have HBL := Lib.hid hcp.out.below
      go_wp2_with (go_at_call 38; (with_reducible refine (C2.out _ HBL.out).mono ?_); rintro e w5 ⟨v5, rfl, hown, hb5⟩; have HO := Lib.hid hown; have hBk := hcp.out.blk.below hb5; have k0 : w5.cell? ⟨w.heap.size, 2, none⟩ = some x2 := hBk.cell 2 rfl; have k0z : w5.frozen? ⟨w.heap.size, 2, none⟩ = false := hBk.frozen 2; have HBk := Lib.hid hBk; have HB5 := Lib.hid hb5; obtain ⟨A5, c5, hv5, _, _⟩ := own_slice hown; subst hv5; clear hown hBk hb5)
      have hlt := hcp.out.blk.lt
      have hset := (Beside.refl (fun x => x = w.heap.size) w5).set (g := w.heap.size) (.inl rfl) 2 (.slice A5 N2 c5)
      refine ⟨⟨3, x1, .slice A5 N2 c5, by omega, by omega, rfl, ⟨HBk.out.set 2 _, (Fr.below_join hcp.out.below HB5.out).setCell (p := ⟨w.heap.size, 2, none⟩) (Nat.le_refl _) _, fun h => by omega, fun _ => ?_, fun h => by omega, fun _ => ⟨?_, ?_⟩⟩⟩, ?_⟩
      · exact hset.keepsOwn (own_below hown1.out HB5.out) (fun q hq e => by have := own_from hown1.out q hq; omega)
      · rw [HN2.out]
        exact hset.keepsOwn (own_mono HO.out (by omega)) (fun q hq e => by have := own_from HO.out q hq; omega)
      · intro q h1 h2
        have h3 := own_from HO.out q h2
        have h4 := Fr.own_lt hown1.out h1
        omega
      · simp [intOf]
    · go_wp2
      go_ret
      have h1 := hcp.out.own1 (by omega)
      obtain ⟨h2, h3⟩ := hcp.out.own2 (by omega)
      refine ⟨x1, x2, rfl, ⟨hcp.out.blk, own_mono h1 (Nat.zero_le _), own_mono h2 (Nat.zero_le _), h3, by have := HF.out; have := HN1.out; have := HN2.out; omega⟩, hcp.out.below, ?_, hcp.out.blk.lt⟩
      intro q hq
      rcases hq with rfl | hq | hq
      · exact Nat.le_refl _
      · have := own_from h1 q hq; omega
      · have := own_from h2 q hq; omega
end Go.Proofs.Ytpdlholoeaphgaa
