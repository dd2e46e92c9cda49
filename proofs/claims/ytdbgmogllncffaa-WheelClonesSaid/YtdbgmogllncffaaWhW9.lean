/- Contracts of wheel's New, Add, Cancel. -/
import Derived.Test.YtdbgmogllncffaaWhW8
import Derived.Lib.MinMax
import Derived.StillTailTactics
import Derived.WideKeyEntry
namespace Go.Proofs.Ytdbgmogllncffaa
open Go.RowKit Go.Sort Wh
def clp (x lo hi : Int) : Int := max lo (min x hi)
theorem ret_int {k : IntKind} {a b : Int} (h : a = b) : Ending.returned (.int k a) = .returned (.int k b) := by rw [h]
theorem clip_any (x lo hi : Int) (w : World) :
    Calls Try.prog 17 #[.int .i64 x, .int .i64 lo, .int .i64 hi] w fun e w' => e = .returned (.int .i64 (clp x lo hi)) ∧ w' = w := by
  go_enter Try.func17, Try.ntmps17
  go_wp2
  all_goals
    go_ret
    exact ⟨ret_int (by unfold clp; omega), rfl⟩
theorem new_any (most : Int) (w : World) :
    Calls Try.prog 7 #[.int .i64 most] w fun e w' => e = .returned (.pointer (some ⟨w.heap.size, 0, none⟩)) ∧ Wl w' w.heap.size (.slice none 0 0) (.map none) 0 (clp most 1 65536) [] ∧ Below w.heap.size w w' ∧ w.heap.size < w'.heap.size := by
  have C := Lib.hid (fun W => clip_any most 1 65536 W)
  generalize clp most 1 65536 = ms at *
  go_enter Try.func7, Try.ntmps7
  go_wp2_with (go_at_call 17; refine (C.out _).mono ?_; rintro e w' ⟨rfl, rfl⟩)
  go_ret
  refine ⟨rfl, ⟨⟨Blk.new _ _ _, World.ownsRow_nil _ _ _ _, .inl ⟨rfl, rfl⟩, fun t ht => by simp at ht, by simp⟩, fun k h1 h2 => by simp at h2⟩, below_alloc _ _, by simp⟩
theorem wlen_wl {w : World} {b : Nat} {rv mv : Value} {last most : Int} {xs : List Tm} (h : Pl w b rv mv last most xs) :
    Calls Try.prog 10 #[.pointer (some ⟨b, 0, none⟩)] w fun e w' => e = .returned (.int .i64 (xs.length : Nat)) ∧ w' = w := by
  obtain ⟨A, c, hc⟩ := h.cell0
  exact (wlen_any b _ c A w hc).mono fun _ _ ⟨h1, h2⟩ => ⟨h1, h2.symm⟩
theorem Pl.beside {bad : Nat → Prop} {w w' : World} {b : Nat} {rv mv : Value} {last most : Int} {xs : List Tm} (h : Pl w b rv mv last most xs) (hb : Beside bad w w') (hd : ∀ g, Bad b rv mv g → ¬ bad g) : Pl w' b rv mv last most xs :=
  ⟨(hb.block b h.blk.lt (hd b (.inl rfl))).trans h.blk, hb.keepsOwn h.row (fun q hq => hd q (.inr (.inl hq))), by
    rcases h.map with h1 | ⟨m, f, rfl, h1, h2⟩
    · exact .inl h1
    · exact .inr ⟨m, f, rfl, h1.block (hb.block m h1.lt (hd m (.inr (.inr rfl)))), h2⟩, h.tok, h.few⟩
set_option maxHeartbeats 4000000 in
set_option maxRecDepth 100000 in
theorem add_full (b : Nat) (rv mv : Value) (last most dl kk nn : Int) (xs : List Tm) (w : World) (h : Wl w b rv mv last most xs) (hm : 1 ≤ most) (hf : most ≤ (xs.length : Int)) :
    Calls Try.prog 14 #[.pointer (some ⟨b, 0, none⟩), .int .i64 dl, .agg #[.int .i64 kk, .int .i64 nn]] w fun e w' => e = .returned (.tuple #[.int .i64 0, .int .i64 9]) ∧ Below w.heap.size w w' := by
  have mixed : Try.prog.follows .mixedOrders = true := by kernel_rfl
  obtain ⟨V0, hV0⟩ : ∃ V0, V0 = w.alloc (.cells #[.int .i64 kk, .int .i64 nn] 45) := ⟨_, rfl⟩
  have hbe : Below w.heap.size w V0 := hV0 ▸ below_alloc _ _
  have hp := h.pl.below hbe
  have C := Lib.hid (wlen_wl (w := V0.drew) ⟨hp.blk, hp.row, hp.map.block fun _ _ => rfl, hp.tok, hp.few⟩)
  have f2 : V0.drew.cell? ⟨b, 3, none⟩ = some (.int .i64 most) := hp.blk.cell 3 rfl
  have hmx : max most 1 = most := by omega
  have HBE := Lib.hid hbe
  have HV0 := Lib.hid hV0
  clear hp hbe hV0 h
  go_enter Try.func14, Try.ntmps14
  go_upto_region 1 with fail
  rw [← HV0.out]
  refine wp_region_still_lit mixed (by kernel_rfl) ?_
  repeat still_step
  still_call C.out
  repeat still_step
  refine wpStill_nil ?_
  go_wp2
  go_returns
  exact ⟨rfl, Below_drew HBE.out⟩
set_option maxHeartbeats 4000000 in
set_option maxRecDepth 100000 in
theorem add_ok (b : Nat) (rv mv : Value) (last most dl kk nn : Int) (xs : List Tm) (w : World) (h : Wl w b rv mv last most xs) (hm : 1 ≤ most) (hm2 : most ≤ 65536) (hf : (xs.length : Int) < most) (hl0 : 0 ≤ last) (hl1 : last ≤ 1000000000) (hlt : ∀ x ∈ xs, x.tok ≤ last) :
    Calls Try.prog 14 #[.pointer (some ⟨b, 0, none⟩), .int .i64 dl, .agg #[.int .i64 kk, .int .i64 nn]] w fun e w' => e = .returned (.tuple #[.int .i64 (last + 1), .int .i64 0]) ∧ ∃ rv' mv' xs', Wl w' b rv' mv' (last + 1) most xs' ∧ xs'.Perm (xs ++ [⟨last + 1, clp dl 0 1099511627776, kk, nn⟩]) ∧ Beside (Bad b rv mv) w w' ∧ Fresh w.heap.size rv mv rv' mv' := by
  have mixed : Try.prog.follows .mixedOrders = true := by kernel_rfl
  obtain ⟨V0, hV0⟩ : ∃ V0, V0 = w.alloc (.cells #[.int .i64 kk, .int .i64 nn] 45) := ⟨_, rfl⟩
  have hbe : Below w.heap.size w V0 := hV0 ▸ below_alloc _ _
  have hJ0 : Blk V0 w.heap.size 45 #[.int .i64 kk, .int .i64 nn] := hV0 ▸ Blk.new _ _ _
  have hp := h.pl.below hbe
  have C := Lib.hid (wlen_wl (w := V0.drew) ⟨hp.blk, hp.row, hp.map.block fun _ _ => rfl, hp.tok, hp.few⟩)
  have f2 : V0.drew.cell? ⟨b, 3, none⟩ = some (.int .i64 most) := hp.blk.cell 3 rfl
  have f3 : V0.drew.cell? ⟨b, 2, none⟩ = some (.int .i64 last) := hp.blk.cell 2 rfl
  have f3f : V0.drew.frozen? ⟨b, 2, none⟩ = false := hp.blk.frozen 2
  have hmx : max most 1 = most := by omega
  have hbl := h.pl.blk.lt
  obtain ⟨V, hV⟩ : ∃ V, V = V0.drew.setCell ⟨b, 2, none⟩ (.int .i64 (last + 1)) := ⟨_, rfl⟩
  have hrb := row_ne_blk hp.row hp.blk (by decide)
  have hB1 : Blk V b 58 #[rv, mv, .int .i64 (last + 1), .int .i64 most] := by rw [hV]; exact (hp.blk.heap (w' := V0.drew) rfl).set 2 _
  have hJ1 : Blk V w.heap.size 45 #[.int .i64 kk, .int .i64 nn] := by rw [hV]; exact (hJ0.heap (w' := V0.drew) rfl).other _ _ _ (by omega)
  have hBV : Beside (fun x => x = b) V0.drew V := by rw [hV]; exact (Beside.refl (fun x => x = b) _).set (.inl rfl) 2 _
  have hP1 : Pl V b rv mv (last + 1) most xs := by
    refine ⟨hB1, hBV.keepsOwn (own_drew hp.row) (by intro q hq e; exact hrb (by rw [hq, e])), ?_, hp.tok, hp.few⟩
    rcases hp.map with h1 | ⟨m, f, rfl, h1, h2⟩
    · exact .inl h1
    · exact .inr ⟨m, f, rfl, h1.block (hBV.block m h1.lt (blk_ne_map hp.blk h1)), h2⟩
  have hW1 : Wl V.drew b rv mv (last + 1) most xs := ⟨⟨hP1.blk, hP1.row, hP1.map.block fun _ _ => rfl, hP1.tok, hP1.few⟩, h.heap⟩
  have hot : OkI (last + 1) := by
    have e : IntKind.i64.wrap (last + 1) = last + 1 := by rw [IntKind.wrap_i64]; omega
    unfold OkI
    rw [← e]
    exact wf_wrap .i64 _
  have CP := Lib.hid (hpush_any b rv mv (last + 1) most xs ⟨last + 1, clp dl 0 1099511627776, kk, nn⟩ V.drew hW1 hot (fun x hx => by have := hlt x hx; show x.tok ≠ last + 1; omega) (by omega))
  have C2 := Lib.hid (fun W => clip_any dl 0 1099511627776 W)
  have HBS : Hid (Beside (Bad b rv mv) w V.drew) := ((Beside.ofBelow hbe).drewN 1).over (hBV.drewN 1) (fun g hg => .inl (.inl hg))
  have g3 : V.drew.cell? ⟨b, 2, none⟩ = some (.int .i64 (last + 1)) := hB1.cell 2 rfl
  have j0 : V.drew.cell? ⟨w.heap.size, 0, none⟩ = some (.int .i64 kk) := hJ1.cell 0 rfl
  have j1 : V.drew.cell? ⟨w.heap.size, 1, none⟩ = some (.int .i64 nn) := hJ1.cell 1 rfl
  have HV0 := Lib.hid hV0
  have HV := Lib.hid hV
  have hwl : IntKind.i64.wrap (last + 1) = last + 1 := by rw [IntKind.wrap_i64]; omega
  clear hp hbe hV0 h hJ0 hV hrb hB1 hJ1 hBV hP1 hW1 hot hlt hbl
  unfold tmv at CP
  generalize clp dl 0 1099511627776 = dd at *
  go_enter Try.func14, Try.ntmps14
  go_upto_region 1 with fail
  rw [← HV0.out]
  refine wp_region_still_lit mixed (by kernel_rfl) ?_
  repeat still_step
  still_call C.out
  repeat still_step
  refine wpStill_nil ?_
  change Exit.then _ _ _ _ V0.drew
  generalize V0.drew = V1 at *
  go_upto_region 4 with fail
  rw [← HV.out]
  clear f2 f3 f3f C
  refine wp_region_still_tail 13 mixed (by kernel_rfl) ?_
  simp only [List.take_succ_cons, List.take_zero, List.drop_succ_cons, List.drop_zero]
  repeat still_step
  still_call (C2.out _)
  repeat still_step
  refine wpStill_nil ?_
  go_wp2_with fail
  refine CP.out.mono ?_
  rintro e w5 ⟨rfl, rv5, mv5, xs5, hp5, hpm5, hb5, hf5⟩
  have g5 : w5.cell? ⟨b, 2, none⟩ = some (.int .i64 (last + 1)) := hp5.pl.blk.cell 2 rfl
  have HR : Hid (∃ rv' mv' xs', Wl w5 b rv' mv' (last + 1) most xs' ∧ xs'.Perm (xs ++ [⟨last + 1, dd, kk, nn⟩]) ∧ Beside (Bad b rv mv) w w5 ∧ Fresh w.heap.size rv mv rv' mv') :=
    ⟨rv5, mv5, xs5, hp5, hpm5, HBS.out.trans hb5, ⟨fun q hq => by rcases hf5.1 q hq with h9 | h9; exact .inl h9; exact .inr (Nat.le_trans HBS.out.size h9), fun q hq => by rcases hf5.2 q hq with h9 | h9; exact .inl h9; exact .inr (Nat.le_trans HBS.out.size h9)⟩⟩
  clear hp5 hpm5 hb5 hf5
  go_wp2
  go_returns
  exact ⟨rfl, HR.out⟩
end Go.Proofs.Ytdbgmogllncffaa
