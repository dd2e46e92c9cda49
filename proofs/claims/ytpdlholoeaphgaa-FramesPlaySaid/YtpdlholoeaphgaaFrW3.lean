/- A queue in memory: what it is; contracts of its New, Len and Ask. -/
import Derived.Test.YtpdlholoeaphgaaFrW2
import Derived.Test.YtpdlholoeaphgaaAppAt
import Derived.Maps.AppendAt
import Derived.Deep.DeepCutAuto
import Derived.Lib.MinMax
import Derived.StillTailTactics
namespace Go.Proofs.Ytpdlholoeaphgaa
open Go.RowKit Fr
attribute [-go_sem] Builtin.append_
theorem Fr.row_ne_blk {w : World} {base s n : Nat} {e t : TypeId} {v : Value} {xs : List Value} {g : Nat} {cs : Array Value} (h : w.ownsRow base e s v n xs) (hb : Blk w g t cs) (hne : e ≠ t) : v.ownBlock ≠ some g := by
  intro hv
  rcases h.2 with ⟨rfl, _⟩ | ⟨g', c, cur, rfl, _, hh, _⟩
  · cases hv
  · injection hv with hv
    subst hv
    unfold Blk at hb
    simp only at hb
    rw [hh] at hb
    injection hb with hb
    injection hb with _ hb _
    exact hne hb
/-- a row's block was laid. -/
theorem Fr.own_lt {w : World} {base s n : Nat} {e : TypeId} {v : Value} {xs : List Value} (h : w.ownsRow base e s v n xs) {q : Nat} (hq : v.ownBlock = some q) : q < w.heap.size := by
  rcases h.2 with ⟨rfl, _⟩ | ⟨g', c, cur, rfl, _, hh, _⟩
  · cases hq
  · injection hq with hq
    subst hq
    exact Blk.lt hh
/-- a queue in the block b: its rows own their jobs, and lie apart. -/
structure Qm (w : World) (b : Nat) (T : TypeId) (pre post : List Value) (r1 r2 : Value) (last most : Int) (a1 a2 : List Wt) : Prop where
  blk : Blk w b T (qc pre post r1 r2 last most)
  row1 : w.ownsRow 0 49 4 r1 a1.length (rowv 0 a1)
  row2 : w.ownsRow 0 49 4 r2 a2.length (rowv 0 a2)
  apart : ∀ q, r1.ownBlock = some q → r2.ownBlock = some q → False
  few : a1.length + a2.length ≤ 65536
/-- the blocks that a call may turn. -/
def Fr.Qb (b : Nat) (r1 r2 : Value) (g : Nat) : Prop := g = b ∨ r1.ownBlock = some g ∨ r2.ownBlock = some g
theorem Qm.cells {w : World} {b o : Nat} {T : TypeId} {pre post : List Value} {r1 r2 : Value} {last most : Int} {a1 a2 : List Wt} (h : Qm w b T pre post r1 r2 last most a1 a2) (ho : pre.length = o) :
    w.cell? ⟨b, o, none⟩ = some (.slice none 0 0) ∧ w.cell? ⟨b, o + 1, none⟩ = some r1 ∧ w.cell? ⟨b, o + 2, none⟩ = some r2 ∧ w.cell? ⟨b, o + 3, none⟩ = some (.int .i64 last) ∧ w.cell? ⟨b, o + 4, none⟩ = some (.int .i64 most) := by
  subst ho
  obtain ⟨h0, h1, h2, h3, h4⟩ := qc_at pre post r1 r2 last most
  exact ⟨h.blk.cell _ h0, h.blk.cell _ h1, h.blk.cell _ h2, h.blk.cell _ h3, h.blk.cell _ h4⟩
theorem qc_set (pre post : List Value) (r1 r2 u : Value) (last most x : Int) :
    (qc pre post r1 r2 last most).setIfInBounds (pre.length + 1) u = qc pre post u r2 last most ∧ (qc pre post r1 r2 last most).setIfInBounds (pre.length + 2) u = qc pre post r1 u last most ∧ (qc pre post r1 r2 last most).setIfInBounds (pre.length + 3) (.int .i64 x) = qc pre post r1 r2 x most ∧ (qc pre post r1 r2 last most).setIfInBounds pre.length (.slice none 0 0) = qc pre post r1 r2 last most := by
  unfold qc
  refine ⟨?_, ?_, ?_, ?_⟩ <;> simp
theorem Qm.below {w w' : World} {b : Nat} {T : TypeId} {pre post : List Value} {r1 r2 : Value} {last most : Int} {a1 a2 : List Wt} (h : Qm w b T pre post r1 r2 last most a1 a2) (hb : Below w.heap.size w w') : Qm w' b T pre post r1 r2 last most a1 a2 :=
  ⟨h.blk.below hb, own_below h.row1 hb, own_below h.row2 hb, h.apart, h.few⟩
theorem Qm.beside {bad : Nat → Prop} {w w' : World} {b : Nat} {T : TypeId} {pre post : List Value} {r1 r2 : Value} {last most : Int} {a1 a2 : List Wt} (h : Qm w b T pre post r1 r2 last most a1 a2) (hb : Beside bad w w') (hd : ∀ g, Qb b r1 r2 g → ¬ bad g) : Qm w' b T pre post r1 r2 last most a1 a2 :=
  ⟨(hb.block b h.blk.lt (hd b (.inl rfl))).trans h.blk, hb.keepsOwn h.row1 (fun q hq => hd q (.inr (.inl hq))), hb.keepsOwn h.row2 (fun q hq => hd q (.inr (.inr hq))), h.apart, h.few⟩
theorem Qm.bad_lt {w : World} {b : Nat} {T : TypeId} {pre post : List Value} {r1 r2 : Value} {last most : Int} {a1 a2 : List Wt} (h : Qm w b T pre post r1 r2 last most a1 a2) : ∀ g, Qb b r1 r2 g → g < w.heap.size := by
  intro g hg
  rcases hg with rfl | hg | hg
  · exact h.blk.lt
  · exact Fr.own_lt h.row1 hg
  · exact Fr.own_lt h.row2 hg
theorem Qm.len {w : World} {b o : Nat} {T : TypeId} {pre post : List Value} {r1 r2 : Value} {last most : Int} {a1 a2 : List Wt} (h : Qm w b T pre post r1 r2 last most a1 a2) (ho : pre.length = o) :
    Calls Try.prog 13 #[.pointer (some ⟨b, o, none⟩)] w fun e w' => e = .returned (.int .i64 ((a1.length + a2.length : Nat) : Int)) ∧ w' = w := by
  obtain ⟨h0, h1, h2, _, _⟩ := h.cells ho
  obtain ⟨A1, c1, rfl, _, _⟩ := own_slice h.row1
  obtain ⟨A2, c2, rfl, _, _⟩ := own_slice h.row2
  have := h.few
  exact (qlen_any b o a1.length a2.length c1 c2 A1 A2 w h0 h1 h2 (by omega) (by omega)).mono fun _ _ ⟨h1, h2⟩ => ⟨h1, h2.symm⟩
def clp (x lo hi : Int) : Int := max lo (min x hi)
theorem clip_any (x lo hi : Int) (w : World) :
    Calls Try.prog 30 #[.int .i64 x, .int .i64 lo, .int .i64 hi] w fun e w' => e = .returned (.int .i64 (clp x lo hi)) ∧ w' = w := by
  go_enter Try.func30, Try.ntmps30
  go_wp2
  all_goals
    go_ret
    exact ⟨ret_int (by unfold clp; omega), rfl⟩
theorem fnew_any (most : Int) (w : World) :
    Calls Try.prog 10 #[.int .i64 most] w fun e w' => e = .returned (.pointer (some ⟨w.heap.size, 0, none⟩)) ∧ Qm w' w.heap.size 78 [] [] (.slice none 0 0) (.slice none 0 0) 0 (clp most 1 65536) [] [] ∧ Below w.heap.size w w' ∧ w.heap.size < w'.heap.size := by
  have C := Lib.hid (fun W => clip_any most 1 65536 W)
  generalize clp most 1 65536 = ms at *
  go_enter Try.func10, Try.ntmps10
  go_wp2_with (go_at_call 30; refine (C.out _).mono ?_; rintro e w' ⟨rfl, rfl⟩)
  go_ret
  refine ⟨rfl, ⟨Blk.new _ _ _, World.ownsRow_nil _ _ _ _, World.ownsRow_nil _ _ _ _, fun q h => by simp [Value.ownBlock] at h, by simp⟩, below_alloc _ _, by simp⟩
set_option maxHeartbeats 4000000 in
set_option maxRecDepth 100000 in
theorem fask_full (b o : Nat) (T : TypeId) (pre post : List Value) (r1 r2 : Value) (last most kk nn : Int) (a1 a2 : List Wt) (w : World) (h : Qm w b T pre post r1 r2 last most a1 a2) (ho : pre.length = o) (hm : 1 ≤ most) (hf : most ≤ ((a1.length + a2.length : Nat) : Int)) :
    Calls Try.prog 16 #[.pointer (some ⟨b, o, none⟩), .agg #[.int .i64 kk, .int .i64 nn]] w fun e w' => e = .returned (.tuple #[.int .i64 0, .int .i64 9]) ∧ Below w.heap.size w w' := by
  have mixed : Try.prog.follows .mixedOrders = true := by kernel_rfl
  obtain ⟨V0, hV0⟩ : ∃ V0, V0 = w.alloc (.cells #[.int .i64 kk, .int .i64 nn] 46) := ⟨_, rfl⟩
  have hbe : Below w.heap.size w V0 := hV0 ▸ below_alloc _ _
  have hp : Qm V0.drew b T pre post r1 r2 last most a1 a2 := h.below (Fr.below_join hbe (Fr.below_drew1 _))
  have C := Lib.hid (hp.len ho)
  obtain ⟨_, _, _, _, f2⟩ := hp.cells ho
  have hmx : max most 1 = most := by omega
  have HBE := Lib.hid hbe
  have HV0 := Lib.hid hV0
  clear hp hbe hV0 h ho
  generalize a1.length + a2.length = N at *
  go_enter Try.func16, Try.ntmps16
  go_upto_region 1 with fail
  rw [← HV0.out]
  refine wp_region_still_lit mixed (by kernel_rfl) ?_
  repeat still_step
  still_call C.out
  repeat still_step
  refine wpStill_nil ?_
  go_wp2
  go_returns
  exact ⟨rfl, Below_drew HBE.out⟩
set_option maxHeartbeats 4000000 in
set_option maxRecDepth 100000 in
theorem fask_ok (b o : Nat) (T : TypeId) (pre post : List Value) (r1 r2 : Value) (last most kk nn : Int) (a1 a2 : List Wt) (w : World) (h : Qm w b T pre post r1 r2 last most a1 a2) (ho : pre.length = o) (hT : 49 ≠ T) (hm : 1 ≤ most) (hm2 : most ≤ 65536) (hf : ((a1.length + a2.length : Nat) : Int) < most) (hl0 : 0 ≤ last) (hl1 : last ≤ 1000000000) :
    Calls Try.prog 16 #[.pointer (some ⟨b, o, none⟩), .agg #[.int .i64 kk, .int .i64 nn]] w fun e w' => e = .returned (.tuple #[.int .i64 (last + 1), .int .i64 0]) ∧ ∃ r2', Qm w' b T pre post r1 r2' (last + 1) most a1 (a2 ++ [⟨last + 1, kk, nn⟩]) ∧ Beside (Qb b r1 r2) w w' ∧ (∀ q, r2'.ownBlock = some q → r2.ownBlock = some q ∨ w.heap.size ≤ q) := by
  have mixed : Try.prog.follows .mixedOrders = true := by kernel_rfl
  obtain ⟨i0, hi, hz0, hz1, hz2⟩ := Fr.info_parts Fr.info
  obtain ⟨V0, hV0⟩ : ∃ V0, V0 = w.alloc (.cells #[.int .i64 kk, .int .i64 nn] 46) := ⟨_, rfl⟩
  have hbe : Below w.heap.size w V0.drew := hV0 ▸ Below_drew (below_alloc _ _)
  have hJ0 : Blk V0.drew w.heap.size 46 #[.int .i64 kk, .int .i64 nn] := hV0 ▸ (Blk.new w _ _).drew
  have hp := h.below hbe
  have C := Lib.hid (hp.len ho)
  have hlt := h.bad_lt
  have hbl := h.blk.lt
  have hmx : max most 1 = most := by omega
  have HV0 := Lib.hid hV0
  have hs0 : V0.drew.heap.size = w.heap.size + 1 := by rw [hV0]; simp
  obtain ⟨_, _, _, f3, f4⟩ := hp.cells ho
  have f3z : V0.drew.frozen? ⟨b, o + 3, none⟩ = false := hp.blk.frozen _
  obtain ⟨V, hV⟩ : ∃ V, V = V0.drew.setCell ⟨b, o + 3, none⟩ (.int .i64 (last + 1)) := ⟨_, rfl⟩
  have hBV : Beside (fun x => x = b) V0.drew V := by rw [hV]; exact (Beside.refl (fun x => x = b) _).set (.inl rfl) _ _
  have hrb1 := Fr.row_ne_blk hp.row1 hp.blk hT
  have hrb2 := Fr.row_ne_blk hp.row2 hp.blk hT
  have hP1 : Qm V b T pre post r1 r2 (last + 1) most a1 a2 := by
    refine ⟨?_, hBV.keepsOwn hp.row1 (by intro q hq e; exact hrb1 (by rw [hq, e])), hBV.keepsOwn hp.row2 (by intro q hq e; exact hrb2 (by rw [hq, e])), hp.apart, hp.few⟩
    have := hp.blk.set (o + 3) (.int .i64 (last + 1))
    rw [← ho, (qc_set pre post r1 r2 (.int .i64 0) last most (last + 1)).2.2.1, ho, ← hV] at this
    exact this
  have hJ1 : Blk V w.heap.size 46 #[.int .i64 kk, .int .i64 nn] := by rw [hV]; exact hJ0.other _ _ _ (by omega)
  have HBS : Hid (Beside (Qb b r1 r2) w V) := (Beside.ofBelow hbe).trans (hBV.mono (fun g hg => .inl hg))
  have hsV : V.heap.size = w.heap.size + 1 := by rw [hV]; simpa using hs0
  have OA : ((V.alloc (.cells #[.int .i64 (last + 1), .int .i64 0, .int .i64 kk, .int .i64 nn] 49)).drew).ownsRow 0 49 4 r2 a2.length (rowv 0 a2) := own_heap (own_below hP1.row2 (below_alloc V _)) rfl
  obtain ⟨v2, w2, hrun2, hown2, hgrow2, _, hat2⟩ := run_append_own_at (P := Try.prog) ((V.alloc (.cells #[.int .i64 (last + 1), .int .i64 0, .int .i64 kk, .int .i64 nn] 49)).drew) 0 38 38 49 i0 _ 4 32 Try.underlying38 hi hz0 hz1 hz2 rfl (by decide) _ _ _ OA ⟨V.heap.size, 0, none⟩ 1 1 [.int .i64 (last + 1), .int .i64 0, .int .i64 kk, .int .i64 nn] rfl (cells_new' V _ _ _ rfl _ rfl) (by intro u hu; simp at hu; rcases hu with rfl | rfl | rfl | rfl <;> rfl) (by have := hp.few; unfold maxLen; omega) (by have := hp.few; omega) (Nat.zero_le _)
  have hgs : (V.alloc (.cells #[.int .i64 (last + 1), .int .i64 0, .int .i64 kk, .int .i64 nn] 49)).drew.heap.size = V.heap.size + 1 := size_alloc V _
  have BA : Beside (fun _ => False) V (V.alloc (.cells #[.int .i64 (last + 1), .int .i64 0, .int .i64 kk, .int .i64 nn] 49)).drew := Beside.drewN (Beside.ofBelow (below_alloc V _)) 1
  have PA := hP1.beside BA (fun _ _ h => h)
  have B2 : Blk w2 b T (qc pre post r1 r2 (last + 1) most) := PA.blk.grown hgrow2 (fun e => hrb2 e.symm)
  have R1 : w2.ownsRow 0 49 4 r1 a1.length (rowv 0 a1) := (Beside.grown (bad := fun x => r2.ownBlock = some x) (Beside.refl _ _) hgrow2 (fun q hq => .inl hq)).keepsOwn PA.row1 (fun q hq e => hp.apart q hq e)
  have S2 : Beside (Qb b r1 r2) w w2 := (HBS.out.trans (BA.mono (fun _ h => h.elim))).grown hgrow2 (fun q hq => .inl (.inr (.inr hq)))
  have hv2b : ∀ q, v2.ownBlock = some q → r2.ownBlock = some q ∨ w.heap.size < q := by
    intro q hq
    rcases hat2 with h9 | h9
    · exact .inl (h9 ▸ hq)
    · rw [h9, hgs] at hq; injection hq with hq; exact .inr (by omega)
  have hne2 : ∀ q, v2.ownBlock = some q → q ≠ b := by
    intro q hq e
    rcases hv2b q hq with h9 | h9
    · exact hrb2 (by rw [h9, e])
    · omega
  have HE : Hid (Qm (w2.setCell ⟨b, o + 2, none⟩ v2) b T pre post r1 v2 (last + 1) most a1 (a2 ++ [⟨last + 1, kk, nn⟩]) ∧ Beside (Qb b r1 r2) w (w2.setCell ⟨b, o + 2, none⟩ v2) ∧ (∀ q, v2.ownBlock = some q → r2.ownBlock = some q ∨ w.heap.size ≤ q)) := by
    have hset : Beside (fun x => x = b) w2 (w2.setCell ⟨b, o + 2, none⟩ v2) := (Beside.refl (fun x => x = b) w2).set (.inl rfl) _ _
    refine ⟨⟨?_, hset.keepsOwn R1 (by intro q hq e; exact hrb1 (by rw [hq, e])), ?_, ?_, ?_⟩, S2.set (.inl (.inl rfl)) _ _, fun q hq => (hv2b q hq).imp id (fun h => by omega)⟩
    · have := B2.set (o + 2) v2
      rw [← ho, (qc_set pre post r1 r2 v2 (last + 1) most 0).2.1, ho] at this
      exact this
    · rw [List.length_append, rowv_app]
      exact hset.keepsOwn hown2 hne2
    · intro q h1 h2
      rcases hv2b q h2 with h9 | h9
      · exact hp.apart q h1 h9
      · have := hlt q (.inr (.inl h1)); omega
    · rw [List.length_append, List.length_singleton]; omega
  have hP2 := hP1.cells ho
  obtain ⟨_, _, g2, g3, _⟩ := hP2
  have g2d : V.drew.cell? ⟨b, o + 2, none⟩ = some r2 := g2
  have g3d : V.drew.cell? ⟨b, o + 3, none⟩ = some (.int .i64 (last + 1)) := g3
  have j0 : V.cell? ⟨w.heap.size, 0, none⟩ = some (.int .i64 kk) := hJ1.cell 0 rfl
  have j1 : V.cell? ⟨w.heap.size, 1, none⟩ = some (.int .i64 nn) := hJ1.cell 1 rfl
  have j0d : V.drew.cell? ⟨w.heap.size, 0, none⟩ = some (.int .i64 kk) := hJ1.cell 0 rfl
  have j1d : V.drew.cell? ⟨w.heap.size, 1, none⟩ = some (.int .i64 nn) := hJ1.cell 1 rfl
  have hfz2 : w2.frozen? ⟨b, o + 2, none⟩ = false := B2.frozen _
  have hbV : b < V.heap.size := by omega
  have g2a : (V.alloc (.cells #[.int .i64 (last + 1), .int .i64 0, .int .i64 kk, .int .i64 nn] 49)).cell? ⟨b, o + 2, none⟩ = some r2 := (World.cell?_alloc_past _ _ _ hbV).trans g2
  have hc2 : w2.cell? ⟨b, o + 2, none⟩ = some r2 := by
    have := (qc_at pre post r1 r2 (last + 1) most).2.2.1
    rw [ho] at this
    exact B2.cell _ this
  have e3 : w2.cell? ⟨b, o + 3, none⟩ = some (.int .i64 (last + 1)) := by
    have := (qc_at pre post r1 r2 (last + 1) most).2.2.2.1
    rw [ho] at this
    exact B2.cell _ this
  have e3' : (w2.setCell ⟨b, o + 2, none⟩ v2).cell? ⟨b, o + 3, none⟩ = some (.int .i64 (last + 1)) := by
    rw [World.cell?_setCell_other _ _ _ _ (by simp)]; exact e3
  obtain ⟨A2, c2, rfl, _, _⟩ := own_slice hp.row2
  obtain ⟨A3, c3', rfl, _, _⟩ := own_slice hown2
  have HV := Lib.hid hV
  have hwl : IntKind.i64.wrap (last + 1) = last + 1 := by rw [IntKind.wrap_i64]; omega
  clear hp hbe hV0 h hJ0 hV hrb1 hrb2 hJ1 hBV hP1 hlt hbl OA hown2 hgrow2 hat2 hgs BA PA B2 R1 S2 hv2b hne2 hs0 hsV ho hT HBS
  generalize a1.length + a2.length = N at *
  go_enter Try.func16, Try.ntmps16
  go_upto_region 1 with fail
  rw [← HV0.out]
  refine wp_region_still_lit mixed (by kernel_rfl) ?_
  repeat still_step
  still_call C.out
  repeat still_step
  refine wpStill_nil ?_
  change Exit.then _ _ _ _ V0.drew
  generalize V0.drew = V1 at *
  go_upto_region 4 with fail
  rw [← HV.out]
  clear f3 f3z f4 C
  go_region
  go_wp2
  go_returns
  exact ⟨rfl, _, HE.out⟩
end Go.Proofs.Ytpdlholoeaphgaa
