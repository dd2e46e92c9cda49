/- Contracts of a queue's Frame and Cancel. -/
import Derived.Test.YtpdlholoeaphgaaFrW3
namespace Go.Proofs.Ytpdlholoeaphgaa
open Go.RowKit Fr
attribute [-go_sem] Builtin.append_
set_option maxHeartbeats 4000000 in
set_option maxRecDepth 100000 in
theorem fframe_any (b o : Nat) (T : TypeId) (pre post : List Value) (r1 r2 : Value) (last most : Int) (a1 a2 : List Wt) (w : World) (h : Qm w b T pre post r1 r2 last most a1 a2) (ho : pre.length = o) (hT : 49 ≠ T) :
    Calls Try.prog 18 #[.pointer (some ⟨b, o, none⟩)] w fun e w' => e = .returned r1 ∧ Qm w' b T pre post r2 (.slice none 0 0) last most a2 [] ∧ Beside (fun g => g = b) w w' := by
  have hrb1 := Fr.row_ne_blk h.row1 h.blk hT
  have hrb2 := Fr.row_ne_blk h.row2 h.blk hT
  obtain ⟨f0, f1, f2, _, _⟩ := h.cells ho
  have z0 : w.frozen? ⟨b, o, none⟩ = false := h.blk.frozen _
  have z1 : w.frozen? ⟨b, o + 1, none⟩ = false := h.blk.frozen _
  have z2 : w.frozen? ⟨b, o + 2, none⟩ = false := h.blk.frozen _
  obtain ⟨A1, c1, hr1, _, _⟩ := own_slice h.row1
  obtain ⟨A2, c2, hr2, _, _⟩ := own_slice h.row2
  have hu := Try.underlying91
  have hcp : ∀ ty, (Builtin.copy_ #[91, 91] ty #[.slice (some ⟨b, o, none⟩) 3 3, .slice (some ⟨b, o + 1, none⟩) 2 2]).run Try.prog w.drew = .ok (.int .i64 2) ((w.drew.setCell ⟨b, o, none⟩ r1).setCell ⟨b, o + 1, none⟩ r2) := by
    intro ty
    refine run_copy_cells w.drew _ _ ty 38 b o 3 3 ⟨b, o + 1, none⟩ 2 2 [r1, r2] hu (by kernel_rfl) rfl ?_ ?_ ?_ ?_
    · intro j v hv
      match j, hv with
      | 0, hv => injection hv with hv; subst hv; exact f1
      | 1, hv => injection hv with hv; subst hv; exact f2
    · intro j hj
      match j, hj with
      | 0, _ => show (w.cell? ⟨b, o, none⟩).isSome = true; rw [f0]; rfl
      | 1, _ => show (w.cell? ⟨b, o + 1, none⟩).isSome = true; rw [f1]; rfl
    · intro j hj
      match j, hj with
      | 0, _ => exact z0
      | 1, _ => exact z1
    · intro v hv
      simp only [List.mem_cons, List.not_mem_nil, or_false] at hv
      rcases hv with rfl | rfl
      · rw [hr1]; rfl
      · rw [hr2]; rfl
  obtain ⟨Z, hZ⟩ : ∃ Z, Z = ((((w.setCell ⟨b, o, none⟩ r1).setCell ⟨b, o + 1, none⟩ r2).setCell ⟨b, o + 2, none⟩ (.slice none 0 0)).setCell ⟨b, o, none⟩ (.slice none 0 0)).drew := ⟨_, rfl⟩
  have HE : Hid (Qm Z b T pre post r2 (.slice none 0 0) last most a2 [] ∧ Beside (fun g => g = b) w Z) := by
    have hbs : Beside (fun g => g = b) w Z := by rw [hZ]; exact (((((Beside.refl (fun x => x = b) w).set (.inl rfl) _ _).set (.inl rfl) _ _).set (.inl rfl) _ _).set (.inl rfl) _ _).drewN 1
    refine ⟨⟨?_, hbs.keepsOwn h.row2 (by intro q hq e; exact hrb2 (by rw [hq, e])), World.ownsRow_nil _ _ _ _, fun q _ h => by simp [Value.ownBlock] at h, by have := h.few; simp; omega⟩, hbs⟩
    have := (((((h.blk).set o r1).set (o + 1) r2).set (o + 2) (.slice none 0 0)).set o (.slice none 0 0)).drew
    rw [← hZ] at this
    have e : (((((qc pre post r1 r2 last most).setIfInBounds o r1).setIfInBounds (o + 1) r2).setIfInBounds (o + 2) (.slice none 0 0)).setIfInBounds o (.slice none 0 0)) = qc pre post r2 (.slice none 0 0) last most := by
      subst ho
      unfold qc
      simp
    rw [e] at this
    exact this
  have HZ := Lib.hid hZ
  subst hr1 hr2
  clear hrb1 hrb2 h hZ ho hT
  go_enter Try.func18, Try.ntmps18
  go_upto_region 1 with fail
  go_region
  go_wp2
  go_ret
  rw [← HZ.out]
  exact ⟨rfl, HE.out⟩
end Go.Proofs.Ytpdlholoeaphgaa
