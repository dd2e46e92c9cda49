/- May all be that was told? by the program: Check. -/
import Derived.Test.YtbekoockmageoaaDoorHkW9
namespace Go.Proofs.YtbekoockmageoaaDoor
open Go.RowKit Hk
def stF (L : List En) (k : Nat) (q : Kid) : Option Value := if hooksOf (L.take k) q = [] then none else some (.int .i64 (run 0 (hooksOf (L.take k) q)))
theorem stF_get (L : List En) (k : Nat) (q : Kid) : (stF L k q).getD (.int .i64 0) = .int .i64 (run 0 (hooksOf (L.take k) q)) := by
  unfold stF
  split
  · rename_i h; rw [h]; rfl
  · rfl
theorem stF_next (L : List En) (k : Nat) (h : k < L.length) (q : Kid) : (if q = L[k].kid then some (Value.int .i64 (nx (run 0 (hooksOf (L.take k) L[k].kid)) L[k].h)) else stF L k q) = stF L (k + 1) q := by
  unfold stF
  rw [hooksOf_next L k h q]
  by_cases e : q = L[k].kid
  · subst e
    simp [run_snoc]
  · have e' : ¬ L[k].kid = q := fun h => e h.symm
    simp [e, e']
theorem run_at (L : List En) (k : Nat) (h : k < L.length) : run 0 (hooksOf (L.take (k + 1)) L[k].kid) = nx (run 0 (hooksOf (L.take k) L[k].kid)) L[k].h := by
  rw [hooksOf_next L k h, if_pos rfl, run_snoc]
theorem okB_of (L : List En) (h : AllOk L) : okB L = true := (okB_iff L).2 h
theorem step_map {w V w6 : World} {L : List En} {k m r6 r : Nat} {z0 z2 t : Int} {x : ByteArray} (hM : MapOf Tryd.prog 55 kidL OkK V w.heap.size (stF L k) m) (hV : Below w.heap.size w V)
    (c0 : V.cell? ⟨r6, 0, none⟩ = some (.int .i64 z0)) (c1 : V.cell? ⟨r6, 1, none⟩ = some (.string x)) (c2 : V.cell? ⟨r, 2, none⟩ = some (.int .i64 z2)) (hl : r6 < V.heap.size) (hr : r < V.heap.size) (hne : w.heap.size ≠ r6) (hnr : w.heap.size ≠ r) (hm : m < maxLen) (hk : OkK (z0, x))
    (hf : ∀ q, (if q = (z0, x) then some (Value.int .i64 t) else stF L k q) = stF L (k + 1) q) (hb : Below V.drew.heap.size V.drew w6) :
    ∃ w7 m', w6.cell? ⟨r6, 0, none⟩ = some (.int .i64 z0) ∧ w6.cell? ⟨r6, 1, none⟩ = some (.string x) ∧ w6.cell? ⟨r, 2, none⟩ = some (.int .i64 z2) ∧ (Instr.mapUpdate 57 (.map (some w.heap.size)) (.agg #[.int .i64 z0, .string x]) (.int .i64 t)).run Tryd.prog w6 = .ok () w7 ∧
      w7.cell? ⟨r6, 0, none⟩ = some (.int .i64 z0) ∧ w7.cell? ⟨r6, 1, none⟩ = some (.string x) ∧ w7.cell? ⟨r, 2, none⟩ = some (.int .i64 z2) ∧ (Instr.lookup 57 (.map (some w.heap.size)) (.agg #[.int .i64 z0, .string x]) false).run Tryd.prog w7 = .ok (.int .i64 t) w7 ∧
      Hid (MapOf Tryd.prog 55 kidL OkK w7 w.heap.size (stF L (k + 1)) m') ∧ m' ≤ m + 1 ∧ Hid (Below w.heap.size w w7) := by
  have hbV : Below V.heap.size V w6 := ⟨hb.os, hb.tape, hb.output, hb.size, hb.block⟩
  have d0 := (hbV.cell (p := ⟨r6, 0, none⟩) hl).trans c0
  have d1 := (hbV.cell (p := ⟨r6, 1, none⟩) hl).trans c1
  have d2 := (hbV.cell (p := ⟨r, 2, none⟩) hr).trans c2
  have hM6 := hM.below hbV
  obtain ⟨w7, hst, hm7, hg7, hs7⟩ := hM6.store kidWay Tryd.underlying57 hm (z0, x) hk (.int .i64 t)
  have hm8 := hm7.congr (fun a _ => hf a)
  have hn : some r6 ≠ some w.heap.size := fun e => hne (Option.some.inj e).symm
  refine ⟨w7, _, d0, d1, d2, hst, hg7.cell d0 hn, hg7.cell d1 hn, hg7.cell d2 (fun e => hnr (Option.some.inj e).symm), ?_, hm8, by split <;> omega, ?_⟩
  · have h1 := hm7.look kidWay Tryd.underlying57 zeroI (z0, x) hk
    simp only [if_true] at h1
    exact h1
  · exact Below.grown (hV.trans (hbV.mono hV.size)) hg7 (Nat.le_trans hV.size hbV.size) (fun q hq => by injection hq with hq; omega)
set_option maxHeartbeats 4000000 in
set_option maxRecDepth 100000 in
theorem check_any (A : Option Addr) (n c : Nat) (L : List En) (w : World) (hn : n = L.length) (hb : n ≤ 100000) (ha : At w A (ecs L)) (hok : ∀ e ∈ L, OkE e) (ht : TrIs w) :
    Calls Tryd.prog 20 #[.slice A n c] w fun e w' => e = .returned (.bool (okB L)) ∧ Below w.heap.size w w' := by
  have HN := Lib.hid hn
  have HA := Lib.hid ha
  have HOK := Lib.hid hok
  have HT := Lib.hid ht
  have hmm := @run_makeMap Tryd.prog
  clear hn ha hok ht
  go_enter Tryd.func20, Tryd.ntmps20
  go_wp2
  clear hmm
  have HM0 : Hid (MapOf Tryd.prog 55 kidL OkK (w.alloc (.map #[] 0)) w.heap.size (stF L 0) 0) := (MapOf.made _ _ _ _ _).congr (fun a _ => by simp [stF, hooksOf])
  have HB0 : Hid (Below w.heap.size w (w.alloc (.map #[] 0))) := Lib.hid (below_alloc w _)
  go_loopw [10] (fun i wr => ∃ k m : Nat, k ≤ n ∧ m ≤ k ∧ i = .int .i64 k ∧ Hid (AllOk (L.take k)) ∧ Hid (MapOf Tryd.prog 55 kidL OkK wr w.heap.size (stF L k) m) ∧ Hid (Below w.heap.size w wr)) (fun i _ => n - (intOf i).toNat)
  case atStart => exact ⟨0, 0, Nat.zero_le _, Nat.zero_le _, rfl, Lib.hid (fun e he => by cases he), HM0, HB0⟩
  case round =>
    obtain ⟨k, m, hk, hmk, rfl, hall, hmap, hbel⟩ := hrel
    by_cases hlt : k < n
    · have hk1 : k < L.length := by have := HN.out; omega
      obtain ⟨b1, o1, rfl, hb1, hc0, hc1, hc2, hc3⟩ := at_en HA.out hk1
      have hd0 := (below_cells hbel.out).1 b1 (o1 + k * 4) hb1
      have hd1 := (below_cells hbel.out).1 b1 (o1 + k * 4 + 1) hb1
      have hd2 := (below_cells hbel.out).1 b1 (o1 + k * 4 + 2) hb1
      have hd3 := (below_cells hbel.out).1 b1 (o1 + k * 4 + 3) hb1
      rw [hc0] at hd0
      rw [hc1] at hd1
      rw [hc2] at hd2
      rw [hc3] at hd3
      have HOe := Lib.hid (HOK.out _ (List.getElem_mem hk1))
      have HGET := Lib.hid (stF_get L k L[k].kid)
      have HNXT := Lib.hid (stF_next L k hk1)
      have HRUN := Lib.hid (run_at L k hk1)
      have HBAD := Lib.hid (bad_all L k hk1)
      have HGOOD := Lib.hid (ok_next L k hk1 hall.out)
      unfold En.kid at HGET HNXT HRUN HBAD HGOOD
      unfold OkE at HOe
      generalize L[k].g = z0 at *
      generalize L[k].n = z1 at *
      generalize L[k].h = z2 at *
      generalize L[k].s = x at *
      clear hc0 hc1 hc2 hc3
      obtain ⟨st, hst⟩ : ∃ st, st = run 0 (hooksOf (L.take k) (z0, x)) := ⟨_, rfl⟩
      rw [← hst] at HGET HRUN HNXT
      have HST := Lib.hid hst
      clear hst
      have hnr : w.heap.size ≠ wr.heap.size := Nat.ne_of_lt hmap.out.lt
      have hsz := hbel.out.size
      have HW1 := Lib.hid (hbel.out.alloc hsz (.cells #[.int .i64 z0, .int .i64 z1, .int .i64 z2, .string x] 46))
      have HM1 := Lib.hid (hmap.out.below (below_alloc wr (.cells #[.int .i64 z0, .int .i64 z1, .int .i64 z2, .string x] 46)))
      go_wp2_with fail
      have g2 : (wr.alloc (.cells #[.int .i64 z0, .int .i64 z1, .int .i64 z2, .string x] 46)).cell? ⟨wr.heap.size, 2, none⟩ = some (.int .i64 z2) := by simp
      have g2l : wr.heap.size < (wr.alloc (.cells #[.int .i64 z0, .int .i64 z1, .int .i64 z2, .string x] 46)).heap.size := by simp
      generalize wr.alloc (.cells #[.int .i64 z0, .int .i64 z1, .int .i64 z2, .string x] 46) = W1 at g2 g2l HW1 HM1 ⊢
      generalize wr.heap.size = r at g2 g2l hnr ⊢
      have HNR := Lib.hid hnr
      clear hnr
      clear hd0 hd1 hd2 hd3 hbel hmap
      (with_reducible refine (kidOf_any z0 z1 z2 x _).mono ?_)
      rintro e w5 ⟨rfl, hb5⟩
      have h2 := (hb5.cell (p := ⟨r, 2, none⟩) g2l).trans g2
      have hr5 := Nat.lt_of_lt_of_le g2l hb5.size
      have HM5 := Lib.hid (HM1.out.below hb5)
      have HW5 := Lib.hid (HW1.out.trans (hb5.mono HW1.out.size))
      clear hb5 g2 g2l
      go_wp2_with fail
      have v0 : (w5.alloc (.cells #[.int .i64 z0, .string x] 55)).cell? ⟨w5.heap.size, 0, none⟩ = some (.int .i64 z0) := by simp
      have v1 : (w5.alloc (.cells #[.int .i64 z0, .string x] 55)).cell? ⟨w5.heap.size, 1, none⟩ = some (.string x) := by simp
      have v2 : (w5.alloc (.cells #[.int .i64 z0, .string x] 55)).cell? ⟨r, 2, none⟩ = some (.int .i64 z2) := Lib.cell?_alloc_some _ h2
      have hrl : r < (w5.alloc (.cells #[.int .i64 z0, .string x] 55)).heap.size := by simp; omega
      have hl : w5.heap.size < (w5.alloc (.cells #[.int .i64 z0, .string x] 55)).heap.size := by simp
      have hne : w.heap.size ≠ w5.heap.size := Nat.ne_of_lt HM5.out.lt
      have VM := Lib.hid (HM5.out.below (below_alloc w5 (.cells #[.int .i64 z0, .string x] 55)))
      have VB := Lib.hid (HW5.out.alloc HW5.out.size (.cells #[.int .i64 z0, .string x] 55))
      generalize w5.alloc (.cells #[.int .i64 z0, .string x] 55) = V at v0 v1 v2 hl hrl VM VB ⊢
      generalize w5.heap.size = r6 at v0 v1 hl hne ⊢
      have HL := Lib.hid hl
      have HRL := Lib.hid hrl
      have HV2 := Lib.hid v2
      have HNE := Lib.hid hne
      have HOK2 : Hid (OkK (z0, x)) := Lib.hid ⟨HOe.out.1, HOe.out.2.2.2⟩
      have HMM : Hid (m < maxLen) := by show m < maxLen; unfold maxLen; omega
      have hlk : (Instr.lookup 57 (.map (some w.heap.size)) (.agg #[.int .i64 z0, .string x]) false).run Tryd.prog V.drew = .ok (.int .i64 st) V.drew := ((VM.out.block (w' := V.drew) rfl).look kidWay Tryd.underlying57 zeroI (z0, x) HOK2.out).trans (by rw [HGET.out])
      have u0 : V.drew.cell? ⟨r6, 0, none⟩ = some (.int .i64 z0) := v0
      have u1 : V.drew.cell? ⟨r6, 1, none⟩ = some (.string x) := v1
      have u2 : V.drew.cell? ⟨r, 2, none⟩ = some (.int .i64 z2) := v2
      have HV0 := Lib.hid v0
      have HV1 := Lib.hid v1
      have HTD := Lib.hid (HT.out.below (Below_drew VB.out))
      obtain ⟨t, htt⟩ : ∃ t, t = nx st z2 := ⟨_, rfl⟩
      rw [← htt] at HRUN HNXT
      have HTT := Lib.hid htt
      have HSM : Hid (∀ w6, Below V.drew.heap.size V.drew w6 → _) := Lib.hid (fun w6 hb6 => step_map (w6 := w6) VM.out VB.out HV0.out HV1.out HV2.out HL.out HRL.out HNE.out HNR.out HMM.out HOK2.out HNXT.out hb6)
      clear h2 htt hl hrl hne v0 v1 v2
      go_region_held3 (fun w' => w'.cell? ⟨r6, 0, none⟩ = some (.int .i64 z0) ∧ w'.cell? ⟨r6, 1, none⟩ = some (.string x) ∧ w'.cell? ⟨r, 2, none⟩ = some (.int .i64 z2)) (first | (refine ⟨?_, ?_, ?_⟩ <;> first | assumption | go_keep) | go_keep) (first | (go_at_call 9; (with_reducible refine (next_any st z2 _ HTD.out).mono ?_); rintro e w6 ⟨rfl, hb6⟩; rw [← HTT.out]; obtain ⟨w7, m', d0, d1, d2, hst, e0, e1, e2, hlk7, HM7, hm7, HB7⟩ := HSM.out w6 hb6; clear hlk u0 u1 u2) | fail)
      all_goals
        clear d0 d1 d2 hst
        by_cases h1 : t = -1
        · have HH := Lib.hid h1
          have HF : Hid (okB L = false) := Lib.hid (HBAD.out (by rw [HRUN.out, h1]; omega))
          clear HTT HSM HNXT
          subst h1
          go_wp2
          go_ret
          exact ⟨ret_bool' HF.out.symm, HB7.out⟩
        · have HG : Hid (AllOk (L.take (k + 1))) := Lib.hid (HGOOD.out (by
            have h5 := HRUN.out
            have h6 := (nx_range st z2).1
            have h7 := HTT.out
            omega))
          have hb1' : (t == -1) = false := by rw [beq_eq_false_iff_ne]; exact h1
          go_wp2
          go_roundw
          case rel => exact ⟨k + 1, m', by omega, by omega, by go_num, HG, HM7, HB7⟩
          case measure => simp [intOf]; omega
    · obtain rfl : k = n := by omega
      have HALL : Hid (okB L = true) := by
        refine Lib.hid (okB_of L ?_)
        have h1 := hall.out
        rw [List.take_of_length_le (by rw [HN.out]; exact Nat.le_refl _)] at h1
        exact h1
      go_wp2
      go_ret
      exact ⟨ret_bool' HALL.out.symm, hbel.out⟩
end Go.Proofs.YtbekoockmageoaaDoor
