/- Contract of layer 4's document's own Apply. -/
import Derived.Test.YtibcfmfihcgijaaPrW4
import Derived.Test.YtibcfmfihcgijaaPrT
namespace Go.Proofs.Ytibcfmfihcgijaa
open Go.RowKit M
theorem stepP_len (m : List Par) (s : PStp) : (stepP m s).length ≤ m.length + 1 := by
  unfold stepP
  split
  · exact Nat.le_succ_of_le (List.length_filter_le _ _)
  · exact setP_len _ _
theorem applyP_len (l : List Par) (st : List PStp) : (applyP l st).length ≤ l.length + st.length := by
  have h : ∀ (st : List PStp) (m : List Par), (st.foldl stepP m).length ≤ m.length + st.length := by
    intro st
    induction st with
    | nil => intro m; exact Nat.le_refl _
    | cons s st ih => intro m; have h1 := ih (stepP m s); have h2 := stepP_len m s; simp only [List.foldl_cons, List.length_cons]; omega
  have h1 := h st (ofP l)
  have h2 := ofP_len l
  unfold applyP
  omega
theorem applyP_next (l : List Par) (st : List PStp) (k : Nat) (h : k < st.length) : applyP l (st.take (k + 1)) = stepP (applyP l (st.take k)) st[k] := by
  rw [take_next st k h, applyP_snoc]
theorem ofP_snoc (m : List Par) (hm : Rises m) (p : Par) : ofP (m ++ [p]) = setP m p := by
  unfold ofP
  rw [List.foldl_append]
  show setP (ofP m) p = _
  rw [ofP_of hm]
theorem at_pstep {w : World} {A : Option Addr} {L : List PStp} (h : At w A (psv L)) {k : Nat} (hk : k < L.length) :
    ∃ b off, A = some ⟨b, off, none⟩ ∧ b < w.heap.size ∧ w.cell? ⟨b, off + k * 3, none⟩ = some (.bool L[k].1) ∧ w.cell? ⟨b, off + k * 3 + 1, none⟩ = some (.string L[k].2.1) ∧ w.cell? ⟨b, off + k * 3 + 2, none⟩ = some (.int .i64 L[k].2.2) := by
  obtain ⟨h1, h2, h3⟩ := psv_at L k hk
  obtain ⟨b, off, e, hb, hc⟩ := h (fun e => by rw [e] at h1; cases h1)
  exact ⟨b, off, e, hb, hc _ _ h1, hc _ _ h2, hc _ _ h3⟩
set_option maxHeartbeats 8000000 in
set_option maxRecDepth 100000 in
theorem rapply4_any (A B : Option Addr) (n c m d : Nat) (l : List Par) (steps : List PStp) (w : World) (hn : n = l.length) (hm : m = steps.length) (hb : n ≤ 10000) (hb2 : m ≤ 10000)
    (ha : At w A (pv l)) (hs : At w B (psv steps)) :
    Calls Try.prog 34 #[.slice A n c, .slice B m d] w fun e w' => ∃ v, e = .returned v ∧ w'.ownsRow w.heap.size 78 2 v (applyP l steps).length (pv (applyP l steps)) ∧ Below w.heap.size w w' := by
  have HM := Lib.hid hm
  have HS := Lib.hid hs
  have HCL := Lib.hid (rof_any A n c l w hn (by omega) ha)
  have HLL : Hid (∀ k, (applyP l (steps.take k)).length ≤ n + m) := fun k => by
    have h1 := applyP_len l (steps.take k)
    have h2 : (steps.take k).length ≤ steps.length := by rw [List.length_take]; omega
    rw [hn, hm]; omega
  have HRI : Hid (∀ k, Rises (applyP l (steps.take k))) := fun k => applyP_rises _ _
  clear hn hm ha hs
  obtain ⟨i0, hi, hz0, hz1, hz2⟩ := info_parts infoPar
  go_enter Try.func34, Try.ntmps34
  go_wp2_with (go_at_call 35; refine HCL.out.mono ?_; rintro e w1 ⟨v, rfl, hown, hbel⟩; have HO := Lib.hid hown; have HB := Lib.hid hbel; clear hown hbel)
  go_loopw [5, 12] (fun v i wr => ∃ k : Nat, k ≤ m ∧ i = .int .i64 k ∧ Hid (wr.ownsRow w.heap.size 78 2 v (applyP l (steps.take k)).length (pv (applyP l (steps.take k)))) ∧ Below w.heap.size w wr) (fun _ i _ => m - (intOf i).toNat)
  case atStart => exact ⟨0, Nat.zero_le _, rfl, HO.out, HB.out⟩
  case round =>
    obtain ⟨k, hk, rfl, hown, hbel⟩ := hrel
    by_cases hlt : k < m
    · have hkL : k < steps.length := by have := HM.out; omega
      obtain ⟨b, off, rfl, hlb, hc0, hc1, hc2⟩ := at_pstep HS.out hkL
      rename World => wr
      have hd0 := (below_cells hbel).1 b (off + k * 3) hlb
      have hd1 := (below_cells hbel).1 b (off + k * 3 + 1) hlb
      have hd2 := (below_cells hbel).1 b (off + k * 3 + 2) hlb
      rw [hc0] at hd0
      rw [hc1] at hd1
      rw [hc2] at hd2
      clear hc0 hc1 hc2
      have hnx := applyP_next l steps k hkL
      have hll := HLL.out k
      have hri := HRI.out k
      obtain ⟨T, hT⟩ : ∃ T, T = applyP l (steps.take k) := ⟨_, rfl⟩
      rw [← hT] at hnx hll hown hri
      obtain ⟨x, hx⟩ : ∃ x, x = steps[k].2.1 := ⟨_, rfl⟩
      obtain ⟨z, hz⟩ : ∃ z, z = steps[k].2.2 := ⟨_, rfl⟩
      rw [← hx] at hd1
      rw [← hz] at hd2
      obtain ⟨A1, c1, rfl, _, _, hat1⟩ := at_of_own' hown.out
      have HAT := Lib.hid hat1
      have hsz := hbel.size
      clear hat1
      have hTl := ofP_len T
      by_cases hdr : steps[k].1 = true
      · have HX : Hid (applyP l (steps.take (k + 1)) = dropP T x) := by
          show applyP _ _ = _
          rw [hnx]; unfold stepP dropP
          rw [if_pos hdr, ofP_of hri, hx]; rfl
        rw [hdr] at hd0
        clear hdr hnx hx hT hz hri
        go_wp2_with (go_at_call 53; refine (rdrop4_any A1 _ c1 T x _ rfl (by omega) (HAT.out.alloc _)).mono ?_; rintro e w5 ⟨v5, rfl, hown5, hbel5⟩; have HO5 := Lib.hid hown5; have HB5 := Lib.hid hbel5; clear hown5 hbel5)
        go_roundw
        case rel => exact ⟨k + 1, by omega, by go_num, by show World.ownsRow _ _ _ _ _ _ _; rw [HX.out]; exact own_mono HO5.out (by rw [size_alloc]; omega), (hbel.alloc hsz _).trans (HB5.out.mono (by rw [size_alloc]; omega))⟩
        case measure => simp [intOf]; omega
      · have hdr' : steps[k].1 = false := by simpa using hdr
        rw [hdr'] at hd0
        have HX : Hid (applyP l (steps.take (k + 1)) = ofP (T ++ [(x, z)])) := by
          show applyP _ _ = _
          rw [hnx, ofP_snoc T hri]; unfold stepP
          rw [if_neg hdr, hx, hz]
        have HAN := Lib.hid (own_addr hown.out)
        clear hdr hdr' hnx hx hT hz hri hTl
        go_wp2_with fail
        have hbx : (wr.alloc (.cells #[.bool false, .string x, .int .i64 z] 45)).cell? ⟨wr.heap.size, 1, none⟩ = some (.string x) := by simp
        have hby : (wr.alloc (.cells #[.bool false, .string x, .int .i64 z] 45)).cell? ⟨wr.heap.size, 2, none⟩ = some (.int .i64 z) := by simp
        go_region_held3 (fun w' => w'.cell? ⟨wr.heap.size, 1, none⟩ = some (.string x) ∧ w'.cell? ⟨wr.heap.size, 2, none⟩ = some (.int .i64 z)) (first | (refine ⟨?_, ?_⟩ <;> first | assumption | go_keep) | go_keep) (first | (refine step_append_at (by rfl) (.tmp 22) (.tmp 23) 41 (by rfl) (wr.heap.size + 1) 78 i0 _ 2 24 Try.underlying41 hi hz0 hz1 hz2 rfl (by decide) (.slice (some ⟨_, 0, none⟩) 0 0) 0 [] (by rfl) ?_ A1 T.length c1 (pv T) (by rfl) HAN.out ?_ ?_ (pv_one _) ?_ ?_ ?_ ?_; (first | exact own_made _ _ (by simp) (by omega) | exact (own_made _ _ (by simp) (by omega)).alloc _); (rw [pv_len]); (first | exact (HAT.out.alloc _).alloc _ | exact ((HAT.out.alloc _).alloc _).alloc _); (unfold maxLen; omega); omega; (simp <;> omega); intro v8 w8 hown8 hgrow8; go_split_ands; have hb80 : w8.cell? ⟨wr.heap.size, 1, none⟩ = some (.string x) := (by refine hgrow8.cell (by assumption) ?_; simp only [Value.ownBlock]; intro e; injection e; omega); have hb81 : w8.cell? ⟨wr.heap.size, 2, none⟩ = some (.int .i64 z) := (by refine hgrow8.cell (by assumption) ?_; simp only [Value.ownBlock]; intro e; injection e; omega)) | (refine step_append_at (by rfl) (.tmp 24) (.tmp 30) 41 (by rfl) (wr.heap.size + 1) 78 i0 _ 2 24 Try.underlying41 hi hz0 hz1 hz2 rfl (by decide) v8 (0 + T.length) ([] ++ pv T) (by rfl) ?_ (some ⟨_, 0, none⟩) 1 1 [.string x, .int .i64 z] (by rfl) (fun h => nomatch h) rfl ?_ (pv_one [(x, z)]) ?_ ?_ ?_ ?_; (first | exact hown8 | exact hown8.alloc _); (first | exact at_new _ _ _ _ rfl _ rfl | (refine at_new_grown hgrow8 ((wr.alloc (.cells #[.bool false, .string x, .int .i64 z] 45)).alloc (.cells #[] 78)).heap #[.string x, .int .i64 z] 78 (wr.heap.size + 1 + 1) [.string x, .int .i64 z] rfl ?_ rfl ?_; simp; (simp only [Value.ownBlock]; intro e; injection e; omega)) | (refine at_new_alloc_grown hgrow8 (wr.alloc (.cells #[.bool false, .string x, .int .i64 z] 45)).heap #[.string x, .int .i64 z] 78 (.cells #[] 78) (wr.heap.size + 1) [.string x, .int .i64 z] rfl ?_ rfl ?_; simp; (simp only [Value.ownBlock]; intro e; injection e; omega))); (unfold maxLen; omega); omega; (have := hgrow8.size; simp at this ⊢ <;> omega); intro v9 w9 hown9 hgrow9; go_split_ands; have hb90 : w9.cell? ⟨wr.heap.size, 1, none⟩ = some (.string x) := (by refine hgrow9.cell ?_ (fun e => Nat.not_succ_le_self wr.heap.size (own_from hown8 _ e.symm)); first | exact hb80 | exact Lib.cell?_alloc_some _ hb80); have hb91 : w9.cell? ⟨wr.heap.size, 2, none⟩ = some (.int .i64 z) := (by refine hgrow9.cell ?_ (fun e => Nat.not_succ_le_self wr.heap.size (own_from hown8 _ e.symm)); first | exact hb81 | exact Lib.cell?_alloc_some _ hb81); obtain ⟨A9, c9, rfl, hc9, hm9, hat9⟩ := at_of_own' hown9; have HAT9 : At w9 A9 (pv (T ++ [(x, z)])) := (by rw [pv_app]; exact hat9); clear hat9) | (go_at_call 35; refine (rof_any A9 _ c9 (T ++ [(x, z)]) _ (by simp <;> omega) (by omega) (by first | exact HAT9 | exact HAT9.drewN _)).mono ?_; rintro e w10 ⟨v10, rfl, hown10, hbel10⟩; have hb100 : w10.cell? ⟨wr.heap.size, 1, none⟩ = some (.string x) := (hbel10.cell (p := ⟨wr.heap.size, 1, none⟩) (World.block_lt_of_cell? _ _ hb90)).trans hb90; have hb101 : w10.cell? ⟨wr.heap.size, 2, none⟩ = some (.int .i64 z) := (hbel10.cell (p := ⟨wr.heap.size, 2, none⟩) (World.block_lt_of_cell? _ _ hb91)).trans hb91))
        all_goals
          have b8 : Below w.heap.size w w8 := by
            refine Below.grown ?_ hgrow8 (by simp; omega) (fun g hg => by simp only [Value.ownBlock, Option.some.injEq] at hg; omega)
            first
            | exact ((hbel.alloc hsz _).alloc (by simp; omega) _).drew
            | exact (((hbel.alloc hsz _).alloc (by simp; omega) _).alloc (by simp; omega) _).drew
            | exact ((hbel.alloc hsz _).alloc (by simp; omega) _).drew.drew
            | exact (((hbel.alloc hsz _).alloc (by simp; omega) _).alloc (by simp; omega) _).drew.drew
          have b9 : Below w.heap.size w w9 := by
            refine Below.grown ?_ hgrow9 (by have := b8.size; simp <;> omega) (fun g hg => by have := own_from hown8 g hg; omega)
            have := b8.size
            first
            | exact b8
            | exact b8.alloc this _
            | exact b8.drew
            | exact (b8.alloc this _).drew
          have h9s := b9.size
          have B10 := Lib.hid (b9.trans (hbel10.mono h9s))
          have O10 := Lib.hid (own_mono hown10 (base' := w.heap.size) h9s)
          clear b9 b8 hb80 hb81 hb90 hb91 hb100 hb101 hown8 hown9 hgrow8 hgrow9 hown10 hbel10 HAT9
          go_wp2
          go_roundw
          case rel => exact ⟨k + 1, by omega, by go_num, by show World.ownsRow _ _ _ _ _ _ _; rw [HX.out]; exact O10.out, B10.out⟩
          case measure => simp [intOf]; omega
    · go_wp2
      go_ret
      exact ⟨_, rfl, by have h1 := hown.out
                        rw [List.take_of_length_le (by have := HM.out; omega)] at h1; exact h1, hbel⟩
end Go.Proofs.Ytibcfmfihcgijaa
