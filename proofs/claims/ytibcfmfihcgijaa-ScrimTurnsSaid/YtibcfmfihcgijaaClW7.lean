/- Contracts of layer 3: Clean by Apply; the document's own Apply. -/
import Derived.Test.YtibcfmfihcgijaaClW6
import Derived.Deep.RegionHeld3
import Derived.Deep.RegionLaw
import Derived.Deep.AppendLies
import Derived.StillTactics
namespace Go.Proofs.Ytibcfmfihcgijaa
open Go.RowKit M
theorem cclean_any (A : Option Addr) (n c : Nat) (l : List ByteArray) (w : World) (hn : n = l.length) (hb : n ≤ 100000) (ha : At w A (sv l)) (hl : ∀ s ∈ l, s.size ≤ maxLen) :
    Calls Try.prog 16 #[.slice A n c] w fun e w' => ∃ v, e = .returned v ∧ w'.ownsRow w.heap.size 9 1 v (clean l).length (sv (clean l)) ∧ Below w.heap.size w w' := by
  have HC := Lib.hid (capply_any A none n c 0 0 l [] w hn rfl hb (by omega) ha (At.nil _ _) (fun _ => ⟨rfl, rfl⟩) hl (fun _ h => by cases h))
  clear hn ha hl
  go_enter Try.func16, Try.ntmps16
  go_wp2_with (go_at_call 27; refine HC.out.mono ?_; rintro e w1 ⟨v, rfl, hown, hbel⟩; have HO := Lib.hid hown; have HB := Lib.hid hbel; clear hown hbel)
  go_ret
  exact ⟨_, rfl, HO.out, HB.out⟩
theorem apply_next (l : List ByteArray) (steps : List Stp) (k : Nat) (h : k < steps.length) : apply l (steps.take (k + 1)) = stepOne (apply l (steps.take k)) steps[k] := by
  unfold apply
  rw [take_next steps k h, List.foldl_append]
  rfl
theorem apply_len (l : List ByteArray) (steps : List Stp) : (apply l steps).length ≤ l.length + steps.length := by
  have h : ∀ (st : List Stp) (acc : List ByteArray), (st.foldl stepOne acc).length ≤ acc.length + st.length := by
    intro st
    induction st with
    | nil => simp
    | cons a st ih =>
      intro acc
      have h1 := ih (stepOne acc a)
      have h2 : (stepOne acc a).length ≤ acc.length + 1 := by
        unfold stepOne
        split
        · exact Nat.le_succ_of_le (List.length_filter_le _ _)
        · exact add_len _ _
      simp only [List.foldl_cons, List.length_cons]
      omega
  have h1 := h steps (clean l)
  have h2 := clean_len l
  unfold apply
  omega
set_option maxHeartbeats 2000000 in
set_option maxRecDepth 100000 in
theorem rapply_any (A B : Option Addr) (n c m d : Nat) (l : List ByteArray) (steps : List Stp) (w : World) (hn : n = l.length) (hnc : n ≤ c) (hcm : c ≤ maxLen) (hm : m = steps.length) (hb : n ≤ 100000) (hb2 : m ≤ 100000)
    (ha : At w A (sv l)) (hs : At w B (stv steps)) :
    Calls Try.prog 28 #[.slice A n c, .slice B m d] w fun e w' => ∃ v, e = .returned v ∧ w'.ownsRow w.heap.size 9 1 v (apply l steps).length (sv (apply l steps)) ∧ Below w.heap.size w w' := by
  have HN := Lib.hid hn
  have HM := Lib.hid hm
  have HA := Lib.hid ha
  have HS := Lib.hid hs
  have HCL := Lib.hid (rclean_any A n c l w hn hnc hcm (by omega) ha)
  have HLL : Hid (∀ k, (apply l (steps.take k)).length ≤ n + m) := fun k => by have h1 := apply_len l (steps.take k); have h2 : (steps.take k).length ≤ steps.length := by rw [List.length_take]; omega
                                                                               rw [hn, hm]; omega
  clear hn hm ha hs hcm
  obtain ⟨i0, hi, hz0, hz1, hz2⟩ := info_parts infoStr
  go_enter Try.func28, Try.ntmps28
  go_wp2_with (go_at_call 17; refine HCL.out.mono ?_; rintro e w1 ⟨v, rfl, hown, hbel⟩; have HO := Lib.hid hown; have HB := Lib.hid hbel; clear hown hbel)
  go_loopw [5, 12] (fun v i wr => ∃ k : Nat, k ≤ m ∧ i = .int .i64 k ∧ Hid (wr.ownsRow w.heap.size 9 1 v (apply l (steps.take k)).length (sv (apply l (steps.take k)))) ∧ Below w.heap.size w wr) (fun _ i _ => m - (intOf i).toNat)
  case atStart => exact ⟨0, Nat.zero_le _, rfl, HO.out, HB.out⟩
  case round =>
    obtain ⟨k, hk, rfl, hown, hbel⟩ := hrel
    by_cases hlt : k < m
    · have hkL : k < steps.length := by have := HM.out; omega
      obtain ⟨b, off, rfl, hlb, hc0, hc1⟩ := at_step HS.out hkL
      rename World => wr
      have hd0 := (below_cells hbel).1 b (off + k * 2) hlb
      have hd1 := (below_cells hbel).1 b (off + k * 2 + 1) hlb
      rw [hc0] at hd0
      rw [hc1] at hd1
      clear hc0 hc1
      have hnx := apply_next l steps k hkL
      have hll := HLL.out k
      obtain ⟨T, hT⟩ : ∃ T, T = apply l (steps.take k) := ⟨_, rfl⟩
      rw [← hT] at hnx hll hown
      obtain ⟨x, hx⟩ : ∃ x, x = steps[k].2 := ⟨_, rfl⟩
      rw [← hx] at hd1
      obtain ⟨A1, c1, rfl, hc1, hcm1, hat1⟩ := at_of_own hown.out
      have HAT := Lib.hid hat1
      have hsz := hbel.size
      clear hat1
      by_cases hdr : steps[k].1 = true
      · have HX : Hid (apply l (steps.take (k + 1)) = drop T x) := by show apply _ _ = _; rw [hnx]; unfold stepOne; rw [if_pos hdr, hx]
        rw [hdr] at hd0
        clear hdr hnx hx hT
        go_wp2_with (go_at_call 21; refine (rdrop_any A1 _ c1 T x _ rfl (by omega) (HAT.out.alloc _)).mono ?_; rintro e w5 ⟨v5, rfl, hown5, hbel5⟩; have HO5 := Lib.hid hown5; have HB5 := Lib.hid hbel5; clear hown5 hbel5)
        go_roundw
        case rel => exact ⟨k + 1, by omega, by go_num, by show World.ownsRow _ _ _ _ _ _ _; rw [HX.out]; exact own_mono HO5.out (by rw [size_alloc]; omega), (hbel.alloc hsz _).trans (HB5.out.mono (by rw [size_alloc]; omega))⟩
        case measure => simp [intOf]; omega
      · have hdr' : steps[k].1 = false := by simpa using hdr
        rw [hdr'] at hd0
        by_cases hin : x ∈ T
        · have HX : Hid (apply l (steps.take (k + 1)) = T) := by show apply _ _ = _; rw [hnx]; unfold stepOne add; rw [if_neg hdr, ← hx, if_pos hin]
          have HH := Lib.hid (has_yes hin)
          clear hdr hdr' hin hnx hx hT
          go_wp2_with (go_at_call 14; refine (rhas_any A1 _ c1 T x _ rfl (by unfold maxLen; omega) (HAT.out.alloc _)).mono ?_; rintro e w5 ⟨rfl, rfl⟩; rw [HH.out])
          go_roundw
          case rel => exact ⟨k + 1, by omega, by go_num, by show World.ownsRow _ _ _ _ _ _ _; rw [HX.out]; exact hown.out.alloc _, hbel.alloc hsz _⟩
          case measure => simp [intOf]; omega
        · have HX : Hid (apply l (steps.take (k + 1)) = T ++ [x]) := by show apply _ _ = _; rw [hnx]; unfold stepOne add; rw [if_neg hdr, ← hx, if_neg hin]
          have HH := Lib.hid (has_no hin)
          clear hdr hdr' hin hnx hx hT
          go_wp2_with (go_at_call 14; refine (rhas_any A1 _ c1 T x _ rfl (by unfold maxLen; omega) (HAT.out.alloc _)).mono ?_; rintro e w5 ⟨rfl, rfl⟩; rw [HH.out])
          have HAN := Lib.hid (own_addr hown.out)
          have hbx : (wr.alloc (.cells #[.bool false, .string x] 35)).cell? ⟨wr.heap.size, 1, none⟩ = some (.string x) := by simp
          go_region_held3 (fun w' => w'.cell? ⟨wr.heap.size, 1, none⟩ = some (.string x)) (first | assumption | go_keep) (first | (refine step_append_at (by rfl) (.tmp 27) (.tmp 28) 22 (by rfl) (wr.heap.size + 1) 9 i0 _ 1 16 Try.underlying22 hi hz0 hz1 hz2 rfl (by decide) (.slice (some ⟨_, 0, none⟩) 0 0) 0 [] (by rfl) ?_ A1 T.length c1 (sv T) (by rfl) HAN.out ?_ ?_ (sv_one _) ?_ ?_ ?_ ?_; (first | exact own_made _ _ (by simp) (by omega) | exact (own_made _ _ (by simp) (by omega)).alloc _); (rw [sv_len, Nat.mul_one]); (first | exact (HAT.out.alloc _).alloc _ | exact ((HAT.out.alloc _).alloc _).alloc _); (unfold maxLen; omega); omega; (simp <;> omega); intro v8 w8 hown8 hgrow8; have hb8 : w8.cell? ⟨wr.heap.size, 1, none⟩ = some (.string x) := (by refine hgrow8.cell (by assumption) ?_; simp only [Value.ownBlock]; intro e; injection e; omega)) | (refine step_append_at (by rfl) (.tmp 29) (.tmp 32) 22 (by rfl) (wr.heap.size + 1) 9 i0 _ 1 16 Try.underlying22 hi hz0 hz1 hz2 rfl (by decide) v8 (0 + T.length) ([] ++ sv T) (by rfl) ?_ (some ⟨_, 0, none⟩) 1 1 [.string x] (by rfl) (fun h => nomatch h) rfl ?_ (sv_one [x]) ?_ ?_ ?_ ?_; (first | exact hown8 | exact hown8.alloc _); (first | exact at_new _ _ _ _ rfl _ rfl | (refine at_new_grown hgrow8 ((wr.alloc (.cells #[.bool false, .string x] 35)).alloc (.cells #[] 9)).heap #[.string x] 9 (wr.heap.size + 1 + 1) [.string x] rfl ?_ rfl ?_; simp; (simp only [Value.ownBlock]; intro e; injection e; omega)) | (refine at_new_alloc_grown hgrow8 (wr.alloc (.cells #[.bool false, .string x] 35)).heap #[.string x] 9 (.cells #[] 9) (wr.heap.size + 1) [.string x] rfl ?_ rfl ?_; simp; (simp only [Value.ownBlock]; intro e; injection e; omega))); (unfold maxLen; omega); omega; (have := hgrow8.size; simp at this ⊢ <;> omega); intro v9 w9 hown9 hgrow9; have hb9 : w9.cell? ⟨wr.heap.size, 1, none⟩ = some (.string x) := (by refine hgrow9.cell ?_ (fun e => Nat.not_succ_le_self wr.heap.size (own_from hown8 _ e.symm)); first | exact hb8 | exact Lib.cell?_alloc_some _ hb8)))
          all_goals
            have b8 : Below w.heap.size w w8 := by
              refine Below.grown ?_ hgrow8 (by simp; omega) (fun g hg => by simp only [Value.ownBlock, Option.some.injEq] at hg; omega)
              first
              | exact ((hbel.alloc hsz _).alloc (by simp; omega) _).drew
              | exact (((hbel.alloc hsz _).alloc (by simp; omega) _).alloc (by simp; omega) _).drew
              | exact ((hbel.alloc hsz _).alloc (by simp; omega) _).drew.drew
              | exact (((hbel.alloc hsz _).alloc (by simp; omega) _).alloc (by simp; omega) _).drew.drew
            have b9 : Below w.heap.size w w9 := by
              refine Below.grown ?_ hgrow9 (by have := b8.size; simp <;> omega) (fun g hg => by have := own_from hown8 g hg; omega)
              have := b8.size
              first
              | exact b8
              | exact b8.alloc this _
              | exact b8.drew
              | exact (b8.alloc this _).drew
            have o9 := own_mono hown9 (base' := w.heap.size) (by omega)
            have O9 := Lib.hid o9
            have B9 := Lib.hid b9
            clear o9 b9 b8 hb8 hb9 hown8 hown9 hgrow8 hgrow9
            go_wp2
            go_roundw
            case rel => exact ⟨k + 1, by omega, by go_num, by show World.ownsRow _ _ _ _ _ _ _; rw [HX.out, List.length_append, sv_app]; have h9 := O9.out; rw [Nat.zero_add, List.nil_append] at h9; exact h9, B9.out⟩
            case measure => simp [intOf]; omega
    · go_wp2
      go_ret
      exact ⟨_, rfl, by have h1 := hown.out
                        rw [List.take_of_length_le (by have := HM.out; omega)] at h1; exact h1, hbel⟩
end Go.Proofs.Ytibcfmfihcgijaa
