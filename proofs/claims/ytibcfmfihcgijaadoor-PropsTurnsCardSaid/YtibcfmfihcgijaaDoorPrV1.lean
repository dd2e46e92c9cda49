/- Contract of the statements' Texts (seat .D alone: by the library's table of powers of ten). -/
import Derived.Test.YtibcfmfihcgijaaDoorPrU1
import Derived.Test.YtibcfmfihcgijaaDoorPrW2
import Derived.Lib.LaidTab
import Derived.DataShut
namespace Go.Proofs.YtibcfmfihcgijaaDoor
open Go.RowKit Go.Sort M
abbrev Tab (w : World) : Prop := Lib.TabIs Tryd.prog w "internal/strconv.uint64pow10" .u64 Lib.pow10Tab
theorem tab_below {w w' : World} (h : Tab w) (hb : Below w.heap.size w w') : Tab w' := by
  unfold Tab Lib.TabIs World.var? at *
  cases hg : Tryd.prog.globalNamed "internal/strconv.uint64pow10" with
  | none => rw [hg] at h; cases h
  | some g =>
    rw [hg] at h
    simp only [Option.bind_some] at h ⊢
    have hlt : g < w.heap.size := by
      refine Classical.byContradiction fun hn => ?_
      rw [Array.getElem?_eq_none (by omega)] at h
      cases h
    rw [hb.block g hlt]
    exact h
def itoaB (n : Int) : ByteArray := ⟨(Lib.itoa n).toArray⟩
def textsOf (l : List Par) : List ParS := l.map fun p => (p.1, itoaB p.2)
theorem textsOf_len (l : List Par) : (textsOf l).length = l.length := by simp [textsOf]
theorem itoa_any (n : Int) (w : World) (hw : (Lit.int .i64 n).wf = true) (ht : Tab w) :
    Calls Tryd.prog 19 #[.int .i64 n] w fun e w' => e = .returned (.string (itoaB n)) ∧ ∃ q os, w' = grow (w.drewN q) os :=
  Tryd.strconv_Itoa n ((Lit.wf_int_iff _ _).1 hw).1 ((Lit.wf_int_iff _ _).1 hw).2 w ht
theorem itoa_bel (n : Int) (w : World) (hw : (Lit.int .i64 n).wf = true) (ht : Tab w) :
    Calls Tryd.prog 19 #[.int .i64 n] w fun e w' => e = .returned (.string (itoaB n)) ∧ Below w.heap.size w w' :=
  (itoa_any n w hw ht).mono fun e w' ⟨he, q, os, hq⟩ => ⟨he, by rw [hq]; exact St.grow_below (Below.refl _ _) (Nat.le_refl _) q os⟩
set_option maxHeartbeats 1000000 in
set_option maxRecDepth 100000 in
theorem texts_any (A : Option Addr) (n c : Nat) (l : List Par) (w : World) (hn : n = l.length) (hm : n ≤ 100000) (ha : At w A (pv l)) (hv : ∀ p ∈ l, (Lit.int .i64 p.2).wf = true) (ht : Tab w) :
    Calls Tryd.prog 10 #[.slice A n c] w fun e w' => ∃ v, e = .returned v ∧ w'.ownsRow w.heap.size 70 2 v n (pvS (textsOf l)) ∧ Below w.heap.size w w' := by
  have HN := Lib.hid hn
  have HA := Lib.hid ha
  have HV := Lib.hid hv
  have HT := Lib.hid ht
  clear hn ha hv ht
  obtain ⟨i0, hi, hz0, hz1, hz2⟩ := info_parts infoPParS
  go_enter Tryd.func10, Tryd.ntmps10
  go_wp2
  go_loopw [3, 8] (fun v i wr => ∃ k : Nat, k ≤ n ∧ i = .int .i64 k ∧ Hid (wr.ownsRow w.heap.size 70 2 v k (pvS (textsOf (l.take k)))) ∧ Below w.heap.size w wr) (fun _ i _ => n - (intOf i).toNat)
  case atStart => exact ⟨0, Nat.zero_le _, rfl, World.ownsRow_nil _ _ _ _, Below.refl _ _⟩
  case round =>
    obtain ⟨k, hk, rfl, hown, hbel⟩ := hrel
    obtain ⟨A7, c7, rfl, hc7, hm7, hat7⟩ := at_of_own' hown.out
    clear hat7
    by_cases hlt : k < n
    · have hk1 : k < l.length := by have := HN.out; omega
      obtain ⟨b, off, rfl, hlb, hc0, hc1⟩ := at_pair HA.out hk1
      have hd0 := (below_cells hbel).1 b (off + k * 2) hlb
      have hd1 := (below_cells hbel).1 b (off + k * 2 + 1) hlb
      rw [hc0] at hd0
      rw [hc1] at hd1
      clear hc0 hc1
      have hX : pvS (textsOf (l.take (k + 1))) = pvS (textsOf (l.take k)) ++ [.string l[k].1, .string (itoaB l[k].2)] := by rw [take_next l k hk1]; unfold textsOf; rw [List.map_append, pv_appS]; rfl
      have hW := HV.out l[k] (List.getElem_mem hk1)
      obtain ⟨x, hx⟩ : ∃ x, x = l[k].1 := ⟨_, rfl⟩
      obtain ⟨z, hz⟩ : ∃ z, z = l[k].2 := ⟨_, rfl⟩
      rw [← hx] at hd0 hX
      rw [← hz] at hd1 hX hW
      have HX := Lib.hid hX
      have HWF := Lib.hid hW
      clear hx hz hX hW
      have hsz := hbel.size
      have HNB := Lib.hid (show some wr.heap.size ≠ (Value.slice A7 k c7).ownBlock from fun e => by
        rcases hown.out.2 with ⟨h1, _⟩ | ⟨g, c', cur, h1, _, h2⟩
        · rw [h1] at e; simp [Value.ownBlock] at e
        · rw [h1] at e
          simp only [Value.ownBlock, Option.some.injEq] at e
          subst e
          simp at h2)
      have HOW := Lib.hid (hown.out.alloc (.cells #[.string x, .int .i64 z] 38))
      have HWW := Lib.hid (hbel.alloc hsz (.cells #[.string x, .int .i64 z] 38))
      go_wp2_with fail
      have b0 : (wr.alloc (.cells #[.string x, .int .i64 z] 38)).cell? ⟨wr.heap.size, 0, none⟩ = some (.string x) := by simp
      have b1 : (wr.alloc (.cells #[.string x, .int .i64 z] 38)).cell? ⟨wr.heap.size, 1, none⟩ = some (.int .i64 z) := by simp
      have hWs : (wr.alloc (.cells #[.string x, .int .i64 z] 38)).heap.size = wr.heap.size + 1 := by simp
      generalize wr.alloc (.cells #[.string x, .int .i64 z] 38) = W at HOW HWW b0 b1 hWs ⊢
      have lW : wr.heap.size < W.heap.size := by omega
      go_region_held3 (fun w' => w'.cell? ⟨wr.heap.size, 0, none⟩ = some (.string x) ∧ w'.cell? ⟨wr.heap.size, 1, none⟩ = some (.int .i64 z)) (first | (refine ⟨?_, ?_⟩ <;> first | assumption | (refine Lib.cell?_alloc_some _ ?_; assumption) | go_keep) | go_keep) (first | (go_at_call 19; go_split_ands; (with_reducible refine (itoa_bel z _ HWF.out ?_).mono ?_); (exact tab_below HT.out (by first | exact HWW.out | exact Below_drew HWW.out)); rintro e9 w5 ⟨rfl, hb5⟩; have HO5 := Lib.hid (own_below (by first | exact HOW.out | exact own_heap HOW.out rfl) hb5); have HB5 := Lib.hid (show Below w.heap.size w w5 from by first | exact HWW.out.trans (hb5.mono HWW.out.size) | exact (Below_drew HWW.out).trans (hb5.mono HWW.out.size)); have r0 := (hb5.cell (p := ⟨wr.heap.size, 0, none⟩) (by show wr.heap.size < _; first | exact lW | (simp; exact lW))).trans (by first | exact b0 | exact cell_heap b0 rfl); have r1 := (hb5.cell (p := ⟨wr.heap.size, 1, none⟩) (by show wr.heap.size < _; first | exact lW | (simp; exact lW))).trans (by first | exact b1 | exact cell_heap b1 rfl)) | (go_split_ands; refine step_append_at (by rfl) (.tmp 12) (.tmp 19) 30 (by rfl) w.heap.size 70 i0 _ 2 32 Tryd.underlying30 hi hz0 hz1 hz2 rfl (by decide) (.slice A7 k c7) k (pvS (textsOf (l.take k))) (by rfl) ?_ (some ⟨_, 0, none⟩) 1 1 [.string x, .string (itoaB z)] (by rfl) (fun h => nomatch h) rfl ?_ (pv_oneS [(x, itoaB z)]) ?_ ?_ ?_ ?_; (first | exact HO5.out.alloc _ | exact own_heap (HO5.out.alloc _) rfl); (first | exact at_new _ _ _ _ rfl _ rfl | exact At.drewN (at_new _ _ _ _ rfl _ rfl) _); (unfold maxLen; omega); omega; (have := HB5.out.size; first | omega | (simp <;> omega)); intro v8 w8 hown8 hgrow8; have hb80 : w8.cell? ⟨wr.heap.size, 0, none⟩ = some (.string x) := (by refine hgrow8.cell ?_ HNB.out; assumption); have hb81 : w8.cell? ⟨wr.heap.size, 1, none⟩ = some (.int .i64 z) := (by refine hgrow8.cell ?_ HNB.out; assumption)))
      all_goals
        have b8 : Below w.heap.size w w8 := by
          refine Below.grown ?_ hgrow8 (by have := HB5.out.size; first | omega | (simp <;> omega)) (fun q hq => by have h5 := own_from hown.out q hq; omega)
          first
          | exact HB5.out.alloc HB5.out.size _
          | exact Below_drew (HB5.out.alloc HB5.out.size _)
          | exact (Below_drew HB5.out).alloc HB5.out.size _
        have B8 := Lib.hid b8
        have O8 := Lib.hid hown8
        clear b8 hown8 hgrow8 hb80 hb81
        go_wp2
        go_roundw
        case rel => exact ⟨k + 1, by omega, by go_num, by show World.ownsRow _ _ _ _ _ _ _; rw [HX.out]; exact O8.out, B8.out⟩
        case measure => simp [intOf]; omega
    · obtain rfl : k = n := by omega
      go_wp2
      go_ret
      exact ⟨_, rfl, by have h1 := hown.out
                        rw [List.take_of_length_le (by have := HN.out; omega)] at h1; exact h1, hbel⟩
end Go.Proofs.YtibcfmfihcgijaaDoor
