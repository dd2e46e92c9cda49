/- The contract of layer 4's statements' own Few. -/
import Derived.Test.YtibcfmfihcgijaaDoorPrW1
namespace Go.Proofs.YtibcfmfihcgijaaDoor
open Go.RowKit M
set_option maxHeartbeats 4000000 in
set_option maxRecDepth 100000 in
theorem few4_any (A : Option Addr) (n c : Nat) (m : Int) (l : List Par) (w : World) (hn : n = l.length) (hb : n ≤ maxLen) (h0 : 0 ≤ m) (h1 : m ≤ 1000) (ha : At w A (pv l)) :
    Calls Tryd.prog 7 #[.slice A n c, .int .i64 m] w fun e w' => ∃ v, e = .returned v ∧ w'.ownsRow w.heap.size 38 2 v (fewP l m.toNat).length (pv (fewP l m.toNat)) ∧ Below w.heap.size w w' := by
  unfold maxLen at hb
  have HN := Lib.hid hn
  have HA := Lib.hid ha
  clear hn ha
  obtain ⟨i0, hi, hz0, hz1, hz2⟩ := info_parts infoPar
  go_enter Tryd.func7, Tryd.ntmps7
  go_wp2
  go_loopw [5, 6] (fun v i wr => ∃ k : Nat, k ≤ n ∧ (k : Int) ≤ m ∧ i = .int .i64 k ∧ Hid (wr.ownsRow w.heap.size 38 2 v k (pv (fewP l k))) ∧ Below w.heap.size w wr) (fun _ i _ => n - (intOf i).toNat)
  case atStart => exact ⟨0, Nat.zero_le _, by omega, rfl, World.ownsRow_nil _ _ _ _, Below.refl _ _⟩
  case round =>
    obtain ⟨k, hk, hkm, rfl, hown, hbel⟩ := hrel
    obtain ⟨A7, c7, rfl, hc7, hm7, hat7⟩ := at_of_own' hown.out
    clear hat7
    by_cases hlt : k < n
    · by_cases hlm : (k : Int) < m
      · have hk1 : k < l.length := by have := HN.out; omega
        obtain ⟨b, off, rfl, hlb, hc0, hc1⟩ := at_pair HA.out hk1
        rename World => wr
        have hd0 := (below_cells hbel).1 b (off + k * 2) hlb
        have hd1 := (below_cells hbel).1 b (off + k * 2 + 1) hlb
        rw [hc0] at hd0
        rw [hc1] at hd1
        clear hc0 hc1
        have hX : pv (fewP l (k + 1)) = pv (fewP l k) ++ [.string (cutS l[k].1 20), .int .i64 l[k].2] := by rw [fewP_next l k hk1, pv_app]; rfl
        obtain ⟨x, hx⟩ : ∃ x, x = l[k].1 := ⟨_, rfl⟩
        obtain ⟨z, hz⟩ : ∃ z, z = l[k].2 := ⟨_, rfl⟩
        rw [← hx] at hd0 hX
        rw [← hz] at hd1 hX
        have HX := Lib.hid hX
        clear hx hz hX
        have hsz := hbel.size
        have hkk : (0 : Int) ≤ (k : Int) := by omega
        have hkk2 : (k : Int) < (n : Int) := by omega
        have hbn := Lib.hid (show some b ≠ (Value.slice A7 k c7).ownBlock from fun e => by have := own_from hown.out b e.symm; omega)
        go_wp2
        go_region_held3 (fun w' => w'.cell? ⟨b, off + k * 2, none⟩ = some (.string x) ∧ w'.cell? ⟨b, off + k * 2 + 1, none⟩ = some (.int .i64 z)) (first | go_keep | (refine ⟨?_, ?_⟩ <;> first | assumption | go_keep)) (first | (go_at_call 8; refine (cut_any x 20 _ (by omega) (by omega)).mono ?_; rintro e w' ⟨rfl, rfl⟩) | (refine step_append_at (by rfl) (.tmp 18) (.tmp 31) 22 (by rfl) w.heap.size 38 i0 _ 2 24 Tryd.underlying22 hi hz0 hz1 hz2 rfl (by decide) (.slice A7 k c7) k (pv (fewP l k)) (by rfl) ?_ (some ⟨_, 0, none⟩) 1 1 [.string (cutS x 20), .int .i64 z] (by rfl) (fun h => nomatch h) rfl ?_ (pv_one [(cutS x 20, z)]) ?_ ?_ ?_ ?_; (exact own_heap (hown.out.alloc _) rfl); (exact at_push1 wr.heap #[.string (cutS x 20), .int .i64 z] 38 wr.heap.size _ rfl rfl rfl); (unfold maxLen; omega); omega; (simp <;> omega); intro v8 w8 hown8 hgrow8; have hb80 : w8.cell? ⟨b, off + k * 2, none⟩ = some (.string x) := (by refine hgrow8.cell ?_ hbn.out; exact cell_heap (Lib.cell?_alloc_some _ hd0) rfl); have hb81 : w8.cell? ⟨b, off + k * 2 + 1, none⟩ = some (.int .i64 z) := (by refine hgrow8.cell ?_ hbn.out; exact cell_heap (Lib.cell?_alloc_some _ hd1) rfl)))
        all_goals
          have b8 : Below w.heap.size w w8 := by
            refine Below.grown ?_ hgrow8 (by simp <;> omega) (fun q hq => by have h5 := own_from hown.out q hq; omega)
            first
            | exact hbel.alloc hsz _
            | exact Below_drew (hbel.alloc hsz _)
            | exact Below_drew (Below_drew (hbel.alloc hsz _))
          have B8 := Lib.hid b8
          have O8 := Lib.hid hown8
          clear b8 hown8 hgrow8 hb80 hb81
          go_wp2
          go_roundw
          case rel => exact ⟨k + 1, by omega, by omega, by go_num, by show World.ownsRow _ _ _ _ _ _ _; rw [HX.out]; exact O8.out, B8.out⟩
          case measure => simp [intOf]; omega
      · go_wp2
        go_ret
        exact ⟨_, rfl, by have h1 : m.toNat = k := by omega
                          rw [h1, fewP_len_eq l k (by have := HN.out; omega)]; exact hown.out, hbel⟩
    · go_wp2
      go_ret
      exact ⟨_, rfl, by have h1 : fewP l m.toNat = fewP l k := fewP_all l k m.toNat (by have := HN.out; omega) (by omega)
                        rw [h1, fewP_len_eq l k (by have := HN.out; omega)]; exact hown.out, hbel⟩
end Go.Proofs.YtibcfmfihcgijaaDoor
