/- Contracts of layer 3: the document's Drop and Mine; the steps that add each. -/
import Derived.Test.YtibcfmfihcgijaaClW3
namespace Go.Proofs.Ytibcfmfihcgijaa
open Go.RowKit M
theorem rdrop_any (A : Option Addr) (n c : Nat) (ss : List ByteArray) (x : ByteArray) (w : World) (hn : n = ss.length) (hm : n ≤ 1000000) (ha : At w A (sv ss)) :
    Calls Try.prog 21 #[.slice A n c, .string x] w fun e w' => ∃ v, e = .returned v ∧ w'.ownsRow w.heap.size 9 1 v (drop ss x).length (sv (drop ss x)) ∧ Below w.heap.size w w' := by
  have HN := Lib.hid hn
  have HA := Lib.hid ha
  clear hn ha
  obtain ⟨i0, hi, hz0, hz1, hz2⟩ := info_parts infoStr
  go_enter Try.func21, Try.ntmps21
  go_wp2
  go_loopw [5, 11] (fun v i wr => ∃ k : Nat, k ≤ n ∧ i = .int .i64 k ∧ Hid (wr.ownsRow w.heap.size 9 1 v ((ss.take k).filter (fun s => !decide (s = x))).length (sv ((ss.take k).filter (fun s => !decide (s = x))))) ∧ Below w.heap.size w wr) (fun _ i _ => n - (intOf i).toNat)
  case atStart => exact ⟨0, Nat.zero_le _, rfl, World.ownsRow_made w #[] 0 (Nat.le_refl _) (Nat.zero_le _) rfl, below_alloc _ _⟩
  case round =>
    obtain ⟨k, hk, rfl, hown, hbel⟩ := hrel
    by_cases hlt : k < n
    · have hk1 : k < ss.length := by have := HN.out; omega
      obtain ⟨b, off, rfl, hlb, hc0⟩ := HA.out.one (sv_at ss k hk1)
      have hc := (below_cells hbel).1 b (off + k) hlb
      rw [hc0] at hc
      have HC0 := Lib.hid hc0
      clear hc0
      have hY := filter_take_yes ss ((fun s => !decide (s = x))) k hk1
      have hZ := filter_take_no ss ((fun s => !decide (s = x))) k hk1
      have hlen := filter_take_le ss ((fun s => !decide (s = x))) k
      obtain ⟨s, hs⟩ : ∃ s, s = ss[k] := ⟨_, rfl⟩
      rw [← hs] at hc hY hZ
      clear hs
      have HY := Lib.hid hY
      have HZ := Lib.hid hZ
      clear hY hZ
      have hsz := hbel.size
      by_cases hx : s = x
      · have HX := Lib.hid (HZ.out (by simp [hx]))
        have h1 := str_yes hx
        clear hx
        go_wp2
        go_roundw
        case rel => exact ⟨k + 1, by omega, by go_num, by show World.ownsRow _ _ _ _ _ _ _; rw [HX.out]; exact hown.out, hbel⟩
        case measure => simp [intOf]; omega
      · have HX := Lib.hid (HY.out (by simp [hx]))
        have h1 := str_no hx
        clear hx
        go_wp2_with (at_builtin; refine wpList_append_own _ rfl _ _ 22 rfl w.heap.size 9 i0 (.string { data := #[] }) 1 16 Try.underlying22 hi hz0 hz1 hz2 rfl (by decide) _ _ _ rfl (hown.out.alloc _) ⟨_, 0, none⟩ 1 1 [.string s] rfl rfl (cell_one_new _ _ _) (sv_one [s]) (by unfold maxLen; omega) (by omega) (by simp; omega) ?_; intro v1 w1 hown1 hgrow1 _hnil1; have HO := Lib.hid hown1; have HG := Lib.hid hgrow1; clear hown1 hgrow1 _hnil1)
        go_roundw
        case rel => exact ⟨k + 1, by omega, by go_num, by show World.ownsRow _ _ _ _ _ _ _; rw [HX.out, List.length_append, sv_app]; exact HO.out, (hbel.alloc hsz _).grown HG.out (by simp; omega) (own_from hown.out)⟩
        case measure => simp [intOf]; omega
    · go_wp2
      go_ret
      exact ⟨_, rfl, by have h1 := hown.out
                        rw [List.take_of_length_le (by have := HN.out; omega)] at h1; exact h1, hbel⟩
set_option maxRecDepth 100000 in
theorem rmine_any (A : Option Addr) (n c : Nat) (ss : List ByteArray) (w : World) (hn : n = ss.length) (hm : n ≤ 1000000) (ha : At w A (sv ss)) :
    Calls Try.prog 23 #[.slice A n c] w fun e w' => ∃ v, e = .returned v ∧ w'.ownsRow w.heap.size 9 1 v (mine ss).length (sv (mine ss)) ∧ Below w.heap.size w w' := by
  have HN := Lib.hid hn
  have HA := Lib.hid ha
  clear hn ha
  obtain ⟨i0, hi, hz0, hz1, hz2⟩ := info_parts infoStr
  go_enter Try.func23, Try.ntmps23
  go_wp2
  go_loopw [3, 9] (fun v i wr => ∃ k : Nat, k ≤ n ∧ i = .int .i64 k ∧ Hid (wr.ownsRow w.heap.size 9 1 v ((ss.take k).filter ownB).length (sv ((ss.take k).filter ownB))) ∧ Below w.heap.size w wr) (fun _ i _ => n - (intOf i).toNat)
  case atStart => exact ⟨0, Nat.zero_le _, rfl, World.ownsRow_made w #[] 0 (Nat.le_refl _) (Nat.zero_le _) rfl, below_alloc _ _⟩
  case round =>
    obtain ⟨k, hk, rfl, hown, hbel⟩ := hrel
    by_cases hlt : k < n
    · have hk1 : k < ss.length := by have := HN.out; omega
      obtain ⟨b, off, rfl, hlb, hc0⟩ := HA.out.one (sv_at ss k hk1)
      have hc := (below_cells hbel).1 b (off + k) hlb
      rw [hc0] at hc
      have HC0 := Lib.hid hc0
      clear hc0
      have hY := filter_take_yes ss (ownB) k hk1
      have hZ := filter_take_no ss (ownB) k hk1
      have hlen := filter_take_le ss (ownB) k
      obtain ⟨s, hs⟩ : ∃ s, s = ss[k] := ⟨_, rfl⟩
      rw [← hs] at hc hY hZ
      clear hs
      have HY := Lib.hid hY
      have HZ := Lib.hid hZ
      clear hY hZ
      have hsz := hbel.size
      by_cases h2 : s.size < 2
      · have HX := Lib.hid (HY.out (by simp [ownB, resB_short s h2]))
        go_wp2_with (at_builtin; refine wpList_append_own _ rfl _ _ 22 rfl w.heap.size 9 i0 (.string { data := #[] }) 1 16 Try.underlying22 hi hz0 hz1 hz2 rfl (by decide) _ _ _ rfl (hown.out.alloc _) ⟨_, 0, none⟩ 1 1 [.string s] rfl rfl (cell_one_new _ _ _) (sv_one [s]) (by unfold maxLen; omega) (by omega) (by simp; omega) ?_; intro v1 w1 hown1 hgrow1 _hnil1; have HO := Lib.hid hown1; have HG := Lib.hid hgrow1; clear hown1 hgrow1 _hnil1)
        go_roundw
        case rel => exact ⟨k + 1, by omega, by go_num, by show World.ownsRow _ _ _ _ _ _ _; rw [HX.out, List.length_append, sv_app]; exact HO.out, (hbel.alloc hsz _).grown HG.out (by simp; omega) (own_from hown.out)⟩
        case measure => simp [intOf]; omega
      · by_cases hx : resB s = true
        · have HX := Lib.hid (HZ.out (by simp [ownB, hx]))
          have h1 : ((s.extract 0 2).toList == [116, 45]) = true := by rw [resB_eq s (by omega)]; exact hx
          clear hx
          go_wp2
          go_roundw
          case rel => exact ⟨k + 1, by omega, by go_num, by show World.ownsRow _ _ _ _ _ _ _; rw [HX.out]; exact hown.out, hbel⟩
          case measure => simp [intOf]; omega
        · have HX := Lib.hid (HY.out (by simp [ownB, hx]))
          have h1 : ((s.extract 0 2).toList == [116, 45]) = false := by rw [resB_eq s (by omega)]; simpa using hx
          clear hx
          go_wp2_with (at_builtin; refine wpList_append_own _ rfl _ _ 22 rfl w.heap.size 9 i0 (.string { data := #[] }) 1 16 Try.underlying22 hi hz0 hz1 hz2 rfl (by decide) _ _ _ rfl (hown.out.alloc _) ⟨_, 0, none⟩ 1 1 [.string s] rfl rfl (cell_one_new _ _ _) (sv_one [s]) (by unfold maxLen; omega) (by omega) (by simp; omega) ?_; intro v1 w1 hown1 hgrow1 _hnil1; have HO := Lib.hid hown1; have HG := Lib.hid hgrow1; clear hown1 hgrow1 _hnil1)
          go_roundw
          case rel => exact ⟨k + 1, by omega, by go_num, by show World.ownsRow _ _ _ _ _ _ _; rw [HX.out, List.length_append, sv_app]; exact HO.out, (hbel.alloc hsz _).grown HG.out (by simp; omega) (own_from hown.out)⟩
          case measure => simp [intOf]; omega
    · go_wp2
      go_ret
      exact ⟨_, rfl, by have h1 := hown.out
                        rw [List.take_of_length_le (by have := HN.out; omega)] at h1; exact h1, hbel⟩
end Go.Proofs.Ytibcfmfihcgijaa
