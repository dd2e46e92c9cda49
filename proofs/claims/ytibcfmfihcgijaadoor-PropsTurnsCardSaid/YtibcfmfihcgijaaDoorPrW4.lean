/- The contract of layer 4's document's own Drop. -/
import Derived.Test.YtibcfmfihcgijaaDoorPrW3
import Derived.Maps.AppendAt
namespace Go.Proofs.YtibcfmfihcgijaaDoor
open Go.RowKit M
set_option maxHeartbeats 2000000 in
set_option maxRecDepth 100000 in
theorem rdrop4_any (A : Option Addr) (n c : Nat) (l : List Par) (x : ByteArray) (w : World) (hn : n = l.length) (hb : n ≤ 100000) (ha : At w A (pv l)) :
    Calls Tryd.prog 22 #[.slice A n c, .string x] w fun e w' => ∃ v, e = .returned v ∧ w'.ownsRow w.heap.size 38 2 v (dropP l x).length (pv (dropP l x)) ∧ Below w.heap.size w w' := by
  have hml := ofP_len l
  rw [← hn] at hml
  have HOF : Hid (Calls Tryd.prog 16 #[.slice A n c] (w.alloc (.cells #[] 38)) fun e w' => ∃ v, e = .returned v ∧ w'.ownsRow (w.alloc (.cells #[] 38)).heap.size 38 2 v (ofP l).length (pv (ofP l)) ∧ Below (w.alloc (.cells #[] 38)).heap.size (w.alloc (.cells #[] 38)) w') := rof_any A n c l _ hn hb (ha.alloc _)
  clear hn ha
  obtain ⟨i0, hi, hz0, hz1, hz2⟩ := info_parts infoPar
  obtain ⟨R, hR⟩ : ∃ R, R = ofP l := ⟨_, rfl⟩
  have HD : Hid (dropP l x = R.filter (otherP x)) := by show _ = _; rw [hR]; rfl
  rw [← hR] at hml HOF
  clear hR
  go_enter Tryd.func22, Tryd.ntmps22
  go_wp2_with (go_at_call 16; refine HOF.out.mono ?_; rintro e w1 ⟨v, rfl, hown, hbel⟩; obtain ⟨A1, c1, rfl, hc1, hm1, hat1⟩ := at_of_own' hown; have HA := Lib.hid hat1; have HB1 : Hid (∀ g off, A1 = some ⟨g, off, none⟩ → w.heap.size < g ∧ g < w1.heap.size) := (fun g off e => by subst e; have h5 := hown.lt g rfl; rw [size_alloc] at h5; exact ⟨by omega, h5.2⟩); have HB := Lib.hid ((below_alloc w (.cells #[] 38)).trans (hbel.mono (by rw [size_alloc]; omega))); have HS := Lib.hid (own_below (own_made (base := w.heap.size) (e := 38) (size := 2) w w.heap.size rfl (Nat.le_refl _)) hbel); clear hown hbel hat1)
  have hsz0 := HB.out.size
  go_loopw [5, 12] (fun v i wr => ∃ k : Nat, k ≤ R.length ∧ i = .int .i64 k ∧ Hid (wr.ownsRow w.heap.size 38 2 v ((R.take k).filter (otherP x)).length (pv ((R.take k).filter (otherP x)))) ∧ Below w.heap.size w wr ∧ Hid (At wr A1 (pv R)) ∧ Hid (∀ g, v.ownBlock = some g → g = w.heap.size ∨ w1.heap.size ≤ g) ∧ w1.heap.size ≤ wr.heap.size) (fun _ i _ => R.length - (intOf i).toNat)
  case atStart => exact ⟨0, Nat.zero_le _, rfl, HS.out, HB.out, HA.out, (fun g h => .inl (by simp only [Value.ownBlock, Option.some.injEq] at h; exact h.symm)), Nat.le_refl _⟩
  case round =>
    obtain ⟨k, hk, rfl, hown, hbel, hat, hwhere, hw1⟩ := hrel
    by_cases hlt : k < R.length
    · obtain ⟨b, off, rfl, hlb, hd0, hd1⟩ := at_pair hat.out hlt
      obtain ⟨hb1, hb2⟩ := HB1.out b off rfl
      have hY := filter_take_yes R (otherP x) k hlt
      have hZ := filter_take_no R (otherP x) k hlt
      have hlen := filter_take_le R (otherP x) k
      obtain ⟨s, hs⟩ : ∃ s, s = R[k].1 := ⟨_, rfl⟩
      obtain ⟨z, hz⟩ : ∃ z, z = R[k].2 := ⟨_, rfl⟩
      have hp : R[k] = (s, z) := by rw [hs, hz]
      rw [← hs] at hd0
      rw [← hz] at hd1
      rw [hp] at hY hZ
      clear hs hz hp
      have HY := Lib.hid hY
      have HZ := Lib.hid hZ
      clear hY hZ
      have hsz := hbel.size
      by_cases hx : s = x
      · have HX := Lib.hid (HZ.out (by simp [otherP, hx]))
        have h1 := str_yes hx
        clear hx
        go_wp2
        go_roundw
        case rel => exact ⟨k + 1, by omega, by go_num, by show World.ownsRow _ _ _ _ _ _ _; rw [HX.out]; exact hown.out.alloc _, hbel.alloc hsz _, hat.out.alloc _, hwhere.out, by simp; omega⟩
        case measure => simp [intOf]; omega
      · have HX := Lib.hid (HY.out (by simp [otherP, hx]))
        have h1 := str_no hx
        clear hx
        go_wp2_with (at_builtin; refine wpList_append_own_at _ rfl _ _ 22 rfl w.heap.size 38 i0 (.agg #[.string { data := #[] }, .int .i64 0]) 2 24 Tryd.underlying22 hi hz0 hz1 hz2 rfl (by decide) _ _ _ rfl ((hown.out.alloc _).alloc _) ⟨_, 0, none⟩ 1 1 [.string s, .int .i64 z] rfl rfl (cells_new' _ _ _ _ rfl _ (by simp)) (pv_one [(s, z)]) (by unfold maxLen; omega) (by omega) (by simp; omega) ?_; intro v1 w5 hown1 hgrow1 _hnil1 hloc1; have HO := Lib.hid hown1; have HG := Lib.hid hgrow1; have HL := Lib.hid hloc1; clear hown1 hgrow1 _hnil1 hloc1)
        go_roundw
        case rel => exact ⟨k + 1, by omega, by go_num, by show World.ownsRow _ _ _ _ _ _ _; rw [HX.out, List.length_append, pv_app]; exact HO.out, ((hbel.alloc hsz _).alloc (by simp; omega) _).grown HG.out (by simp; omega) (own_from hown.out), ((hat.out.alloc _).alloc _).grown HG.out (fun e => by rcases hwhere.out b e.symm with h | h <;> omega), (fun g h => by rcases HL.out with e | e; exact hwhere.out g (e.symm.trans h); right; rw [e] at h; injection h with h; simp at h; omega), by have := HG.out.size; simp at this; omega⟩
        case measure => simp [intOf]; omega
    · go_wp2
      go_ret
      exact ⟨_, rfl, by have h1 := hown.out
                        rw [List.take_of_length_le (by omega)] at h1; rw [HD.out]; exact h1, hbel⟩
end Go.Proofs.YtibcfmfihcgijaaDoor
