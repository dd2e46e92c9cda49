/- Contracts of the library's calls on lists of strings, in the contracts' own words; and Has, Same, Add, Drop, Mine of layer 3. -/
import Derived.Test.YtibcfmfihcgijaaClW1
import Derived.Test.YtibcfmfihcgijaaOwnPut
import Derived.Test.YtibcfmfihcgijaaShelf
namespace Go.Proofs.Ytibcfmfihcgijaa
open Go.RowKit M
theorem at_strs {w : World} {A : Option Addr} {ss : List ByteArray} (ha : At w A (sv ss)) (h0 : 0 < ss.length) :
    ∃ b off, A = some ⟨b, off, none⟩ ∧ b < w.heap.size ∧ ∀ j, j < ss.length → w.cell? ⟨b, off + j, none⟩ = some (.string (ss.getD j ByteArray.empty)) := by
  obtain ⟨b, off, e, hb, hc⟩ := ha (fun e => by have h1 := sv_len ss; rw [e] at h1; simp only [List.length_nil] at h1; omega)
  refine ⟨b, off, e, hb, fun j hj => hc j _ ?_⟩
  rw [sv_at ss j hj]
  simp [hj]
theorem contains_any (A : Option Addr) (n c : Nat) (ss : List ByteArray) (x : ByteArray) (w : World) (hn : n = ss.length) (hm : n ≤ maxLen) (ha : At w A (sv ss)) :
    Calls Try.prog 39 #[.slice A n c, .string x] w fun e w' => e = .returned (.bool (has ss x)) ∧ w = w' := by
  unfold maxLen at hm
  by_cases h0 : 0 < ss.length
  · obtain ⟨b, off, rfl, _, hc⟩ := at_strs ha h0
    refine (Try.slices_Contains_string b off n c ss x w (by omega) hm hc).mono ?_
    rintro e w' ⟨rfl, rfl⟩
    refine ⟨ret_bool' ?_, rfl⟩
    rw [List.take_of_length_le (by omega), Bool.eq_iff_iff, Lib.containsS_iff]
    simp [has]
  · have hs : ss = [] := List.eq_nil_of_length_eq_zero (by omega)
    subst hs
    simp at hn
    subst hn
    exact (Try.slices_Contains_string_empty A c x w).mono fun e w' h => ⟨h.1, h.2.symm⟩
theorem chas_any (A : Option Addr) (n c : Nat) (ss : List ByteArray) (x : ByteArray) (w : World) (hn : n = ss.length) (hm : n ≤ maxLen) (ha : At w A (sv ss)) :
    Calls Try.prog 18 #[.slice A n c, .string x] w fun e w' => e = .returned (.bool (has ss x)) ∧ w = w' := by
  have HC := Lib.hid (contains_any A n c ss x w hn hm ha)
  clear ha hn hm
  go_enter Try.func18, Try.ntmps18
  go_wp2_with (go_at_call 39; refine HC.out.mono ?_; rintro e w' ⟨rfl, rfl⟩)
  go_ret
  exact ⟨rfl, rfl⟩
theorem equal_any (A B : Option Addr) (n c m d : Nat) (xs ys : List ByteArray) (w : World) (hn : n = xs.length) (hm : m = ys.length) (hb : n ≤ maxLen) (hb2 : m ≤ maxLen) (ha : At w A (sv xs)) (hb' : At w B (sv ys)) :
    Calls Try.prog 45 #[.slice A n c, .slice B m d] w fun e w' => e = .returned (.bool (decide (xs = ys))) ∧ ∃ q, w' = w.drewN q := by
  unfold maxLen at hb hb2
  by_cases h0 : 0 < xs.length
  · by_cases h1 : n = m
    · obtain ⟨b1, o1, rfl, _, hc1⟩ := at_strs ha h0
      obtain ⟨b2, o2, rfl, _, hc2⟩ := at_strs hb' (by omega)
      refine (Try.slices_Equal_string b1 o1 n c b2 o2 m d xs ys w (by omega) (by omega) hb hb2 hc1 hc2).mono ?_
      rintro e w' ⟨rfl, q, rfl⟩
      exact ⟨ret_bool' (by rw [List.take_of_length_le (by omega), List.take_of_length_le (by omega)]), q, rfl⟩
    · refine (Try.slices_Equal_string_lens A B n c m d w h1).mono ?_
      rintro e w' ⟨rfl, rfl⟩
      exact ⟨ret_bool' (by rw [eq_comm, decide_eq_false_iff_not]; intro e; subst e; omega), 0, rfl⟩
  · have hs : xs = [] := List.eq_nil_of_length_eq_zero (by omega)
    subst hs
    simp at hn
    subst hn
    refine (Try.slices_Equal_string_empty A B c m d w hb2).mono ?_
    rintro e w' ⟨rfl, rfl⟩
    refine ⟨ret_bool' ?_, 0, rfl⟩
    rw [Bool.eq_iff_iff]
    simp only [decide_eq_true_eq]
    constructor
    · intro h; exact (List.eq_nil_of_length_eq_zero (by omega)).symm
    · intro h; rw [hm, ← h]; rfl
theorem csame_any (A B : Option Addr) (n c m d : Nat) (xs ys : List ByteArray) (w : World) (hn : n = xs.length) (hm : m = ys.length) (hb : n ≤ maxLen) (hb2 : m ≤ maxLen) (ha : At w A (sv xs)) (hb' : At w B (sv ys)) :
    Calls Try.prog 24 #[.slice A n c, .slice B m d] w fun e w' => e = .returned (.bool (decide (xs = ys))) ∧ ∃ q, w' = w.drewN q := by
  have HC := Lib.hid (equal_any A B n c m d xs ys w hn hm hb hb2 ha hb')
  clear ha hb' hn hm hb hb2
  go_enter Try.func24, Try.ntmps24
  go_wp2_with (go_at_call 45; refine HC.out.mono ?_; rintro e w' ⟨rfl, q, rfl⟩)
  go_ret
  exact ⟨rfl, _, rfl⟩
theorem own_nil' (w : World) (base : Nat) (e : TypeId) (size : Nat) : w.ownsRow base e size (.slice none 0 0) 0 [] := ⟨by simp, .inl ⟨rfl, rfl⟩⟩
theorem clone_any (A : Option Addr) (n c : Nat) (ss : List ByteArray) (w : World) (hn : n = ss.length) (hm : n ≤ 1000000) (ha : At w A (sv ss)) :
    Calls Try.prog 40 #[.slice A n c] w fun e w' => ∃ v, e = .returned v ∧ w'.ownsRow w.heap.size 9 1 v n (sv ss) ∧ Below w.heap.size w w' := by
  by_cases h0 : 0 < ss.length
  · obtain ⟨b, off, rfl, _, hc⟩ := at_strs ha h0
    refine (Try.slices_Clone_string b off n c ss w (by omega) (by omega) hc).mono ?_
    rintro e w' ⟨v, rfl, h1, _, h2⟩
    rw [List.take_of_length_le (by omega)] at h1
    exact ⟨v, rfl, h1, h2⟩
  · have hs : ss = [] := List.eq_nil_of_length_eq_zero (by omega)
    subst hs
    simp at hn
    subst hn
    cases A with
    | none =>
      refine (Try.slices_Clone_string_nil 0 c w).mono ?_
      rintro e w' ⟨rfl, rfl⟩
      exact ⟨_, rfl, own_nil' _ _ _ _, Below.refl _ _⟩
    | some a =>
      refine (Try.slices_Clone_string_zero a c w).mono ?_
      rintro e w' ⟨v, rfl, h1, _, h2⟩
      exact ⟨v, rfl, h1, h2⟩
theorem cadd_any (A : Option Addr) (n c : Nat) (ss : List ByteArray) (x : ByteArray) (w : World) (hn : n = ss.length) (hm : n ≤ 1000000) (ha : At w A (sv ss)) :
    Calls Try.prog 19 #[.slice A n c, .string x] w fun e w' => ∃ v, e = .returned v ∧ w'.ownsRow w.heap.size 9 1 v (add ss x).length (sv (add ss x)) ∧ Below w.heap.size w w' := by
  have HN := Lib.hid hn
  have HA := Lib.hid ha
  clear hn ha
  obtain ⟨i0, hi, hz0, hz1, hz2⟩ := info_parts infoStr
  by_cases hx : x ∈ ss
  · have HX := Lib.hid hx
    have hh : has ss x = true := has_yes hx
    have HH := Lib.hid hh
    clear hh hx
    go_enter Try.func19, Try.ntmps19
    go_wp2_with (first | (go_at_call 40; refine (clone_any A n c ss _ HN.out hm HA.out).mono ?_; rintro e w1 ⟨v, rfl, hown, hbel⟩; have HO := Lib.hid hown; have HB := Lib.hid hbel; clear hown hbel) | (go_at_call 18; refine (chas_any A n c ss x _ HN.out (by unfold maxLen; omega) (HA.out.below HB.out)).mono ?_; rintro e w2 ⟨rfl, rfl⟩; rw [HH.out]))
    go_ret
    refine ⟨_, rfl, ?_, HB.out⟩
    have h1 : add ss x = ss := by unfold add; rw [if_pos HX.out]
    rw [h1, ← HN.out]
    exact HO.out
  · have HX := Lib.hid hx
    have hh : has ss x = false := has_no hx
    have HH := Lib.hid hh
    clear hh hx
    go_enter Try.func19, Try.ntmps19
    go_wp2_with (first | (go_at_call 40; refine (clone_any A n c ss _ HN.out hm HA.out).mono ?_; rintro e w1 ⟨v, rfl, hown, hbel⟩; have HO := Lib.hid hown; have HB := Lib.hid hbel; have hsz := hbel.size; clear hown hbel) | (go_at_call 18; refine (chas_any A n c ss x _ HN.out (by unfold maxLen; omega) (HA.out.below HB.out)).mono ?_; rintro e w2 ⟨rfl, rfl⟩; rw [HH.out]) | (at_builtin; refine wpList_append_own _ rfl _ _ 22 rfl w.heap.size 9 i0 (.string { data := #[] }) 1 16 Try.underlying22 hi hz0 hz1 hz2 rfl (by decide) _ _ _ rfl (HO.out.alloc _) ⟨_, 0, none⟩ 1 1 [.string x] rfl rfl (cell_one_new _ _ _) (sv_one [x]) (by unfold maxLen; omega) (by omega) (by simp; omega) ?_; intro v1 w2 hown1 hgrow1 _hnil1; have HO1 := Lib.hid hown1; have HG := Lib.hid hgrow1; clear hown1 hgrow1 _hnil1))
    go_ret
    refine ⟨_, rfl, ?_, (HB.out.alloc hsz _).grown HG.out (by simp; omega) (own_from HO.out)⟩
    have h1 : add ss x = ss ++ [x] := by unfold add; rw [if_neg HX.out]
    rw [h1, List.length_append, ← HN.out, sv_app]
    exact HO1.out
end Go.Proofs.Ytibcfmfihcgijaa
