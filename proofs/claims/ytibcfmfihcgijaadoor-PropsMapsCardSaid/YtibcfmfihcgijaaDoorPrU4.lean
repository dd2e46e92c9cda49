/- props' search in a map of texts (made by gen_str.py). -/
import Derived.Test.YtibcfmfihcgijaaDoorPrU3
namespace Go.Proofs.YtibcfmfihcgijaaDoor
open Go.RowKit M
set_option maxHeartbeats 4000000 in
theorem find1_intS (s t : ByteArray) (z : ByteArray) (w : World) :
    Calls Tryd.prog 63 #[.agg #[.string s, .string z], .string t] w fun e w' => e = .returned (.int .i64 (Lib.compareBytes s.data.toList t.data.toList)) ∧ Below w.heap.size w w' := by
  go_enter Tryd.func63, Tryd.ntmps63
  go_wp2_with (first | (go_at_call 61; refine (Tryd.strings_Compare _ _ _).mono ?_; rintro e w6 ⟨rfl, hw6⟩; subst hw6))
  go_ret
  exact ⟨rfl, below_alloc _ _⟩
/-- How a name that is sought stands to the pair at a place. -/
def cmpAtS (l : List ParS) (t : ByteArray) (k : Nat) : Int := if h : k < l.length then Lib.compareBytes l[k].1.data.toList t.data.toList else 1
/-- The place of the first pair that doesn't precede the name. -/
def SrchS (l : List ParS) (t : ByteArray) (k : Nat) : Prop := k ≤ l.length ∧ (∀ j, j < k → cmpAtS l t j < 0) ∧ (∀ j, k ≤ j → j < l.length → ¬ cmpAtS l t j < 0)
set_option maxHeartbeats 2000000 in
set_option maxRecDepth 100000 in
theorem bsearch_anyS (A : Option Addr) (n c : Nat) (l : List ParS) (t : ByteArray) (w : World) (hn : n = l.length) (hm : n ≤ 100000) (ha : At w A (pvS l))
    (hmono : ∀ a b, a ≤ b → b < l.length → cmpAtS l t b < 0 → cmpAtS l t a < 0) :
    Calls Tryd.prog 62 #[.slice A n c, .string t, .func (.func 63) #[] #[]] w fun e w' =>
      ∃ k : Nat, e = .returned (.tuple #[.int .i64 k, .bool (decide (k < n ∧ cmpAtS l t k = 0))]) ∧ SrchS l t k ∧ Below w.heap.size w w' := by
  have HN := Lib.hid hn
  have HA := Lib.hid ha
  have HM := Lib.hid hmono
  clear hn ha hmono
  go_enter Tryd.func62, Tryd.ntmps62
  go_wp2
  go_loopw [9, 10] (fun i j wr => ∃ a b : Nat, a ≤ b ∧ b ≤ n ∧ i = .int .i64 a ∧ j = .int .i64 b ∧ Hid (∀ q, q < a → cmpAtS l t q < 0) ∧ Hid (∀ q, b ≤ q → q < l.length → ¬ cmpAtS l t q < 0) ∧ Below w.heap.size w wr) (fun i j _ => (intOf j).toNat - (intOf i).toNat)
  case atStart => exact ⟨0, n, Nat.zero_le _, Nat.le_refl _, rfl, rfl, Lib.hid (fun q hq => absurd hq (Nat.not_lt_zero _)), Lib.hid (fun q h1 h2 => absurd h2 (by have := HN.out; omega)), Below.refl _ _⟩
  case round =>
    obtain ⟨a, b, hab, hbn, rfl, rfl, hlo, hhi, hbel⟩ := hrel
    have hhi0 := Lib.hid hhi.out
    by_cases hlt : a < b
    · obtain ⟨m, hmid⟩ : ∃ m, m = (a + b) / 2 := ⟨_, rfl⟩
      have hma : a ≤ m := by omega
      have hmb : m < b := by omega
      have he : ((a : Int) + (b : Int)) / 2 = (m : Int) := by omega
      have hm1 : m < l.length := by have := HN.out; omega
      obtain ⟨b1, o1, hA, hb1, hc1, hc1'⟩ := at_pairS HA.out hm1
      have hd0 := (below_cells hbel).1 b1 (o1 + m * 2) hb1
      have hd1 := (below_cells hbel).1 b1 (o1 + m * 2 + 1) hb1
      rw [hc1] at hd0
      rw [hc1'] at hd1
      clear hc1 hc1'
      have hcm : cmpAtS l t m = Lib.compareBytes l[m].1.data.toList t.data.toList := by simp [cmpAtS, hm1]
      have HCM := Lib.hid hcm
      have HMM := Lib.hid hmid
      clear hcm
      obtain ⟨s, hs⟩ : ∃ s, s = l[m].1 := ⟨_, rfl⟩
      obtain ⟨z, hz⟩ : ∃ z, z = l[m].2 := ⟨_, rfl⟩
      rw [← hs] at hd0 HCM
      rw [← hz] at hd1
      clear hs hz hmid
      have hmn : m < n := by omega
      subst hA
      go_wp2_with (first | (go_at_call 63; refine (find1_intS _ _ _ _).mono ?_; rintro e w6 ⟨rfl, hb6⟩))
      · rename_i hcl
        have hbel6 := below_join hbel hb6
        refine ⟨⟨m + 1, b, by omega, hbn, by go_num, rfl, Lib.hid (fun q hq => HM.out q m (by omega) hm1 (by rw [HCM.out]; exact hcl)), Lib.hid ?_, hbel6⟩, ?_⟩
        · exact fun q h1 h2 => Int.not_lt.mpr (hhi0.out q h1 h2)
        · simp [intOf]; omega
      · rename_i hcl
        have hbel6 := below_join hbel hb6
        refine ⟨⟨a, m, by omega, by omega, rfl, rfl, hlo, Lib.hid (fun q h1 h2 h3 => absurd (HM.out m q h1 h2 h3) (by rw [HCM.out]; omega)), hbel6⟩, ?_⟩
        simp [intOf]; omega
    · obtain rfl : a = b := by omega
      have hS : SrchS l t a := ⟨by have := HN.out; omega, hlo.out, hhi.out⟩
      by_cases han : a < n
      · have hm1 : a < l.length := by have := HN.out; omega
        obtain ⟨b1, o1, rfl, hb1, hc1, hc1'⟩ := at_pairS HA.out hm1
        have hd0 := (below_cells hbel).1 b1 (o1 + a * 2) hb1
        have hd1 := (below_cells hbel).1 b1 (o1 + a * 2 + 1) hb1
        rw [hc1] at hd0
        rw [hc1'] at hd1
        clear hc1 hc1'
        have hcm : cmpAtS l t a = Lib.compareBytes l[a].1.data.toList t.data.toList := by simp [cmpAtS, hm1]
        have HCM := Lib.hid hcm
        clear hcm
        obtain ⟨s, hs⟩ : ∃ s, s = l[a].1 := ⟨_, rfl⟩
        obtain ⟨z, hz⟩ : ∃ z, z = l[a].2 := ⟨_, rfl⟩
        rw [← hs] at hd0 HCM
        rw [← hz] at hd1
        clear hs hz
        go_wp2_with (first | (go_at_call 63; refine (find1_intS _ _ _ _).mono ?_; rintro e w6 ⟨rfl, hb6⟩))
        go_ret2
        refine ⟨a, ?_, hS, below_join hbel hb6⟩
        have hbq : ∀ x : Int, (x == 0) = decide (x = 0) := fun x => by by_cases h : x = 0 <;> simp [h]
        simp [han, HCM.out, hbq]
      · go_wp2
        go_ret2
        refine ⟨a, ?_, hS, hbel⟩
        simp [han]
set_option maxHeartbeats 2000000 in
set_option maxRecDepth 100000 in
theorem find_anyS (A : Option Addr) (n c : Nat) (l : List ParS) (t : ByteArray) (w : World) (hn : n = l.length) (hm : n ≤ 100000) (ha : At w A (pvS l))
    (hmono : ∀ a b, a ≤ b → b < l.length → cmpAtS l t b < 0 → cmpAtS l t a < 0) :
    Calls Tryd.prog 35 #[.slice A n c, .string t] w fun e w' =>
      ∃ k : Nat, SrchS l t k ∧ ((∃ h : k < l.length, cmpAtS l t k = 0 ∧ e = .returned (.tuple #[.string l[k].2, .bool true])) ∨ (¬ (k < l.length ∧ cmpAtS l t k = 0) ∧ e = .returned (.tuple #[.string { data := #[] }, .bool false]))) ∧ Below w.heap.size w w' := by
  have hB : Calls Tryd.prog 62 #[.slice A n c, .string t, .func (.func 63) #[] #[]] w fun e w' =>
      (∃ (k b1 o1 : Nat) (z : ByteArray), A = some ⟨b1, o1, none⟩ ∧ e = .returned (.tuple #[.int .i64 k, .bool true]) ∧ k < n ∧ w'.cell? ⟨b1, o1 + k * 2 + 1, none⟩ = some (.string z) ∧ Hid (SrchS l t k ∧ ∃ h : k < l.length, cmpAtS l t k = 0 ∧ z = l[k].2) ∧ Below w.heap.size w w') ∨ (∃ k : Nat, e = .returned (.tuple #[.int .i64 k, .bool false]) ∧ Hid (SrchS l t k ∧ ¬ (k < l.length ∧ cmpAtS l t k = 0)) ∧ Below w.heap.size w w') := by
    refine (bsearch_anyS A n c l t w hn hm ha hmono).mono ?_
    rintro e w1 ⟨k, rfl, hS, hbel⟩
    by_cases hk : k < n ∧ cmpAtS l t k = 0
    · have hkl : k < l.length := by omega
      obtain ⟨b1, o1, rfl, hb1, hc1, hc1'⟩ := at_pairS ha hkl
      have hd1 := (below_cells hbel).1 b1 (o1 + k * 2 + 1) hb1
      rw [hc1'] at hd1
      exact .inl ⟨k, b1, o1, _, rfl, by simp [hk.1, hk.2], hk.1, hd1, Lib.hid ⟨hS, hkl, hk.2, rfl⟩, hbel⟩
    · exact .inr ⟨k, by simp only [hk, decide_false], Lib.hid ⟨hS, fun h => hk ⟨by omega, h.2⟩⟩, hbel⟩
  clear hn ha hmono
  go_enter Tryd.func35, Tryd.ntmps35
  go_wp2_with (first | (go_at_call 62; refine hB.mono ?_; clear hB; rintro e w1 (⟨k, b1, o1, z, rfl, rfl, hk, hd, HQ, hbel⟩ | ⟨k, rfl, HQ, hbel⟩)))
  · obtain ⟨hS, hkl, hk2, rfl⟩ := HQ.out
    go_ret2
    exact ⟨k, hS, .inl ⟨hkl, hk2, rfl⟩, hbel⟩
  · go_ret2
    exact ⟨k, HQ.out.1, .inr ⟨HQ.out.2, rfl⟩, hbel⟩
theorem cmpAt_ltS {l : List ParS} {t : ByteArray} {k : Nat} (h : k < l.length) : (cmpAtS l t k < 0) ↔ blt l[k].1 t = true := by
  have h1 := St.cmpN_lt l[k].1 t
  unfold St.cmpN at h1
  unfold cmpAtS
  rw [dif_pos h, ← h1, decide_eq_true_iff]
theorem cmpAt_zeroS {l : List ParS} {t : ByteArray} {k : Nat} (h : k < l.length) (h0 : cmpAtS l t k = 0) : l[k].1 = t := by
  unfold cmpAtS at h0
  rw [dif_pos h, compare_less] at h0
  split at h0
  · cases h0
  · split at h0
    · rename_i h1
      exact ByteArray.ext (Array.ext' h1)
    · cases h0
theorem cmpAt_selfS {l : List ParS} {t : ByteArray} {k : Nat} (h : k < l.length) (h0 : l[k].1 = t) : cmpAtS l t k = 0 := by
  unfold cmpAtS
  rw [dif_pos h, h0, compare_less]
  have h1 : Op.bytesLess t.data.toList t.data.toList = false := less_irrefl _
  rw [h1]; simp
theorem rises_atS {m : List ParS} (hm : Rises m) {i j : Nat} (hij : i < j) (hj : j < m.length) : blt (m[i]'(by omega)).1 m[j].1 = true := List.pairwise_iff_getElem.1 hm i j (by omega) hj hij
theorem find_mapS (A : Option Addr) (n c : Nat) (m : List ParS) (t : ByteArray) (w : World) (hn : n = m.length) (hb : n ≤ 100000) (hm : Rises m) (ha : At w A (pvS m)) :
    Calls Tryd.prog 35 #[.slice A n c, .string t] w fun e w' =>
      (∃ z, getP m t = some z ∧ e = .returned (.tuple #[.string z, .bool true]) ∧ RowKit.Below w.heap.size w w') ∨ (getP m t = none ∧ e = .returned (.tuple #[.string { data := #[] }, .bool false]) ∧ RowKit.Below w.heap.size w w') := by
  refine (find_anyS A n c m t w hn hb ha (fun a b hab hbl h => ?_)).mono ?_
  · rw [cmpAt_ltS (by omega)]
    rw [cmpAt_ltS hbl] at h
    rcases Nat.lt_or_ge a b with h1 | h1
    · exact blt_trans (rises_atS hm h1 hbl) h
    · obtain rfl : a = b := by omega
      exact h
  · rintro e w' ⟨k, hS, h, hbel⟩
    rcases h with ⟨hk, h0, rfl⟩ | ⟨hno, rfl⟩
    · refine .inl ⟨_, ?_, rfl, hbel⟩
      have h1 := rises_get hm (List.getElem_mem hk)
      rw [cmpAt_zeroS hk h0] at h1
      exact h1
    · refine .inr ⟨?_, rfl, hbel⟩
      refine getP_none fun p hp e => hno ?_
      obtain ⟨i, hi, rfl⟩ := List.getElem_of_mem hp
      have h2 := cmpAt_selfS hi e
      have h3 : ¬ i < k := fun h => by have := hS.2.1 i h; omega
      have h4 : ¬ k < i := fun h => by
        have h5 := hS.2.2 k (Nat.le_refl _) (by omega)
        rw [cmpAt_ltS (by omega)] at h5
        exact h5 (by rw [← e]; exact rises_atS hm h hi)
      obtain rfl : i = k := by omega
      exact ⟨hi, h2⟩
end Go.Proofs.YtibcfmfihcgijaaDoor
