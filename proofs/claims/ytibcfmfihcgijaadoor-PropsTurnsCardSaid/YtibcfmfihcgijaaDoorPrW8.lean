/- Contract of the library's search at pairs, with props' comparison at its calls. -/
import Derived.Test.YtibcfmfihcgijaaDoorPrW7
namespace Go.Proofs.YtibcfmfihcgijaaDoor
open Go.RowKit M
/-- How a name that is sought stands to the pair at a place. -/
def cmpAt (l : List Par) (t : ByteArray) (k : Nat) : Int := if h : k < l.length then Lib.compareBytes l[k].1.data.toList t.data.toList else 1
/-- The place of the first pair that doesn't precede the name. -/
def Srch (l : List Par) (t : ByteArray) (k : Nat) : Prop := k ≤ l.length ∧ (∀ j, j < k → cmpAt l t j < 0) ∧ (∀ j, k ≤ j → j < l.length → ¬ cmpAt l t j < 0)
set_option maxHeartbeats 2000000 in
set_option maxRecDepth 100000 in
theorem bsearch_any (A : Option Addr) (n c : Nat) (l : List Par) (t : ByteArray) (w : World) (hn : n = l.length) (hm : n ≤ 100000) (ha : At w A (pv l))
    (hmono : ∀ a b, a ≤ b → b < l.length → cmpAt l t b < 0 → cmpAt l t a < 0) :
    Calls Tryd.prog 59 #[.slice A n c, .string t, .func (.func 60) #[] #[]] w fun e w' =>
      ∃ k : Nat, e = .returned (.tuple #[.int .i64 k, .bool (decide (k < n ∧ cmpAt l t k = 0))]) ∧ Srch l t k ∧ Below w.heap.size w w' := by
  have HN := Lib.hid hn
  have HA := Lib.hid ha
  have HM := Lib.hid hmono
  clear hn ha hmono
  go_enter Tryd.func59, Tryd.ntmps59
  go_wp2
  go_loopw [9, 10] (fun i j wr => ∃ a b : Nat, a ≤ b ∧ b ≤ n ∧ i = .int .i64 a ∧ j = .int .i64 b ∧ Hid (∀ q, q < a → cmpAt l t q < 0) ∧ Hid (∀ q, b ≤ q → q < l.length → ¬ cmpAt l t q < 0) ∧ Below w.heap.size w wr) (fun i j _ => (intOf j).toNat - (intOf i).toNat)
  case atStart => exact ⟨0, n, Nat.zero_le _, Nat.le_refl _, rfl, rfl, Lib.hid (fun q hq => absurd hq (Nat.not_lt_zero _)), Lib.hid (fun q h1 h2 => absurd h2 (by have := HN.out; omega)), Below.refl _ _⟩
  case round =>
    obtain ⟨a, b, hab, hbn, rfl, rfl, hlo, hhi, hbel⟩ := hrel
    have hhi0 := Lib.hid hhi.out
    by_cases hlt : a < b
    · obtain ⟨m, hmid⟩ : ∃ m, m = (a + b) / 2 := ⟨_, rfl⟩
      have hma : a ≤ m := by omega
      have hmb : m < b := by omega
      have he : ((a : Int) + (b : Int)) / 2 = (m : Int) := by omega
      have hm1 : m < l.length := by have := HN.out; omega
      obtain ⟨b1, o1, hA, hb1, hc1, hc1'⟩ := at_pair HA.out hm1
      have hd0 := (below_cells hbel).1 b1 (o1 + m * 2) hb1
      have hd1 := (below_cells hbel).1 b1 (o1 + m * 2 + 1) hb1
      rw [hc1] at hd0
      rw [hc1'] at hd1
      clear hc1 hc1'
      have hcm : cmpAt l t m = Lib.compareBytes l[m].1.data.toList t.data.toList := by simp [cmpAt, hm1]
      have HCM := Lib.hid hcm
      have HMM := Lib.hid hmid
      clear hcm
      obtain ⟨s, hs⟩ : ∃ s, s = l[m].1 := ⟨_, rfl⟩
      obtain ⟨z, hz⟩ : ∃ z, z = l[m].2 := ⟨_, rfl⟩
      rw [← hs] at hd0 HCM
      rw [← hz] at hd1
      clear hs hz hmid
      have hmn : m < n := by omega
      subst hA
      go_wp2_with (first | (go_at_call 60; refine (find1_int _ _ _ _).mono ?_; rintro e w6 ⟨rfl, hb6⟩))
      · rename_i hcl
        have hbel6 := below_join hbel hb6
        refine ⟨⟨m + 1, b, by omega, hbn, by go_num, rfl, Lib.hid (fun q hq => HM.out q m (by omega) hm1 (by rw [HCM.out]; exact hcl)), Lib.hid ?_, hbel6⟩, ?_⟩
        · exact fun q h1 h2 => Int.not_lt.mpr (hhi0.out q h1 h2)
        · simp [intOf]; omega
      · rename_i hcl
        have hbel6 := below_join hbel hb6
        refine ⟨⟨a, m, by omega, by omega, rfl, rfl, hlo, Lib.hid (fun q h1 h2 h3 => absurd (HM.out m q h1 h2 h3) (by rw [HCM.out]; omega)), hbel6⟩, ?_⟩
        simp [intOf]; omega
    · obtain rfl : a = b := by omega
      have hS : Srch l t a := ⟨by have := HN.out; omega, hlo.out, hhi.out⟩
      by_cases han : a < n
      · have hm1 : a < l.length := by have := HN.out; omega
        obtain ⟨b1, o1, rfl, hb1, hc1, hc1'⟩ := at_pair HA.out hm1
        have hd0 := (below_cells hbel).1 b1 (o1 + a * 2) hb1
        have hd1 := (below_cells hbel).1 b1 (o1 + a * 2 + 1) hb1
        rw [hc1] at hd0
        rw [hc1'] at hd1
        clear hc1 hc1'
        have hcm : cmpAt l t a = Lib.compareBytes l[a].1.data.toList t.data.toList := by simp [cmpAt, hm1]
        have HCM := Lib.hid hcm
        clear hcm
        obtain ⟨s, hs⟩ : ∃ s, s = l[a].1 := ⟨_, rfl⟩
        obtain ⟨z, hz⟩ : ∃ z, z = l[a].2 := ⟨_, rfl⟩
        rw [← hs] at hd0 HCM
        rw [← hz] at hd1
        clear hs hz
        go_wp2_with (first | (go_at_call 60; refine (find1_int _ _ _ _).mono ?_; rintro e w6 ⟨rfl, hb6⟩))
        go_ret2
        refine ⟨a, ?_, hS, below_join hbel hb6⟩
        have hbq : ∀ x : Int, (x == 0) = decide (x = 0) := fun x => by by_cases h : x = 0 <;> simp [h]
        simp [han, HCM.out, hbq]
      · go_wp2
        go_ret2
        refine ⟨a, ?_, hS, hbel⟩
        simp [han]
end Go.Proofs.YtibcfmfihcgijaaDoor
