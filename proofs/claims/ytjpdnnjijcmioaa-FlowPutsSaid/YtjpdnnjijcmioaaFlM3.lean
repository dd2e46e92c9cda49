/- Plain facts on boxes in rows: the document's rows, one behind the other, come to what is put box by box. -/
import Derived.Test.YtjpdnnjijcmioaaFlM2
namespace Go.Proofs.Ytjpdnnjijcmioaa
open Go.RowKit M
namespace Fl
/-- a row begins with box k. -/
def fresh (sp : Int) (bg : Nat → Int → Bool) (L : List Bx) (k : Nat) : Bool := decide (k = 0) || bg k (ad (run sp bg L k).1 (ln (L.getD k (0, 0)).1))
/-- N rows of k boxes; row r is of the boxes from s r on. -/
structure Parts (sp : Int) (bg : Nat → Int → Bool) (L : List Bx) (N k : Nat) (s : Nat → Nat) : Prop where
  z : s 0 = 0
  e : s N = k
  up : ∀ r, r < N → s r < s (r + 1)
  fr : ∀ r, r < N → fresh sp bg L (s r) = true
  st : ∀ r, r < N → ∀ i, s r < i → i < s (r + 1) → fresh sp bg L i = false
theorem Parts.none (sp : Int) (bg : Nat → Int → Bool) (L : List Bx) : Parts sp bg L 0 0 (fun _ => 0) := ⟨rfl, rfl, fun r h => by omega, fun r h => by omega, fun r h => by omega⟩
theorem Parts.new {sp : Int} {bg : Nat → Int → Bool} {L : List Bx} {N k : Nat} {s : Nat → Nat} (h : Parts sp bg L N k s) (hf : fresh sp bg L k = true) : Parts sp bg L (N + 1) (k + 1) (fun j => if j = N + 1 then k + 1 else s j) := by
  refine ⟨?_, ?_, fun r hr => ?_, fun r hr => ?_, fun r hr i h1 h2 => ?_⟩
  · (try simp only); rw [if_neg (by omega)]; exact h.z
  · simp
  · try simp only
    rw [if_neg (show ¬ r = N + 1 by omega)]
    by_cases e : r = N
    · subst e; rw [if_pos rfl, h.e]; omega
    · rw [if_neg (by omega)]; exact h.up r (by omega)
  · try simp only
    rw [if_neg (show ¬ r = N + 1 by omega)]
    by_cases e : r = N
    · subst e; rw [h.e]; exact hf
    · exact h.fr r (by omega)
  · try simp only at h1 h2
    rw [if_neg (show ¬ r = N + 1 by omega)] at h1
    by_cases e : r = N
    · subst e; rw [if_pos rfl] at h2; rw [h.e] at h1; omega
    · rw [if_neg (by omega)] at h2; exact h.st r (by omega) i h1 h2
theorem Parts.more {sp : Int} {bg : Nat → Int → Bool} {L : List Bx} {N k : Nat} {s : Nat → Nat} (h : Parts sp bg L (N + 1) k s) (hf : fresh sp bg L k = false) : Parts sp bg L (N + 1) (k + 1) (fun j => if j = N + 1 then k + 1 else s j) := by
  have hk := h.e
  refine ⟨?_, ?_, fun r hr => ?_, fun r hr => ?_, fun r hr i h1 h2 => ?_⟩
  · (try simp only); rw [if_neg (by omega)]; exact h.z
  · simp
  · try simp only
    rw [if_neg (show ¬ r = N + 1 by omega)]
    have := h.up r (by omega)
    by_cases e : r = N
    · subst e; rw [if_pos rfl]; omega
    · rw [if_neg (by omega)]; exact this
  · try simp only
    rw [if_neg (show ¬ r = N + 1 by omega)]
    exact h.fr r (by omega)
  · try simp only at h1 h2
    rw [if_neg (show ¬ r = N + 1 by omega)] at h1
    by_cases e : r = N
    · subst e
      rw [if_pos rfl] at h2
      by_cases e2 : i = k
      · subst e2; exact hf
      · exact h.st r (by omega) i h1 (by omega)
    · rw [if_neg (by omega)] at h2; exact h.st r (by omega) i h1 h2
theorem Parts.le {sp : Int} {bg : Nat → Int → Bool} {L : List Bx} {N k : Nat} {s : Nat → Nat} (h : Parts sp bg L N k s) : ∀ r, r ≤ N → s r ≤ k ∧ r ≤ s r := by
  have key : ∀ d r, r + d = N → s r ≤ s N := by
    intro d
    induction d with
    | zero => intro r hr; rw [show r = N by omega]; exact Nat.le_refl _
    | succ d ih => intro r hr; have := ih (r + 1) (by omega); have := h.up r (by omega); omega
  have low : ∀ r, r ≤ N → r ≤ s r := by
    intro r
    induction r with
    | zero => intro _; exact Nat.zero_le _
    | succ r ih => intro hr; have := ih (by omega); have := h.up r (by omega); omega
  intro r hr
  have := key (N - r) r (by omega)
  rw [h.e] at this
  exact ⟨this, low r hr⟩
theorem Parts.some {sp : Int} {bg : Nat → Int → Bool} {L : List Bx} {N k : Nat} {s : Nat → Nat} (h : Parts sp bg L N k s) (hk : 0 < k) : 0 < N := by
  rcases Nat.eq_zero_or_pos N with e | e
  · subst e; have := h.e; have := h.z; omega
  · exact e
/-- the numbers of a row -/
def nums (a b : Nat) : List Int := (List.range (b - a)).map fun j => ((a + j : Nat) : Int)
theorem nums_len (a b : Nat) : (nums a b).length = b - a := by simp [nums]
theorem nums_at (a b j : Nat) (h : j < b - a) : (nums a b)[j]? = some ((a + j : Nat) : Int) := by simp [nums, h]
theorem nums_more (a b : Nat) (h : a ≤ b) : nums a (b + 1) = nums a b ++ [(b : Int)] := by
  unfold nums
  rw [show b + 1 - a = (b - a) + 1 by omega, List.range_succ, List.map_append]
  simp
  omega
theorem nums_self (a : Nat) : nums a a = [] := by simp [nums]
theorem ad_max (y a b : Int) : ad y (max a b) = max (ad y a) (ad y b) := by unfold ad st; omega
theorem ad_up {y a : Int} (hy0 : 0 ≤ y) (hy : y ≤ 2147483647) (ha : 0 ≤ a) : y ≤ ad y a ∧ ad y a ≤ 2147483647 := by unfold ad st; omega
theorem run_H {sp : Int} {bg : Nat → Int → Bool} {L : List Bx} : ∀ k, 0 ≤ (run sp bg L k).2.2.2 ∧ (run sp bg L k).2.2.2 ≤ 2147483647
  | 0 => by simp [run]
  | k + 1 => by
    have ih := run_H (sp := sp) (bg := bg) (L := L) k
    show 0 ≤ (stp _ _ _ _ _).2.2.2 ∧ (stp _ _ _ _ _).2.2.2 ≤ 2147483647
    unfold stp
    simp only
    have h : ∀ y z : Int, ad y z ≤ 2147483647 := fun y z => st_hi _
    have := h (at0 sp bg (run sp bg L k) k (L.getD k (0, 0))).2 (ln (L.getD k (0, 0)).2)
    omega
/-- where place stands in a row that begins with box a, j boxes on, y where the row lies, h how high it is so far. -/
structure Stand (sp : Int) (bg : Nat → Int → Bool) (L : List Bx) (a i : Nat) (x y h : Int) : Prop where
  ge : a ≤ i
  y0 : y = if a = 0 then 0 else ad (run sp bg L a).2.2.2 sp
  h0 : 0 ≤ h
  one : i = a → x = 0 ∧ h = 0
  far : a < i → x = (run sp bg L i).1 ∧ y = (run sp bg L i).2.1 ∧ (run sp bg L i).2.2.2 = max (run sp bg L a).2.2.2 (ad y h)
theorem Stand.start (sp : Int) (bg : Nat → Int → Bool) (L : List Bx) (a : Nat) : Stand sp bg L a a 0 (if a = 0 then 0 else ad (run sp bg L a).2.2.2 sp) 0 :=
  ⟨Nat.le_refl _, rfl, by omega, fun _ => ⟨rfl, rfl⟩, fun h => absurd h (Nat.lt_irrefl _)⟩
theorem Stand.pt {sp : Int} {bg : Nat → Int → Bool} {L : List Bx} {a i : Nat} {x y h : Int} (H : Stand sp bg L a i x y h) (ha : fresh sp bg L a = true) (hs : a < i → fresh sp bg L i = false) : pt sp bg L i = (x, y) := by
  unfold Fl.pt
  by_cases e : i = a
  · subst e
    obtain ⟨rfl, rfl⟩ := H.one rfl
    have hy := H.y0
    by_cases h0 : i = 0
    · subst h0
      rw [if_pos rfl] at hy
      subst hy
      unfold at0
      rw [if_neg (by omega)]
      rfl
    · rw [if_neg h0] at hy
      subst hy
      unfold fresh at ha
      rw [decide_eq_false h0, Bool.false_or] at ha
      unfold at0
      rw [if_pos ⟨by omega, ha⟩]
  · have hlt : a < i := by have := H.ge; omega
    obtain ⟨rfl, rfl, _⟩ := H.far hlt
    have h1 := hs hlt
    unfold fresh at h1
    rw [decide_eq_false (by omega), Bool.false_or] at h1
    unfold at0
    rw [if_neg (by rw [h1]; simp)]
theorem Stand.next {sp : Int} {bg : Nat → Int → Bool} {L : List Bx} {a i : Nat} {x y h : Int} (H : Stand sp bg L a i x y h) (ha : fresh sp bg L a = true) (hs : a < i → fresh sp bg L i = false) :
    Stand sp bg L a (i + 1) (ad (ad x (ln (L.getD i (0, 0)).1)) sp) y (max h (ln (L.getD i (0, 0)).2)) ∧ (run sp bg L (i + 1)).2.2.1 = max (run sp bg L i).2.2.1 (ad x (ln (L.getD i (0, 0)).1)) := by
  have hp := H.pt ha hs
  have hr : run sp bg L (i + 1) = stp sp bg (run sp bg L i) i (L.getD i (0, 0)) := rfl
  have hp' : at0 sp bg (run sp bg L i) i (L.getD i (0, 0)) = (x, y) := hp
  unfold stp at hr
  rw [hp'] at hr
  have hl := ln_lo (L.getD i (0, 0)).2
  refine ⟨⟨by have := H.ge; omega, H.y0, by have := H.h0; omega, fun e => by have := H.ge; omega, fun _ => ?_⟩, by rw [hr]⟩
  rw [hr]
  refine ⟨rfl, rfl, ?_⟩
  simp only
  by_cases e : i = a
  · subst e
    obtain ⟨_, rfl⟩ := H.one rfl
    rw [show max (0 : Int) (ln (L.getD i (0, 0)).2) = ln (L.getD i (0, 0)).2 by omega]
  · obtain ⟨_, _, h3⟩ := H.far (by have := H.ge; omega)
    rw [h3, ad_max]
    omega
theorem Stand.ends {sp : Int} {bg : Nat → Int → Bool} {L : List Bx} {a i : Nat} {x y h : Int} (H : Stand sp bg L a i x y h) (hs0 : 0 ≤ sp) (hi : a < i) : (run sp bg L i).2.2.2 = ad y h := by
  obtain ⟨_, _, h3⟩ := H.far hi
  rw [h3]
  have h1 := run_H (sp := sp) (bg := bg) (L := L) a
  have h2 := H.y0
  have h5 := H.h0
  by_cases e : a = 0
  · subst e
    rw [if_pos rfl] at h2
    subst h2
    have h4 := ad_up (y := 0) (a := h) (by omega) (by omega) h5
    show max (0 : Int) (ad 0 h) = _
    omega
  · rw [if_neg e] at h2
    have h3 := ad_up h1.1 h1.2 hs0
    rw [← h2] at h3
    have h4 := ad_up (y := y) (a := h) (by omega) (by omega) h5
    omega
end Fl
end Go.Proofs.Ytjpdnnjijcmioaa
