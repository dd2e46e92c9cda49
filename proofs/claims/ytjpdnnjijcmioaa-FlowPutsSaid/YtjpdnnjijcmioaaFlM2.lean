/- Plain facts on putting small boxes: nothing comes to an end; boxes are apart, and lie within the whole; columns. -/
import Derived.Test.YtjpdnnjijcmioaaFlW4
namespace Go.Proofs.Ytjpdnnjijcmioaa
open Go.RowKit M
namespace Fl
theorem ad_small {a b : Int} (ha : 0 ≤ a) (hb : 0 ≤ b) (h : a + b ≤ 2147483647) : ad a b = a + b := by unfold ad st; omega
theorem ln_small {a : Int} (ha : 0 ≤ a) (h : a ≤ 2147483647) : ln a = a := by unfold ln clp; omega
/-- boxes of up to `q` by 1023 -/
def Few (q : Int) (L : List Bx) : Prop := ∀ k, 0 ≤ (L.getD k (0, 0)).1 ∧ (L.getD k (0, 0)).1 ≤ q ∧ 0 ≤ (L.getD k (0, 0)).2 ∧ (L.getD k (0, 0)).2 ≤ 1023
structure Within (k : Nat) (s : S4) : Prop where
  x0 : 0 ≤ s.1
  x1 : s.1 ≤ k * 2100
  y0 : 0 ≤ s.2.1
  y1 : s.2.1 ≤ s.2.2.2
  w0 : 0 ≤ s.2.2.1
  w1 : s.2.2.1 ≤ k * 2100
  h1 : s.2.2.2 ≤ k * 1100
/-- one step, with plain sums -/
theorem step_small {q sp : Int} {bg : Nat → Int → Bool} {L : List Bx} {k : Nat} (hq0 : 0 ≤ q) (hq : q ≤ 2047) (hs0 : 0 ≤ sp) (hs : sp ≤ 15) (hL : Few q L) (hk : k ≤ 40) (hw : Within k (run sp bg L k)) :
    pt sp bg L k = (if 0 < k ∧ bg k ((run sp bg L k).1 + (L.getD k (0, 0)).1) = true then (0, (run sp bg L k).2.2.2 + sp) else ((run sp bg L k).1, (run sp bg L k).2.1)) ∧
    run sp bg L (k + 1) = ((pt sp bg L k).1 + (L.getD k (0, 0)).1 + sp, (pt sp bg L k).2, max (run sp bg L k).2.2.1 ((pt sp bg L k).1 + (L.getD k (0, 0)).1), max (run sp bg L k).2.2.2 ((pt sp bg L k).2 + (L.getD k (0, 0)).2)) ∧
    Within (k + 1) (run sp bg L (k + 1)) := by
  obtain ⟨b1, b2, b3, b4⟩ := hL k
  have e1 : run sp bg L (k + 1) = stp sp bg (run sp bg L k) k (L.getD k (0, 0)) := rfl
  have e2 : pt sp bg L k = at0 sp bg (run sp bg L k) k (L.getD k (0, 0)) := rfl
  rw [e1, e2]
  generalize run sp bg L k = s at *
  generalize L.getD k (0, 0) = b at *
  obtain ⟨x, y, W, H⟩ := s
  obtain ⟨bw, bh⟩ := b
  obtain ⟨x0, x1, y0, y1, w0, w1, h1⟩ := hw
  simp only at x0 x1 y0 y1 w0 w1 h1 b1 b2 b3 b4
  have e3 : ln bw = bw := ln_small b1 (by omega)
  have e4 : ln bh = bh := ln_small b3 (by omega)
  have e5 : ad x bw = x + bw := ad_small x0 b1 (by omega)
  have e6 : ad H sp = H + sp := ad_small (by omega) hs0 (by omega)
  have e7 : at0 sp bg (x, y, W, H) k (bw, bh) = (if 0 < k ∧ bg k (x + bw) = true then (0, H + sp) else (x, y)) := by
    unfold at0
    simp only [e3, e5, e6]
  have key : ∀ p : Bx, 0 ≤ p.1 → p.1 ≤ x → 0 ≤ p.2 → p.2 ≤ H + sp → at0 sp bg (x, y, W, H) k (bw, bh) = p →
      stp sp bg (x, y, W, H) k (bw, bh) = (p.1 + bw + sp, p.2, max W (p.1 + bw), max H (p.2 + bh)) ∧ Within (k + 1) (p.1 + bw + sp, p.2, max W (p.1 + bw), max H (p.2 + bh)) := by
    intro p p0 p1 p2 p3 hp
    have f1 : ad p.1 bw = p.1 + bw := ad_small p0 b1 (by omega)
    have f2 : ad (p.1 + bw) sp = p.1 + bw + sp := ad_small (by omega) hs0 (by omega)
    have f3 : ad p.2 bh = p.2 + bh := ad_small p2 b3 (by omega)
    refine ⟨?_, ?_⟩
    · unfold stp
      rw [hp]
      simp only [e3, e4, f1, f2, f3]
    · constructor <;> simp only <;> omega
  refine ⟨e7, ?_⟩
  rw [e7]
  by_cases hc : 0 < k ∧ bg k (x + bw) = true
  · rw [if_pos hc] at e7 ⊢
    obtain ⟨a1, a2⟩ := key _ (by simp) (by simpa using x0) (by simp only; omega) (by simp) e7
    exact ⟨a1, by rw [a1]; exact a2⟩
  · rw [if_neg hc] at e7 ⊢
    obtain ⟨a1, a2⟩ := key _ (by simpa using x0) (by simp) (by simpa using y0) (by simp only; omega) e7
    exact ⟨a1, by rw [a1]; exact a2⟩
theorem within {q sp : Int} {bg : Nat → Int → Bool} {L : List Bx} (hq0 : 0 ≤ q) (hq : q ≤ 2047) (hs0 : 0 ≤ sp) (hs : sp ≤ 15) (hL : Few q L) : ∀ k, k ≤ 41 → Within k (run sp bg L k)
  | 0, _ => by constructor <;> simp [run]
  | k + 1, h => (step_small hq0 hq hs0 hs hL (by omega) (within hq0 hq hs0 hs hL k (by omega))).2.2
/-- boxes ahead: they lie within what there is, and end ahead of where one stands, in its row or above it. -/
def Past (sp : Int) (bg : Nat → Int → Bool) (L : List Bx) (k : Nat) : Prop := ∀ j, j < k → 0 ≤ (pt sp bg L j).1 ∧ 0 ≤ (pt sp bg L j).2 ∧ (pt sp bg L j).1 + (L.getD j (0, 0)).1 ≤ (run sp bg L k).2.2.1 ∧ (pt sp bg L j).2 + (L.getD j (0, 0)).2 ≤ (run sp bg L k).2.2.2 ∧
  (((pt sp bg L j).2 = (run sp bg L k).2.1 ∧ (pt sp bg L j).1 + (L.getD j (0, 0)).1 ≤ (run sp bg L k).1) ∨ (pt sp bg L j).2 + (L.getD j (0, 0)).2 ≤ (run sp bg L k).2.1)
theorem past {q sp : Int} {bg : Nat → Int → Bool} {L : List Bx} (hq0 : 0 ≤ q) (hq : q ≤ 2047) (hs0 : 0 ≤ sp) (hs : sp ≤ 15) (hL : Few q L) : ∀ k, k ≤ 41 → Past sp bg L k
  | 0, _ => fun j h => absurd h (Nat.not_lt_zero j)
  | k + 1, h => by
    have hw := within (sp := sp) (bg := bg) hq0 hq hs0 hs hL k (by omega)
    have ih := past (sp := sp) (bg := bg) hq0 hq hs0 hs hL k (by omega)
    obtain ⟨e1, e2, _⟩ := step_small hq0 hq hs0 hs hL (by omega) hw
    obtain ⟨b1, b2, b3, b4⟩ := hL k
    obtain ⟨x0, x1, y0, y1, w0, w1, h1⟩ := hw
    intro j hj
    rw [e2]
    simp only
    by_cases hjk : j = k
    · subst hjk
      have hp : 0 ≤ (pt sp bg L j).1 ∧ 0 ≤ (pt sp bg L j).2 := by
        rw [e1]; split <;> constructor <;> simp only <;> omega
      refine ⟨hp.1, hp.2, by omega, by omega, .inl ⟨rfl, by omega⟩⟩
    · obtain ⟨i1, i2, i3, i4, i5⟩ := ih j (by omega)
      refine ⟨i1, i2, by omega, by omega, ?_⟩
      by_cases hc : 0 < k ∧ bg k ((run sp bg L k).1 + (L.getD k (0, 0)).1) = true
      · rw [if_pos hc] at e1
        right
        rw [e1]
        simp only
        omega
      · rw [if_neg hc] at e1
        rw [e1]
        simp only
        omega
/-- no two of them have a point in common. -/
theorem apart {q sp : Int} {bg : Nat → Int → Bool} {L : List Bx} (hq0 : 0 ≤ q) (hq : q ≤ 2047) (hs0 : 0 ≤ sp) (hs : sp ≤ 15) (hL : Few q L) {i j : Nat} (hi : i ≤ 40) (hj : j < i) :
    ¬ ((pt sp bg L i).1 < (pt sp bg L j).1 + (L.getD j (0, 0)).1 ∧ (pt sp bg L j).1 < (pt sp bg L i).1 + (L.getD i (0, 0)).1 ∧ (pt sp bg L i).2 < (pt sp bg L j).2 + (L.getD j (0, 0)).2 ∧ (pt sp bg L j).2 < (pt sp bg L i).2 + (L.getD i (0, 0)).2) := by
  have hw := within (sp := sp) (bg := bg) hq0 hq hs0 hs hL i (by omega)
  obtain ⟨i1, i2, i3, i4, i5⟩ := past (sp := sp) (bg := bg) hq0 hq hs0 hs hL i (by omega) j hj
  obtain ⟨e1, e2, _⟩ := step_small hq0 hq hs0 hs hL (by omega) hw
  by_cases hc : 0 < i ∧ bg i ((run sp bg L i).1 + (L.getD i (0, 0)).1) = true
  · rw [if_pos hc] at e1
    rw [e1]
    simp only
    omega
  · rw [if_neg hc] at e1
    rw [e1]
    simp only
    omega
/-- in rows of a width -/
theorem fits {width sp : Int} {L : List Bx} (hw0 : 0 ≤ width) (hw1 : width ≤ 2047) (hs0 : 0 ≤ sp) (hs : sp ≤ 15) (hL : Few 1023 L) {i : Nat} (hi : i ≤ 40) :
    ¬ (0 < (pt sp (bgW width) L i).1 ∧ width < (pt sp (bgW width) L i).1 + (L.getD i (0, 0)).1) ∧
    (0 < i → ¬ ((pt sp (bgW width) L i).1 = 0 ∧ (pt sp (bgW width) L (i - 1)).2 < (pt sp (bgW width) L i).2 ∧ (pt sp (bgW width) L (i - 1)).1 + (L.getD (i - 1) (0, 0)).1 + sp + (L.getD i (0, 0)).1 ≤ width)) := by
  have hw := within (q := 1023) (sp := sp) (bg := bgW width) (by omega) (by omega) hs0 hs hL i (by omega)
  obtain ⟨e1, e2, _⟩ := step_small (by omega) (by omega) hs0 hs hL (by omega) hw
  have hb : ∀ r : Int, bgW width i r = true ↔ width < r := by
    intro r
    unfold bgW
    rw [ln_small hw0 (by omega), decide_eq_true_iff]
  simp only [hb] at e1
  refine ⟨?_, ?_⟩
  · by_cases hc : 0 < i ∧ width < (run sp (bgW width) L i).1 + (L.getD i (0, 0)).1
    · rw [if_pos hc] at e1
      rw [e1]
      simp only
      omega
    · rw [if_neg hc] at e1
      rw [e1]
      simp only
      by_cases h0 : 0 < i
      · omega
      · obtain rfl : i = 0 := by omega
        simp [run]
  · intro h0
    obtain ⟨k, rfl⟩ : ∃ k, i = k + 1 := ⟨i - 1, by omega⟩
    have hwk := within (q := 1023) (sp := sp) (bg := bgW width) (by omega) (by omega) hs0 hs hL k (by omega)
    obtain ⟨_, f2, _⟩ := step_small (by omega) (by omega) hs0 hs hL (by omega) hwk
    rw [Nat.add_sub_cancel]
    by_cases hc : 0 < k + 1 ∧ width < (run sp (bgW width) L (k + 1)).1 + (L.getD (k + 1) (0, 0)).1
    · rw [if_pos hc] at e1
      rw [f2] at hc
      simp only at hc
      omega
    · rw [if_neg hc] at e1
      rw [e1, f2]
      simp only
      omega
/-- in columns -/
structure Cols (e q sp : Int) (L : List Bx) (k : Nat) : Prop where
  x : 0 < k → (run sp (bgG e) L k).1 = (((k - 1 : Nat) : Int) % e + 1) * (q + sp)
  y : ∀ j, j < k → (((j : Int) / e = ((k - 1 : Nat) : Int) / e → (pt sp (bgG e) L j).2 = (run sp (bgG e) L k).2.1) ∧ ((j : Int) / e < ((k - 1 : Nat) : Int) / e → (pt sp (bgG e) L j).2 + (L.getD j (0, 0)).2 ≤ (run sp (bgG e) L k).2.1))
theorem bgG_iff (e : Int) (i : Nat) (r : Int) : bgG e i r = true ↔ (i : Int) % e = 0 := by unfold bgG; exact beq_iff_eq
theorem row_step {e : Int} (h1 : 1 ≤ e) (h8 : e ≤ 8) (k : Nat) (hk : 0 < k) :
    ((k : Int) % e = 0 → (k : Int) / e = ((k - 1 : Nat) : Int) / e + 1) ∧ (¬ (k : Int) % e = 0 → (k : Int) / e = ((k - 1 : Nat) : Int) / e ∧ (k : Int) % e = ((k - 1 : Nat) : Int) % e + 1) := by
  have h : e = 1 ∨ e = 2 ∨ e = 3 ∨ e = 4 ∨ e = 5 ∨ e = 6 ∨ e = 7 ∨ e = 8 := by omega
  rcases h with rfl | rfl | rfl | rfl | rfl | rfl | rfl | rfl <;> omega
theorem row_mono {e : Int} (h1 : 1 ≤ e) (h8 : e ≤ 8) (j k : Nat) (hk : j ≤ k) : (j : Int) / e ≤ (k : Int) / e := by
  have h : e = 1 ∨ e = 2 ∨ e = 3 ∨ e = 4 ∨ e = 5 ∨ e = 6 ∨ e = 7 ∨ e = 8 := by omega
  rcases h with rfl | rfl | rfl | rfl | rfl | rfl | rfl | rfl <;> omega
theorem row_back {e : Int} (h1 : 1 ≤ e) (h8 : e ≤ 8) (j i : Nat) (hk : (i : Int) = j + e) : (j : Int) / e + 1 = (i : Int) / e := by
  have h : e = 1 ∨ e = 2 ∨ e = 3 ∨ e = 4 ∨ e = 5 ∨ e = 6 ∨ e = 7 ∨ e = 8 := by omega
  rcases h with rfl | rfl | rfl | rfl | rfl | rfl | rfl | rfl <;> omega
theorem pt_cols {e q sp : Int} {L : List Bx} (h1 : 1 ≤ e) (h8 : e ≤ 8) (hq0 : 0 ≤ q) (hq : q ≤ 2047) (hs0 : 0 ≤ sp) (hs : sp ≤ 15) (hL : Few q L) {k : Nat} (hk : k ≤ 40) (hC : Cols e q sp L k) :
    (pt sp (bgG e) L k).1 = ((k : Int) % e) * (q + sp) := by
  have hw := within (sp := sp) (bg := bgG e) hq0 hq hs0 hs hL k (by omega)
  obtain ⟨e1, e2, _⟩ := step_small hq0 hq hs0 hs hL (by omega) hw
  simp only [bgG_iff] at e1
  by_cases hc : 0 < k ∧ (k : Int) % e = 0
  · rw [if_pos hc] at e1
    rw [e1, hc.2]
    simp
  · rw [if_neg hc] at e1
    rw [e1]
    simp only
    by_cases h0 : 0 < k
    · have h9 : ¬ (k : Int) % e = 0 := fun h => hc ⟨h0, h⟩
      rw [hC.x h0, ← ((row_step h1 h8 k h0).2 h9).2]
    · obtain rfl : k = 0 := by omega
      simp [run]
theorem cols {e q sp : Int} {L : List Bx} (h1 : 1 ≤ e) (h8 : e ≤ 8) (hq0 : 0 ≤ q) (hq : q ≤ 2047) (hs0 : 0 ≤ sp) (hs : sp ≤ 15) (hL : Few q L) : ∀ k, k ≤ L.length → k ≤ 41 → (∀ j, j < L.length → (L.getD j (0, 0)).1 = q) → Cols e q sp L k
  | 0, _, _, _ => ⟨fun h => absurd h (by omega), fun j h => absurd h (by omega)⟩
  | k + 1, hl, h, hw1 => by
    have hw := within (sp := sp) (bg := bgG e) hq0 hq hs0 hs hL k (by omega)
    have ih := cols h1 h8 hq0 hq hs0 hs hL k (by omega) (by omega) hw1
    have hp := pt_cols h1 h8 hq0 hq hs0 hs hL (by omega) ih
    obtain ⟨e1, e2, _⟩ := step_small hq0 hq hs0 hs hL (by omega) hw
    have hpast := past (sp := sp) (bg := bgG e) hq0 hq hs0 hs hL k (by omega)
    have e4 := hw1 k (by omega)
    refine ⟨fun _ => ?_, fun j hj => ?_⟩
    · rw [e2, Nat.add_sub_cancel, hp, e4, Int.add_mul, Int.one_mul]
      simp only
      omega
    · rw [e2, Nat.add_sub_cancel]
      simp only
      by_cases hjk : j = k
      · subst hjk
        exact ⟨fun _ => rfl, fun h => absurd h (by omega)⟩
      · have h0 : 0 < k := by omega
        have hm := row_mono h1 h8 j (k - 1) (by omega)
        obtain ⟨r1, r2⟩ := row_step h1 h8 k h0
        obtain ⟨y1, y2⟩ := ih.y j (by omega)
        obtain ⟨_, _, _, i4, _⟩ := hpast j (by omega)
        simp only [bgG_iff] at e1
        by_cases hc : (k : Int) % e = 0
        · rw [if_pos ⟨h0, hc⟩] at e1
          have r3 := r1 hc
          rw [e1]
          simp only
          exact ⟨fun h => by omega, fun h => by omega⟩
        · rw [if_neg (fun h => hc h.2)] at e1
          obtain ⟨r3, _⟩ := r2 hc
          rw [e1, r3]
          simp only
          exact ⟨y1, y2⟩
theorem columns {e q sp : Int} {L : List Bx} (h1 : 1 ≤ e) (h8 : e ≤ 8) (hq0 : 0 ≤ q) (hq : q ≤ 2047) (hs0 : 0 ≤ sp) (hs : sp ≤ 15) (hL : Few q L) (hw1 : ∀ j, j < L.length → (L.getD j (0, 0)).1 = q) {i : Nat} (hi : i < L.length) (hi4 : i ≤ 40) :
    (pt sp (bgG e) L i).1 = ((i : Int) % e) * (q + sp) ∧
    (∀ j : Nat, (i : Int) = j + e → (pt sp (bgG e) L j).2 + (L.getD j (0, 0)).2 ≤ (pt sp (bgG e) L i).2) ∧
    (0 < (i : Int) % e → (pt sp (bgG e) L i).2 = (pt sp (bgG e) L (i - 1)).2) := by
  have hC := cols h1 h8 hq0 hq hs0 hs hL i (by omega) (by omega) hw1
  have hw := within (sp := sp) (bg := bgG e) hq0 hq hs0 hs hL i (by omega)
  obtain ⟨e1, e2, _⟩ := step_small hq0 hq hs0 hs hL (by omega) hw
  have hpast := past (sp := sp) (bg := bgG e) hq0 hq hs0 hs hL i (by omega)
  simp only [bgG_iff] at e1
  refine ⟨pt_cols h1 h8 hq0 hq hs0 hs hL (by omega) hC, fun j hj => ?_, fun h => ?_⟩
  · have hji : j < i := by omega
    have h0 : 0 < i := by omega
    have hb := row_back h1 h8 j i hj
    obtain ⟨r1, r2⟩ := row_step h1 h8 i h0
    obtain ⟨y1, y2⟩ := hC.y j hji
    obtain ⟨_, _, _, i4, _⟩ := hpast j hji
    by_cases hc : (i : Int) % e = 0
    · rw [if_pos ⟨h0, hc⟩] at e1
      rw [e1]
      simp only
      omega
    · rw [if_neg (fun h => hc h.2)] at e1
      obtain ⟨r3, _⟩ := r2 hc
      rw [e1]
      simp only
      exact y2 (by omega)
  · have h0 : 0 < i := by
      rcases Nat.eq_zero_or_pos i with h9 | h9
      · subst h9; simp at h
      · exact h9
    obtain ⟨y1, _⟩ := hC.y (i - 1) (by omega)
    rw [if_neg (by omega)] at e1
    rw [e1]
    simp only
    exact (y1 rfl).symm
end Fl
end Go.Proofs.Ytjpdnnjijcmioaa
