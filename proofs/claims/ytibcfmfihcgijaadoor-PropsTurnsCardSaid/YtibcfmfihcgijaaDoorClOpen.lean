/- How the statements' arguments are opened: a slice of strings, a slice of steps, nil let in. -/
import Derived.Test.YtibcfmfihcgijaaDoorClMath
import Derived.Test.YtibcfmfihcgijaaDoorMem
import Derived.SliceStrings
import Derived.Deep.SlicePairs
import Derived.ChangeArms
namespace Go.Proofs.YtibcfmfihcgijaaDoor
open Go.RowKit Go.ChangeShapes Go.WideShapes Go.Deep M
theorem at_of_add {w : World} {a : Addr} {xs : List Value} (h : ∀ i u, xs[i]? = some u → w.cell? (a.add i) = some u) : At w (some a) xs := fun hx => by
  obtain ⟨b, off, spot⟩ := a
  cases xs with
  | nil => exact absurd rfl hx
  | cons x xs =>
    have h0 := h 0 x rfl
    have hs : spot = none := by simpa [Addr.add] using World.cell?_spot h0
    subst hs
    refine ⟨b, off, rfl, World.block_lt_of_cell? w _ h0, fun j u hu => ?_⟩
    have h1 := h j u hu
    unfold Addr.add at h1
    by_cases hj : j = 0
    · subst hj; simpa using h1
    · simpa [hj] using h1
def StrsIn (w : World) (A : Option Addr) (n c : Nat) (ss : List ByteArray) : Prop :=
  n = ss.length ∧ n ≤ c ∧ c ≤ maxLen ∧ At w A (sv ss) ∧ (∀ s ∈ ss, s.size ≤ maxLen) ∧ (A = none → n = 0 ∧ c = 0)
def StepsIn (w : World) (A : Option Addr) (n c : Nat) (l : List Stp) : Prop :=
  n = l.length ∧ n ≤ c ∧ c ≤ maxLen ∧ At w A (stv l) ∧ (∀ s ∈ l, s.2.size ≤ maxLen) ∧ (A = none → n = 0 ∧ c = 0)
section
variable {H : Type} {enc : TypeId × Value → H} {P : Program} {w : World} {base : Nat} {spare : Nat → Bool} {held : Bool}
theorem strs_in {t e : TypeId} {A : Option Addr} {n c : Nat} {d : DataW H} {p : List MemPlace} (ht : P.underlying t = some (.slice e)) (he : P.underlying e = some .string) (hc : P.cellsOf e = 1)
    (h : DataW.Trod enc P w base spare held t (.slice A n c) d p) : ∃ ss, StrsIn w A n c ss := by
  obtain ⟨fuel, hf⟩ := h
  rcases open_strings ht he hc hf with ⟨hcs, _⟩ | ⟨a, len, cap, ss, hcs, _, hl, hm, hlen, _, hcell, hsz⟩
  · simp [Value.cells] at hcs
    obtain ⟨rfl, rfl, rfl⟩ := hcs
    exact ⟨[], rfl, Nat.le_refl _, Nat.zero_le _, At.nil _ _, (fun s hs => by cases hs), fun _ => ⟨rfl, rfl⟩⟩
  · simp [Value.cells] at hcs
    obtain ⟨rfl, rfl, rfl⟩ := hcs
    have hle : n ≤ ss.length := by rw [hlen]; split <;> omega
    refine ⟨ss.take n, by rw [List.length_take]; omega, hl, hm, at_of_add fun i u hu => ?_, fun s hs => hsz s (List.mem_of_mem_take hs), fun h => nomatch h⟩
    have hi : i < n := by
      have := (List.getElem?_eq_some_iff.1 hu).1
      rw [sv_len, List.length_take] at this
      omega
    rw [hcell i (by omega)]
    have hil : i < ss.length := by omega
    rw [sv_at _ i (by rw [List.length_take]; omega)] at hu
    rw [← hu]
    simp [hil]
theorem steps_in {t e : TypeId} {f0 f1 : Field} {A : Option Addr} {n c : Nat} {d : DataW H} {p : List MemPlace} (ht : P.underlying t = some (.slice e)) (he : P.underlying e = some (.struct #[f0, f1]))
    (ce : P.cellsOf e = 2) (o0 : f0.offset = 0) (o1 : f1.offset = 1) (c0 : P.cellsOf f0.type = 1) (c1 : P.cellsOf f1.type = 1) (u0 : P.underlying f0.type = some .bool) (u1 : P.underlying f1.type = some .string)
    (h : DataW.Trod enc P w base spare held t (.slice A n c) d p) : ∃ l, StepsIn w A n c l := by
  obtain ⟨fuel, hf⟩ := h
  rcases open_slice_pairs ht he ce o0 o1 c0 c1 hf with ⟨hcs, _⟩ | ⟨a, len, cap, m, k, V0, V1, D0, D1, P0, P1, hcs, _, hl, hm, hmm, _, hcell⟩
  · simp [Value.cells] at hcs
    obtain ⟨rfl, rfl, rfl⟩ := hcs
    exact ⟨[], rfl, Nat.le_refl _, Nat.zero_le _, At.nil _ _, (fun s hs => by cases hs), fun _ => ⟨rfl, rfl⟩⟩
  · simp [Value.cells] at hcs
    obtain ⟨rfl, rfl, rfl⟩ := hcs
    have hle : n ≤ m := by rw [hmm]; split <;> omega
    have each : ∀ i, i < n → ∃ s : Stp, w.cell? (a.add (i * 2)) = some (.bool s.1) ∧ w.cell? (a.add (i * 2 + 1)) = some (.string s.2) ∧ s.2.size ≤ maxLen := by
      intro i hi
      obtain ⟨h1, h2, h3, h4⟩ := hcell i (by omega)
      obtain ⟨b, hb, _⟩ := DataW.trod_bool u0 h3
      obtain ⟨s, hs, _, hsz⟩ := DataW.trod_string u1 h4
      simp at hb hs
      exact ⟨(b, s), by rw [h1, hb], by rw [h2, hs], hsz⟩
    have hlist : ∀ q, q ≤ n → ∃ l : List Stp, l.length = q ∧ ∀ i (hi : i < l.length), w.cell? (a.add (i * 2)) = some (.bool l[i].1) ∧ w.cell? (a.add (i * 2 + 1)) = some (.string l[i].2) ∧ l[i].2.size ≤ maxLen := by
      intro q
      induction q with
      | zero => intro _; exact ⟨[], rfl, fun i hi => absurd hi (by simp)⟩
      | succ q ih =>
        intro hq
        obtain ⟨l, hl1, hl2⟩ := ih (by omega)
        obtain ⟨s, hs⟩ := each q (by omega)
        refine ⟨l ++ [s], by simp [hl1], fun i hi => ?_⟩
        by_cases hiq : i < l.length
        · rw [List.getElem_append_left hiq]; exact hl2 i hiq
        · have : i = q := by simp at hi; omega
          subst this
          rw [List.getElem_append_right (by omega)]
          simpa [hl1] using hs
    obtain ⟨l, hl1, hl2⟩ := hlist n (Nat.le_refl _)
    refine ⟨l, hl1.symm, hl, hm, at_of_add fun i u hu => ?_, fun s hs => ?_, fun h => nomatch h⟩
    · have hi : i < l.length * 2 := by
        have := (List.getElem?_eq_some_iff.1 hu).1
        rw [stv_len] at this
        exact this
      have h2 := hl2 (i / 2) (by omega)
      have h3 := stv_at l (i / 2) (by omega)
      rcases Nat.mod_two_eq_zero_or_one i with h | h
      · have e : i / 2 * 2 = i := by omega
        rw [e] at h2 h3
        rw [h3.1] at hu
        rw [← hu]
        exact h2.1
      · have e : i / 2 * 2 + 1 = i := by omega
        rw [e] at h2 h3
        rw [h3.2] at hu
        rw [← hu]
        exact h2.2.1
    · obtain ⟨i, hi, rfl⟩ := List.getElem_of_mem hs
      exact (hl2 i hi).2.2
end
end Go.Proofs.YtibcfmfihcgijaaDoor
