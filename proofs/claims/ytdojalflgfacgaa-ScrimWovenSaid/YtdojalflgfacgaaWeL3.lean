/- Contracts of weave's Moves, and of the statements' fixed facts. -/
import Derived.Test.YtdojalflgfacgaaWeL1
import Derived.Test.YtdojalflgfacgaaWeL2
import Derived.Test.YtdojalflgfacgaaWeW7
import Derived.Test.YtdojalflgfacgaaWeM2
import Derived.Test.YtdojalflgfacgaaMaW3
namespace Go.Proofs.Ytdojalflgfacgaa
open Go.RowKit We
theorem sc_at : ∀ (L : List Stp) (k : Nat) (h : k < L.length), (sc L)[k * 3]? = some (.int .i64 L[k].1) ∧ (sc L)[k * 3 + 1]? = some (.int .i64 L[k].2.1) ∧ (sc L)[k * 3 + 2]? = some (.int .i64 L[k].2.2)
  | [], k, h => absurd h (Nat.not_lt_zero _)
  | c :: L, 0, _ => ⟨rfl, rfl, rfl⟩
  | c :: L, k + 1, h => by
    have e : sc (c :: L) = .int .i64 c.1 :: .int .i64 c.2.1 :: .int .i64 c.2.2 :: sc L := rfl
    obtain ⟨h1, h2, h3⟩ := sc_at L k (by simpa using h)
    rw [e, show (k + 1) * 3 = k * 3 + 1 + 1 + 1 by omega, show k * 3 + 1 + 1 + 1 + 1 = k * 3 + 1 + 1 + 1 + 1 from rfl, show k * 3 + 1 + 1 + 1 + 2 = k * 3 + 2 + 1 + 1 + 1 by omega]
    simp only [List.getElem?_cons_succ, List.getElem_cons_succ]
    exact ⟨h1, h2, h3⟩
theorem at_three {w : World} {A : Option Addr} {L : List Stp} (h : At w A (sc L)) {k : Nat} (hk : k < L.length) : ∃ b o, A = some ⟨b, o, none⟩ ∧ b < w.heap.size ∧ w.cell? ⟨b, o + k * 3, none⟩ = some (.int .i64 L[k].1) ∧ w.cell? ⟨b, o + k * 3 + 1, none⟩ = some (.int .i64 L[k].2.1) ∧ w.cell? ⟨b, o + k * 3 + 2, none⟩ = some (.int .i64 L[k].2.2) := by
  obtain ⟨h1, h2, h3⟩ := sc_at L k hk
  obtain ⟨b, o, e, hb, hc⟩ := h (fun e => by rw [e] at h1; cases h1)
  exact ⟨b, o, e, hb, hc _ _ h1, hc _ _ h2, hc _ _ h3⟩
theorem mvs_next (L : List Stp) {k : Nat} (hk : k < L.length) : mvs (L.take (k + 1)) = mvs (L.take k) + if L[k].1 = 3 then 1 else 0 := by
  unfold mvs
  rw [List.take_succ_eq_append_getElem hk, List.filter_append, List.length_append]
  by_cases h : L[k].1 = 3
  · rw [List.filter_cons_of_pos (by simpa using h), if_pos h]; rfl
  · rw [List.filter_cons_of_neg (by simpa using h), if_neg h]; rfl
theorem mvs_le (L : List Stp) : mvs L ≤ L.length := List.length_filter_le _ _
theorem moves_any (A : Option Addr) (n c : Nat) (L : List Stp) (w : World) (hn : n = L.length) (hb : n ≤ 100000) (ha : At w A (sc L)) :
    Calls Try.prog 17 #[.slice A n c] w fun e w' => e = .returned (.int .i64 (mvs L : Int)) ∧ Below w.heap.size w w' := by
  have HN := Lib.hid hn
  have HA := Lib.hid ha
  clear hn ha
  go_enter Try.func17, Try.ntmps17
  go_wp2_with fail
  go_loopw [3, 8] (fun s i wr => ∃ k : Nat, k ≤ n ∧ i = .int .i64 k ∧ s = .int .i64 (mvs (L.take k)) ∧ Hid (Below w.heap.size w wr)) (fun _ i _ => n - (intOf i).toNat)
  case atStart => exact ⟨0, Nat.zero_le _, rfl, rfl, Below.refl _ _⟩
  case round =>
    obtain ⟨k, hk, rfl, rfl, hbel⟩ := hrel
    by_cases hlt : k < n
    · have hkl : k < L.length := by have := HN.out; omega
      obtain ⟨b1, o1, rfl, hb1, hc1, hc2, hc3⟩ := at_three (HA.out.below hbel.out) hkl
      have HE := Lib.hid (mvs_next L hkl)
      have hml : mvs (L.take k) ≤ 100000 := by have := mvs_le (L.take k); rw [List.length_take] at this; omega
      have HB := Lib.hid (hbel.out.alloc hbel.out.size (.cells #[.int .i64 L[k].1, .int .i64 L[k].2.1, .int .i64 L[k].2.2] 31))
      generalize L[k].1 = x at *
      generalize L[k].2.1 = y at *
      generalize L[k].2.2 = z at *
      generalize mvs (L.take k) = mk at *
      by_cases hx : x = 3
      · subst hx
        go_wp2_with fail
        go_roundw
        case rel => exact ⟨k + 1, by omega, by go_num, by rw [HE.out, if_pos rfl]; go_num, HB⟩
        case measure => simp [intOf]; omega
      · go_wp2_with fail
        go_roundw
        case rel => exact ⟨k + 1, by omega, by go_num, by rw [HE.out, if_neg hx, Nat.add_zero], HB⟩
        case measure => simp [intOf]; omega
    · obtain rfl : k = n := by omega
      have hT : L.take k = L := List.take_of_length_le (by have := HN.out; omega)
      rw [hT]
      go_wp2
      go_ret
      exact ⟨rfl, hbel.out⟩
end Go.Proofs.Ytdojalflgfacgaa
