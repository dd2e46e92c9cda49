/- trail's Count, and the walk of TrailCounts. -/
import Derived.Test.YtdhkcnncfcahoaaAr8
namespace Go.Proofs.Ytdhkcnncfcahoaa
open Go.RowKit
theorem ov_at (l : List OpP) : ∀ (k : Nat) (h : k < l.length) (c : Nat), c < 6 → (ov l)[k * 6 + c]? = (encO l[k])[c]? := by
  induction l with
  | nil => intro k h; cases h
  | cons a l ih =>
    intro k h c hc
    cases k with
    | zero =>
      show (encO a ++ ov l)[0 * 6 + c]? = _
      rw [Nat.zero_mul, Nat.zero_add, List.getElem?_append_left (by show c < 6; exact hc)]
      rfl
    | succ k =>
      show (encO a ++ ov l)[(k + 1) * 6 + c]? = _
      rw [List.getElem?_append_right (by show 6 ≤ _; omega)]
      have e : (k + 1) * 6 + c - (encO a).length = k * 6 + c := by show (k + 1) * 6 + c - 6 = _; omega
      rw [e]
      exact ih k (by simpa using h) c hc
theorem at_op {w : World} {A : Option Addr} {L : List OpP} (h : At w A (ov L)) {k : Nat} (hk : k < L.length) :
    ∃ b off, A = some ⟨b, off, none⟩ ∧ b < w.heap.size ∧ w.cell? ⟨b, off + k * 6, none⟩ = some (.int .i64 L[k].1) ∧ w.cell? ⟨b, off + k * 6 + 1, none⟩ = some (.int .i64 L[k].2.1) ∧ w.cell? ⟨b, off + k * 6 + 2, none⟩ = some (.int .i64 L[k].2.2.1) ∧
      w.cell? ⟨b, off + k * 6 + 3, none⟩ = some (.int .i64 L[k].2.2.2.1) ∧ w.cell? ⟨b, off + k * 6 + 4, none⟩ = some (.string L[k].2.2.2.2.1) ∧ w.cell? ⟨b, off + k * 6 + 5, none⟩ = some (.string L[k].2.2.2.2.2) := by
  have h0 := ov_at L k hk 0 (by omega)
  have h1 := ov_at L k hk 1 (by omega)
  have h2 := ov_at L k hk 2 (by omega)
  have h3 := ov_at L k hk 3 (by omega)
  have h4 := ov_at L k hk 4 (by omega)
  have h5 := ov_at L k hk 5 (by omega)
  obtain ⟨b, off, e, hb, hc⟩ := h (fun e => by rw [e] at h0; simp [encO] at h0)
  exact ⟨b, off, e, hb, hc _ _ h0, hc _ _ h1, hc _ _ h2, hc _ _ h3, hc _ _ h4, hc _ _ h5⟩
def cntO (l : List OpP) (kind : Int) : Nat := (l.filter fun o => decide (o.1 = kind)).length
theorem cntO_next (l : List OpP) (kind : Int) (k : Nat) (h : k < l.length) : cntO (l.take (k + 1)) kind = cntO (l.take k) kind + (if l[k].1 = kind then 1 else 0) := by
  unfold cntO
  rw [List.take_succ_eq_append_getElem h, List.filter_append, List.length_append]
  congr 1
  by_cases e : l[k].1 = kind <;> simp [e]
theorem cntO_le (l : List OpP) (kind : Int) (k : Nat) : cntO (l.take k) kind ≤ k := Nat.le_trans (List.length_filter_le _ _) (by rw [List.length_take]; omega)
set_option maxHeartbeats 2000000 in
theorem countO_any (A : Option Addr) (n c : Nat) (l : List OpP) (kind : Int) (w : World) (hn : n = l.length) (hb : n ≤ maxLen) (ha : At w A (ov l)) :
    Calls Try.prog 5 #[.slice A n c, .int .i64 kind] w fun e w' => e = .returned (.int .i64 (cntO l kind)) ∧ Below w.heap.size w w' := by
  unfold maxLen at hb
  have HN := Lib.hid hn
  have HA := Lib.hid ha
  have HW0 := Lib.hid (Below.refl w.heap.size w)
  clear hn ha
  go_enter Try.func5, Try.ntmps5
  go_wp2
  go_loopw [5, 10] (fun j i wr => ∃ k : Nat, k ≤ n ∧ i = .int .i64 k ∧ j = .int .i64 (cntO (l.take k) kind) ∧ Below w.heap.size w wr) (fun _ i _ => n - (intOf i).toNat)
  case atStart => exact ⟨0, Nat.zero_le _, rfl, rfl, Below.refl _ _⟩
  case round =>
    obtain ⟨k, hk, rfl, rfl, hbel⟩ := hrel
    by_cases hlt : k < n
    · have hk1 : k < l.length := by have := HN.out; omega
      obtain ⟨b, off, rfl, hb1, c0, c1, c2, c3, c4, c5⟩ := at_op (HA.out.below (HW0.out.trans (hbel.mono HW0.out.size))) hk1
      have hnx := cntO_next l kind k hk1
      have hle := cntO_le l kind k
      generalize hc : cntO (l.take k) kind = cn at hnx hle
      obtain ⟨y, hy⟩ : ∃ y, y = l[k] := ⟨_, rfl⟩
      rw [← hy] at c0 c1 c2 c3 c4 c5 hnx
      clear hy
      obtain ⟨k1, k2, k3, k4, s1, s2⟩ := y
      have HX := Lib.hid hnx
      have hwc : IntKind.i64.wrap ((cn : Int) + 1) = (cn : Int) + 1 := by rw [IntKind.wrap_i64]; omega
      have hsz := hbel.size
      have HBA := Lib.hid (hbel.alloc hsz (.cells #[.int .i64 k1, .int .i64 k2, .int .i64 k3, .int .i64 k4, .string s1, .string s2] 25))
      clear hnx hc
      by_cases hkk : k1 = kind
      · have hb2 : (k1 == kind) = true := beq_iff_eq.2 hkk
        have HK := Lib.hid hkk
        clear hkk
        go_wp2
        go_roundw
        case rel => exact ⟨k + 1, by omega, by go_num, by rw [HX.out]; show _ = Value.int .i64 ((cn + (if k1 = kind then 1 else 0) : Nat) : Int); rw [if_pos HK.out]; go_num, HBA.out⟩
        case measure => simp [intOf]; omega
      · have hb2 : (k1 == kind) = false := beq_eq_false_iff_ne.2 hkk
        have HK := Lib.hid hkk
        clear hkk
        go_wp2
        go_roundw
        case rel => exact ⟨k + 1, by omega, by go_num, by rw [HX.out]; show _ = Value.int .i64 ((cn + (if k1 = kind then 1 else 0) : Nat) : Int); rw [if_neg HK.out]; rfl, HBA.out⟩
        case measure => simp [intOf]; omega
    · obtain rfl : k = n := by omega
      have hall : l.take k = l := List.take_of_length_le (by have := HN.out; omega)
      rw [hall]
      go_wp2
      go_ret
      exact ⟨rfl, hbel⟩
set_option maxHeartbeats 2000000 in
theorem trailCounts_any (A : Option Addr) (n c : Nat) (l : List OpP) (kind : Int) (w : World) (hn : n = l.length) (hb : n ≤ maxLen) (ha : At w A (ov l)) :
    Calls Try.prog 3 #[.slice A n c, .int .i64 kind] w fun e w' => e = .returned (.bool true) ∧ Below w.heap.size w w' := by
  have HBN := Lib.hid hb
  unfold maxLen at hb
  have HN := Lib.hid hn
  have HA := Lib.hid ha
  clear hn ha
  go_enter Try.func3, Try.ntmps3
  go_wp2_with fail
  refine (awake6_any w).mono ?_
  rintro e w0 ⟨rfl, hb0⟩
  have HW0 := Lib.hid hb0
  clear hb0
  go_wp2
  go_loopw [5, 12] (fun j i wr => ∃ k : Nat, k ≤ n ∧ i = .int .i64 k ∧ j = .int .i64 (cntO (l.take k) kind) ∧ Below w0.heap.size w0 wr) (fun _ i _ => n - (intOf i).toNat)
  case atStart => exact ⟨0, Nat.zero_le _, rfl, rfl, Below.refl _ _⟩
  case round =>
    obtain ⟨k, hk, rfl, rfl, hbel⟩ := hrel
    by_cases hlt : k < n
    · have hk1 : k < l.length := by have := HN.out; omega
      obtain ⟨b, off, rfl, hb1, c0, c1, c2, c3, c4, c5⟩ := at_op (HA.out.below (HW0.out.trans (hbel.mono HW0.out.size))) hk1
      have hnx := cntO_next l kind k hk1
      have hle := cntO_le l kind k
      generalize hc : cntO (l.take k) kind = cn at hnx hle
      obtain ⟨y, hy⟩ : ∃ y, y = l[k] := ⟨_, rfl⟩
      rw [← hy] at c0 c1 c2 c3 c4 c5 hnx
      clear hy
      obtain ⟨k1, k2, k3, k4, s1, s2⟩ := y
      have HX := Lib.hid hnx
      have hwc : IntKind.i64.wrap ((cn : Int) + 1) = (cn : Int) + 1 := by rw [IntKind.wrap_i64]; omega
      have hsz := hbel.size
      have HBA := Lib.hid (hbel.alloc hsz (.cells #[.int .i64 k1, .int .i64 k2, .int .i64 k3, .int .i64 k4, .string s1, .string s2] 25))
      clear hnx hc
      by_cases hkk : k1 = kind
      · have hb2 : (k1 == kind) = true := beq_iff_eq.2 hkk
        have HK := Lib.hid hkk
        clear hkk
        go_wp2
        go_roundw
        case rel => exact ⟨k + 1, by omega, by go_num, by rw [HX.out]; show _ = Value.int .i64 ((cn + (if k1 = kind then 1 else 0) : Nat) : Int); rw [if_pos HK.out]; go_num, HBA.out⟩
        case measure => simp [intOf]; omega
      · have hb2 : (k1 == kind) = false := beq_eq_false_iff_ne.2 hkk
        have HK := Lib.hid hkk
        clear hkk
        go_wp2
        go_roundw
        case rel => exact ⟨k + 1, by omega, by go_num, by rw [HX.out]; show _ = Value.int .i64 ((cn + (if k1 = kind then 1 else 0) : Nat) : Int); rw [if_neg HK.out]; rfl, HBA.out⟩
        case measure => simp [intOf]; omega
    · obtain rfl : k = n := by omega
      have hall : l.take k = l := List.take_of_length_le (by have := HN.out; omega)
      rw [hall]
      have HAL := Lib.hid (HA.out.below (HW0.out.trans (hbel.mono HW0.out.size)))
      have HBL := Lib.hid (HW0.out.trans (hbel.mono HW0.out.size))
      have HZ : Hid (((cntO l kind : Nat) : Int) = ((cntO l kind : Nat) : Int)) := rfl
      generalize hcl : cntO l kind = cl
      go_wp2_with fail
      refine (countO_any A k c l kind _ HN.out HBN.out HAL.out).mono ?_
      rintro e w5 ⟨rfl, hb5⟩
      have HB5 := Lib.hid (HBL.out.trans (hb5.mono HBL.out.size))
      rw [hcl]
      clear hb5 hcl
      have hzz : ((cl : Int) == (cl : Int)) = true := beq_self_eq_true _
      go_wp2
      go_ret
      exact ⟨rfl, HB5.out⟩
end Go.Proofs.Ytdhkcnncfcahoaa
