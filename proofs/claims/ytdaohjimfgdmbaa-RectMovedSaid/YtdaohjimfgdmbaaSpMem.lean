/- Entries where a slice begins; the last one of a number, by places. -/
import Derived.Test.YtdaohjimfgdmbaaSnW1
import Derived.Test.YtdaohjimfgdmbaaBlk
import Derived.Test.YtdaohjimfgdmbaaOpenG
namespace Go.Proofs.Ytdaohjimfgdmbaa
open Go.RowKit Sn
/-- the entry at a place. -/
def Sn.el (xs : List En) (k : Nat) : En := xs[k]?.getD ⟨0, 0, 0, 0, 0⟩
theorem Sn.el_at {xs : List En} {k : Nat} (h : k < xs.length) : xs[k]? = some (el xs k) := by simp [el, h]
theorem Sn.el_eq {xs : List En} {k : Nat} (h : k < xs.length) : el xs k = xs[k] := by simp [el, h]
theorem Sn.el_mem {xs : List En} {k : Nat} (h : k < xs.length) : el xs k ∈ xs := by rw [el_eq h]; exact List.getElem_mem h
theorem Sn.el_of {xs : List En} {k : Nat} {t : En} (h : xs[k]? = some t) : el xs k = t := by simp [el, h]
theorem Sn.mem_el {xs : List En} {x : En} (h : x ∈ xs) : ∃ k, k < xs.length ∧ el xs k = x := by
  obtain ⟨k, hk, e⟩ := List.mem_iff_getElem.1 h
  exact ⟨k, hk, by rw [el_eq hk, e]⟩
theorem ecs_at (xs : List En) (k : Nat) (h : k < xs.length) (q : Nat) (hq : q < 5) : (ecs xs)[k * 5 + q]? = (ec (el xs k))[q]? := by
  have h1 := Op.flat_at ec 5 ec_len xs k h q hq
  rw [el_eq h]
  exact h1
theorem ecs_snoc (a : List En) (t : En) : ecs (a ++ [t]) = ecs a ++ ec t := by simp [ecs]
theorem ecs_take : ∀ (xs : List En) (k : Nat), ecs (xs.take k) = (ecs xs).take (k * 5)
  | [], k => by simp [ecs]
  | x :: xs, 0 => by simp [ecs]
  | x :: xs, k + 1 => by
    have ih := ecs_take xs k
    rw [List.take_succ_cons, show (k + 1) * 5 = 5 + k * 5 by omega]
    show ec x ++ ecs (xs.take k) = (ec x ++ ecs xs).take (5 + k * 5)
    rw [ih, List.take_append, List.take_of_length_le (l := ec x) (by rw [ec_len]; omega), ec_len, Nat.add_sub_cancel_left]
/-- the five cells of an entry where a slice begins. -/
theorem at_en {w : World} {A : Option Addr} {L : List En} (h : At w A (ecs L)) {k : Nat} (hk : k < L.length) :
    ∃ b off, A = some ⟨b, off, none⟩ ∧ b < w.heap.size ∧ w.cell? ⟨b, off + k * 5, none⟩ = some (.int .i64 (el L k).id) ∧ w.cell? ⟨b, off + k * 5 + 1, none⟩ = some (.int .i64 (el L k).x) ∧ w.cell? ⟨b, off + k * 5 + 2, none⟩ = some (.int .i64 (el L k).y) ∧ w.cell? ⟨b, off + k * 5 + 3, none⟩ = some (.int .i64 (el L k).w) ∧ w.cell? ⟨b, off + k * 5 + 4, none⟩ = some (.int .i64 (el L k).h) := by
  have h0 := ecs_at L k hk 0 (by omega)
  obtain ⟨b, off, e, hb, hc⟩ := h (fun e => by rw [e] at h0; cases h0)
  exact ⟨b, off, e, hb, hc _ _ h0, hc _ _ (ecs_at L k hk 1 (by omega)), hc _ _ (ecs_at L k hk 2 (by omega)), hc _ _ (ecs_at L k hk 3 (by omega)), hc _ _ (ecs_at L k hk 4 (by omega))⟩
/-- the last one of a number, told by its place. -/
theorem lastAt_of {l : List En} {s : Int} {k : Nat} (hk : k < l.length) (h : (el l k).id = s) (hn : ∀ j, k < j → j < l.length → (el l j).id ≠ s) : lastAt En.id l s = some (el l k) := by
  have e : l = l.take k ++ el l k :: l.drop (k + 1) := by
    rw [el_eq hk, List.getElem_cons_drop, List.take_append_drop]
  rw [e]
  unfold lastAt
  rw [List.reverse_append, List.reverse_cons, List.find?_append, List.find?_append]
  have hd : (l.drop (k + 1)).reverse.find? (fun x => decide (x.id = s)) = none := by
    rw [List.find?_eq_none]
    intro x hx
    obtain ⟨j, hj, e2⟩ := List.mem_iff_getElem.1 (List.mem_reverse.1 hx)
    rw [List.getElem_drop] at e2
    have hj2 : k + 1 + j < l.length := by simp at hj; omega
    have := hn (k + 1 + j) (by omega) hj2
    rw [el_eq hj2, e2] at this
    simpa using this
  have e3 : el (l.take k ++ el l k :: l.drop (k + 1)) k = el l k := by rw [← e]
  rw [hd, e3]
  simp [h]
theorem lastAt_no {l : List En} {s : Int} (h : ∀ j, j < l.length → (el l j).id ≠ s) : lastAt En.id l s = none :=
  lastAt_none.2 fun x hx => by obtain ⟨k, hk, rfl⟩ := mem_el hx; exact h k hk
/-- what Get answers. -/
def gotV (o : Option En) : Value := match o with
  | some e => .tuple #[.agg #[.int .i64 e.x, .int .i64 e.y, .int .i64 e.w, .int .i64 e.h], .bool true]
  | none => .tuple #[.agg #[.int .i64 0, .int .i64 0, .int .i64 0, .int .i64 0], .bool false]
/-- the places from the end on. -/
def bk (n m : Nat) : List Nat := (List.range m).map fun i => n - 1 - i
theorem bk_succ (n m : Nat) : bk n (m + 1) = bk n m ++ [n - 1 - m] := by simp [bk, List.range_succ]
theorem bk_len (n m : Nat) : (bk n m).length = m := by simp [bk]
theorem bk_mem {n m j : Nat} (hm : m ≤ n) : j ∈ bk n m ↔ n - m ≤ j ∧ j < n ∧ 0 < m := by
  unfold bk
  rw [List.mem_map]
  constructor
  · rintro ⟨i, hi, rfl⟩
    have := List.mem_range.1 hi
    omega
  · rintro ⟨h1, h2, h3⟩
    exact ⟨n - 1 - j, List.mem_range.2 (by omega), by omega⟩
theorem bk_last {n m : Nat} {p : List Nat} {k : Nat} (hm : m ≤ n) (h : bk n m = p ++ [k]) : 0 < m ∧ k = n - m ∧ ∀ j, k < j → j < n → j ∈ p := by
  cases m with
  | zero => simp [bk] at h
  | succ m =>
    rw [bk_succ] at h
    obtain ⟨e1, e2⟩ := List.append_inj' h rfl
    injection e2 with e2 _
    refine ⟨by omega, by omega, fun j h1 h2 => ?_⟩
    rw [← e1, bk_mem (by omega)]
    omega
end Go.Proofs.Ytdaohjimfgdmbaa
