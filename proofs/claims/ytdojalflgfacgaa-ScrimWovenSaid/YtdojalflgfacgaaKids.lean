/- Kids, names and the like as cells in memory. -/
import Derived.Test.YtdojalflgfacgaaLiW1
import Derived.Test.YtdojalflgfacgaaMaMath
import Derived.Test.YtdojalflgfacgaaAppAt
namespace Go.Proofs.Ytdojalflgfacgaa
open Go.RowKit Ma
theorem flat_len {α β : Type} (f : α → List β) (c : Nat) (hf : ∀ a, (f a).length = c) : ∀ l : List α, (l.flatMap f).length = l.length * c
  | [] => by simp
  | a :: l => by rw [List.flatMap_cons, List.length_append, hf, flat_len f c hf l, List.length_cons, Nat.add_mul]; omega
theorem flat_at {α β : Type} (f : α → List β) (c : Nat) (hf : ∀ a, (f a).length = c) : ∀ (l : List α) (k j : Nat) (h : k < l.length), j < c → (l.flatMap f)[k * c + j]? = (f l[k])[j]?
  | [], k, j, h, _ => absurd h (by simp)
  | a :: l, k, j, h, hj => by
    rw [List.flatMap_cons]
    cases k with
    | zero => rw [Nat.zero_mul, Nat.zero_add, List.getElem?_append_left (by rw [hf]; exact hj)]; rfl
    | succ k =>
      rw [List.getElem?_append_right (by rw [hf, Nat.add_mul]; omega), hf, show (k + 1) * c + j - c = k * c + j by rw [Nat.add_mul]; omega, flat_at f c hf l k j (by simpa using h) hj]
      rfl
theorem flat_set {α β : Type} (f : α → List β) (c : Nat) (hf : ∀ a, (f a).length = c) (l : List α) (k : Nat) (h : k < l.length) (x : α) : (l.set k x).flatMap f = (l.flatMap f).take (k * c) ++ f x ++ (l.flatMap f).drop ((k + 1) * c) := by
  have e : l = l.take k ++ l[k] :: l.drop (k + 1) := by simp
  have h1 : ((l.take k).flatMap f).length = k * c := by rw [flat_len f c hf, List.length_take, Nat.min_eq_left (by omega)]
  have e2 : l.flatMap f = (l.take k).flatMap f ++ (f l[k] ++ (l.drop (k + 1)).flatMap f) := by
    conv => lhs; rw [e]
    rw [List.flatMap_append, List.flatMap_cons]
  have e3 : l.set k x = l.take k ++ x :: l.drop (k + 1) := List.set_eq_take_append_cons_drop.trans (by rw [if_pos h])
  rw [e3, List.flatMap_append, List.flatMap_cons, e2, List.take_left' h1, ← List.append_assoc ((l.take k).flatMap f) (f l[k]), List.drop_left' (by rw [List.length_append, h1, hf, Nat.add_mul]; omega), List.append_assoc]
/-- kids as cells -/
def kc (L : List Kd) : List Value := L.flatMap fun k => [.int .i64 k.1, .string k.2]
/-- names as cells -/
def nc (L : List (Kd × Nat)) : List Value := L.flatMap fun x => [.int .i64 x.1.1, .string x.1.2, .int .i64 (x.2 : Int)]
theorem kc_len (L : List Kd) : (kc L).length = L.length * 2 := flat_len _ 2 (fun _ => rfl) L
theorem nc_len (L : List (Kd × Nat)) : (nc L).length = L.length * 3 := flat_len _ 3 (fun _ => rfl) L
theorem kc_app (a b : List Kd) : kc (a ++ b) = kc a ++ kc b := List.flatMap_append
theorem nc_app (a b : List (Kd × Nat)) : nc (a ++ b) = nc a ++ nc b := List.flatMap_append
theorem kc_at (L : List Kd) (k : Nat) (h : k < L.length) : (kc L)[k * 2]? = some (.int .i64 (g L k).1) ∧ (kc L)[k * 2 + 1]? = some (.string (g L k).2) := by
  rw [g_eq L k h]
  exact ⟨flat_at _ 2 (fun _ => rfl) L k 0 h (by omega), flat_at _ 2 (fun _ => rfl) L k 1 h (by omega)⟩
theorem nc_at (L : List (Kd × Nat)) (k : Nat) (h : k < L.length) : (nc L)[k * 3]? = some (.int .i64 L[k].1.1) ∧ (nc L)[k * 3 + 1]? = some (.string L[k].1.2) ∧ (nc L)[k * 3 + 2]? = some (.int .i64 (L[k].2 : Int)) :=
  ⟨flat_at _ 3 (fun _ => rfl) L k 0 h (by omega), flat_at _ 3 (fun _ => rfl) L k 1 h (by omega), flat_at _ 3 (fun _ => rfl) L k 2 h (by omega)⟩
theorem kc_one (L : List Kd) : ∀ u ∈ kc L, u.oneCell' = true := by
  intro u hu
  simp only [kc, List.mem_flatMap, List.mem_cons, List.not_mem_nil, or_false] at hu
  obtain ⟨k, _, rfl | rfl⟩ := hu <;> rfl
theorem at_kid {w : World} {A : Option Addr} {L : List Kd} (h : At w A (kc L)) {k : Nat} (hk : k < L.length) :
    ∃ b off, A = some ⟨b, off, none⟩ ∧ b < w.heap.size ∧ w.cell? ⟨b, off + k * 2, none⟩ = some (.int .i64 (g L k).1) ∧ w.cell? ⟨b, off + k * 2 + 1, none⟩ = some (.string (g L k).2) := by
  obtain ⟨h1, h2⟩ := kc_at L k hk
  obtain ⟨b, off, e, hb, hc⟩ := h (fun e => by rw [e] at h1; cases h1)
  exact ⟨b, off, e, hb, hc _ _ h1, hc _ _ h2⟩
theorem at_name {w : World} {A : Option Addr} {L : List (Kd × Nat)} (h : At w A (nc L)) {k : Nat} (hk : k < L.length) :
    ∃ b off, A = some ⟨b, off, none⟩ ∧ b < w.heap.size ∧ w.cell? ⟨b, off + k * 3, none⟩ = some (.int .i64 L[k].1.1) ∧ w.cell? ⟨b, off + k * 3 + 1, none⟩ = some (.string L[k].1.2) ∧ w.cell? ⟨b, off + k * 3 + 2, none⟩ = some (.int .i64 (L[k].2 : Int)) := by
  obtain ⟨h1, h2, h3⟩ := nc_at L k hk
  obtain ⟨b, off, e, hb, hc⟩ := h (fun e => by rw [e] at h1; cases h1)
  exact ⟨b, off, e, hb, hc _ _ h1, hc _ _ h2, hc _ _ h3⟩
/-- three cells of a row are written. -/
theorem set3 (L : List (Kd × Nat)) (k : Nat) (h : k < L.length) (x : Kd × Nat) : (((nc L).set (k * 3) (.int .i64 x.1.1)).set (k * 3 + 1) (.string x.1.2)).set (k * 3 + 2) (.int .i64 (x.2 : Int)) = nc (L.set k x) := by
  apply List.ext_getElem?
  intro j
  by_cases hj : j / 3 < L.length
  · have hjd : j = j / 3 * 3 + j % 3 := by omega
    have hx : j / 3 < (L.set k x).length := by simpa using hj
    have e1 := flat_at (fun x : Kd × Nat => [Value.int .i64 x.1.1, .string x.1.2, .int .i64 (x.2 : Int)]) 3 (fun _ => rfl) (L.set k x) (j / 3) (j % 3) hx (Nat.mod_lt _ (by omega))
    have e2 := flat_at (fun x : Kd × Nat => [Value.int .i64 x.1.1, .string x.1.2, .int .i64 (x.2 : Int)]) 3 (fun _ => rfl) L (j / 3) (j % 3) hj (Nat.mod_lt _ (by omega))
    rw [← hjd] at e1 e2
    have hl : j < (nc L).length := by rw [nc_len]; omega
    show _ = (List.flatMap _ (L.set k x))[j]?
    rw [e1]
    rw [List.getElem?_set, List.getElem?_set, List.getElem?_set]
    simp only [List.length_set]
    by_cases hk : j / 3 = k
    · subst hk
      have hm : j % 3 = 0 ∨ j % 3 = 1 ∨ j % 3 = 2 := by omega
      rcases hm with hm | hm | hm
      · rw [if_neg (by omega), if_neg (by omega), if_pos (by omega), if_pos (by omega)]
        simp [hm]
      · rw [if_neg (by omega), if_pos (by omega), if_pos (by omega)]
        simp [hm]
      · rw [if_pos (by omega), if_pos (by omega)]
        simp [hm]
    · rw [if_neg (by omega), if_neg (by omega), if_neg (by omega)]
      show (List.flatMap _ L)[j]? = _
      rw [e2, List.getElem_set_ne (fun e => hk e.symm)]
  · rw [List.getElem?_eq_none (by rw [List.length_set, List.length_set, List.length_set, nc_len]; omega), List.getElem?_eq_none (by rw [nc_len, List.length_set]; omega)]
end Go.Proofs.Ytdojalflgfacgaa
