/- Plain facts on groups: which kid a key takes, who leaves, who is a ghost from then on. -/
import Derived.Test.YtfapghekakdpgaaClMath
import Derived.Test.YtfapghekakdpgaaLiW1
import Derived.Test.YtfapghekakdpgaaOpenG
namespace Go.Proofs.Ytfapghekakdpgaa
open Go.RowKit
namespace Gr
abbrev Gk := ByteArray × Bool
def gk (L : List Gk) (i : Nat) : Gk := L.getD i (ByteArray.empty, false)
theorem gk_eq (L : List Gk) (i : Nat) (h : i < L.length) : gk L i = L[i] := by simp [gk, h]
/-- the first of the first k kids that has a key, and is a ghost or is none. -/
def scan (L : List Gk) (s : ByteArray) (b : Bool) : Nat → Option Nat
  | 0 => none
  | k + 1 => (scan L s b k).or (if (gk L k).1 = s ∧ (gk L k).2 = b then some k else none)
theorem scan_succ (L : List Gk) (s : ByteArray) (b : Bool) (k : Nat) : scan L s b (k + 1) = (scan L s b k).or (if (gk L k).1 = s ∧ (gk L k).2 = b then some k else none) := rfl
def first (L : List Gk) (k : Nat) (s : ByteArray) : Option Nat := (scan L s false k).or (scan L s true k)
theorem scan_some {L : List Gk} {s : ByteArray} {b : Bool} : ∀ {k j : Nat}, scan L s b k = some j → j < k ∧ (gk L j).1 = s ∧ (gk L j).2 = b ∧ ∀ i, i < j → ¬ ((gk L i).1 = s ∧ (gk L i).2 = b)
  | 0, j, h => by cases h
  | k + 1, j, h => by
    unfold scan at h
    cases h1 : scan L s b k with
    | some i =>
      rw [h1] at h
      have hij : i = j := by simpa using h
      subst hij
      obtain ⟨h2, h3, h4, h5⟩ := scan_some h1
      exact ⟨by omega, h3, h4, h5⟩
    | none =>
      rw [h1] at h
      by_cases hk : (gk L k).1 = s ∧ (gk L k).2 = b
      · rw [if_pos hk] at h
        have hij : k = j := by simpa using h
        subst hij
        refine ⟨by omega, hk.1, hk.2, fun i hi hc => ?_⟩
        exact (none_of h1 i hi) hc
      · rw [if_neg hk] at h
        cases h
where
  none_of {L : List Gk} {s : ByteArray} {b : Bool} : ∀ {k : Nat}, scan L s b k = none → ∀ i, i < k → ¬ ((gk L i).1 = s ∧ (gk L i).2 = b)
    | 0, _, i, hi => absurd hi (Nat.not_lt_zero _)
    | k + 1, h, i, hi => by
      unfold scan at h
      rw [Option.or_eq_none_iff] at h
      by_cases e : i = k
      · subst e
        intro hc
        rw [if_pos hc] at h
        cases h.2
      · exact none_of h.1 i (by omega)
theorem scan_none {L : List Gk} {s : ByteArray} {b : Bool} {k : Nat} (h : scan L s b k = none) : ∀ i, i < k → ¬ ((gk L i).1 = s ∧ (gk L i).2 = b) := scan_some.none_of h
theorem first_some {L : List Gk} {s : ByteArray} {k j : Nat} (h : first L k s = some j) : j < k ∧ (gk L j).1 = s := by
  unfold first at h
  cases h1 : scan L s false k with
  | some i =>
    rw [h1] at h
    have : i = j := by simpa using h
    subst this
    exact ⟨(scan_some h1).1, (scan_some h1).2.1⟩
  | none =>
    rw [h1] at h
    have h2 : scan L s true k = some j := by simpa using h
    exact ⟨(scan_some h2).1, (scan_some h2).2.1⟩
theorem first_none {L : List Gk} {s : ByteArray} {k : Nat} (h : first L k s = none) : ∀ i, i < k → (gk L i).1 ≠ s := by
  unfold first at h
  rw [Option.or_eq_none_iff] at h
  intro i hi e
  cases hb : (gk L i).2 with
  | false => exact scan_none h.1 i hi ⟨e, hb⟩
  | true => exact scan_none h.2 i hi ⟨e, hb⟩
/-- one kid more: it is taken down if there is none of its key, or a ghost while it is none. -/
theorem first_other {L : List Gk} {s : ByteArray} {k : Nat} (h : (gk L k).1 ≠ s) : first L (k + 1) s = first L k s := by
  unfold first
  rw [scan_succ, scan_succ]
  simp [h]
theorem first_new {L : List Gk} {k : Nat} (h : first L k (gk L k).1 = none) : first L (k + 1) (gk L k).1 = some k := by
  unfold first at h ⊢
  rw [Option.or_eq_none_iff] at h
  unfold scan
  rw [h.1, h.2]
  cases hb : (gk L k).2 <;> simp
theorem first_better {L : List Gk} {k j : Nat} (h : first L k (gk L k).1 = some j) (hj : (gk L j).2 = true) (hk : (gk L k).2 = false) : first L (k + 1) (gk L k).1 = some k := by
  unfold first at h ⊢
  cases h1 : scan L (gk L k).1 false k with
  | some i =>
    rw [h1] at h
    have : i = j := by simpa using h
    subst this
    have := (scan_some h1).2.2.1
    rw [hj] at this
    cases this
  | none =>
    unfold scan
    rw [h1]
    simp [hk]
theorem first_same {L : List Gk} {k j : Nat} (h : first L k (gk L k).1 = some j) (hj : (gk L j).2 = false ∨ (gk L k).2 = true) : first L (k + 1) (gk L k).1 = some j := by
  unfold first at h ⊢
  cases h1 : scan L (gk L k).1 false k with
  | some i =>
    rw [h1] at h
    have : i = j := by simpa using h
    subst this
    unfold scan
    rw [h1]
    simp
  | none =>
    rw [h1] at h
    have h2 : scan L (gk L k).1 true k = some j := by simpa using h
    have h3 := (scan_some h2).2.2.1
    have h4 : (gk L k).2 = true := by
      rcases hj with hj | hj
      · rw [h3] at hj; cases hj
      · exact hj
    unfold scan
    rw [h1, h2]
    simp [h4]
def key (keys : List ByteArray) (i : Nat) : ByteArray := keys.getD i ByteArray.empty
theorem key_eq (keys : List ByteArray) (i : Nat) (h : i < keys.length) : key keys i = keys[i] := by simp [key, h]
def takeO (L : List Gk) (keys : List ByteArray) (i : Nat) : Option Nat := if key keys i ∈ keys.take i then none else first L L.length (key keys i)
def oI : Option Nat → Int
  | none => -1
  | some j => (j : Int)
def takeI (L : List Gk) (keys : List ByteArray) (i : Nat) : Int := oI (takeO L keys i)
def tks (L : List Gk) (keys : List ByteArray) : List Int := (List.range keys.length).map (takeI L keys)
theorem tks_len (L : List Gk) (keys : List ByteArray) : (tks L keys).length = keys.length := by simp [tks]
theorem tks_at (L : List Gk) (keys : List ByteArray) {i : Nat} (h : i < keys.length) : ats (tks L keys) i = takeI L keys i := by simp [ats, tks, h]
theorem takeI_range (L : List Gk) (keys : List ByteArray) (i : Nat) : takeI L keys i = -1 ∨ ∃ j : Nat, takeI L keys i = (j : Int) ∧ j < L.length ∧ (gk L j).1 = key keys i := by
  unfold takeI takeO
  by_cases h : key keys i ∈ keys.take i
  · rw [if_pos h]; exact .inl rfl
  · rw [if_neg h]
    cases h1 : first L L.length (key keys i) with
    | none => exact .inl rfl
    | some j => exact .inr ⟨j, rfl, first_some h1⟩
/-- the map from keys to kids behind i keys. -/
def freeF (L : List Gk) (keys : List ByteArray) (i : Nat) (s : ByteArray) : Option Nat := if s ∈ keys.take i then none else first L L.length s
theorem freeF_zero (L : List Gk) (keys : List ByteArray) : freeF L keys 0 = first L L.length := by funext s; simp [freeF]
theorem freeF_at (L : List Gk) (keys : List ByteArray) (i : Nat) : freeF L keys i (key keys i) = takeO L keys i := rfl
theorem take_next (keys : List ByteArray) (i : Nat) (h : i < keys.length) : keys.take (i + 1) = keys.take i ++ [key keys i] := by rw [List.take_succ_eq_append_getElem h, key_eq keys i h]
theorem freeF_next (L : List Gk) (keys : List ByteArray) (i : Nat) (h : i < keys.length) : freeF L keys (i + 1) = fun s => if s = key keys i then none else freeF L keys i s := by
  funext s
  unfold freeF
  rw [take_next keys i h]
  by_cases e : s = key keys i
  · subst e; simp
  · simp [e]
/-- of n places those that a list has. -/
def mks (n : Nat) (l : List Int) : List Bool := (List.range n).map fun (i : Nat) => decide ((i : Int) ∈ l)
theorem mks_len (n : Nat) (l : List Int) : (mks n l).length = n := by simp [mks]
theorem mks_at (n : Nat) (l : List Int) {i : Nat} (h : i < n) : (mks n l).getD i false = decide ((i : Int) ∈ l) := by simp [mks, h]
theorem mks_in (n : Nat) (l : List Int) (k j : Nat) (hk : k < l.length) (hj : ats l k = (j : Int)) : (mks n (l.take k)).set j true = mks n (l.take (k + 1)) := by
  have e : l.take (k + 1) = l.take k ++ [(j : Int)] := by
    rw [List.take_succ_eq_append_getElem hk, ← hj]
    simp [ats, hk]
  rw [e]
  apply List.ext_getElem
  · simp [mks]
  · intro i h1 h2
    simp only [mks, List.getElem_set, List.getElem_map, List.getElem_range]
    by_cases hi : j = i
    · subst hi; simp
    · rw [if_neg hi]
      have : ¬ (i : Int) = (j : Int) := by omega
      simp [this]
theorem mks_out (n : Nat) (l : List Int) (k : Nat) (hk : k < l.length) (hj : ats l k < 0 ∨ (n : Int) ≤ ats l k) : mks n (l.take k) = mks n (l.take (k + 1)) := by
  have e : l.take (k + 1) = l.take k ++ [ats l k] := by
    rw [List.take_succ_eq_append_getElem hk]
    simp [ats, hk]
  rw [e]
  unfold mks
  apply List.map_congr_left
  intro i hi
  have hi := List.mem_range.1 hi
  have : ¬ (i : Int) = ats l k := by omega
  simp [this]
theorem mks_zero (n : Nat) : mks n [] = List.replicate n false := by
  apply List.ext_getElem
  · simp [mks]
  · intro i h1 h2; simp [mks]
/-- of n places those that fit. -/
def wh (n : Nat) (q : Nat → Bool) : List Nat := (List.range n).filter q
theorem wh_next (k : Nat) (q : Nat → Bool) : wh (k + 1) q = if q k = true then wh k q ++ [k] else wh k q := by
  unfold wh
  rw [List.range_succ, List.filter_append]
  by_cases h : q k = true
  · simp [h]
  · simp [h]
theorem wh_le (k : Nat) (q : Nat → Bool) : (wh k q).length ≤ k := by
  have := List.length_filter_le q (List.range k)
  simpa [wh] using this
theorem wh_congr {k : Nat} {q r : Nat → Bool} (h : ∀ i, i < k → q i = r i) : wh k q = wh k r := by
  unfold wh
  apply List.filter_congr
  intro i hi
  exact h i (List.mem_range.1 hi)
def nI (l : List Nat) : List Int := l.map fun (i : Nat) => (i : Int)
theorem nI_mem {l : List Nat} {i : Nat} : (i : Int) ∈ nI l ↔ i ∈ l := by
  unfold nI
  rw [List.mem_map]
  constructor
  · rintro ⟨j, h1, h2⟩
    have : j = i := by omega
    subst this
    exact h1
  · exact fun h => ⟨i, h, rfl⟩
theorem iv_nI (l : List Nat) : iv (nI l) = nv l := by simp [iv, nI, nv]
theorem mem_wh {k i : Nat} {q : Nat → Bool} : i ∈ wh k q ↔ i < k ∧ q i = true := by simp [wh]
def leaveQ (L : List Gk) (T : List Int) (i : Nat) : Bool := !(gk L i).2 && !decide ((i : Int) ∈ T)
def ghostQ (T : List Int) (i : Nat) : Bool := !decide ((i : Int) ∈ T)
def leaves (L : List Gk) (T : List Int) : List Nat := wh L.length (leaveQ L T)
def ghosts (L : List Gk) (T : List Int) : List Nat := wh L.length (ghostQ T)
theorem ghosts_is (L : List Gk) (T : List Int) {i : Nat} (h : i < L.length) : (decide ((i : Int) ∈ nI (leaves L T)) || ((gk L i).2 && !decide ((i : Int) ∈ T))) = ghostQ T i := by
  have e : decide ((i : Int) ∈ nI (leaves L T)) = leaveQ L T i := by
    rw [Bool.eq_iff_iff, decide_eq_true_iff, nI_mem]
    unfold leaves
    rw [mem_wh]
    exact ⟨fun h => h.2, fun h' => ⟨h, h'⟩⟩
  rw [e]
  unfold leaveQ ghostQ
  cases (gk L i).2 <;> simp
def newQ (T : List Int) (i : Nat) : Bool := decide (ats T i < 0)
def backQ (L : List Gk) (T : List Int) (i : Nat) : Bool := decide (0 ≤ ats T i) && (decide (ats T i < (L.length : Int)) && (gk L (ats T i).toNat).2)
def keptQ (L : List Gk) (T : List Int) (i : Nat) : Bool := decide (0 ≤ ats T i) && (decide (ats T i < (L.length : Int)) && !(gk L (ats T i).toNat).2)
end Gr
open Gr
/-- kids as cells -/
def gc (k : Gk) : List Value := [.string k.1, .bool k.2]
def gcs (L : List Gk) : List Value := L.flatMap gc
theorem gcs_len (L : List Gk) : (gcs L).length = L.length * 2 := Op.flat_len gc 2 (fun _ => rfl) L
theorem gcs_app (a b : List Gk) : gcs (a ++ b) = gcs a ++ gcs b := List.flatMap_append
theorem gcs_one (L : List Gk) : ∀ u ∈ gcs L, u.oneCell' = true := by
  intro u hu
  simp only [gcs, gc, List.mem_flatMap, List.mem_cons, List.not_mem_nil, or_false] at hu
  obtain ⟨k, _, rfl | rfl⟩ := hu <;> rfl
theorem at_gk {w : World} {A : Option Addr} {L : List Gk} (h : At w A (gcs L)) {k : Nat} (hk : k < L.length) :
    ∃ b off, A = some ⟨b, off, none⟩ ∧ b < w.heap.size ∧ w.cell? ⟨b, off + k * 2, none⟩ = some (.string (gk L k).1) ∧ w.cell? ⟨b, off + k * 2 + 1, none⟩ = some (.bool (gk L k).2) := by
  have h0 : (gcs L)[k * 2]? = some (.string (gk L k).1) := by rw [gk_eq L k hk]; exact Op.flat_at gc 2 (fun _ => rfl) L k hk 0 (by omega)
  have h1 : (gcs L)[k * 2 + 1]? = some (.bool (gk L k).2) := by rw [gk_eq L k hk]; exact Op.flat_at gc 2 (fun _ => rfl) L k hk 1 (by omega)
  obtain ⟨b, off, e, hb, hc⟩ := h (fun e => by rw [e] at h0; cases h0)
  exact ⟨b, off, e, hb, hc _ _ h0, hc _ _ h1⟩
/-- truth values as cells -/
def bv (l : List Bool) : List Value := l.map Value.bool
theorem bv_len (l : List Bool) : (bv l).length = l.length := by simp [bv]
theorem bv_at (l : List Bool) (k : Nat) (h : k < l.length) : (bv l)[k]? = some (.bool (l.getD k false)) := by simp [bv, h]
theorem bv_set (l : List Bool) (k : Nat) (x : Bool) : bv (l.set k x) = (bv l).set k (.bool x) := by simp [bv, List.map_set]
theorem bv_zero (n : Nat) : bv (mks n []) = (madeCells #[.bool false] (n * 1)).toList := by rw [Nat.mul_one, toList_madeCells_one, mks_zero]; simp [bv]
def pTo (p : Nat → Int) (k n : Nat) : List Int := (List.range k).map p ++ List.replicate (n - k) 0
theorem pTo_len (p : Nat → Int) (k n : Nat) (h : k ≤ n) : (pTo p k n).length = n := by simp [pTo]; omega
theorem pTo_set (p : Nat → Int) (k n : Nat) (h : k < n) : (pTo p k n).set k (p k) = pTo p (k + 1) n := by
  apply List.ext_getElem?
  intro j
  unfold pTo
  rw [List.getElem?_set]
  simp only [List.length_append, List.length_map, List.length_range, List.length_replicate]
  by_cases hj : k = j
  · subst hj
    rw [if_pos rfl, if_pos (by omega), List.getElem?_append_left (by simp)]
    simp
  · rw [if_neg hj]
    by_cases hjk : j < k
    · rw [List.getElem?_append_left (by simpa using hjk), List.getElem?_append_left (by simp; omega)]
      simp [hjk, show j < k + 1 by omega]
    · rw [List.getElem?_append_right (by simp; omega), List.getElem?_append_right (by simp; omega)]
      simp only [List.length_map, List.length_range, List.getElem?_replicate]
      by_cases hjn : j < n
      · rw [if_pos (by omega), if_pos (by omega)]
      · rw [if_neg (by omega), if_neg (by omega)]
theorem pTo_all (p : Nat → Int) (n : Nat) : pTo p n n = (List.range n).map p := by simp [pTo]
theorem iv_set (l : List Int) (k : Nat) (x : Int) : iv (l.set k x) = (iv l).set k (.int .i64 x) := by simp [iv, List.map_set]
theorem iv_zero (p : Nat → Int) (n : Nat) : iv (pTo p 0 n) = (madeCells #[.int .i64 0] (n * 1)).toList := by rw [Nat.mul_one, toList_madeCells_one]; simp [iv, pTo]
def fstF (L : List Gk) (k : Nat) (s : ByteArray) : Option Value := (first L k s).map fun (j : Nat) => Value.int .i64 (j : Int)
theorem fstF_store {L : List Gk} {k : Nat} (h : first L (k + 1) (gk L k).1 = some k) : (fun t => if t = (gk L k).1 then some (Value.int .i64 (k : Int)) else fstF L k t) = fstF L (k + 1) := by
  funext t
  unfold fstF
  by_cases e : t = (gk L k).1
  · subst e; rw [if_pos rfl, h]; rfl
  · rw [if_neg e, first_other (fun h => e h.symm)]
theorem fstF_keep {L : List Gk} {k : Nat} (h : first L (k + 1) (gk L k).1 = first L k (gk L k).1) : fstF L k = fstF L (k + 1) := by
  funext t
  unfold fstF
  by_cases e : t = (gk L k).1
  · subst e; rw [h]
  · rw [first_other (fun h => e h.symm)]
def freF (L : List Gk) (keys : List ByteArray) (i : Nat) (s : ByteArray) : Option Value := (freeF L keys i s).map fun (j : Nat) => Value.int .i64 (j : Int)
theorem freF_zero (L : List Gk) (keys : List ByteArray) : freF L keys 0 = fstF L L.length := by funext s; unfold freF fstF; rw [freeF_zero]
theorem freF_next (L : List Gk) (keys : List ByteArray) (i : Nat) (h : i < keys.length) : freF L keys (i + 1) = fun s => if s = key keys i then none else freF L keys i s := by
  funext s
  unfold freF
  rw [freeF_next L keys i h]
  by_cases e : s = key keys i <;> simp [e]
def OkS (s : ByteArray) : Prop := s.size ≤ maxLen
def skey (s : ByteArray) : Lit := .string s.data.toList
end Go.Proofs.Ytfapghekakdpgaa
