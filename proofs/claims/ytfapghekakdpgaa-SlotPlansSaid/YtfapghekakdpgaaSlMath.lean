/- Plain facts on slots: what each kid does, who is there then. -/
import Derived.Test.YtfapghekakdpgaaGrMath
import Derived.Test.YtfapghekakdpgaaGrOpen
namespace Go.Proofs.Ytfapghekakdpgaa
open Go.RowKit Gr
namespace Sl
abbrev Sk := ByteArray × Int
def sk (L : List Sk) (i : Nat) : Sk := L.getD i (ByteArray.empty, 0)
theorem sk_eq (L : List Sk) (i : Nat) (h : i < L.length) : sk L i = L[i] := by simp [sk, h]
def ghI (k : Int) : Bool := decide (k = 4) || (decide (k = 5) || decide (k = 6))
def enI (k : Int) : Bool := decide (k = 2) || decide (k = 3)
/-- the first of n places that fits. -/
def fi (q : Nat → Bool) : Nat → Option Nat
  | 0 => none
  | k + 1 => (fi q k).or (if q k = true then some k else none)
theorem fi_none {q : Nat → Bool} : ∀ {k : Nat}, fi q k = none → ∀ i, i < k → q i = false
  | 0, _, i, hi => absurd hi (Nat.not_lt_zero _)
  | k + 1, h, i, hi => by
    unfold fi at h
    rw [Option.or_eq_none_iff] at h
    by_cases e : i = k
    · subst e
      cases hq : q i with
      | false => rfl
      | true => rw [if_pos hq] at h; cases h.2
    · exact fi_none h.1 i (by omega)
theorem fi_some {q : Nat → Bool} : ∀ {k j : Nat}, fi q k = some j → j < k ∧ q j = true ∧ ∀ i, i < j → q i = false
  | 0, j, h => by cases h
  | k + 1, j, h => by
    unfold fi at h
    cases h1 : fi q k with
    | some i =>
      rw [h1] at h
      have hij : i = j := by simpa using h
      subst hij
      obtain ⟨h2, h3, h4⟩ := fi_some h1
      exact ⟨by omega, h3, h4⟩
    | none =>
      rw [h1] at h
      by_cases hk : q k = true
      · rw [if_pos hk] at h
        have hij : k = j := by simpa using h
        subst hij
        exact ⟨by omega, hk, fi_none h1⟩
      · rw [if_neg hk] at h
        cases h
theorem fi_is {q : Nat → Bool} {k j : Nat} (h1 : j < k) (h2 : q j = true) (h3 : ∀ i, i < j → q i = false) : fi q k = some j := by
  cases h : fi q k with
  | none => have := fi_none h j h1; rw [h2] at this; cases this
  | some i =>
    obtain ⟨a, b, c⟩ := fi_some h
    rcases Nat.lt_trichotomy i j with e | e | e
    · rw [h3 i e] at b; cases b
    · rw [e]
    · have := c j e; rw [h2] at this; cases this
theorem fi_no {q : Nat → Bool} {k : Nat} (h : ∀ i, i < k → q i = false) : fi q k = none := by
  cases e : fi q k with
  | none => rfl
  | some j => obtain ⟨a, b, _⟩ := fi_some e; rw [h j a] at b; cases b
theorem fi_more {q : Nat → Bool} {k j : Nat} (h : fi q k = some j) : ∀ d, fi q (k + d) = some j
  | 0 => h
  | d + 1 => by show (fi q (k + d)).or _ = _; rw [fi_more h d]; rfl
def curQ (L : List Sk) (i : Nat) : Bool := !ghI (sk L i).2
def cur (L : List Sk) : Option Nat := fi (curQ L) L.length
def backQ (L : List Sk) (key : ByteArray) (i : Nat) : Bool := ghI (sk L i).2 && decide ((sk L i).1 = key)
def back (L : List Sk) (key : ByteArray) : Option Nat := fi (backQ L key) L.length
/-- does the current one stay? -/
def stay (L : List Sk) (key : ByteArray) : Option Nat := match cur L with
  | none => none
  | some a => if key ≠ ByteArray.empty ∧ (sk L a).1 = key then some a else none
def yieldI (k : Int) (key : ByteArray) (mode : Int) : Int := if k = 1 then 3 else if mode = 2 ∧ key ≠ ByteArray.empty then 2 else 1
def zs (n : Nat) : List Int := List.replicate n 0
def each1 (L : List Sk) (key : ByteArray) (mode : Int) : List Int := match cur L with
  | none => zs L.length
  | some a => (zs L.length).set a (yieldI (sk L a).2 key mode)
def each2 (L : List Sk) (key : ByteArray) (mode : Int) : List Int := match back L key with
  | none => each1 L key mode
  | some b => (each1 L key mode).set b 4
def crowdQ (L : List Sk) (E : List Int) (i : Nat) : Bool := decide (ats E i = 1) || (!decide (ats E i = 4) && ghI (sk L i).2)
def crowd (L : List Sk) (E : List Int) : Bool := decide (0 < (wh L.length (crowdQ L E)).length)
def backHeld (L : List Sk) (key : ByteArray) : Bool := match back L key with
  | none => false
  | some b => decide ((sk L b).2 = 4)
def startB (L : List Sk) (key : ByteArray) (mode : Int) : Int := if backHeld L key = true then 0 else if mode = 1 ∧ crowd L (each2 L key mode) = true then 2 else 1
structure Pl where
  each : List Int
  take : Int
  start : Int
/-- what replace does. -/
def repl (L : List Sk) (key : ByteArray) (mode : Int) : Pl := if key = ByteArray.empty then ⟨each1 L key mode, -2, 0⟩ else ⟨each2 L key mode, oI (back L key), startB L key mode⟩
def plan0 (L : List Sk) (key : ByteArray) (mode : Int) : Pl := match stay L key with
  | some a => ⟨zs L.length, (a : Int), 0⟩
  | none => repl L key mode
def entQ (L : List Sk) (p : Pl) : Bool := decide (p.start = 1) || (decide (0 ≤ p.take) && (decide (ats p.each p.take.toNat = 0) && enI (sk L p.take.toNat).2))
def relQ (L : List Sk) (E : List Int) (i : Nat) : Bool := decide (ats E i = 2) || (decide (ats E i = 0) && decide ((sk L i).2 = 4))
def rel (L : List Sk) (p : Pl) : List Nat := if entQ L p = true then [] else wh L.length (relQ L p.each)
theorem zs_len (n : Nat) : (zs n).length = n := by simp [zs]
theorem each1_len (L : List Sk) (key : ByteArray) (mode : Int) : (each1 L key mode).length = L.length := by unfold each1; split <;> simp [zs]
theorem each2_len (L : List Sk) (key : ByteArray) (mode : Int) : (each2 L key mode).length = L.length := by unfold each2; split <;> simp [each1_len]
theorem repl_len (L : List Sk) (key : ByteArray) (mode : Int) : (repl L key mode).each.length = L.length := by unfold repl; split <;> simp [each1_len, each2_len]
theorem plan0_len (L : List Sk) (key : ByteArray) (mode : Int) : (plan0 L key mode).each.length = L.length := by unfold plan0; split <;> simp [zs_len, repl_len]
theorem cur_some {L : List Sk} {a : Nat} (h : cur L = some a) : a < L.length ∧ ghI (sk L a).2 = false := by
  obtain ⟨h1, h2, _⟩ := fi_some h
  exact ⟨h1, by simpa [curQ] using h2⟩
theorem back_some {L : List Sk} {key : ByteArray} {b : Nat} (h : back L key = some b) : b < L.length ∧ ghI (sk L b).2 = true ∧ (sk L b).1 = key := by
  obtain ⟨h1, h2, _⟩ := fi_some h
  unfold backQ at h2
  simp at h2
  exact ⟨h1, h2.1, h2.2⟩
theorem iv_zs (n : Nat) : iv (zs n) = (madeCells #[.int .i64 0] (n * 1)).toList := by rw [Nat.mul_one, toList_madeCells_one]; simp [iv, zs]
def nextQ (L : List Sk) (i : Nat) : Bool := decide ((sk L i).2 = 4)
/-- what goes on by itself. -/
def nextL (L : List Sk) : List Nat := match cur L with
  | none => wh L.length (nextQ L)
  | some a => if enI (sk L a).2 = true then [] else wh L.length (nextQ L)
def nextB (L : List Sk) : Bool := match cur L with
  | none => false
  | some a => decide ((sk L a).2 = 1) && !(fi (fun i => ghI (sk L i).2) L.length).isSome
end Sl
open Sl
/-- kids of a slot as cells -/
def scs (L : List Sk) : List Value := L.flatMap sc
theorem scs_len (L : List Sk) : (scs L).length = L.length * 2 := Op.flat_len sc 2 (fun _ => rfl) L
theorem scs_app (a b : List Sk) : scs (a ++ b) = scs a ++ scs b := List.flatMap_append
theorem scs_one (L : List Sk) : ∀ u ∈ scs L, u.oneCell' = true := by
  intro u hu
  simp only [scs, sc, List.mem_flatMap, List.mem_cons, List.not_mem_nil, or_false] at hu
  obtain ⟨k, _, rfl | rfl⟩ := hu <;> rfl
theorem at_sk {w : World} {A : Option Addr} {L : List Sk} (h : At w A (scs L)) {k : Nat} (hk : k < L.length) :
    ∃ b off, A = some ⟨b, off, none⟩ ∧ b < w.heap.size ∧ w.cell? ⟨b, off + k * 2, none⟩ = some (.string (sk L k).1) ∧ w.cell? ⟨b, off + k * 2 + 1, none⟩ = some (.int .i64 (sk L k).2) := by
  have h0 : (scs L)[k * 2]? = some (.string (sk L k).1) := by rw [sk_eq L k hk]; exact Op.flat_at sc 2 (fun _ => rfl) L k hk 0 (by omega)
  have h1 : (scs L)[k * 2 + 1]? = some (.int .i64 (sk L k).2) := by rw [sk_eq L k hk]; exact Op.flat_at sc 2 (fun _ => rfl) L k hk 1 (by omega)
  obtain ⟨b, off, e, hb, hc⟩ := h (fun e => by rw [e] at h0; cases h0)
  exact ⟨b, off, e, hb, hc _ _ h0, hc _ _ h1⟩
end Go.Proofs.Ytfapghekakdpgaa
