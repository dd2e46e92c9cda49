/- Plain facts on putting boxes: where each goes, one behind the other. -/
import Derived.Test.YtjpdnnjijcmioaaRcW1
import Derived.Deep.AppendLies
namespace Go.Proofs.Ytjpdnnjijcmioaa
open Go.RowKit M
namespace Fl
abbrev Bx := Int × Int
def ln (x : Int) : Int := clp x 0 2147483647
theorem ln_lo (x : Int) : 0 ≤ ln x := by unfold ln clp; omega
theorem ln_hi (x : Int) : ln x ≤ 2147483647 := by unfold ln clp; omega
/-- pairs of numbers as cells -/
def cc : List Bx → List Value
  | [] => []
  | b :: l => .int .i64 b.1 :: .int .i64 b.2 :: cc l
theorem cc_len (l : List Bx) : (cc l).length = l.length * 2 := by
  induction l with
  | nil => rfl
  | cons b l ih => show (cc l).length + 1 + 1 = _; rw [ih]; simp only [List.length_cons]; omega
theorem cc_app (a b : List Bx) : cc (a ++ b) = cc a ++ cc b := by
  induction a with
  | nil => rfl
  | cons x a ih => show _ :: _ :: cc (a ++ b) = _; rw [ih]; rfl
theorem cc_at (l : List Bx) (k : Nat) (h : k < l.length) : (cc l)[k * 2]? = some (.int .i64 (l.getD k (0, 0)).1) ∧ (cc l)[k * 2 + 1]? = some (.int .i64 (l.getD k (0, 0)).2) := by
  induction l generalizing k with
  | nil => cases h
  | cons b l ih =>
    cases k with
    | zero => exact ⟨rfl, rfl⟩
    | succ k =>
      have h1 := ih k (by simpa using h)
      have e1 : (k + 1) * 2 = k * 2 + 1 + 1 := by omega
      rw [e1]
      exact h1
theorem cc_one (l : List Bx) : ∀ u ∈ cc l, u.oneCell' = true := by
  induction l with
  | nil => intro u hu; cases hu
  | cons b l ih =>
    intro u hu
    rcases List.mem_cons.1 hu with rfl | hu
    · rfl
    · rcases List.mem_cons.1 hu with rfl | hu
      · rfl
      · exact ih u hu
theorem at_box {w : World} {A : Option Addr} {l : List Bx} (h : At w A (cc l)) {k : Nat} (hk : k < l.length) :
    ∃ b off, A = some ⟨b, off, none⟩ ∧ b < w.heap.size ∧ w.cell? ⟨b, off + k * 2, none⟩ = some (.int .i64 (l.getD k (0, 0)).1) ∧ w.cell? ⟨b, off + k * 2 + 1, none⟩ = some (.int .i64 (l.getD k (0, 0)).2) := by
  obtain ⟨h1, h2⟩ := cc_at l k hk
  obtain ⟨b, off, e, hl, hc⟩ := h (fun e => by rw [e] at h1; cases h1)
  exact ⟨b, off, e, hl, hc _ _ h1, by rw [Nat.add_assoc]; exact hc _ _ h2⟩
/-- where the program is: x, y of the next one, width and height of the whole -/
abbrev S4 := Int × Int × Int × Int
def at0 (sp : Int) (bg : Nat → Int → Bool) (s : S4) (i : Nat) (b : Bx) : Bx := if 0 < i ∧ bg i (ad s.1 (ln b.1)) = true then (0, ad s.2.2.2 sp) else (s.1, s.2.1)
def stp (sp : Int) (bg : Nat → Int → Bool) (s : S4) (i : Nat) (b : Bx) : S4 :=
  (ad (ad (at0 sp bg s i b).1 (ln b.1)) sp, (at0 sp bg s i b).2, max s.2.2.1 (ad (at0 sp bg s i b).1 (ln b.1)), max s.2.2.2 (ad (at0 sp bg s i b).2 (ln b.2)))
def run (sp : Int) (bg : Nat → Int → Bool) (L : List Bx) : Nat → S4
  | 0 => (0, 0, 0, 0)
  | k + 1 => stp sp bg (run sp bg L k) k (L.getD k (0, 0))
def pt (sp : Int) (bg : Nat → Int → Bool) (L : List Bx) (k : Nat) : Bx := at0 sp bg (run sp bg L k) k (L.getD k (0, 0))
def pts (sp : Int) (bg : Nat → Int → Bool) (L : List Bx) (k : Nat) : List Bx := (List.range k).map (pt sp bg L)
theorem pts_len (sp : Int) (bg : Nat → Int → Bool) (L : List Bx) (k : Nat) : (pts sp bg L k).length = k := by simp [pts]
theorem pts_next (sp : Int) (bg : Nat → Int → Bool) (L : List Bx) (k : Nat) : pts sp bg L (k + 1) = pts sp bg L k ++ [pt sp bg L k] := by simp [pts, List.range_succ]
theorem pts_at (sp : Int) (bg : Nat → Int → Bool) (L : List Bx) (n k : Nat) (h : k < n) : (pts sp bg L n).getD k (0, 0) = pt sp bg L k := by
  simp [pts, List.getD_eq_getElem?_getD, List.getElem?_map, List.getElem?_range h]
end Fl
/-- a variable of two numbers in a block of its own. -/
structure V2 (w : World) (b : Nat) (x y : Int) : Prop where
  c0 : w.cell? ⟨b, 0, none⟩ = some (.int .i64 x)
  c1 : w.cell? ⟨b, 1, none⟩ = some (.int .i64 y)
  f0 : w.frozen? ⟨b, 0, none⟩ = false
  f1 : w.frozen? ⟨b, 1, none⟩ = false
theorem V2.lt {w : World} {b : Nat} {x y : Int} (h : V2 w b x y) : b < w.heap.size := World.block_lt_of_cell? w _ h.c0
theorem V2.grown {w w' : World} {b : Nat} {x y : Int} {row : Option Nat} (h : V2 w b x y) (hg : w.grownBy w' row) (hne : some b ≠ row) : V2 w' b x y :=
  ⟨hg.cell h.c0 hne, hg.cell h.c1 hne, (hg.frozen_far ⟨b, 0, none⟩ h.lt hne).trans h.f0, (hg.frozen_far ⟨b, 1, none⟩ h.lt hne).trans h.f1⟩
theorem V2.alloc {w : World} {b : Nat} {x y : Int} (h : V2 w b x y) (o : Obj) : V2 (w.alloc o) b x y := h.grown (World.grownBy_alloc w o none) (by simp)
theorem V2.drew {w : World} {b : Nat} {x y : Int} (h : V2 w b x y) : V2 w.drew b x y := ⟨h.c0, h.c1, h.f0, h.f1⟩
theorem V2.drewN {w : World} {b : Nat} {x y : Int} (h : V2 w b x y) (n : Nat) : V2 (w.drewN n) b x y := ⟨h.c0, h.c1, h.f0, h.f1⟩
theorem V2.below {w w' : World} {b : Nat} {x y : Int} (h : V2 w b x y) (hb : Below w.heap.size w w') : V2 w' b x y :=
  ⟨(hb.cell (p := ⟨b, 0, none⟩) h.lt).trans h.c0, (hb.cell (p := ⟨b, 1, none⟩) h.lt).trans h.c1, (hb.frozen (p := ⟨b, 0, none⟩) h.lt).trans h.f0, (hb.frozen (p := ⟨b, 1, none⟩) h.lt).trans h.f1⟩
theorem V2.set0 {w : World} {b : Nat} {x y : Int} (h : V2 w b x y) (z : Int) : V2 (w.setCell ⟨b, 0, none⟩ (.int .i64 z)) b z y := by
  obtain ⟨c0, c1, f0, f1⟩ := h
  constructor <;> go_simp
theorem V2.set1 {w : World} {b : Nat} {x y : Int} (h : V2 w b x y) (z : Int) : V2 (w.setCell ⟨b, 1, none⟩ (.int .i64 z)) b x z := by
  obtain ⟨c0, c1, f0, f1⟩ := h
  constructor <;> go_simp
theorem V2.other {w : World} {b : Nat} {x y : Int} (h : V2 w b x y) (b' o : Nat) (u : Value) (hne : b ≠ b') : V2 (w.setCell ⟨b', o, none⟩ u) b x y :=
  h.grown (grown_set w ⟨b', o, none⟩ u) (by intro e; injection e with e; exact hne e)
theorem V2.new (w : World) (x y : Int) (t : TypeId) : V2 (w.alloc (.cells #[.int .i64 x, .int .i64 y] t)) w.heap.size x y := by
  constructor <;> simp
theorem own_other {w : World} {base : Nat} {e : TypeId} {size n : Nat} {v : Value} {xs : List Value} (h : w.ownsRow base e size v n xs) (b o : Nat) (u : Value) (hb : b < base) : (w.setCell ⟨b, o, none⟩ u).ownsRow base e size v n xs :=
  h.kept (grown_set w ⟨b, o, none⟩ u) (by
    rcases hv : v.ownBlock with _ | k
    · exact .inl rfl
    · refine .inr ?_
      intro e9
      injection e9 with e9
      have := (h.lt k hv).1
      simp only at e9
      omega)
theorem own_drew' {w : World} {base : Nat} {e : TypeId} {size n : Nat} {v : Value} {xs : List Value} (h : w.ownsRow base e size v n xs) (q : Nat) : (w.drewN q).ownsRow base e size v n xs := h
end Go.Proofs.Ytjpdnnjijcmioaa
