/- Words for memory that the contracts use: cells that lie where a slice begins; what is kept when memory grows. -/
import Derived.WalkKit
import Derived.Lib.Hide
import Derived.WalkSpells
import Derived.Deep.Draws
import Derived.Laws.OwnMore
namespace Go.Proofs.Ytfapghekakdpgaa
open Go.RowKit
/-- the cells `xs` lie in `w` where a slice that begins at `A` begins; nothing is asked of `A` where there are none. -/
def At (w : World) (A : Option Addr) (xs : List Value) : Prop :=
  xs ≠ [] → ∃ b off, A = some ⟨b, off, none⟩ ∧ b < w.heap.size ∧ ∀ j u, xs[j]? = some u → w.cell? ⟨b, off + j, none⟩ = some u
theorem At.nil (w : World) (A : Option Addr) : At w A [] := fun h => absurd rfl h
theorem At.below {w w' : World} {A : Option Addr} {xs : List Value} (h : At w A xs) (hb : Below w.heap.size w w') : At w' A xs := fun hx => by
  obtain ⟨b, off, e, hl, hc⟩ := h hx
  exact ⟨b, off, e, Nat.lt_of_lt_of_le hl hb.size, fun j u hu => (hb.cell (p := ⟨b, off + j, none⟩) hl).trans (hc j u hu)⟩
theorem At.drewN {w : World} {A : Option Addr} {xs : List Value} (h : At w A xs) (n : Nat) : At (w.drewN n) A xs := h
theorem At.alloc {w : World} {A : Option Addr} {xs : List Value} (h : At w A xs) (o : Obj) : At (w.alloc o) A xs := h.below ((Below.refl _ _).alloc (Nat.le_refl _) o)
theorem At.take {w : World} {A : Option Addr} {xs : List Value} (h : At w A xs) (k : Nat) : At w A (xs.take k) := fun hx => by
  obtain ⟨b, off, e, hl, hc⟩ := h (fun e => hx (by rw [e]; simp))
  refine ⟨b, off, e, hl, fun j u hu => hc j u ?_⟩
  rw [List.getElem?_take] at hu
  split at hu
  · exact hu
  · cases hu
theorem At.cut {w : World} {A : Option Addr} {xs : List Value} (h : At w A xs) (k c : Nat) (hl : xs.length ≤ c) : At w (if c = k then A else A.map (·.add k)) (xs.drop k) := fun hx => by
  have hlt : k < xs.length := by
    rcases Nat.lt_or_ge k xs.length with h1 | h1
    · exact h1
    · exact absurd (List.drop_of_length_le h1) hx
  obtain ⟨b, off, e, hb, hc⟩ := h (fun e => by rw [e] at hlt; simp at hlt)
  subst e
  rw [if_neg (by omega)]
  refine ⟨b, off + k, ?_, hb, fun j u hu => ?_⟩
  · show some ((⟨b, off, none⟩ : Addr).add k) = _
    unfold Addr.add
    by_cases h0 : k = 0 <;> simp [h0]
  · rw [Nat.add_assoc]
    exact hc _ u (by rw [← hu, List.getElem?_drop])
theorem At.cut' {w : World} {b off : Nat} {xs : List Value} (h : At w (some ⟨b, off, none⟩) xs) (k c : Nat) (hl : xs.length ≤ c) : At w (if c = k then some ⟨b, off, none⟩ else some ⟨b, off + k, none⟩) (xs.drop k) := by
  have h1 := h.cut k c hl
  have e : (if c = k then some (⟨b, off, none⟩ : Addr) else (some (⟨b, off, none⟩ : Addr)).map (·.add k)) = (if c = k then some ⟨b, off, none⟩ else some ⟨b, off + k, none⟩) := by
    split
    · rfl
    · show some ((⟨b, off, none⟩ : Addr).add k) = _
      unfold Addr.add
      by_cases h0 : k = 0 <;> simp [h0]
  rw [e] at h1
  exact h1
/-- where a cell is asked for there is an address. -/
theorem At.one {w : World} {A : Option Addr} {xs : List Value} (h : At w A xs) {k : Nat} {u : Value} (hk : xs[k]? = some u) :
    ∃ b off, A = some ⟨b, off, none⟩ ∧ b < w.heap.size ∧ w.cell? ⟨b, off + k, none⟩ = some u := by
  obtain ⟨b, off, e, hl, hc⟩ := h (fun e => by rw [e] at hk; cases hk)
  exact ⟨b, off, e, hl, hc k u hk⟩
theorem At.own {w : World} {base : Nat} {e : TypeId} {size n cap : Nat} {A : Option Addr} {xs : List Value} (h : w.ownsRow base e size (.slice A n cap) n xs) : At w A xs := fun hx => by
  rcases h.2 with ⟨hv, h0⟩ | ⟨g, c, cur, hv, _, hh, _, _, _, ht⟩
  · subst h0
    exact absurd (List.eq_nil_of_length_eq_zero (by simpa using h.1)) hx
  · injection hv with hA _ _
    subst hA
    have hlt : g < w.heap.size := by
      rcases Nat.lt_or_ge g w.heap.size with h1 | h1
      · exact h1
      · rw [Array.getElem?_eq_none h1] at hh; cases hh
    refine ⟨g, 0, rfl, hlt, fun j u hu => ?_⟩
    rw [cell_of_row w g (0 + j) cur e (0, 0) hh, Nat.zero_add]
    rw [← ht, List.getElem?_take] at hu
    split at hu
    · simpa using hu
    · cases hu
theorem At.grown {w w' : World} {row : Option Nat} {b off : Nat} {xs : List Value} (h : At w (some ⟨b, off, none⟩) xs) (hg : w.grownBy w' row) (hne : some b ≠ row) : At w' (some ⟨b, off, none⟩) xs := fun hx => by
  obtain ⟨b', off', e, hl, hc⟩ := h hx
  injection e with e
  injection e with e1 e2
  subst e1 e2
  exact ⟨b, off, rfl, Nat.lt_of_lt_of_le hl hg.size, fun j u hu => hg.cell (hc j u hu) hne⟩
theorem own_slice {w : World} {base : Nat} {e : TypeId} {size n : Nat} {v : Value} {xs : List Value} (h : w.ownsRow base e size v n xs) : ∃ A cap, v = .slice A n cap ∧ n ≤ cap ∧ cap ≤ maxLen := by
  rcases h.2 with ⟨hv, h0⟩ | ⟨g, c, cur, hv, _, _, h1, h2, _⟩
  · subst h0; exact ⟨none, 0, hv, Nat.le_refl _, Nat.zero_le _⟩
  · exact ⟨_, c, hv, h1, h2⟩
/-- an own row lies from its base on. -/
theorem own_from {w : World} {base : Nat} {e : TypeId} {size n : Nat} {v : Value} {xs : List Value} (h : w.ownsRow base e size v n xs) : ∀ g, v.ownBlock = some g → base ≤ g := by
  intro g hg
  rcases h.2 with ⟨hv, _⟩ | ⟨g', c, cur, hv, hb, _⟩
  · subst hv; cases hg
  · subst hv
    simp only [Value.ownBlock, Option.some.injEq] at hg
    omega
theorem own_mono {w : World} {base base' : Nat} {e : TypeId} {size n : Nat} {v : Value} {xs : List Value} (h : w.ownsRow base e size v n xs) (hb : base' ≤ base) : w.ownsRow base' e size v n xs := by
  rcases h with ⟨h1, h2 | ⟨g, c, cur, hv, h3, h4⟩⟩
  · exact ⟨h1, .inl h2⟩
  · exact ⟨h1, .inr ⟨g, c, cur, hv, by omega, h4⟩⟩
/-- a box of one cell that was laid first is there later. -/
theorem box_later {w w1 W : World} {v : Value} {t : TypeId} (h1 : Below (w.alloc (.cells #[v] t)).heap.size (w.alloc (.cells #[v] t)) w1) (h2 : Below (w.alloc (.cells #[v] t)).heap.size w1 W) :
    W.cell? ⟨w.heap.size, 0, none⟩ = some v := by
  have hlt : w.heap.size < (w.alloc (.cells #[v] t)).heap.size := by simp
  exact (h2.cell (p := ⟨w.heap.size, 0, none⟩) hlt).trans ((h1.cell (p := ⟨w.heap.size, 0, none⟩) hlt).trans (by simp))
theorem below_alloc (w : World) (o : Obj) : Below w.heap.size w (w.alloc o) := (Below.refl _ _).alloc (Nat.le_refl _) o
theorem size_alloc (w : World) (o : Obj) : (w.alloc o).heap.size = w.heap.size + 1 := by simp
theorem own_addr {w : World} {base : Nat} {e : TypeId} {size n c : Nat} {A : Option Addr} {xs : List Value} (h : w.ownsRow base e size (.slice A n c) n xs) : A = none → n = 0 ∧ c = 0 := by
  intro hA
  rcases h.2 with ⟨hv, h0⟩ | ⟨g, c', cur, hv, _⟩
  · injection hv with _ _ hc
    exact ⟨h0, hc⟩
  · injection hv with hA' _ _
    rw [hA] at hA'
    cases hA'
theorem at_new (w : World) (cs : Array Value) (t : TypeId) (b : Nat) (hb : w.heap.size = b) (xs : List Value) (h : cs.toList = xs) : At (w.alloc (.cells cs t)) (some ⟨b, 0, none⟩) xs := fun _ => by
  subst hb
  refine ⟨_, 0, rfl, by simp, fun j u hu => ?_⟩
  rw [Nat.zero_add, cell_of_row (w.alloc (.cells cs t)) w.heap.size j cs t (0, 0) (heap_alloc_new w _)]
  rw [← h] at hu
  simpa using hu
theorem own_made {base : Nat} {e : TypeId} {size : Nat} (w : World) (b : Nat) (hb : w.heap.size = b) (hB : base ≤ b) : (w.alloc (.cells #[] e)).ownsRow base e size (.slice (some ⟨b, 0, none⟩) 0 0) 0 [] := by
  subst hb
  exact World.ownsRow_made w #[] 0 hB (Nat.zero_le _) (by simp)
/-- a block that was laid ahead of a write elsewhere, behind draws. -/
theorem at_heap {w : World} (cs : Array Value) (t : TypeId) (b : Nat) (xs : List Value) (hh : w.heap[b]? = some (.cells cs t (0, 0))) (h : cs.toList = xs) : At w (some ⟨b, 0, none⟩) xs := fun _ => by
  refine ⟨b, 0, rfl, ?_, fun j u hu => ?_⟩
  · rcases Nat.lt_or_ge b w.heap.size with h1 | h1
    · exact h1
    · rw [Array.getElem?_eq_none h1] at hh; cases hh
  · rw [Nat.zero_add, cell_of_row w b j cs t (0, 0) hh]
    rw [← h] at hu
    simpa using hu
theorem at_push1 {w : World} (h0 : Array Obj) (cs : Array Value) (t : TypeId) (b : Nat) (xs : List Value) (hw : w.heap = h0.push (.cells cs t)) (hb : h0.size = b) (h : cs.toList = xs) : At w (some ⟨b, 0, none⟩) xs :=
  at_heap cs t b xs (by rw [hw, ← hb]; simp) h
theorem at_push2 {w : World} (h0 : Array Obj) (cs : Array Value) (t : TypeId) (o : Obj) (b : Nat) (xs : List Value) (hw : w.heap = (h0.push (.cells cs t)).push o) (hb : h0.size = b) (h : cs.toList = xs) : At w (some ⟨b, 0, none⟩) xs :=
  at_heap cs t b xs (by rw [hw, ← hb, Array.getElem?_push, if_neg (by simp), Array.getElem?_push, if_pos rfl]) h
/-- rows of different element types lie in different blocks. -/
theorem own_ne {w : World} {b1 b2 : Nat} {e1 e2 : TypeId} {s1 s2 n1 n2 : Nat} {v1 v2 : Value} {x1 x2 : List Value} (h1 : w.ownsRow b1 e1 s1 v1 n1 x1) (h2 : w.ownsRow b2 e2 s2 v2 n2 x2) (hne : e1 ≠ e2) : v1.ownBlock = none ∨ v1.ownBlock ≠ v2.ownBlock := by
  rcases h1.2 with ⟨rfl, _⟩ | ⟨g1, c1, cur1, rfl, _, hh1, _⟩
  · exact .inl rfl
  · refine .inr fun e => ?_
    rcases h2.2 with ⟨rfl, _⟩ | ⟨g2, c2, cur2, rfl, _, hh2, _⟩
    · cases e
    · simp only [Value.ownBlock, Option.some.injEq] at e
      subst e
      rw [hh1] at hh2
      injection hh2 with hh2
      injection hh2 with _ he _
      exact hne he
theorem at_of_own' {w : World} {base : Nat} {e : TypeId} {size n : Nat} {v : Value} {xs : List Value} (h : w.ownsRow base e size v n xs) : ∃ A c, v = .slice A n c ∧ n ≤ c ∧ c ≤ maxLen ∧ At w A xs := by
  obtain ⟨A, c, rfl, h1, h2⟩ := own_slice h
  exact ⟨A, c, rfl, h1, h2, At.own h⟩
theorem cells_set2 {w : World} {g : Nat} {s0 z0 : Value} (h0 : w.cell? ⟨g, 0, none⟩ = some s0) (h1 : w.cell? ⟨g, 1, none⟩ = some z0) (u v : Value) :
    ((w.setCell ⟨g, 0, none⟩ u).setCell ⟨g, 1, none⟩ v).cell? ⟨g, 0, none⟩ = some u ∧ ((w.setCell ⟨g, 0, none⟩ u).setCell ⟨g, 1, none⟩ v).cell? ⟨g, 1, none⟩ = some v := by
  have e1 : (w.setCell ⟨g, 0, none⟩ u).cell? ⟨g, 0, none⟩ = some u := by go_simp
  have e2 : (w.setCell ⟨g, 0, none⟩ u).cell? ⟨g, 1, none⟩ = some z0 := by go_simp
  constructor
  · go_simp
  · go_simp
/-- only the heap counts. -/
theorem own_heap {w w' : World} {base : Nat} {e : TypeId} {size n : Nat} {v : Value} {xs : List Value} (h : w.ownsRow base e size v n xs) (hw : w'.heap = w.heap) : w'.ownsRow base e size v n xs := by
  unfold World.ownsRow at h ⊢
  rw [hw]
  exact h
theorem cell_heap {w w' : World} {a : Addr} {v : Value} (h : w.cell? a = some v) (hw : w'.heap = w.heap) : w'.cell? a = some v :=
  (World.cell?_of_block (w := w) (by rw [hw])).trans h
theorem at_new_grown {w w' : World} {row : Option Nat} (hg : w.grownBy w' row) (h0 : Array Obj) (cs : Array Value) (t : TypeId) (b : Nat) (xs : List Value) (hw : w.heap = h0.push (.cells cs t)) (hb : h0.size = b) (h : cs.toList = xs) (hne : some b ≠ row) : At w' (some ⟨b, 0, none⟩) xs :=
  (at_heap cs t b xs (by rw [hw, ← hb]; simp) h).grown hg hne
theorem at_new_alloc_grown {w w' : World} {row : Option Nat} (hg : w.grownBy w' row) (h0 : Array Obj) (cs : Array Value) (t : TypeId) (o : Obj) (b : Nat) (xs : List Value) (hw : w.heap = (h0.push (.cells cs t)).push o) (hb : h0.size = b) (h : cs.toList = xs) (hne : some b ≠ row) : At w' (some ⟨b, 0, none⟩) xs :=
  (at_heap cs t b xs (by rw [hw, ← hb, Array.getElem?_push, if_neg (by simp), Array.getElem?_push, if_pos rfl]) h).grown hg hne
theorem Below_drew {B : Nat} {a w : World} (h : Below B a w) : Below B a w.drew := ⟨h.os, h.tape, h.output, h.size, h.block⟩
theorem below_alloc1 {B : Nat} {a w : World} (h : Below B a w) (o : Obj) : Below B a (w.alloc o) ∨ w.heap.size < B := by
  rcases Nat.lt_or_ge w.heap.size B with h1 | h1
  · exact .inr h1
  · exact .inl (h.alloc h1 o)
/-- what is owned stays owned where nothing that there was has changed. -/
theorem own_below {w w' : World} {base : Nat} {e : TypeId} {size n : Nat} {v : Value} {xs : List Value} (h : w.ownsRow base e size v n xs) (hb : Below w.heap.size w w') : w'.ownsRow base e size v n xs := by
  rcases h with ⟨h1, h2 | ⟨g, c, cur, hv, h3, hh, h4⟩⟩
  · exact ⟨h1, .inl h2⟩
  · have hlt : g < w.heap.size := by
      rcases Nat.lt_or_ge g w.heap.size with hx | hx
      · exact hx
      · rw [Array.getElem?_eq_none hx] at hh; cases hh
    exact ⟨h1, .inr ⟨g, c, cur, hv, h3, (hb.block g hlt).trans hh, h4⟩⟩
theorem below_cells {W w1 : World} (hb : Below W.heap.size W w1) : (∀ b o, b < W.heap.size → w1.cell? ⟨b, o, none⟩ = W.cell? ⟨b, o, none⟩) ∧ (∀ b o, b < W.heap.size → w1.frozen? ⟨b, o, none⟩ = W.frozen? ⟨b, o, none⟩) :=
  ⟨fun b o h => hb.cell (p := ⟨b, o, none⟩) h, fun b o h => hb.frozen (p := ⟨b, o, none⟩) h⟩
/-- the cells of a block that has just been laid. -/
theorem cells_new (w : World) (cs : Array Value) (t : TypeId) (news : List Value) (h : cs.toList = news) : ∀ (j : Nat) (u : Value), news[j]? = some u → (w.alloc (.cells cs t)).cell? ((⟨w.heap.size, 0, none⟩ : Addr).add j) = some u := by
  intro j u hu
  have e : (⟨w.heap.size, 0, none⟩ : Addr).add j = ⟨w.heap.size, j, none⟩ := by
    unfold Addr.add
    by_cases hj : j = 0 <;> simp [hj]
  rw [e, cell_of_row (w.alloc (.cells cs t)) w.heap.size j cs t (0, 0) (heap_alloc_new w _)]
  rw [← h] at hu
  simpa using hu
theorem cells_new' (w : World) (cs : Array Value) (t : TypeId) (news : List Value) (h : cs.toList = news) (b : Nat) (hb : w.heap.size = b) : ∀ (j : Nat) (u : Value), news[j]? = some u → (w.alloc (.cells cs t)).cell? ((⟨b, 0, none⟩ : Addr).add j) = some u := by
  subst hb
  exact cells_new w cs t news h
/-- strings as cells -/
def sv (ss : List ByteArray) : List Value := ss.map Value.string
theorem sv_len (ss : List ByteArray) : (sv ss).length = ss.length := by simp [sv]
theorem sv_at (ss : List ByteArray) (k : Nat) (h : k < ss.length) : (sv ss)[k]? = some (.string ss[k]) := by simp [sv, h]
theorem sv_one (ss : List ByteArray) : ∀ u ∈ sv ss, u.oneCell' = true := by
  intro u hu
  simp only [sv, List.mem_map] at hu
  obtain ⟨s, _, rfl⟩ := hu
  rfl
theorem sv_take (ss : List ByteArray) (k : Nat) : sv (ss.take k) = (sv ss).take k := by simp [sv, List.map_take]
theorem sv_drop (ss : List ByteArray) (k : Nat) : sv (ss.drop k) = (sv ss).drop k := by simp [sv, List.map_drop]
theorem sv_app (a b : List ByteArray) : sv (a ++ b) = sv a ++ sv b := by simp [sv]
/-- what a test of strings for sameness says -/
theorem ret_bool' {a b : Bool} (h : a = b) : Ending.returned (.bool a) = .returned (.bool b) := by rw [h]
theorem ret_str' {a b : ByteArray} (h : a = b) : Ending.returned (.string a) = .returned (.string b) := by rw [h]
end Go.Proofs.Ytfapghekakdpgaa
