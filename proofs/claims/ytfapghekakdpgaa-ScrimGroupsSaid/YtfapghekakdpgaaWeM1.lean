/- weave's Merge: its ghosts, as lists and in memory. -/
import Derived.Test.YtfapghekakdpgaaTyped
import Derived.Test.YtfapghekakdpgaaBeside
import Derived.Test.YtfapghekakdpgaaBlk
namespace Go.Proofs.Ytfapghekakdpgaa
open Go.RowKit We
namespace We
/-- behind which place of L the next ghost belongs when k numbers of W are done. -/
def folK (W L : List Int) : Nat → Nat
  | 0 => 0
  | k + 1 => if at' W k ∈ L then ix L (at' W k) + 1 else folK W L k
def ghK (W L : List Int) : Nat → Nat → List Int
  | 0, _ => []
  | k + 1, j => if at' W k ∈ L then ghK W L k j else if j = folK W L k then ghK W L k j ++ [at' W k] else ghK W L k j
def mgK (W L : List Int) : Nat → List Int
  | 0 => ghK W L W.length 0
  | i + 1 => mgK W L i ++ [at' L i] ++ ghK W L W.length (i + 1)
def merge (W L : List Int) : List Int := mgK W L L.length
theorem folK_le (W L : List Int) : ∀ k, folK W L k ≤ L.length
  | 0 => Nat.zero_le _
  | k + 1 => by
    unfold folK
    split
    · rename_i h; have := ix_lt h; omega
    · exact folK_le W L k
theorem ghK_len (W L : List Int) (j : Nat) : ∀ k, (ghK W L k j).length ≤ k
  | 0 => Nat.le_refl _
  | k + 1 => by
    have h := ghK_len W L j k
    unfold ghK
    split
    · omega
    · split
      · rw [List.length_append, List.length_singleton]; omega
      · omega
theorem ghK_in (W L : List Int) {k : Nat} (h : at' W k ∈ L) (j : Nat) : ghK W L (k + 1) j = ghK W L k j := by
  show (if _ then _ else _) = _
  rw [if_pos h]
theorem ghK_out (W L : List Int) {k : Nat} (h : ¬ at' W k ∈ L) (j : Nat) : ghK W L (k + 1) j = if j = folK W L k then ghK W L k j ++ [at' W k] else ghK W L k j := by
  show (if _ then _ else _) = _
  rw [if_neg h]
theorem folK_in (W L : List Int) {k : Nat} (h : at' W k ∈ L) : folK W L (k + 1) = ix L (at' W k) + 1 := by
  show (if _ then _ else _) = _
  rw [if_pos h]
theorem folK_out (W L : List Int) {k : Nat} (h : ¬ at' W k ∈ L) : folK W L (k + 1) = folK W L k := by
  show (if _ then _ else _) = _
  rw [if_neg h]
theorem mgK_len (W L : List Int) : ∀ i, (mgK W L i).length ≤ (i + 1) * (W.length + 1)
  | 0 => by have := ghK_len W L 0 W.length; show (ghK _ _ _ _).length ≤ _; omega
  | i + 1 => by
    have h1 := mgK_len W L i
    have h2 := ghK_len W L (i + 1) W.length
    show (mgK W L i ++ [at' L i] ++ ghK W L W.length (i + 1)).length ≤ _
    rw [List.length_append, List.length_append, List.length_singleton, Nat.add_mul (i + 1) 1]
    omega
end We
/-- 'append(v, xs...)' as a run, whatever slice xs is; it says where the new slice lies. -/
theorem run_append_any {P : Program} (w : World) (base : Nat) (t ty e : TypeId) (i : TypeInfo) (z : Value) (size bytes : Nat) (ht : P.underlying t = some (.slice e)) (hi : P.info? e = some i) (hz : i.zero = some z)
    (hsize : i.size = size) (hby : i.bytes = bytes) (hzs : z.cells.size = size) (hsz : 0 < size)
    (v : Value) (n : Nat) (xs : List Value) (hown : w.ownsRow base e size v n xs)
    (A : Option Addr) (m c : Nat) (news : List Value) (hA : A = none → m = 0 ∧ c = 0) (hl : news.length = m * size) (hat : At w A news) (h1 : ∀ u ∈ news, u.oneCell' = true)
    (h63 : n + m ≤ maxLen) (hbytes : (n + m) * bytes ≤ 140737488355328) (hbase : base ≤ w.heap.size) :
    ∃ v' w', (Builtin.append_ #[t, t] ty #[v, .slice A m c]).run P w = .ok v' w' ∧ w'.ownsRow base e size v' (n + m) (xs ++ news) ∧ w.grownBy w' v.ownBlock ∧ (v'.ownBlock = v.ownBlock ∨ v'.ownBlock = some w.heap.size) := by
  cases A with
  | none =>
    obtain ⟨rfl, rfl⟩ := hA rfl
    have hn : news = [] := List.eq_nil_of_length_eq_zero (by simpa using hl)
    subst hn
    exact ⟨v, w, run_append_owned_none (P := P) (w := w) base t ty e i size ht hi v n xs hown, by simpa using hown, World.grownBy.refl w _, .inl rfl⟩
  | some ad =>
    obtain ⟨v', w', hr, h2, h3, _, h5⟩ := run_append_own_at (P := P) w base t ty e i z size bytes ht hi hz hsize hby hzs hsz v n xs hown ad m c news hl (fun j u hu => by
      obtain ⟨b, off, e1, hb, hc⟩ := hat (fun e1 => by rw [e1] at hu; cases hu)
      injection e1 with e1
      subst e1
      have hj : (⟨b, off, none⟩ : Addr).add j = ⟨b, off + j, none⟩ := by
        unfold Addr.add
        by_cases h0 : j = 0 <;> simp [h0]
      rw [hj]
      exact hc j u hu) h1 h63 hbytes hbase
    exact ⟨v', w', hr, h2, h3, h5⟩
/-- a row of slices, each owned, no two in one block. -/
structure Gh (W : World) (G N base : Nat) (vs : Nat → Value) (xs : Nat → List Int) : Prop where
  row : W.ownsRow base 29 1 (.slice (some ⟨G, 0, none⟩) N N) N ((List.range N).map vs)
  each : ∀ j, j < N → W.ownsRow base 3 1 (vs j) (xs j).length (iv (xs j))
  apart : ∀ j, j < N → ∀ k, k < N → j ≠ k → ∀ b, (vs j).ownBlock = some b → (vs k).ownBlock ≠ some b
section
variable {W W' : World} {G N base : Nat} {vs : Nat → Value} {xs : Nat → List Int}
theorem row_at {v : Nat → Value} (h : W.ownsRow base 29 1 (.slice (some ⟨G, 0, none⟩) N N) N ((List.range N).map v)) {j : Nat} (hj : j < N) : W.cell? ⟨G, j, none⟩ = some (v j) := by
  rw [h.cellAt j (by omega)]
  simp [hj]
theorem row_ne {u : Value} {n : Nat} {ys : List Value} (h : W.ownsRow base 29 1 (.slice (some ⟨G, 0, none⟩) N N) N ys) {zs : List Value} (k : W.ownsRow base 3 1 u n zs) : u.ownBlock ≠ some G := fun e =>
  (typed_own h (x := G) rfl).ne (typed_own k e) (by decide) rfl
theorem Gh.grown {row : Option Nat} (h : Gh W G N base vs xs) (hg : W.grownBy W' row) (h1 : some G ≠ row) (h2 : ∀ j, j < N → ∀ b, (vs j).ownBlock = some b → row ≠ some b) : Gh W' G N base vs xs :=
  ⟨h.row.kept hg (.inr h1), fun j hj => (h.each j hj).kept hg (by
    cases e : (vs j).ownBlock with
    | none => exact .inl rfl
    | some b => exact .inr (fun e2 => h2 j hj b e e2.symm)), h.apart⟩
theorem Gh.alloc (h : Gh W G N base vs xs) (o : Obj) : Gh (W.alloc o) G N base vs xs := h.grown (World.grownBy_alloc W o none) (by simp) (fun _ _ _ _ => by simp)
theorem Gh.drew (h : Gh W G N base vs xs) : Gh W.drew G N base vs xs := ⟨own_heap h.row rfl, fun j hj => own_heap (h.each j hj) rfl, h.apart⟩
theorem Gh.put {w1 : World} {v' : Value} {f : Nat} {x : Int} (h : Gh W G N base vs xs) (hf : f < N) (hown : w1.ownsRow base 3 1 v' ((xs f).length + 1) (iv (xs f) ++ [.int .i64 x])) (hg : W.grownBy w1 (vs f).ownBlock)
    (hat : v'.ownBlock = (vs f).ownBlock ∨ v'.ownBlock = some W.heap.size) : Gh (w1.setCell ⟨G, f, none⟩ v') G N base (fun j => if j = f then v' else vs j) (fun j => if j = f then xs f ++ [x] else xs j) := by
  have hrow1 := h.row.kept hg (.inr (fun e => row_ne h.row (h.each f hf) e.symm))
  obtain ⟨h2, h3⟩ := hrow1.stored f v'
  refine ⟨?_, fun j hj => ?_, fun j hj k hk hne b hb => ?_⟩
  · have e : ((List.range N).map vs).set f v' = (List.range N).map (fun j => if j = f then v' else vs j) := by
      apply List.ext_getElem?
      intro p
      rw [List.getElem?_set]
      by_cases hp : p < N
      · by_cases e2 : f = p
        · subst e2; simp [hp]
        · rw [if_neg e2]; simp [hp]; exact fun e3 => absurd e3.symm e2
      · by_cases e2 : f = p
        · omega
        · rw [if_neg e2]; simp [hp]
    rw [e] at h2
    exact h2
  · by_cases e : j = f
    · subst e
      simp only [if_true]
      have h9 : w1.ownsRow base 3 1 v' (xs j ++ [x]).length (iv (xs j ++ [x])) := by rw [List.length_append, iv_app]; exact hown
      exact h9.kept h3 (.inr (row_ne hrow1 h9))
    · simp only [if_neg e]
      have h9 := (h.each j hj).kept hg (by
        cases e2 : (vs j).ownBlock with
        | none => exact .inl rfl
        | some b => exact .inr (fun e3 => h.apart j hj f hf e b e2 e3.symm))
      exact h9.kept h3 (.inr (row_ne hrow1 h9))
  · have key : ∀ k, k < N → k ≠ f → ∀ b, v'.ownBlock = some b → (vs k).ownBlock ≠ some b := fun k hk hkf b hb e => by
      rcases hat with h5 | h5
      · exact h.apart f hf k hk (fun e2 => hkf e2.symm) b (h5 ▸ hb) e
      · rw [h5] at hb
        injection hb with hb
        have := ((h.each k hk).lt b e).2
        omega
    by_cases e1 : j = f
    · subst e1
      simp only [if_true] at hb
      rw [if_neg (fun e : k = j => hne e.symm)]
      exact key k hk (fun e => hne e.symm) b hb
    · rw [if_neg e1] at hb
      by_cases e2 : k = f
      · subst e2
        simp only [if_true]
        exact fun e3 => key j hj e1 b e3 hb
      · rw [if_neg e2]
        exact h.apart j hj k hk hne b hb
theorem Gh.congr {ys : Nat → List Int} (h : Gh W G N base vs xs) (e : ∀ j, j < N → xs j = ys j) : Gh W G N base vs ys := ⟨h.row, fun j hj => by rw [← e j hj]; exact h.each j hj, h.apart⟩
/-- .. when the first of them is taken for the merged one. -/
structure Mg (W : World) (G N base : Nat) (vs : Nat → Value) (xs : Nat → List Int) (v : Value) (ms : List Int) : Prop where
  row : W.ownsRow base 29 1 (.slice (some ⟨G, 0, none⟩) N N) N ((List.range N).map vs)
  each : ∀ j, 1 ≤ j → j < N → W.ownsRow base 3 1 (vs j) (xs j).length (iv (xs j))
  apart : ∀ j, 1 ≤ j → j < N → ∀ b, v.ownBlock = some b → (vs j).ownBlock ≠ some b
  own : W.ownsRow base 3 1 v ms.length (iv ms)
variable {v : Value} {ms : List Int}
theorem Gh.first (h : Gh W G N base vs xs) (hN : 0 < N) : Mg W G N base vs xs (vs 0) (xs 0) :=
  ⟨h.row, fun j _ hj => h.each j hj, fun j h1 hj b hb => h.apart 0 hN j hj (by omega) b hb, h.each 0 hN⟩
theorem Mg.alloc (h : Mg W G N base vs xs v ms) (o : Obj) : Mg (W.alloc o) G N base vs xs v ms := ⟨h.row.alloc o, fun j h1 h2 => (h.each j h1 h2).alloc o, h.apart, h.own.alloc o⟩
theorem Mg.add {w1 : World} {v' : Value} {m : Nat} {new : List Int} (h : Mg W G N base vs xs v ms) (hm : m = new.length) (hown : w1.ownsRow base 3 1 v' (ms.length + m) (iv ms ++ iv new)) (hg : W.grownBy w1 v.ownBlock)
    (hat : v'.ownBlock = v.ownBlock ∨ v'.ownBlock = some W.heap.size) : Mg w1 G N base vs xs v' (ms ++ new) := by
  refine ⟨h.row.kept hg (.inr (fun e => row_ne h.row h.own e.symm)), fun j h1 h2 => (h.each j h1 h2).kept hg ?_, fun j h1 h2 b hb e => ?_, by rw [List.length_append, iv_app, ← hm]; exact hown⟩
  · cases e : (vs j).ownBlock with
    | none => exact .inl rfl
    | some b => exact .inr (fun e2 => h.apart j h1 h2 b e2.symm e)
  · rcases hat with h5 | h5
    · exact h.apart j h1 h2 b (h5 ▸ hb) e
    · rw [h5] at hb
      injection hb with hb
      have := ((h.each j h1 h2).lt b e).2
      omega
end
theorem gh_zero (W : World) (G N base : Nat) (h : W.ownsRow base 29 1 (.slice (some ⟨G, 0, none⟩) N N) N (madeCells #[.slice none 0 0] (N * 1)).toList) : Gh W G N base (fun _ => .slice none 0 0) (fun _ => []) := by
  have e : (List.range N).map (fun _ => Value.slice none 0 0) = (madeCells #[.slice none 0 0] (N * 1)).toList := by
    rw [Nat.mul_one, toList_madeCells_one]
    apply List.ext_getElem
    · simp
    · intro j h1 h2
      simp
  refine ⟨by rw [e]; exact h, fun j _ => World.ownsRow_nil _ _ _ _, fun j _ k _ _ b hb => by cases hb⟩
end Go.Proofs.Ytfapghekakdpgaa
