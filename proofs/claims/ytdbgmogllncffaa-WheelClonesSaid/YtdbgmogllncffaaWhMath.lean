/- Timers in a heap: plain facts, without the program. -/
import Derived.Test.YtdbgmogllncffaaMem
namespace Go.Proofs.Ytdbgmogllncffaa
namespace Wh
structure Tm where
  tok : Int
  dl : Int
  k : Int
  n : Int
deriving DecidableEq
def dft : Tm := ⟨0, 0, 0, 0⟩
def lt (x y : Tm) : Prop := x.dl < y.dl ∨ (x.dl = y.dl ∧ x.tok < y.tok)
instance (x y : Tm) : Decidable (lt x y) := by unfold lt; infer_instance
theorem lt_le {x y z : Tm} (h1 : lt x y) (h2 : ¬ lt z y) : lt x z := by unfold lt at *; omega
theorem le_trans {x y z : Tm} (h1 : ¬ lt y x) (h2 : ¬ lt z y) : ¬ lt z x := by unfold lt at *; omega
theorem lt_asymm {x y : Tm} (h1 : lt x y) : ¬ lt y x := by unfold lt at *; omega
/-- the timer at a place -/
def g (xs : List Tm) (i : Nat) : Tm := xs.getD i dft
theorem g_at {xs : List Tm} {i : Nat} (h : i < xs.length) : xs[i]? = some (g xs i) := by simp [g, List.getD_eq_getElem?_getD, h]
theorem g_of {xs : List Tm} {i : Nat} {t : Tm} (h : xs[i]? = some t) : g xs i = t := by simp [g, List.getD_eq_getElem?_getD, h]
def swp (xs : List Tm) (i j : Nat) : List Tm := (xs.set i (g xs j)).set j (g xs i)
theorem swp_len (xs : List Tm) (i j : Nat) : (swp xs i j).length = xs.length := by simp [swp]
theorem g_swp (xs : List Tm) (i j : Nat) (hi : i < xs.length) (hj : j < xs.length) (k : Nat) : g (swp xs i j) k = if k = j then g xs i else if k = i then g xs j else g xs k := by
  unfold swp g
  simp only [List.getD_eq_getElem?_getD, List.getElem?_set]
  by_cases h1 : k = j
  · subst h1; simp [hj, hi]
  · rw [if_neg (by omega), if_neg h1]
    by_cases h2 : k = i
    · subst h2; simp [hj, hi]
    · rw [if_neg (by omega), if_neg h2]
theorem swp_perm (xs : List Tm) (i j : Nat) (hi : i < xs.length) (hj : j < xs.length) : (swp xs i j).Perm xs := by
  have h := Array.swap_perm (xs := xs.toArray) (i := i) (j := j) (by simpa using hi) (by simpa using hj)
  have h2 := h.toList
  have e : (xs.toArray.swap i j (by simpa using hi) (by simpa using hj)).toList = swp xs i j := by
    unfold swp
    simp [Array.swap, g, List.getD_eq_getElem?_getD, hi, hj]
  rw [e] at h2
  simpa using h2
def Heap (n : Nat) (s : Nat → Tm) : Prop := ∀ k, 0 < k → k < n → ¬ lt (s k) (s ((k - 1) / 2))
def HeapX (n : Nat) (s : Nat → Tm) (j : Nat) : Prop :=
  (∀ k, 0 < k → k < n → k ≠ j → ¬ lt (s k) (s ((k - 1) / 2))) ∧ (∀ k, 0 < k → k < n → (k - 1) / 2 = j → 0 < j → ¬ lt (s k) (s ((j - 1) / 2)))
def HeapD (n : Nat) (s : Nat → Tm) (i : Nat) (M : Prop) : Prop :=
  (∀ k, 0 < k → k < n → (k - 1) / 2 ≠ i → (k ≠ i ∨ M) → ¬ lt (s k) (s ((k - 1) / 2))) ∧ (∀ k, 0 < k → k < n → (k - 1) / 2 = i → 0 < i → ¬ lt (s k) (s ((i - 1) / 2)))
theorem up_stop {n : Nat} {s : Nat → Tm} {j : Nat} (h : HeapX n s j) (hs : j = 0 ∨ ¬ lt (s j) (s ((j - 1) / 2))) : Heap n s := by
  intro k hk hn
  by_cases e : k = j
  · subst e
    rcases hs with hs | hs
    · omega
    · exact hs
  · exact h.1 k hk hn e
def sw (s : Nat → Tm) (i j : Nat) : Nat → Tm := fun k => if k = j then s i else if k = i then s j else s k
theorem sw_j (s : Nat → Tm) (i j : Nat) : sw s i j j = s i := by simp [sw]
theorem sw_i (s : Nat → Tm) (i j : Nat) (h : i ≠ j) : sw s i j i = s j := by simp [sw, h]
theorem sw_k (s : Nat → Tm) (i j k : Nat) (h1 : k ≠ j) (h2 : k ≠ i) : sw s i j k = s k := by simp [sw, h1, h2]
theorem up_step {n : Nat} {s : Nat → Tm} {i j : Nat} (h : HeapX n s j) (hj : 0 < j) (hn : j < n) (hi : i = (j - 1) / 2) (hl : lt (s j) (s i)) : HeapX n (sw s i j) i := by
  have hij : i < j := by omega
  refine ⟨fun k hk hkn hki => ?_, fun k hk hkn hpk hi0 => ?_⟩
  · by_cases e1 : k = j
    · subst e1
      rw [sw_j, ← hi, sw_i _ _ _ (by omega)]
      exact lt_asymm hl
    · rw [sw_k _ _ _ _ e1 hki]
      by_cases e2 : (k - 1) / 2 = j
      · rw [e2, sw_j]
        have := h.2 k hk hkn e2 hj
        rwa [← hi] at this
      · by_cases e3 : (k - 1) / 2 = i
        · rw [e3, sw_i _ _ _ (by omega)]
          have h4 := h.1 k hk hkn e1
          rw [e3] at h4
          exact fun h5 => h4 (by unfold lt at *; omega)
        · rw [sw_k _ _ _ _ e2 e3]
          exact h.1 k hk hkn e1
  · rw [sw_k _ _ _ ((i - 1) / 2) (by omega) (by omega)]
    have hp := h.1 i hi0 (by omega) (by omega)
    by_cases e1 : k = j
    · subst e1
      rw [sw_j]
      exact hp
    · rw [sw_k _ _ _ _ e1 (by omega)]
      have h4 := h.1 k hk hkn e1
      rw [hpk] at h4
      exact le_trans hp h4
theorem down_step {n : Nat} {s : Nat → Tm} {i j : Nat} {M : Prop} (h : HeapD n s i M) (hj : 0 < j) (hn : j < n) (hi : (j - 1) / 2 = i) (hm : ∀ k, 0 < k → k < n → (k - 1) / 2 = i → ¬ lt (s k) (s j)) (hl : lt (s j) (s i)) : HeapD n (sw s i j) j True := by
  have hij : i < j := by omega
  refine ⟨fun k hk hkn hkj _ => ?_, fun k hk hkn hpk hi0 => ?_⟩
  · by_cases e1 : k = j
    · subst e1
      rw [sw_j, hi, sw_i _ _ _ (by omega)]
      exact lt_asymm hl
    · by_cases e2 : (k - 1) / 2 = i
      · rw [e2, sw_i _ _ _ (by omega), sw_k _ _ _ _ e1 (by omega)]
        exact hm k hk hkn e2
      · rw [sw_k _ _ _ ((k - 1) / 2) hkj e2]
        by_cases e3 : k = i
        · rw [e3, sw_i _ _ _ (by omega)]
          exact h.2 j hj hn hi (by omega)
        · rw [sw_k _ _ _ _ e1 e3]
          exact h.1 k hk hkn e2 (.inl e3)
  · rw [hi, sw_i _ _ _ (by omega), sw_k _ _ _ _ (by omega) (by omega)]
    have := h.1 k hk hkn (by omega) (.inl (by omega))
    rwa [hpk] at this
theorem down_stop {n : Nat} {s : Nat → Tm} {i : Nat} {M : Prop} (h : HeapD n s i M) (hs : ∀ k, 0 < k → k < n → (k - 1) / 2 = i → ¬ lt (s k) (s i)) : (M → Heap n s) ∧ HeapX n s i := by
  have hx : HeapX n s i := by
    refine ⟨fun k hk hkn hki => ?_, h.2⟩
    by_cases e : (k - 1) / 2 = i
    · rw [e]; exact hs k hk hkn e
    · exact h.1 k hk hkn e (.inl hki)
  refine ⟨fun hM k hk hkn => ?_, hx⟩
  by_cases e : k = i
  · subst e
    exact h.1 k hk hkn (by omega) (.inr hM)
  · exact hx.1 k hk hkn e
theorem heapX_zero {n : Nat} {s : Nat → Tm} (h : HeapX n s 0) : Heap n s := up_stop h (.inl rfl)
theorem Heap.less {n m : Nat} {s : Nat → Tm} (h : Heap n s) (hm : m ≤ n) : Heap m s := fun k h1 h2 => h k h1 (by omega)
/-- the last one put where i was. -/
theorem heapD_swap {n i : Nat} {s : Nat → Tm} (h : Heap (n + 1) s) (hi : i < n) : HeapD n (sw s i n) i False := by
  refine ⟨fun k hk hkn hp hor => ?_, fun k hk hkn hpk hi0 => ?_⟩
  · have hki : k ≠ i := by rcases hor with h1 | h1; exact h1; exact h1.elim
    rw [sw_k _ _ _ _ (by omega) hki, sw_k _ _ _ _ (by omega) hp]
    exact h k hk (by omega)
  · rw [sw_k _ _ _ _ (by omega) (by omega), sw_k _ _ _ ((i - 1) / 2) (by omega) (by omega)]
    have h1 := h k hk (by omega)
    rw [hpk] at h1
    exact le_trans (h i hi0 (by omega)) h1
theorem heapX_push {n : Nat} {s s' : Nat → Tm} (h : Heap n s) (he : ∀ k, k < n → s' k = s k) : HeapX (n + 1) s' n := by
  refine ⟨fun k hk hkn hki => ?_, fun k hk hkn hpk hn => by omega⟩
  rw [he k (by omega), he _ (by omega)]
  exact h k hk (by omega)
theorem heap_min {n : Nat} {s : Nat → Tm} (h : Heap n s) : ∀ k, k < n → ¬ lt (s k) (s 0) := by
  intro k
  induction k using Nat.strongRecOn with
  | ind k ih =>
    intro hk
    by_cases e : k = 0
    · subst e; unfold lt; omega
    · exact le_trans (ih ((k - 1) / 2) (by omega) (by omega)) (h k (by omega) hk)
theorem Heap.congr {n : Nat} {s s' : Nat → Tm} (h : Heap n s) (he : ∀ k, k < n → s' k = s k) : Heap n s' := fun k hk hn => by
  rw [he k hn, he _ (by omega)]
  exact h k hk hn
theorem sw_g (xs : List Tm) (i j : Nat) (hi : i < xs.length) (hj : j < xs.length) : g (swp xs i j) = sw (g xs) i j := funext fun k => g_swp xs i j hi hj k
end Wh
end Go.Proofs.Ytdbgmogllncffaa
