/- Layer 4 in plain mathematics: names in the order of their bytes; maps as pairs whose names rise, each once. -/
import Derived.Test.YtcboeehmhpkodaaClMath
import Derived.Lib.Bytealg
namespace Go.Proofs.Ytcboeehmhpkodaa
namespace M
/-! the order of names -/
abbrev Par' := BA × Int
theorem less_irrefl (x : List UInt8) : Op.bytesLess x x = false := by
  induction x with
  | nil => rfl
  | cons a x ih => simp [Op.bytesLess, ih]
theorem less_trans (x y z : List UInt8) (h1 : Op.bytesLess x y = true) (h2 : Op.bytesLess y z = true) : Op.bytesLess x z = true := by
  induction x generalizing y z with
  | nil =>
    cases z with
    | nil => cases y <;> simp [Op.bytesLess] at h2
    | cons c z => rfl
  | cons a x ih =>
    cases y with
    | nil => simp [Op.bytesLess] at h1
    | cons b y =>
      cases z with
      | nil => simp [Op.bytesLess] at h2
      | cons c z =>
        simp only [Op.bytesLess, Bool.or_eq_true, decide_eq_true_eq, Bool.and_eq_true, beq_iff_eq] at h1 h2 ⊢
        rcases h1 with h1 | ⟨rfl, h1⟩ <;> rcases h2 with h2 | ⟨rfl, h2⟩
        · left; exact UInt8.lt_trans h1 h2
        · left; exact h1
        · left; exact h2
        · right; exact ⟨rfl, ih y z h1 h2⟩
theorem less_tri (x y : List UInt8) : Op.bytesLess x y = true ∨ x = y ∨ Op.bytesLess y x = true := by
  induction x generalizing y with
  | nil =>
    cases y with
    | nil => exact .inr (.inl rfl)
    | cons b y => exact .inl rfl
  | cons a x ih =>
    cases y with
    | nil => exact .inr (.inr rfl)
    | cons b y =>
      simp only [Op.bytesLess, Bool.or_eq_true, decide_eq_true_eq, Bool.and_eq_true, beq_iff_eq]
      rcases Nat.lt_trichotomy a.toNat b.toNat with h | h | h
      · left; left; exact h
      · have hab : a = b := UInt8.toNat_inj.1 h
        subst hab
        rcases ih y with h | h | h
        · left; right; exact ⟨rfl, h⟩
        · right; left; rw [h]
        · right; right; right; exact ⟨rfl, h⟩
      · right; right; left; exact h
theorem compare_less (x y : List UInt8) : Lib.compareBytes x y = if Op.bytesLess x y then -1 else if x = y then 0 else 1 := by
  induction x generalizing y with
  | nil => cases y <;> simp [Lib.compareBytes, Op.bytesLess]
  | cons a x ih =>
    cases y with
    | nil => simp [Lib.compareBytes, Op.bytesLess]
    | cons b y =>
      unfold Lib.compareBytes Op.bytesLess
      by_cases h1 : a < b
      · simp [h1]
      · rw [if_neg h1]
        by_cases h2 : b < a
        · have h3 : ¬ a = b := by intro e; subst e; exact h1 h2
          rw [if_pos h2]
          simp [h1, h3]
        · rw [if_neg h2, ih y]
          have h3 : a = b := by
            have h4 : ¬ a.toNat < b.toNat := h1
            have h5 : ¬ b.toNat < a.toNat := h2
            exact UInt8.toNat_inj.1 (by omega)
          subst h3
          simp [h1]
def blt (a b : BA) : Bool := Op.bytesLess a.toList b.toList
theorem toList_inj {a b : BA} (h : a.toList = b.toList) : a = b := by
  have h1 := str_beq a b
  rw [h] at h1
  simpa using h1.symm
theorem blt_irrefl (a : BA) : blt a a = false := less_irrefl _
theorem blt_trans {a b c : BA} (h1 : blt a b = true) (h2 : blt b c = true) : blt a c = true := less_trans _ _ _ h1 h2
theorem blt_tri (a b : BA) : blt a b = true ∨ a = b ∨ blt b a = true := by
  rcases less_tri a.toList b.toList with h | h | h
  · exact .inl h
  · exact .inr (.inl (toList_inj h))
  · exact .inr (.inr h)
theorem blt_asymm {a b : BA} (h : blt a b = true) : blt b a = false := by
  rw [Bool.eq_false_iff]
  intro h2
  have := blt_trans h h2
  rw [blt_irrefl] at this
  cases this
theorem blt_ne {a b : BA} (h : blt a b = true) : ¬ a = b := by
  intro e
  subst e
  rw [blt_irrefl] at h
  cases h
/-! maps -/
section
variable {V : Type}
def Rises (m : List (BA × V)) : Prop := m.Pairwise fun p q => blt p.1 q.1 = true
/-- the last value of a name. -/
def getP (l : List (BA × V)) (x : BA) : Option V := l.foldl (fun acc p => if p.1 = x then some p.2 else acc) none
def setP : List (BA × V) → BA × V → List (BA × V)
  | [], p => [p]
  | q :: m, p => if blt p.1 q.1 then p :: q :: m else if p.1 = q.1 then p :: m else q :: setP m p
def ofP (l : List (BA × V)) : List (BA × V) := l.foldl setP []
theorem getP_snoc (l : List (BA × V)) (p : BA × V) (x : BA) : getP (l ++ [p]) x = if p.1 = x then some p.2 else getP l x := by
  unfold getP; rw [List.foldl_append]; rfl
theorem foldl_get (l : List (BA × V)) (x : BA) (acc : Option V) : l.foldl (fun acc p => if p.1 = x then some p.2 else acc) acc = (getP l x).or acc := by
  induction l generalizing acc with
  | nil => rfl
  | cons p l ih =>
    unfold getP
    rw [List.foldl_cons, List.foldl_cons, ih, ih (if p.1 = x then some p.2 else none)]
    split <;> cases getP l x <;> simp
theorem getP_cons (p : BA × V) (l : List (BA × V)) (x : BA) : getP (p :: l) x = (getP l x).or (if p.1 = x then some p.2 else none) := by
  have h := foldl_get l x (if p.1 = x then some p.2 else none)
  unfold getP at h ⊢
  rw [List.foldl_cons]
  exact h
theorem getP_none {l : List (BA × V)} {x : BA} (h : ∀ p ∈ l, ¬ p.1 = x) : getP l x = none := by
  induction l with
  | nil => rfl
  | cons p l ih => rw [getP_cons, ih (fun q hq => h q (List.mem_cons_of_mem _ hq)), if_neg (h p (by simp))]; rfl
theorem getP_mem {l : List (BA × V)} {x : BA} {v : V} (h : getP l x = some v) : (x, v) ∈ l := by
  induction l with
  | nil => cases h
  | cons p l ih =>
    rw [getP_cons] at h
    cases hg : getP l x with
    | some u =>
      rw [hg] at h
      injection h with h
      subst h
      exact List.mem_cons_of_mem _ (ih hg)
    | none =>
      rw [hg] at h
      split at h
      · rename_i hp
        injection h with h
        rw [← hp, ← h]
        exact List.mem_cons_self
      · cases h
theorem rises_get {m : List (BA × V)} (hm : Rises m) {p : BA × V} (hp : p ∈ m) : getP m p.1 = some p.2 := by
  induction m with
  | nil => cases hp
  | cons q m ih =>
    have h1 := List.pairwise_cons.1 hm
    rw [getP_cons]
    rcases List.mem_cons.1 hp with rfl | hp
    · rw [getP_none (fun r hr e => blt_ne (h1.1 r hr) e.symm), if_pos rfl]; rfl
    · rw [ih h1.2 hp]; rfl
theorem rises_ext {m m' : List (BA × V)} (hm : Rises m) (hm' : Rises m') (h : ∀ x, getP m x = getP m' x) : m = m' := by
  induction m generalizing m' with
  | nil =>
    cases m' with
    | nil => rfl
    | cons q m' =>
      have h1 := rises_get hm' (p := q) (by simp)
      rw [← h] at h1
      cases h1
  | cons p m ih =>
    cases m' with
    | nil =>
      have h1 := rises_get hm (p := p) (by simp)
      rw [h] at h1
      cases h1
    | cons q m' =>
      have hp := List.pairwise_cons.1 hm
      have hq := List.pairwise_cons.1 hm'
      have e1 : p.1 = q.1 := by
        rcases blt_tri p.1 q.1 with h1 | h1 | h1
        · have h2 := rises_get hm (p := p) (by simp)
          rw [h] at h2
          have h3 := getP_mem h2
          rcases List.mem_cons.1 h3 with h4 | h4
          · exact congrArg Prod.fst h4
          · have h5 := hq.1 _ h4
            have h6 := blt_trans h1 h5
            rw [blt_irrefl] at h6
            cases h6
        · exact h1
        · have h2 := rises_get hm' (p := q) (by simp)
          rw [← h] at h2
          have h3 := getP_mem h2
          rcases List.mem_cons.1 h3 with h4 | h4
          · exact (congrArg Prod.fst h4).symm
          · have h5 := hp.1 _ h4
            have h6 := blt_trans h1 h5
            rw [blt_irrefl] at h6
            cases h6
      have e2 : p.2 = q.2 := by
        have h2 := rises_get hm (p := p) (by simp)
        have h3 := rises_get hm' (p := q) (by simp)
        rw [h, e1, h3] at h2
        injection h2 with h2
        exact h2.symm
      have e : p = q := Prod.ext e1 e2
      subst e
      rw [ih hp.2 hq.2 ?_]
      intro x
      have h4 := h x
      rw [getP_cons, getP_cons] at h4
      by_cases hx : p.1 = x
      · subst hx
        rw [getP_none (fun r hr e => blt_ne (hp.1 r hr) e.symm), getP_none (fun r hr e => blt_ne (hq.1 r hr) e.symm)]
      · rw [if_neg hx] at h4
        simpa using h4
theorem setP_mem {m : List (BA × V)} {p q : BA × V} (h : q ∈ setP m p) : q = p ∨ q ∈ m := by
  induction m with
  | nil => exact .inl (List.mem_singleton.1 h)
  | cons r m ih =>
    unfold setP at h
    split at h
    · rcases List.mem_cons.1 h with h | h
      · exact .inl h
      · exact .inr h
    · split at h
      · rcases List.mem_cons.1 h with h | h
        · exact .inl h
        · exact .inr (List.mem_cons_of_mem _ h)
      · rcases List.mem_cons.1 h with h | h
        · exact .inr (by rw [h]; simp)
        · rcases ih h with h | h
          · exact .inl h
          · exact .inr (List.mem_cons_of_mem _ h)
theorem setP_rises {m : List (BA × V)} (hm : Rises m) (p : BA × V) : Rises (setP m p) := by
  induction m with
  | nil => exact List.pairwise_singleton _ _
  | cons r m ih =>
    have h1 := List.pairwise_cons.1 hm
    unfold setP
    split
    · rename_i h
      refine List.pairwise_cons.2 ⟨fun q hq => ?_, hm⟩
      rcases List.mem_cons.1 hq with rfl | hq
      · exact h
      · exact blt_trans h (h1.1 q hq)
    · split
      · rename_i h
        exact List.pairwise_cons.2 ⟨fun q hq => by rw [h]; exact h1.1 q hq, h1.2⟩
      · rename_i h2 h3
        refine List.pairwise_cons.2 ⟨fun q hq => ?_, ih h1.2⟩
        rcases setP_mem hq with rfl | hq
        · rcases blt_tri r.1 q.1 with h | h | h
          · exact h
          · exact absurd h.symm h3
          · exact absurd h h2
        · exact h1.1 q hq
theorem setP_get {m : List (BA × V)} (hm : Rises m) (p : BA × V) (x : BA) : getP (setP m p) x = if p.1 = x then some p.2 else getP m x := by
  induction m with
  | nil => rfl
  | cons r m ih =>
    have h1 := List.pairwise_cons.1 hm
    unfold setP
    split
    · rename_i h
      by_cases hx : p.1 = x
      · rw [if_pos hx, getP_cons, if_pos hx, getP_none]
        · rfl
        · intro q hq e
          rcases List.mem_cons.1 hq with rfl | hq
          · exact blt_ne h (hx.trans e.symm)
          · exact blt_ne (blt_trans h (h1.1 q hq)) (hx.trans e.symm)
      · rw [if_neg hx, getP_cons, if_neg hx]; simp
    · split
      · rename_i h
        by_cases hx : p.1 = x
        · rw [if_pos hx, getP_cons, if_pos hx, getP_none]
          · rfl
          · intro q hq e
            exact blt_ne (h1.1 q hq) (h.symm.trans (hx.trans e.symm))
        · rw [if_neg hx, getP_cons, if_neg hx, getP_cons, if_neg (by rw [← h]; exact hx)]
      · rename_i h2 h3
        rw [getP_cons, ih h1.2, getP_cons]
        by_cases hx : p.1 = x
        · rw [if_pos hx, if_pos hx]; rfl
        · rw [if_neg hx, if_neg hx]
theorem foldl_set (l m : List (BA × V)) (hm : Rises m) : Rises (l.foldl setP m) ∧ ∀ x, getP (l.foldl setP m) x = (getP l x).or (getP m x) := by
  induction l generalizing m with
  | nil => exact ⟨hm, fun x => by simp [getP]⟩
  | cons p l ih =>
    have h1 := ih (setP m p) (setP_rises hm p)
    refine ⟨h1.1, fun x => ?_⟩
    rw [List.foldl_cons, h1.2 x, setP_get hm, getP_cons]
    cases getP l x with
    | some v => rfl
    | none => simp only [Option.none_or]; split <;> rfl
theorem ofP_rises (l : List (BA × V)) : Rises (ofP l) := (foldl_set l [] List.Pairwise.nil).1
theorem ofP_get (l : List (BA × V)) (x : BA) : getP (ofP l) x = getP l x := by
  have h := (foldl_set l [] List.Pairwise.nil).2 x
  unfold ofP
  rw [h]
  simp [getP]
/-- whatever rises and says of each name what the pairs say last is the map of the pairs. -/
theorem ofP_unique {l m : List (BA × V)} (hm : Rises m) (h : ∀ x, getP m x = getP l x) : m = ofP l :=
  rises_ext hm (ofP_rises l) fun x => (h x).trans (ofP_get l x).symm
theorem ofP_of {m : List (BA × V)} (hm : Rises m) : ofP m = m := (ofP_unique hm fun _ => rfl).symm
end
/-! the document's way to the map: again and again the least name that is left -/
section
variable {V : Type}
def ahead (lo : Option BA) (p : BA × V) : Bool := match lo with | none => true | some a => blt a p.1
def nextOne (lo : Option BA) (acc : Option (BA × V)) (p : BA × V) : Option (BA × V) :=
  match acc with
  | none => if ahead lo p then some p else none
  | some b => if ahead lo p && !blt b.1 p.1 then some p else some b
def nextF (lo : Option BA) (l : List (BA × V)) : Option (BA × V) := l.foldl (nextOne lo) none
theorem ahead_up {lo : Option BA} {p q : BA × V} (h : ahead lo p = true) (hpq : blt p.1 q.1 = true) : ahead lo q = true := by
  cases lo with
  | none => rfl
  | some a => exact blt_trans h hpq
theorem ahead_same {lo : Option BA} {p q : BA × V} (hpq : p.1 = q.1) : ahead lo p = ahead lo q := by
  cases lo with
  | none => rfl
  | some a => show blt a p.1 = blt a q.1; rw [hpq]
theorem setP_find (lo : Option BA) (m : List (BA × V)) (hm : Rises m) (p : BA × V) : (setP m p).find? (ahead lo) = nextOne lo (m.find? (ahead lo)) p := by
  induction m with
  | nil => simp [setP, nextOne, List.find?_cons]; split <;> simp_all
  | cons r m ih =>
    have h1 := List.pairwise_cons.1 hm
    unfold setP
    split
    · rename_i h
      rw [List.find?_cons]
      cases ha : ahead lo p with
      | true =>
        cases hf : (r :: m).find? (ahead lo) with
        | none => simp [nextOne, ha]
        | some b =>
          have hb := List.mem_of_find?_eq_some hf
          have hpb : blt p.1 b.1 = true := by
            rcases List.mem_cons.1 hb with rfl | hb
            · exact h
            · exact blt_trans h (h1.1 b hb)
          simp [nextOne, ha, blt_asymm hpb]
      | false =>
        cases hf : (r :: m).find? (ahead lo) with
        | none => simp [nextOne, ha]
        | some b => simp [nextOne, ha]
    · split
      · rename_i h
        rw [List.find?_cons, List.find?_cons, ← ahead_same (lo := lo) h]
        cases ha : ahead lo p with
        | true => simp [nextOne, ha, ← h, blt_irrefl]
        | false =>
          cases hf : m.find? (ahead lo) with
          | none => simp [nextOne, ha]
          | some b => simp [nextOne, ha]
      · rename_i h2 h3
        have hrp : blt r.1 p.1 = true := by
          rcases blt_tri r.1 p.1 with h | h | h
          · exact h
          · exact absurd h.symm h3
          · exact absurd h h2
        rw [List.find?_cons, List.find?_cons]
        cases ha : ahead lo r with
        | true => simp [nextOne, hrp]
        | false => exact ih h1.2
theorem nextF_of (lo : Option BA) (l : List (BA × V)) : nextF lo l = (ofP l).find? (ahead lo) := by
  have h : ∀ (l : List (BA × V)) (m : List (BA × V)), Rises m → l.foldl (nextOne lo) (m.find? (ahead lo)) = (l.foldl setP m).find? (ahead lo) := by
    intro l
    induction l with
    | nil => intro m _; rfl
    | cons p l ih =>
      intro m hm
      rw [List.foldl_cons, List.foldl_cons, ← setP_find lo m hm p]
      exact ih _ (setP_rises hm p)
  exact h l [] List.Pairwise.nil
theorem nextF_snoc (lo : Option BA) (l : List (BA × V)) (k : Nat) (h : k < l.length) : nextF lo (l.take (k + 1)) = nextOne lo (nextF lo (l.take k)) l[k] := by
  unfold nextF; rw [take_next l k h, List.foldl_append]; rfl
/-- the name of the last of the first j. -/
def lastN (m : List (BA × V)) (j : Nat) : Option BA := if j = 0 then none else (m[j - 1]?).map (·.1)
theorem rises_next (m : List (BA × V)) (hm : Rises m) (j : Nat) (hj : j ≤ m.length) : m.find? (ahead (lastN m j)) = m[j]? := by
  induction m generalizing j with
  | nil => simp
  | cons r m ih =>
    have h1 := List.pairwise_cons.1 hm
    cases j with
    | zero => rfl
    | succ j =>
      have hno : ahead (lastN (r :: m) (j + 1)) r = false := by
        have hj' : j < (r :: m).length := by simp at hj ⊢; omega
        unfold lastN
        rw [if_neg (by omega), Nat.add_sub_cancel, List.getElem?_eq_getElem hj']
        show blt _ r.1 = false
        cases j with
        | zero => exact blt_irrefl _
        | succ j => exact blt_asymm (h1.1 _ (List.getElem_mem _))
      rw [List.find?_cons, hno]
      cases j with
      | zero =>
        show m.find? (ahead (some r.1)) = m[0]?
        cases m with
        | nil => rfl
        | cons q m => rw [List.find?_cons]; show (match blt r.1 q.1 with | true => some q | false => _) = some q; rw [h1.1 q (by simp)]
      | succ j =>
        have h2 := ih h1.2 (j + 1) (by simpa using hj)
        have h3 : lastN (r :: m) (j + 1 + 1) = lastN m (j + 1) := by unfold lastN; simp
        rw [h3, h2]
        rfl
theorem next_at (l : List (BA × V)) (j : Nat) (hj : j ≤ (ofP l).length) : nextF (lastN (ofP l) j) l = (ofP l)[j]? := by
  rw [nextF_of]; exact rises_next _ (ofP_rises l) j hj
theorem setP_len (m : List (BA × V)) (p : BA × V) : (setP m p).length ≤ m.length + 1 := by
  induction m with
  | nil => exact Nat.le_refl _
  | cons r m ih =>
    unfold setP
    split
    · simp
    · split
      · simp
      · simp only [List.length_cons]; omega
theorem ofP_len (l : List (BA × V)) : (ofP l).length ≤ l.length := by
  have h : ∀ (l m : List (BA × V)), (l.foldl setP m).length ≤ m.length + l.length := by
    intro l
    induction l with
    | nil => simp
    | cons p l ih => intro m; have h1 := ih (setP m p); have h2 := setP_len m p; simp only [List.foldl_cons, List.length_cons]; omega
  simpa [ofP] using h l []
end
def otherP (x : BA) (p : Par') : Bool := !decide (p.1 = x)
def dropP (l : List Par') (x : BA) : List Par' := (ofP l).filter (otherP x)
/-! pairs as cells -/
abbrev Par := Par'
def pv (l : List Par) : List Value := l.flatMap fun p => [.string p.1, .int .i64 p.2]
theorem pv_len (l : List Par) : (pv l).length = l.length * 2 := by
  unfold pv; induction l with
  | nil => rfl
  | cons a l ih => rw [List.flatMap_cons, List.length_append, ih]; simp; omega
theorem pv_app (a b : List Par) : pv (a ++ b) = pv a ++ pv b := by simp [pv]
theorem pv_cons (s : Par) (l : List Par) : pv (s :: l) = .string s.1 :: .int .i64 s.2 :: pv l := rfl
theorem pv_one (l : List Par) : ∀ u ∈ pv l, u.oneCell' = true := by
  intro u hu
  simp only [pv, List.mem_flatMap] at hu
  obtain ⟨s, _, h⟩ := hu
  simp at h
  rcases h with rfl | rfl <;> rfl
theorem pv_at (l : List Par) (k : Nat) (h : k < l.length) : (pv l)[k * 2]? = some (.string l[k].1) ∧ (pv l)[k * 2 + 1]? = some (.int .i64 l[k].2) := by
  induction l generalizing k with
  | nil => simp at h
  | cons a l ih =>
    cases k with
    | zero => exact ⟨rfl, rfl⟩
    | succ k =>
      have := ih k (by simpa using h)
      rw [pv_cons]
      rw [show (k + 1) * 2 = k * 2 + 1 + 1 from by omega]
      simpa using this
abbrev PStp := Bool × BA × Int
def psv (l : List PStp) : List Value := l.flatMap fun p => [.bool p.1, .string p.2.1, .int .i64 p.2.2]
theorem psv_len (l : List PStp) : (psv l).length = l.length * 3 := by
  unfold psv; induction l with
  | nil => rfl
  | cons a l ih => rw [List.flatMap_cons, List.length_append, ih]; simp; omega
theorem psv_app (a b : List PStp) : psv (a ++ b) = psv a ++ psv b := by simp [psv]
theorem psv_cons (s : PStp) (l : List PStp) : psv (s :: l) = .bool s.1 :: .string s.2.1 :: .int .i64 s.2.2 :: psv l := rfl
theorem psv_one (l : List PStp) : ∀ u ∈ psv l, u.oneCell' = true := by
  intro u hu
  simp only [psv, List.mem_flatMap] at hu
  obtain ⟨s, _, h⟩ := hu
  simp at h
  rcases h with rfl | rfl | rfl <;> rfl
theorem psv_at (l : List PStp) (k : Nat) (h : k < l.length) : (psv l)[k * 3]? = some (.bool l[k].1) ∧ (psv l)[k * 3 + 1]? = some (.string l[k].2.1) ∧ (psv l)[k * 3 + 2]? = some (.int .i64 l[k].2.2) := by
  induction l generalizing k with
  | nil => simp at h
  | cons a l ih =>
    cases k with
    | zero => exact ⟨rfl, rfl, rfl⟩
    | succ k =>
      have := ih k (by simpa using h)
      rw [psv_cons]
      rw [show (k + 1) * 3 = k * 3 + 1 + 1 + 1 from by omega]
      simpa using this
def fewP (l : List Par) (n : Nat) : List Par := (l.take n).map fun p => (cutS p.1 20, p.2)
theorem fewP_len (l : List Par) (n : Nat) : (fewP l n).length ≤ n := by simp [fewP, List.length_take]; omega
theorem fewP_len_eq (l : List Par) (k : Nat) (h : k ≤ l.length) : (fewP l k).length = k := by simp [fewP, List.length_take]; omega
theorem fewP_all (l : List Par) (k n : Nat) (h : l.length ≤ k) (hn : k ≤ n) : fewP l n = fewP l k := by
  unfold fewP; rw [List.take_of_length_le (by omega), List.take_of_length_le h]
theorem fewP_next (l : List Par) (k : Nat) (h : k < l.length) : fewP l (k + 1) = fewP l k ++ [(cutS l[k].1 20, l[k].2)] := by
  unfold fewP; rw [take_next l k h, List.map_append]; rfl
end M
end Go.Proofs.Ytcboeehmhpkodaa
