/- Plain facts on numerals for layer 2: the value of a list of digits, and that a number's decimal numeral is the list of digits without a leading zero that has its value; no program stands here. -/
import Derived.Test.YtaldnigdgnhodaaDoorMath
import Derived.Lib.ItoaMem
import Derived.Lib.Strings
import Derived.Lib.IndexBytes
namespace Go.Proofs.YtaldnigdgnhodaaDoor.M
def valN (l : List UInt8) : Nat := l.foldl (fun n c => n * 10 + (c.toNat - 48)) 0
theorem valN_snoc (l : List UInt8) (c : UInt8) : valN (l ++ [c]) = valN l * 10 + (c.toNat - 48) := by simp [valN, List.foldl_append]
theorem digB_bd (c : UInt8) (h : digB c.toNat = true) : 48 ≤ c.toNat ∧ c.toNat ≤ 57 := by
  unfold digB at h; rw [decide_eq_true_eq] at h; omega
theorem allB_append (p : Int → Bool) (a b : List UInt8) : allB p (a ++ b) = (allB p a && allB p b) := by simp [allB]
theorem rev_ind {P : List UInt8 → Prop} (h0 : P []) (h1 : ∀ l c, P l → P (l ++ [c])) (l : List UInt8) : P l := by
  have : ∀ r : List UInt8, P r.reverse := by
    intro r
    induction r with
    | nil => exact h0
    | cons c r ih => rw [List.reverse_cons]; exact h1 _ _ ih
  have := this l.reverse
  rwa [List.reverse_reverse] at this
theorem valN_lt (l : List UInt8) : allB digB l = true → valN l < 10 ^ l.length := by
  refine rev_ind (P := fun l => allB digB l = true → valN l < 10 ^ l.length) (by intro _; simp [valN]) ?_ l
  intro l c ih h
  rw [allB_snoc] at h
  simp only [Bool.and_eq_true] at h
  have := ih h.1
  have hc := digB_bd c h.2
  rw [valN_snoc]
  simp only [List.length_append, List.length_singleton, Nat.pow_succ]
  omega
theorem valN_small (l : List UInt8) (h : allB digB l = true) (hl : l.length ≤ 10) : valN l ≤ 9999999999 := by
  have h1 := valN_lt l h
  have h2 : 10 ^ l.length ≤ 10 ^ 10 := Nat.pow_le_pow_right (by decide) hl
  omega
theorem allB_take_of (p : Int → Bool) (l : List UInt8) (k : Nat) (h : allB p l = true) : allB p (l.take k) = true := by
  rw [← List.take_append_drop k l, allB_append] at h
  simp only [Bool.and_eq_true] at h
  exact h.1
/-- no zero ahead of another digit. -/
def noLead (l : List UInt8) : Prop := l.length = 1 ∨ l.head? ≠ some 48
theorem toNat_inj {a b : UInt8} (h : a.toNat = b.toNat) : a = b := UInt8.toNat_inj.1 h
theorem valN_pos (c : UInt8) (l : List UInt8) : allB digB (c :: l) = true → c ≠ 48 → 1 ≤ valN (c :: l) := by
  intro h hc
  have key : ∀ l, allB digB (c :: l) = true → 1 ≤ valN (c :: l) := by
    intro l
    refine rev_ind (P := fun l => allB digB (c :: l) = true → 1 ≤ valN (c :: l)) ?_ ?_ l
    · intro h
      have h1 := digB_bd c (by simpa [allB] using h)
      have h2 : c.toNat ≠ 48 := fun e => hc (toNat_inj (by simpa using e))
      simp [valN]; omega
    · intro l d ih h
      rw [← List.cons_append, allB_snoc] at h
      simp only [Bool.and_eq_true] at h
      have := ih h.1
      rw [← List.cons_append, valN_snoc]; omega
  exact key l h
theorem dec_step (u : Nat) (h : 10 ≤ u) : Lib.decDigits u = Lib.decDigits (u / 10) ++ [UInt8.ofNat (48 + u % 10)] := by
  rw [Lib.decDigits, dif_neg (by omega)]
theorem dec_val (l : List UInt8) : l ≠ [] → allB digB l = true → noLead l → Lib.decDigits (valN l) = l := by
  refine rev_ind (P := fun l => l ≠ [] → allB digB l = true → noLead l → Lib.decDigits (valN l) = l) (by intro h; exact absurd rfl h) ?_ l
  intro l c ih _ h hn
  rw [allB_snoc] at h
  simp only [Bool.and_eq_true] at h
  have hc := digB_bd c h.2
  rw [valN_snoc]
  cases l with
  | nil =>
    rw [show valN [] * 10 + (c.toNat - 48) = c.toNat - 48 from by simp [valN], Lib.decDigits_one (by omega)]
    simp
    exact toNat_inj (by simp; omega)
  | cons a l =>
    have ha : a ≠ 48 := by
      rcases hn with hn | hn
      · simp at hn
      · intro e; exact hn (by simp [e])
    have h1 := valN_pos a l h.1 ha
    have h2 := ih (by simp) h.1 (Or.inr (by simpa using ha))
    rw [dec_step _ (by omega)]
    rw [show (valN (a :: l) * 10 + (c.toNat - 48)) / 10 = valN (a :: l) from by omega, h2]
    rw [show (valN (a :: l) * 10 + (c.toNat - 48)) % 10 = c.toNat - 48 from by omega]
    congr 1
    rw [show 48 + (c.toNat - 48) = c.toNat from by omega]
    simp
theorem dec_ne (u : Nat) : Lib.decDigits u ≠ [] := by
  by_cases h : u < 10
  · rw [Lib.decDigits_one h]; simp
  · rw [dec_step u (by omega)]; simp
theorem dec_lead (u : Nat) : noLead (Lib.decDigits u) ∧ (1 ≤ u → (Lib.decDigits u).head? ≠ some 48) := by
  induction u using Nat.strongRecOn with
  | _ u ih =>
    by_cases h : u < 10
    · rw [Lib.decDigits_one h]
      refine ⟨Or.inl rfl, fun hu => ?_⟩
      simp
      intro e
      have := congrArg UInt8.toNat e
      simp at this; omega
    · have h1 := (ih (u / 10) (by omega)).2 (by omega)
      rw [dec_step u (by omega)]
      have h2 : (Lib.decDigits (u / 10) ++ [UInt8.ofNat (48 + u % 10)]).head? ≠ some 48 := by
        obtain ⟨a, r, e⟩ := List.exists_cons_of_ne_nil (dec_ne (u / 10))
        rw [e] at h1 ⊢
        simpa using h1
      exact ⟨Or.inr h2, fun _ => h2⟩
/-- a numeral's value is its number. -/
theorem val_dec (u : Nat) : valN (Lib.decDigits u) = u ∧ allB digB (Lib.decDigits u) = true := by
  induction u using Nat.strongRecOn with
  | _ u ih =>
    by_cases h : u < 10
    · rw [Lib.decDigits_one h]
      have e : (UInt8.ofNat (48 + u)).toNat = 48 + u := by simp; omega
      constructor
      · simp only [valN, List.foldl_cons, List.foldl_nil, e]; omega
      · simp only [allB, List.all_cons, List.all_nil, e, digB]; simp; omega
    · obtain ⟨h1, h2⟩ := ih (u / 10) (by omega)
      rw [dec_step u (by omega)]
      have e : (UInt8.ofNat (48 + u % 10)).toNat = 48 + u % 10 := by simp; omega
      constructor
      · rw [valN_snoc, h1, e]; omega
      · rw [allB_snoc, h2, e]; simp [digB]; omega
theorem dec_iff (l : List UInt8) (h0 : l ≠ []) (h : allB digB l = true) : Lib.decDigits (valN l) = l ↔ noLead l := by
  constructor
  · intro e; rw [← e]; exact (dec_lead _).1
  · exact dec_val l h0 h
/-- with a hyphen ahead. -/
theorem itoa_neg_iff (l : List UInt8) (h0 : l ≠ []) (h : allB digB l = true) : Lib.itoa (-(valN l : Int)) = 45 :: l ↔ noLead l ∧ l ≠ [48] := by
  by_cases hz : valN l = 0
  · rw [hz]
    constructor
    · intro e
      have : Lib.itoa (-((0 : Nat) : Int)) = [48] := by decide +kernel
      rw [this] at e
      simp at e
    · rintro ⟨h1, h2⟩
      exfalso
      match l, h0 with
      | c :: r, _ =>
        rcases h1 with h1 | h1
        · simp at h1
          subst h1
          have hc := digB_bd c (by simpa [allB] using h)
          simp [valN] at hz
          exact h2 (by rw [show c = 48 from toNat_inj (by simp; omega)])
        · have := valN_pos c r h (by simpa using h1)
          omega
  · rw [Lib.itoa_neg _ (by omega)]
    simp only [List.cons.injEq, true_and]
    rw [dec_iff l h0 h]
    constructor
    · intro e; exact ⟨e, fun e2 => hz (by rw [e2]; rfl)⟩
    · exact fun e => e.1
theorem itoa_pos_iff (l : List UInt8) (h0 : l ≠ []) (h : allB digB l = true) : Lib.itoa (valN l : Int) = l ↔ noLead l := by
  rw [Lib.itoa_nonneg]; exact dec_iff l h0 h
/-- does the string begin with a hyphen? -/
def negS (s : ByteArray) : Bool := Lib.hasPrefix s.data.toList [45]
/-- what stands behind the hyphen, if there is one. -/
def restS (s : ByteArray) : ByteArray := if negS s then s.extract 1 s.size else s
theorem first_of (s : ByteArray) (a : UInt8) (r : List UInt8) (hl : s.data.toList = a :: r) : ∃ h : 0 < s.size, s[0] = a := by
  have h5 := Lib.size_eq s
  rw [hl] at h5
  have h0 : 0 < s.size := by rw [h5]; simp
  refine ⟨h0, ?_⟩
  have e : s[0] = s.data.toList[0]'(by rw [hl]; simp) := rfl
  rw [e]
  exact (List.getElem_eq_iff _).2 (by rw [hl]; rfl)
theorem list_of (s : ByteArray) (h : 0 < s.size) : ∃ r, s.data.toList = s[0] :: r := by
  match hl : s.data.toList with
  | [] =>
    have h5 := Lib.size_eq s
    rw [hl] at h5
    simp only [List.length_nil] at h5; omega
  | a :: r =>
    obtain ⟨_, e⟩ := first_of s a r hl
    exact ⟨r, by rw [e]⟩
theorem pre_one (s : ByteArray) (c : UInt8) : Lib.hasPrefix s.data.toList [c] = true ↔ ∃ h : 0 < s.size, s[0] = c := by
  constructor
  · intro h
    match hl : s.data.toList with
    | [] => rw [hl] at h; cases h
    | a :: r =>
      obtain ⟨h0, e⟩ := first_of s a r hl
      refine ⟨h0, ?_⟩
      rw [hl] at h
      unfold Lib.hasPrefix at h
      simp at h
      rw [e, h]
  · rintro ⟨h, e2⟩
    obtain ⟨r, hl⟩ := list_of s h
    rw [hl]
    unfold Lib.hasPrefix
    simp [e2]
theorem negS_yes (s : ByteArray) (h : negS s = true) : ∃ h : 0 < s.size, ((s[0].toNat : Int) == 45) = true := by
  obtain ⟨h0, e⟩ := (pre_one s 45).1 h
  exact ⟨h0, by rw [e]; rfl⟩
theorem negS_no (s : ByteArray) (h : negS s = false) (h0 : 0 < s.size) : ((s[0].toNat : Int) == 45) = false := by
  cases hc : ((s[0].toNat : Int) == 45) with
  | false => rfl
  | true =>
    have h3 : (s[0].toNat : Int) = 45 := by simpa using hc
    have h4 : s[0].toNat = (45 : UInt8).toNat := by
      show s[0].toNat = 45
      omega
    have h5 : negS s = true := (pre_one s 45).2 ⟨h0, toNat_inj h4⟩
    rw [h5] at h; cases h
theorem rest_neg (s : ByteArray) (h : negS s = true) : restS s = s.extract 1 s.size := by unfold restS; rw [if_pos h]
theorem rest_pos (s : ByteArray) (h : negS s = false) : restS s = s := by unfold restS; rw [h]; rfl
theorem rest_trim (s : ByteArray) : (⟨(Lib.trimPrefix s.data.toList [45]).toArray⟩ : ByteArray) = restS s := by
  cases h : negS s with
  | true =>
    obtain ⟨h0, e⟩ := (pre_one s 45).1 h
    rw [rest_neg s h]
    refine Lib.trimPrefix_hit s ⟨#[45]⟩ h0 ?_
    have := Lib.hasPrefix_raw s ⟨#[45]⟩
    rw [show Lib.hasPrefix s.data.toList (ByteArray.mk #[45]).data.toList = true from h] at this
    simp only [Bool.and_eq_true] at this
    exact this.2
  | false =>
    rw [rest_pos s h]
    refine Lib.trimPrefix_miss s ⟨#[45]⟩ ?_
    rw [Lib.hasPrefix_raw]; exact h
theorem neg_list (s : ByteArray) (h : negS s = true) : s.data.toList = 45 :: (restS s).data.toList := by
  obtain ⟨h0, e⟩ := (pre_one s 45).1 h
  obtain ⟨r, hl⟩ := list_of s h0
  rw [rest_neg s h, Lib.extract_to_end, hl, e]
  rfl
def plainS (d : ByteArray) : Bool := decide (1 ≤ d.size ∧ d.size ≤ 10) && allB digB d.data.toList && (decide (d.size = 1) || !(decide (firstB d = 48)))
/-- the number that s is written as, if it is one of 32 bits. -/
def numS (s : ByteArray) : Option Int :=
  if plainS (restS s) = false ∨ (negS s = true ∧ (restS s).data.toList = [48]) then none else
  let n : Int := if negS s then -(valN (restS s).data.toList : Int) else (valN (restS s).data.toList : Int)
  if n < -2147483648 ∨ 2147483647 < n then none else some n
theorem numS_bad (s : ByteArray) (h : plainS (restS s) = false) : numS s = none := by unfold numS; rw [if_pos (Or.inl h)]
theorem numS_negz (s : ByteArray) (h : negS s = true) (hz : (restS s).data.toList = [48]) : numS s = none := by unfold numS; rw [if_pos (Or.inr ⟨h, hz⟩)]
theorem numS_neg (s : ByteArray) (h : negS s = true) (hp : plainS (restS s) = true) (hz : (restS s).data.toList ≠ [48]) :
    numS s = if (2147483648 : Int) < valN (restS s).data.toList then none else some (-(valN (restS s).data.toList : Int)) := by
  unfold numS
  rw [if_neg (by rintro (c | c); · rw [hp] at c; cases c
                 · exact hz c.2)]
  simp only [h, if_true]
  by_cases c : (2147483648 : Int) < valN (restS s).data.toList
  · rw [if_pos (Or.inl (by omega)), if_pos c]
  · rw [if_neg (by omega), if_neg c]
theorem numS_pos (s : ByteArray) (h : negS s = false) (hp : plainS (restS s) = true) :
    numS s = if (2147483647 : Int) < valN (restS s).data.toList then none else some (valN (restS s).data.toList : Int) := by
  unfold numS
  rw [if_neg (by rintro (c | c); · rw [hp] at c; cases c
                 · rw [h] at c; cases c.1)]
  simp only [h, Bool.false_eq_true, if_false]
  by_cases c : (2147483647 : Int) < valN (restS s).data.toList
  · rw [if_pos (Or.inr (by omega)), if_pos c]
  · rw [if_neg (by omega), if_neg c]
theorem plainS_all (d : ByteArray) (h : plainS d = true) : 1 ≤ d.size ∧ d.size ≤ 10 ∧ allB digB d.data.toList = true ∧ noLead d.data.toList := by
  unfold plainS at h
  simp only [Bool.and_eq_true, decide_eq_true_eq, Bool.or_eq_true, Bool.not_eq_true', decide_eq_false_iff_not] at h
  obtain ⟨⟨⟨h1, h2⟩, h3⟩, h4⟩ := h
  refine ⟨h1, h2, h3, ?_⟩
  rcases h4 with h4 | h4
  · exact Or.inl (by rw [← Lib.size_eq]; exact h4)
  · right
    obtain ⟨r, hl⟩ := list_of d h1
    rw [hl, firstB_eq d h1] at *
    intro e
    simp at e
    exact h4 (by rw [e]; rfl)
theorem plainS_iff (d : ByteArray) (h1 : 1 ≤ d.size) (h2 : d.size ≤ 10) (h3 : allB digB d.data.toList = true) : plainS d = true ↔ noLead d.data.toList := by
  constructor
  · intro h; exact (plainS_all d h).2.2.2
  · intro h
    unfold plainS
    simp only [Bool.and_eq_true, decide_eq_true_eq, Bool.or_eq_true, Bool.not_eq_true', decide_eq_false_iff_not]
    refine ⟨⟨⟨h1, h2⟩, h3⟩, ?_⟩
    rcases h with h | h
    · left; rw [Lib.size_eq]; exact h
    · right
      obtain ⟨r, hl⟩ := list_of d h1
      rw [firstB_eq d h1]
      intro e
      apply h
      rw [hl]
      have : d[0] = 48 := toNat_inj (by show d[0].toNat = 48; omega)
      rw [this]; rfl
theorem restS_le (s : ByteArray) : (restS s).size ≤ s.size := by
  unfold restS; split
  · simp
  · exact Nat.le_refl _
def numV (s : ByteArray) : Int := (numS s).getD 0
def numO (s : ByteArray) : Bool := (numS s).isSome
theorem digB_no (n : Int) (h : digB n = false) : n < 48 ∨ (48 ≤ n ∧ 57 < n) := by
  unfold digB at h; rw [decide_eq_false_iff_not] at h; omega
theorem plainS_dig (d : ByteArray) (h : allB digB d.data.toList = false) : plainS d = false := by unfold plainS; rw [h]; simp
theorem plainS_short (d : ByteArray) (h : ¬ 1 ≤ d.size ∨ ¬ d.size ≤ 10) : plainS d = false := by unfold plainS; simp; omega
theorem numS_itn_no (s : ByteArray) (hn : negS s = true) (h1 : 1 ≤ (restS s).size) (h2 : (restS s).size ≤ 10) (ha : allB digB (restS s).data.toList = true)
    (hne : Lib.itoa (-(valN (restS s).data.toList : Int)) ≠ s.data.toList) : numS s = none := by
  have h0 : (restS s).data.toList ≠ [] := by intro e; have := Lib.size_eq (restS s); rw [e] at this; simp only [List.length_nil] at this; omega
  rw [neg_list s hn] at hne
  by_cases hl : noLead (restS s).data.toList
  · by_cases hz : (restS s).data.toList = [48]
    · exact numS_negz s hn hz
    · exact absurd ((itoa_neg_iff _ h0 ha).2 ⟨hl, hz⟩) hne
  · refine numS_bad s ?_
    cases hp : plainS (restS s) with
    | false => rfl
    | true => exact absurd ((plainS_iff _ h1 h2 ha).1 hp) hl
theorem numS_itn_yes (s : ByteArray) (hn : negS s = true) (h1 : 1 ≤ (restS s).size) (h2 : (restS s).size ≤ 10) (ha : allB digB (restS s).data.toList = true)
    (he : Lib.itoa (-(valN (restS s).data.toList : Int)) = s.data.toList) :
    numS s = if (2147483648 : Int) < valN (restS s).data.toList then none else some (-(valN (restS s).data.toList : Int)) := by
  have h0 : (restS s).data.toList ≠ [] := by intro e; have := Lib.size_eq (restS s); rw [e] at this; simp only [List.length_nil] at this; omega
  rw [neg_list s hn] at he
  obtain ⟨hl, hz⟩ := (itoa_neg_iff _ h0 ha).1 he
  exact numS_neg s hn ((plainS_iff _ h1 h2 ha).2 hl) hz
theorem numS_itp_no (s : ByteArray) (hn : negS s = false) (h1 : 1 ≤ (restS s).size) (h2 : (restS s).size ≤ 10) (ha : allB digB (restS s).data.toList = true)
    (hne : Lib.itoa (valN (restS s).data.toList : Int) ≠ s.data.toList) : numS s = none := by
  have h0 : (restS s).data.toList ≠ [] := by intro e; have := Lib.size_eq (restS s); rw [e] at this; simp only [List.length_nil] at this; omega
  have hr : s.data.toList = (restS s).data.toList := by rw [rest_pos s hn]
  rw [hr] at hne
  refine numS_bad s ?_
  cases hp : plainS (restS s) with
  | false => rfl
  | true => exact absurd ((itoa_pos_iff _ h0 ha).2 ((plainS_iff _ h1 h2 ha).1 hp)) hne
theorem numS_itp_yes (s : ByteArray) (hn : negS s = false) (h1 : 1 ≤ (restS s).size) (h2 : (restS s).size ≤ 10) (ha : allB digB (restS s).data.toList = true)
    (he : Lib.itoa (valN (restS s).data.toList : Int) = s.data.toList) :
    numS s = if (2147483647 : Int) < valN (restS s).data.toList then none else some (valN (restS s).data.toList : Int) := by
  have h0 : (restS s).data.toList ≠ [] := by intro e; have := Lib.size_eq (restS s); rw [e] at this; simp only [List.length_nil] at this; omega
  have hr : s.data.toList = (restS s).data.toList := by rw [rest_pos s hn]
  rw [hr] at he
  exact numS_pos s hn ((plainS_iff _ h1 h2 ha).2 ((itoa_pos_iff _ h0 ha).1 he))
theorem dec_len (k : Nat) : ∀ u, u < 10 ^ (k + 1) → (Lib.decDigits u).length ≤ k + 1 := by
  induction k with
  | zero => intro u h; rw [Lib.decDigits_one (by simpa using h)]; simp
  | succ k ih =>
    intro u h
    by_cases h1 : u < 10
    · rw [Lib.decDigits_one h1]; simp
    · rw [dec_step u (by omega)]
      have := ih (u / 10) (by rw [Nat.pow_succ] at h; omega)
      rw [List.length_append]; simp; omega
theorem neg_of (s : ByteArray) (r : List UInt8) (h : s.data.toList = 45 :: r) : negS s = true ∧ (restS s).data.toList = r := by
  obtain ⟨h0, e⟩ := first_of s 45 r h
  have hn : negS s = true := (pre_one s 45).2 ⟨h0, e⟩
  have := neg_list s hn
  rw [h] at this
  exact ⟨hn, by simpa using this.symm⟩
theorem pos_of (s : ByteArray) (h : allB digB s.data.toList = true) : negS s = false := by
  cases hn : negS s with
  | false => rfl
  | true =>
    have := neg_list s hn
    rw [this] at h
    simp [allB, digB] at h
theorem dec_plain (d : ByteArray) (u : Nat) (hu : u ≤ 2147483648) (h : d.data.toList = Lib.decDigits u) : plainS d = true := by
  have h1 : 1 ≤ d.size := by
    rw [Lib.size_eq, h]
    cases e : Lib.decDigits u with
    | nil => exact absurd e (dec_ne u)
    | cons a r => simp
  have h2 : d.size ≤ 10 := by
    rw [Lib.size_eq, h]; exact dec_len 9 u (by omega)
  exact (plainS_iff d h1 h2 (by rw [h]; exact (val_dec u).2)).2 (by rw [h]; exact (dec_lead u).1)
theorem num_itoa (n : Int) (t : ByteArray) (h0 : -2147483648 ≤ n) (h1 : n ≤ 2147483647) (ht : t.data.toList = Lib.itoa n) : numS t = some n := by
  unfold Lib.itoa at ht
  by_cases hn : n < 0
  · rw [if_pos hn] at ht
    obtain ⟨g1, g2⟩ := neg_of t _ ht
    have gv : valN (restS t).data.toList = n.natAbs := by rw [g2]; exact (val_dec _).1
    rw [numS_neg t g1 (dec_plain _ n.natAbs (by omega) g2) (by
      intro e
      rw [e] at gv
      have : valN [48] = 0 := rfl
      omega), gv, if_neg (by omega)]
    congr 1; omega
  · rw [if_neg hn] at ht
    have g1 := pos_of t (by rw [ht]; exact (val_dec _).2)
    have g2 : (restS t).data.toList = Lib.decDigits n.toNat := by rw [rest_pos t g1]; exact ht
    have gv : valN (restS t).data.toList = n.toNat := by rw [g2]; exact (val_dec _).1
    rw [numS_pos t g1 (dec_plain _ n.toNat (by omega) g2), gv, if_neg (by omega)]
    congr 1; omega
/-- a number that is told is written just so. -/
theorem itoa_num (s : ByteArray) (n : Int) (h : numS s = some n) : Lib.itoa n = s.data.toList ∧ -2147483648 ≤ n ∧ n ≤ 2147483647 := by
  cases hp : plainS (restS s) with
  | false => rw [numS_bad s hp] at h; cases h
  | true =>
    obtain ⟨p1, p2, p3, p4⟩ := plainS_all _ hp
    have h0 : (restS s).data.toList ≠ [] := by intro e; have := Lib.size_eq (restS s); rw [e] at this; simp only [List.length_nil] at this; omega
    cases hn : negS s with
    | false =>
      rw [numS_pos s hn hp] at h
      split at h
      · cases h
      · cases h
        have hr : s.data.toList = (restS s).data.toList := by rw [rest_pos s hn]
        rw [hr]
        exact ⟨(itoa_pos_iff _ h0 p3).2 p4, by omega, by omega⟩
    | true =>
      by_cases hz : (restS s).data.toList = [48]
      · rw [numS_negz s hn hz] at h; cases h
      · rw [numS_neg s hn hp hz] at h
        split at h
        · cases h
        · cases h
          rw [neg_list s hn]
          exact ⟨(itoa_neg_iff _ h0 p3).2 ⟨p4, hz⟩, by omega, by omega⟩
theorem itoa_inj (m n : Int) (h : Lib.itoa m = Lib.itoa n) : m = n := by
  unfold Lib.itoa at h
  by_cases a : m < 0 <;> by_cases b : n < 0
  · rw [if_pos a, if_pos b] at h
    have := congrArg valN (List.cons.inj h).2
    rw [(val_dec _).1, (val_dec _).1] at this; omega
  · rw [if_pos a, if_neg b] at h
    have := (val_dec n.toNat).2
    rw [← h] at this
    simp [allB, digB] at this
  · rw [if_neg a, if_pos b] at h
    have := (val_dec m.toNat).2
    rw [h] at this
    simp [allB, digB] at this
  · rw [if_neg a, if_neg b] at h
    have := congrArg valN h
    rw [(val_dec _).1, (val_dec _).1] at this; omega
theorem num_out (n : Int) (t : ByteArray) (hn : n < -2147483648 ∨ 2147483647 < n) (ht : t.data.toList = Lib.itoa n) : numS t = none := by
  cases h : numS t with
  | none => rfl
  | some m =>
    obtain ⟨e, h1, h2⟩ := itoa_num t m h
    rw [ht] at e
    have := itoa_inj m n e
    omega
theorem itoa_ne (n : Int) : Lib.itoa n ≠ [] := by
  unfold Lib.itoa; split
  · simp
  · exact dec_ne _
end Go.Proofs.YtaldnigdgnhodaaDoor.M
