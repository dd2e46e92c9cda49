/- Plain facts on SlotEnds: twice over, all that is under way ends. -/
import Derived.Test.YtfapghekakdpgaaSlMO
namespace Go.Proofs.Ytfapghekakdpgaa
open Go.RowKit Gr Sl
set_option linter.unusedVariables false
set_option linter.unusedSimpArgs false
namespace Sl
def lv (k : Sk) : Bool := !ghI k.2
/-- those that are held leave. -/
def six (k : Sk) : Sk := if k.2 = 4 then (k.1, 6) else k
/-- the places of l leave. -/
def goes (x : List Sk) (l : List Nat) : List Sk := x.mapIdx (fun i k => if i ∈ l then (k.1, 6) else k)
def enterAt (x : List Sk) (b : Bool) : List Sk := if b = true then (match cur x with
  | some a => x.set a ((sk x a).1, 3)
  | none => x) else x
def stepL (x : List Sk) : List Sk := enterAt (goes x (nextL (x.take 15))) (nextB (x.take 15))
def fixK (z : Int) : Int := if z = 2 ∨ z = 3 then 0 else z
def outL (k : Sk) : Option Sk := if fixK k.2 = 5 ∨ fixK k.2 = 6 then none else some (k.1, fixK k.2)
def filtL (x : List Sk) : List Sk := x.filterMap outL
def roundL (x : List Sk) : List Sk := filtL (stepL (stepL x))
theorem goes_nil (x : List Sk) : goes x [] = x := by
  unfold goes
  apply List.ext_getElem
  · simp
  · intro i h1 h2; simp
theorem goes_len (x : List Sk) (l : List Nat) : (goes x l).length = x.length := by simp [goes]
theorem goes_next (x : List Sk) (y : List Sk) (hy : y <+: x) : goes x (wh y.length (nextQ y)) = y.map six ++ x.drop y.length := by
  obtain ⟨p, rfl⟩ := hy
  unfold goes
  apply List.ext_getElem
  · simp
  · intro i h1 h2
    simp only [List.length_mapIdx, List.length_append] at h1
    rw [List.getElem_mapIdx]
    by_cases hi : i < y.length
    · have e1 : (y ++ p)[i]'(by simp; omega) = y[i] := List.getElem_append_left hi
      have e2 : (y.map six ++ (y ++ p).drop y.length)[i]'h2 = six y[i] := by rw [List.getElem_append_left (by simpa using hi), List.getElem_map]
      rw [e1, e2]
      unfold six
      have hs : sk y i = y[i] := sk_eq y i hi
      by_cases h4 : (y[i]).2 = 4
      · rw [if_pos h4, if_pos]
        exact mem_wh.mpr ⟨hi, by unfold nextQ; rw [hs]; exact decide_eq_true h4⟩
      · rw [if_neg h4, if_neg]
        intro hm
        have := (mem_wh.mp hm).2
        unfold nextQ at this
        rw [hs] at this
        exact h4 (by simpa using this)
    · have h3 : y.length ≤ i := by omega
      rw [if_neg (fun hm => hi (mem_wh.mp hm).1)]
      have hp : i - y.length < p.length := by omega
      have e1 : (y ++ p)[i]'(by simp; omega) = p[i - y.length] := List.getElem_append_right h3
      have e2 : (y.map six ++ (y ++ p).drop y.length)[i]'h2 = p[i - y.length] := by
        rw [List.getElem_append_right (by simpa using h3)]
        simp
      rw [e1, e2]
theorem lv_six (k : Sk) : ghI (six k).2 = ghI k.2 := by
  unfold six
  split
  · rename_i h; rw [h]; rfl
  · rfl
theorem sk_map_six (y : List Sk) (i : Nat) (h : i < y.length) : sk (y.map six) i = six (sk y i) := by
  rw [sk_eq _ i (by simpa using h), sk_eq y i h, List.getElem_map]
theorem fi_congr {q r : Nat → Bool} : ∀ {k : Nat}, (∀ i, i < k → q i = r i) → fi q k = fi r k
  | 0, _ => rfl
  | k + 1, h => by
    unfold fi
    rw [fi_congr (k := k) (fun i hi => h i (by omega)), h k (by omega)]
theorem cur_map_six (y : List Sk) : cur (y.map six) = cur y := by
  unfold cur
  rw [List.length_map]
  exact fi_congr fun i hi => by unfold curQ; rw [sk_map_six y i hi, lv_six]
theorem nextL_six (y : List Sk) : nextL (y.map six) = [] := by
  have h : wh (y.map six).length (nextQ (y.map six)) = [] := by
    apply List.eq_nil_iff_forall_not_mem.mpr
    intro i hm
    obtain ⟨hi, hq⟩ := mem_wh.mp hm
    rw [List.length_map] at hi
    unfold nextQ at hq
    rw [sk_map_six y i hi] at hq
    have : (six (sk y i)).2 = 4 := by simpa using hq
    unfold six at this
    split at this
    · simp at this
    · rename_i e; exact e this
  unfold nextL
  split
  · exact h
  · split
    · rfl
    · exact h
theorem nextB_six (y : List Sk) : nextB (y.map six) = nextB y := by
  unfold nextB
  rw [cur_map_six]
  cases hc : cur y with
  | none => rfl
  | some a =>
    obtain ⟨ha, hg⟩ := cur_some hc
    have e1 : (sk (y.map six) a).2 = (sk y a).2 := by
      rw [sk_map_six y a ha]
      unfold six
      split
      · rename_i e; rw [e] at hg; cases hg
      · rfl
    show (decide ((sk (y.map six) a).2 = 1) && _) = _
    rw [e1]
    rw [List.length_map, fi_congr (q := fun i => ghI (sk (y.map six) i).2) (r := fun i => ghI (sk y i).2) (fun i hi => by show ghI _ = ghI _; rw [sk_map_six y i hi, lv_six])]
theorem enterAt_false (x : List Sk) : enterAt x false = x := by unfold enterAt; rw [if_neg (by simp)]
theorem take_prefix (x : List Sk) : x.take 15 <+: x := List.take_prefix 15 x
theorem stepL_len (x : List Sk) : (stepL x).length = x.length := by
  unfold stepL enterAt
  split
  · split
    · simp [goes_len]
    · exact goes_len _ _
  · exact goes_len _ _
/-- one that enters: nothing goes on. -/
theorem step_en {x : List Sk} {a : Nat} (hc : cur (x.take 15) = some a) (he : enI (sk (x.take 15) a).2 = true) : stepL x = x := by
  unfold stepL
  have h1 : nextL (x.take 15) = [] := by unfold nextL; rw [hc]; show (if _ then _ else _) = _; rw [if_pos he]
  have h2 : nextB (x.take 15) = false := by
    unfold nextB
    rw [hc]
    show (decide _ && _) = false
    have : ¬ (sk (x.take 15) a).2 = 1 := by
      intro e
      rw [e] at he
      cases he
    rw [decide_eq_false this]; rfl
  rw [h1, h2, goes_nil, enterAt_false]
/-- else all that are held go. -/
theorem step_no {x : List Sk} (hn : ∀ a, cur (x.take 15) = some a → enI (sk (x.take 15) a).2 = false) (hb : nextB (x.take 15) = false) : stepL x = (x.take 15).map six ++ x.drop 15 := by
  unfold stepL
  have h1 : nextL (x.take 15) = wh (x.take 15).length (nextQ (x.take 15)) := by
    unfold nextL
    cases hc : cur (x.take 15) with
    | none => rfl
    | some a => show (if _ then _ else _) = _; rw [if_neg (by rw [hn a hc]; simp)]
  rw [h1, hb, enterAt_false, goes_next x _ (take_prefix x)]
  congr 1
  rw [List.length_take]
  by_cases h : x.length ≤ 15
  · rw [List.drop_eq_nil_of_le (by omega), List.drop_eq_nil_of_le (by omega)]
  · rw [Nat.min_eq_left (by omega)]
theorem step_again {x : List Sk} (hn : ∀ a, cur (x.take 15) = some a → enI (sk (x.take 15) a).2 = false) (hb : nextB (x.take 15) = false) : stepL (stepL x) = (x.take 15).map six ++ x.drop 15 := by
  rw [step_no hn hb]
  have ht : ((x.take 15).map six ++ x.drop 15).take 15 = (x.take 15).map six := by
    by_cases h : x.length ≤ 15
    · rw [List.drop_eq_nil_of_le h, List.append_nil, List.take_of_length_le (by simp; omega)]
    · rw [List.take_append_of_le_length (by simp; omega), List.take_of_length_le (by simp; omega)]
  unfold stepL
  rw [ht, nextL_six, nextB_six, hb, goes_nil, enterAt_false]
theorem out_lv {k : Sk} (h : ghI k.2 = false) : outL k = some (k.1, fixK k.2) := by
  unfold outL
  rw [if_neg]
  unfold ghI at h
  simp at h
  unfold fixK
  split
  · omega
  · omega
theorem filt_six : ∀ (y : List Sk), filtL (y.map six) = (y.filter lv).map (fun k => (k.1, fixK k.2))
  | [] => rfl
  | k :: y => by
    have ih := filt_six y
    unfold filtL at ih ⊢
    rw [List.map_cons, List.filterMap_cons]
    cases hg : ghI k.2 with
    | false =>
      rw [List.filter_cons_of_pos (by unfold lv; rw [hg]; rfl), List.map_cons]
      have hsx : six k = k := by
        unfold six
        split
        · rename_i e; rw [e] at hg; cases hg
        · rfl
      rw [hsx, out_lv hg]
      dsimp only
      rw [ih]
    | true =>
      rw [List.filter_cons_of_neg (by unfold lv; rw [hg]; simp)]
      have : outL (six k) = none := by
        obtain ⟨s, z⟩ := k
        unfold ghI at hg
        simp at hg
        rcases hg with e | e | e <;> subst e <;> rfl
      rw [this]
      exact ih
theorem filt_app (a b : List Sk) : filtL (a ++ b) = filtL a ++ filtL b := by unfold filtL; exact List.filterMap_append
theorem filt_nil : filtL [] = [] := rfl
/-- what is left of any: the living, and those that are held. -/
theorem filt_lv (x : List Sk) : (filtL x).filter lv = (x.filter lv).map (fun k => (k.1, fixK k.2)) ∧ (∀ k ∈ filtL x, lv k = false → k.2 = 4) ∧ (filtL x).length ≤ x.length := by
  induction x with
  | nil => exact ⟨rfl, by simp [filtL], by simp [filtL]⟩
  | cons k x ih =>
    obtain ⟨h1, h2, h3⟩ := ih
    unfold filtL at h1 h2 h3 ⊢
    rw [List.filterMap_cons]
    cases hg : ghI k.2 with
    | false =>
      rw [out_lv hg, List.filter_cons_of_pos (p := lv) (a := k) (by unfold lv; rw [hg]; rfl), List.map_cons]
      have hf : lv (k.1, fixK k.2) = true := by
        unfold lv ghI
        unfold ghI at hg
        simp at hg
        unfold fixK
        split
        · rfl
        · simp; exact hg
      dsimp only
      rw [List.filter_cons_of_pos hf, h1]
      refine ⟨rfl, ?_, by simp; exact h3⟩
      intro q hq hl
      rcases List.mem_cons.mp hq with e | e
      · rw [e, hf] at hl; cases hl
      · exact h2 q e hl
    | true =>
      rw [List.filter_cons_of_neg (p := lv) (a := k) (by unfold lv; rw [hg]; simp)]
      cases ho : outL k with
      | none =>
        refine ⟨h1, h2, by simp; omega⟩
      | some q =>
        dsimp only
        have hq : q.2 = 4 := by
          unfold ghI at hg
          simp at hg
          unfold outL fixK at ho
          rcases hg with e | e | e <;> rw [e] at ho <;> simp at ho
          rw [← ho]
        have hl : lv q = false := by unfold lv; rw [hq]; rfl
        rw [List.filter_cons_of_neg (by rw [hl]; simp), h1]
        refine ⟨rfl, ?_, by simp; exact h3⟩
        intro q' hq' hl'
        rcases List.mem_cons.mp hq' with e | e
        · rw [e]; exact hq
        · exact h2 q' e hl'
theorem cur_mem {y : List Sk} {a : Nat} (h : cur y = some a) : sk y a ∈ y.filter lv := by
  obtain ⟨h1, h2⟩ := cur_some h
  exact List.mem_filter.mpr ⟨sk_mem h1, by unfold lv; rw [h2]; rfl⟩
/-- it begins to enter just where it is alone. -/
theorem nextB_true {y : List Sk} (h : nextB y = true) (h1 : (y.filter lv).length ≤ 1) : ∃ s, y = [(s, 1)] := by
  unfold nextB at h
  cases hc : cur y with
  | none => rw [hc] at h; cases h
  | some a =>
    rw [hc] at h
    dsimp only at h
    rw [Bool.and_eq_true] at h
    obtain ⟨h2, h3⟩ := h
    have hk : (sk y a).2 = 1 := by simpa using h2
    have hno : ∀ i, i < y.length → ghI (sk y i).2 = false := by
      cases hf : fi (fun i => ghI (sk y i).2) y.length with
      | none => exact fi_none hf
      | some j => rw [hf] at h3; cases h3
    have hall : y.filter lv = y := by
      apply List.filter_eq_self.mpr
      intro k hm
      obtain ⟨i, hi, rfl⟩ := mem_sk hm
      unfold lv; rw [hno i hi]; rfl
    rw [hall] at h1
    obtain ⟨ha, _⟩ := cur_some hc
    match y, h1, ha, hk with
    | [k], _, ha, hk =>
      have : a = 0 := by simp at ha; omega
      subst this
      refine ⟨k.1, ?_⟩
      have e : sk [k] 0 = k := rfl
      rw [e] at hk
      rw [← hk]
theorem cur_one (s : ByteArray) (z : Int) (h : ghI z = false) : cur [(s, z)] = some 0 := fi_is (by simp) (by unfold curQ; show (!ghI z) = true; rw [h]; rfl) (fun i hi => absurd hi (Nat.not_lt_zero _))
theorem round_one (s : ByteArray) : roundL [(s, 1)] = [(s, 0)] := by
  have hc := cur_one s 1 rfl
  have hb : nextB [(s, 1)] = true := by unfold nextB; rw [hc]; rfl
  have hl : nextL [(s, 1)] = [] := by unfold nextL; rw [hc]; rfl
  have h1 : stepL [(s, 1)] = [(s, 3)] := by
    unfold stepL
    rw [show List.take 15 [(s, (1 : Int))] = [(s, 1)] from rfl, hb, hl, goes_nil]
    unfold enterAt
    rw [if_pos rfl, hc]
    rfl
  have h2 : stepL [(s, 3)] = [(s, 3)] := step_en (a := 0) (cur_one s 3 rfl) rfl
  unfold roundL
  rw [h1, h2]
  rfl
/-- a round, in three cases. -/
theorem round_is (x : List Sk) (h : (x.filter lv).length ≤ 1) (hl : x.length ≤ 16) :
    (∃ k, x.filter lv = [k] ∧ enI k.2 = true ∧ roundL x = filtL x) ∨ (∃ s, x = [(s, 1)] ∧ roundL x = [(s, 0)]) ∨
    (roundL x = ((x.take 15).filter lv).map (fun k => (k.1, fixK k.2)) ++ filtL (x.drop 15)) := by
  have hx : x.filter lv = (x.take 15).filter lv ++ (x.drop 15).filter lv := by rw [← List.filter_append, List.take_append_drop]
  have h15 : ((x.take 15).filter lv).length ≤ 1 := by rw [hx, List.length_append] at h; omega
  by_cases hen : ∃ a, cur (x.take 15) = some a ∧ enI (sk (x.take 15) a).2 = true
  · obtain ⟨a, hc, he⟩ := hen
    left
    refine ⟨sk (x.take 15) a, ?_, he, by unfold roundL; rw [step_en hc he, step_en hc he]⟩
    have hm : sk (x.take 15) a ∈ x.filter lv := by rw [hx]; exact List.mem_append_left _ (cur_mem hc)
    match hf : x.filter lv, h, hm with
    | [k], _, hm => rw [List.mem_singleton.mp hm]
  · right
    have hn : ∀ a, cur (x.take 15) = some a → enI (sk (x.take 15) a).2 = false := fun a hc => by
      cases e : enI (sk (x.take 15) a).2 with
      | false => rfl
      | true => exact absurd ⟨a, hc, e⟩ hen
    cases hb : nextB (x.take 15) with
    | true =>
      left
      obtain ⟨s, hs⟩ := nextB_true hb h15
      have hx1 : x = [(s, 1)] := by
        have hlen : (x.take 15).length = 1 := by rw [hs]; rfl
        rw [List.length_take] at hlen
        have : x.take 15 = x := List.take_of_length_le (by omega)
        rw [← this, hs]
      exact ⟨s, hx1, by rw [hx1]; exact round_one s⟩
    | false =>
      right
      unfold roundL
      rw [step_again hn hb, filt_app, filt_six]
def Held (x : List Sk) : Prop := ∀ k ∈ x, lv k = false → k.2 = 4
/-- how it is at first. -/
def Stage (last : ByteArray) : Nat → List Sk → Prop
  | 0, x => x.length ≤ 16 ∧ ((x.filter lv = [] ∧ last = ByteArray.empty) ∨ ∃ z, 0 ≤ z ∧ z ≤ 3 ∧ x.filter lv = [(last, z)])
  | 1, x => Held x ∧ ((x.filter lv = [] ∧ last = ByteArray.empty ∧ x.length ≤ 1) ∨ (x.filter lv = [(last, 1)] ∧ x.length ≤ 2) ∨ (x.filter lv = [(last, 0)] ∧ x.length ≤ 16))
  | 2, x => (x = [] ∧ last = ByteArray.empty) ∨ x = [(last, 1)] ∨ (Held x ∧ x.filter lv = [(last, 0)] ∧ x.length ≤ 2)
  | _, x => (x = [] ∧ last = ByteArray.empty) ∨ x = [(last, 0)]
theorem drop_le {x : List Sk} (h : x.length ≤ 15) : x.drop 15 = [] := List.drop_eq_nil_of_le h
theorem take_le {x : List Sk} (h : x.length ≤ 15) : x.take 15 = x := List.take_of_length_le h
theorem stage1 {last : ByteArray} {x : List Sk} (h : Stage last 0 x) : Stage last 1 (roundL x) := by
  obtain ⟨hl, hc⟩ := h
  have h1 : (x.filter lv).length ≤ 1 := by rcases hc with ⟨e, _⟩ | ⟨z, _, _, e⟩ <;> rw [e] <;> simp
  have hx : x.filter lv = (x.take 15).filter lv ++ (x.drop 15).filter lv := by rw [← List.filter_append, List.take_append_drop]
  rcases round_is x h1 hl with ⟨k, hk, he, hr⟩ | ⟨s, rfl, hr⟩ | hr
  · obtain ⟨f1, f2, f3⟩ := filt_lv x
    rw [hr]
    refine ⟨f2, .inr (.inr ⟨?_, by omega⟩)⟩
    rw [f1, hk]
    rcases hc with ⟨e, _⟩ | ⟨z, _, _, e⟩
    · rw [e] at hk; cases hk
    · rw [e] at hk
      injection hk with hk
      subst hk
      show [(last, fixK z)] = _
      have : z = 2 ∨ z = 3 := by unfold enI at he; simpa using he
      unfold fixK
      rw [if_pos this]
  · rw [hr]
    rcases hc with ⟨e, _⟩ | ⟨z, _, _, e⟩
    · cases e
    · have : [(s, (1 : Int))] = [(last, z)] := e
      injection this with this
      injection this with e1 e2
      subst e1
      exact ⟨(fun k hk hl => by rw [List.mem_singleton.mp hk] at hl; cases hl), .inr (.inr ⟨rfl, by simp⟩)⟩
  · obtain ⟨f1, f2, f3⟩ := filt_lv (x.drop 15)
    have hd : (x.drop 15).length ≤ 1 := by rw [List.length_drop]; omega
    have hfl : ∀ k : Sk, lv k = true → lv (k.1, fixK k.2) = true := fun k hk => by
      unfold lv ghI at hk ⊢
      simp at hk
      unfold fixK
      split
      · rfl
      · simp; exact hk
    have hlive : (roundL x).filter lv = (x.filter lv).map (fun k => (k.1, fixK k.2)) := by
      rw [hr, List.filter_append, f1, hx, List.map_append]
      congr 1
      apply List.filter_eq_self.mpr
      intro k hk
      obtain ⟨q, hq, rfl⟩ := List.mem_map.mp hk
      exact hfl q (List.mem_filter.mp hq).2
    have hheld : Held (roundL x) := by
      intro k hk hlk
      rw [hr] at hk
      rcases List.mem_append.mp hk with e | e
      · obtain ⟨q, hq, rfl⟩ := List.mem_map.mp e
        rw [hfl q (List.mem_filter.mp hq).2] at hlk
        cases hlk
      · exact f2 k e hlk
    have hlen : (roundL x).length ≤ ((x.take 15).filter lv).length + 1 := by
      rw [hr, List.length_append, List.length_map]; omega
    have h15 : ((x.take 15).filter lv).length ≤ (x.filter lv).length := by rw [hx, List.length_append]; omega
    refine ⟨hheld, ?_⟩
    rcases hc with ⟨e, el⟩ | ⟨z, z0, z3, e⟩
    · left
      rw [e] at hlive h15
      refine ⟨hlive, el, ?_⟩
      have h0 : ([] : List Sk).length = 0 := rfl
      omega
    · rw [e] at hlive h15
      have hlen2 : (roundL x).length ≤ 2 := by have : ([(last, z)] : List Sk).length = 1 := rfl; omega
      by_cases e1 : z = 1
      · right; left
        rw [e1] at hlive
        exact ⟨hlive, hlen2⟩
      · right; right
        refine ⟨?_, by omega⟩
        rw [hlive]
        show [(last, fixK z)] = _
        unfold fixK
        have : (if z = 2 ∨ z = 3 then (0 : Int) else z) = 0 := by split <;> omega
        rw [this]
theorem stage2 {last : ByteArray} {x : List Sk} (h : Stage last 1 x) : Stage last 2 (roundL x) := by
  obtain ⟨hh, hc⟩ := h
  have h1 : (x.filter lv).length ≤ 1 := by rcases hc with ⟨e, _⟩ | ⟨e, _⟩ | ⟨e, _⟩ <;> rw [e] <;> simp
  have hl : x.length ≤ 16 := by rcases hc with ⟨_, _, e⟩ | ⟨_, e⟩ | ⟨_, e⟩ <;> omega
  have hx : x.filter lv = (x.take 15).filter lv ++ (x.drop 15).filter lv := by rw [← List.filter_append, List.take_append_drop]
  rcases round_is x h1 hl with ⟨k, hk, he, hr⟩ | ⟨s, rfl, hr⟩ | hr
  · exfalso
    rcases hc with ⟨e, _⟩ | ⟨e, _⟩ | ⟨e, _⟩ <;> rw [e] at hk
    · cases hk
    · injection hk with hk; subst hk; cases he
    · injection hk with hk; subst hk; cases he
  · rw [hr]
    rcases hc with ⟨e, _⟩ | ⟨e, _⟩ | ⟨e, _⟩
    · cases e
    · have e : [(s, (1 : Int))] = [(last, 1)] := e
      injection e with e
      injection e with e1 e2
      subst e1
      exact .inr (.inr ⟨(fun k hk hl => by rw [List.mem_singleton.mp hk] at hl; cases hl), rfl, by simp⟩)
    · have e : [(s, (1 : Int))] = [(last, 0)] := e
      injection e with e
      injection e with e1 e2
      cases e2
  · obtain ⟨f1, f2, f3⟩ := filt_lv (x.drop 15)
    have hd : (x.drop 15).length ≤ 1 := by rw [List.length_drop]; omega
    rw [hr]
    rcases hc with ⟨e, el, ee⟩ | ⟨e, ee⟩ | ⟨e, ee⟩
    · left
      rw [take_le (by omega), drop_le (by omega), e]
      exact ⟨rfl, el⟩
    · right; left
      rw [take_le (by omega), drop_le (by omega), e]
      rfl
    · right; right
      have hlive : ∀ k ∈ (x.take 15).filter lv, k = (last, (0 : Int)) := fun k hk => by
        have : k ∈ x.filter lv := by rw [hx]; exact List.mem_append_left _ hk
        rw [e] at this
        exact List.mem_singleton.mp this
      have hmap : ((x.take 15).filter lv).map (fun k => (k.1, fixK k.2)) = (x.take 15).filter lv := by
        rw [List.map_congr_left (g := id) (fun k hk => by rw [hlive k hk]; rfl)]
        simp
      have hmap2 : ((x.drop 15).filter lv).map (fun k => (k.1, fixK k.2)) = (x.drop 15).filter lv := by
        rw [List.map_congr_left (g := id) (fun k hk => by
          have : k ∈ x.filter lv := by rw [hx]; exact List.mem_append_right _ hk
          rw [e] at this
          rw [List.mem_singleton.mp this]; rfl)]
        simp
      rw [hmap]
      refine ⟨?_, ?_, ?_⟩
      · intro k hk hlk
        rcases List.mem_append.mp hk with q | q
        · rw [hlive k q] at hlk; cases hlk
        · exact f2 k q hlk
      · rw [List.filter_append, f1, hmap2, ← e, hx]
        congr 1
        apply List.filter_eq_self.mpr
        intro k hk
        exact (List.mem_filter.mp hk).2
      · rw [List.length_append]
        have : ((x.take 15).filter lv).length ≤ (x.filter lv).length := by rw [hx, List.length_append]; omega
        omega
theorem stage3 {last : ByteArray} {x : List Sk} (h : Stage last 2 x) : Stage last 3 (roundL x) := by
  rcases h with ⟨rfl, e⟩ | rfl | ⟨hh, e, hl⟩
  · exact .inl ⟨rfl, e⟩
  · exact .inr (round_one last)
  · rcases round_is x (by rw [e]; simp) (by omega) with ⟨k, hk, he, hr⟩ | ⟨s, rfl, hr⟩ | hr
    · rw [e] at hk
      injection hk with hk
      subst hk
      cases he
    · have e : [(s, (1 : Int))] = [(last, 0)] := e
      injection e with e
      injection e with e1 e2
      cases e2
    · right
      rw [hr, take_le (by omega), drop_le (by omega), e]
      rfl
theorem stage_next {last : ByteArray} {x : List Sk} {k : Nat} (hk : k < 3) (h : Stage last k x) : Stage last (k + 1) (roundL x) := by
  match k, hk, h with
  | 0, _, h => exact stage1 h
  | 1, _, h => exact stage2 h
  | 2, _, h => exact stage3 h
open M (cutS) in
theorem cut_again (s : ByteArray) : cutS (cutS s 20) 20 = cutS s 20 := by
  have h : (cutS s 20).size ≤ 20 := by
    unfold cutS
    split
    · rw [ByteArray.size_extract]; omega
    · omega
  show (if 20 < (cutS s 20).size then _ else _) = _
  rw [if_neg (by omega)]
open M (cutS) in
def KeyOk (x : List Sk) : Prop := ∀ k ∈ x, cutS k.1 20 = k.1
open M (cutS) in
theorem sown_key (L : List Sk) (m : Nat) : KeyOk (sownK L m) := by
  intro k hk
  unfold sownK at hk
  obtain ⟨q, _, rfl⟩ := List.mem_map.mp hk
  exact cut_again q.1
theorem sown_take {x : List Sk} (h : KeyOk x) (m : Nat) : sownK x m = x.take m := by
  unfold sownK
  rw [List.map_congr_left (g := id) (fun k hk => by rw [h k (List.mem_of_mem_take hk)]; rfl)]
  simp
theorem right_take {x : List Sk} (h : Right x) (m : Nat) : Right (x.take m) := by
  have hs : ∀ i, i < (x.take m).length → sk (x.take m) i = sk x i ∧ i < x.length := fun i hi => by
    rw [List.length_take] at hi
    rw [sk_eq _ i (by rw [List.length_take]; exact hi), sk_eq x i (by omega), List.getElem_take]
    exact ⟨rfl, by omega⟩
  refine ⟨fun i hi => ?_, wh_one fun i j hi hj qi qj => ?_⟩
  · obtain ⟨e, hl⟩ := hs i hi
    rw [e]
    refine ⟨(h.1 i hl).1, fun j hj => ?_⟩
    rw [(hs j (by omega)).1]
    exact (h.1 i hl).2 j hj
  · obtain ⟨e1, l1⟩ := hs i hi
    obtain ⟨e2, l2⟩ := hs j hj
    unfold liveQ at qi qj
    rw [e1] at qi
    rw [e2] at qj
    have k1 := right_kind h l1
    have k2 := right_kind h l2
    exact right_live h l1 l2 (by rw [gh_live k1.1 k1.2, qi]; rfl) (by rw [gh_live k2.1 k2.2, qj]; rfl)
open M (cutS) in
theorem aft_key {X : List Sk} {kq : ByteArray} {E : List Int} {tk st : Int} {R : List Nat} (h : KeyOk X) (hk : cutS kq 20 = kq) : KeyOk (aftL X kq E tk st R) := by
  intro k hm
  rw [mem_aftL] at hm
  rcases hm with ⟨i, z, hi, _, rfl⟩ | ⟨_, rfl⟩
  · have := h (sk X i) (sk_mem hi); exact this
  · exact hk
def Cur (last : ByteArray) (x : List Sk) : Prop := (last = ByteArray.empty ∧ cur x = none) ∨ ∃ a, cur x = some a ∧ a < x.length ∧ (sk x a).1 = last
theorem stage0 {last : ByteArray} {x : List Sk} (h : Right x) (hl : x.length ≤ 16) (hc : Cur last x) : Stage last 0 x := by
  refine ⟨hl, ?_⟩
  rcases hc with ⟨e, hc⟩ | ⟨a, hc, ha, hka⟩
  · left
    refine ⟨?_, e⟩
    apply List.filter_eq_nil_iff.mpr
    intro k hk
    obtain ⟨i, hi, rfl⟩ := mem_sk hk
    unfold lv
    rw [cur_none hc hi]
    simp
  · right
    obtain ⟨_, hg⟩ := cur_some hc
    have hk := right_kind h ha
    rw [gh_live hk.1 hk.2] at hg
    refine ⟨(sk x a).2, hk.1, by simp at hg; omega, ?_⟩
    have hx : x = x.take a ++ x[a] :: x.drop (a + 1) := by rw [List.getElem_cons_drop, List.take_append_drop]
    have hno : ∀ i, i < x.length → i ≠ a → lv (sk x i) = false := fun i hi hne => by
      unfold lv
      cases hgi : ghI (sk x i).2 with
      | true => rfl
      | false => exact absurd (right_live h hi ha hgi (cur_some hc).2) hne
    have h1 : (x.take a).filter lv = [] := by
      apply List.filter_eq_nil_iff.mpr
      intro k hk
      obtain ⟨i, hi, e⟩ := List.getElem_of_mem hk
      rw [List.getElem_take] at e
      rw [List.length_take] at hi
      have := hno i (by omega) (by omega)
      rw [sk_eq x i (by omega), e] at this
      rw [this]; simp
    have h2 : (x.drop (a + 1)).filter lv = [] := by
      apply List.filter_eq_nil_iff.mpr
      intro k hk
      obtain ⟨i, hi, e⟩ := List.getElem_of_mem hk
      rw [List.getElem_drop] at e
      rw [List.length_drop] at hi
      have := hno (a + 1 + i) (by omega) (by omega)
      rw [sk_eq x _ (by omega), e] at this
      rw [this]; simp
    have h3 : lv x[a] = true := by
      unfold lv
      rw [← sk_eq x a ha, (cur_some hc).2]; rfl
    have hf : x.filter lv = [x[a]] := by
      have := congrArg (List.filter lv) hx
      rw [List.filter_append, h1, List.filter_cons_of_pos h3, h2] at this
      exact this
    rw [hf, ← hka, sk_eq x a ha]
theorem stage_len {last : ByteArray} {k : Nat} {x : List Sk} (h : Stage last k x) : x.length ≤ 16 := by
  match k, h with
  | 0, h => exact h.1
  | 1, h => rcases h.2 with ⟨_, _, e⟩ | ⟨_, e⟩ | ⟨_, e⟩ <;> omega
  | 2, h => rcases h with ⟨rfl, _⟩ | rfl | ⟨_, _, e⟩ <;> simp <;> omega
  | k + 3, h => rcases h with ⟨rfl, _⟩ | rfl <;> simp
theorem sk_sown (x : List Sk) (m i : Nat) (h : i < (x.take m).length) : (sk (sownK x m) i).2 = (sk (x.take m) i).2 := by
  rw [sk_eq _ i (by rw [sownK_len]; rw [List.length_take] at h; exact h), sk_eq _ i h]
  simp [sownK]
theorem sown_next (x : List Sk) (m : Nat) : nextL (sownK x m) = nextL (x.take m) ∧ nextB (sownK x m) = nextB (x.take m) := by
  have hl : (sownK x m).length = (x.take m).length := by rw [sownK_len, List.length_take]
  have hc : cur (sownK x m) = cur (x.take m) := by
    unfold cur
    rw [hl]
    exact fi_congr fun i hi => by unfold curQ; rw [sk_sown x m i hi]
  have hw : wh (sownK x m).length (nextQ (sownK x m)) = wh (x.take m).length (nextQ (x.take m)) := by
    rw [hl]
    exact wh_congr fun i hi => by unfold nextQ; rw [sk_sown x m i hi]
  constructor
  · unfold nextL
    rw [hc, hw]
    cases h : cur (x.take m) with
    | none => rfl
    | some a => show (if _ then _ else _) = (if _ then _ else _); rw [sk_sown x m a (cur_some h).1]
  · unfold nextB
    rw [hc, hl, fi_congr (q := fun i => ghI (sk (sownK x m) i).2) (r := fun i => ghI (sk (x.take m) i).2) (fun i hi => by show ghI _ = ghI _; rw [sk_sown x m i hi])]
    cases h : cur (x.take m) with
    | none => rfl
    | some a => show (decide _ && _) = (decide _ && _); rw [sk_sown x m a (cur_some h).1]
theorem next_lt {x : List Sk} {i : Nat} (h : i ∈ nextL x) : i < x.length := by
  unfold nextL at h
  split at h
  · exact (mem_wh.mp h).1
  · split at h
    · cases h
    · exact (mem_wh.mp h).1
theorem next_len (x : List Sk) : (nextL x).length ≤ x.length := by
  unfold nextL
  split
  · exact wh_le _ _
  · split
    · simp
    · exact wh_le _ _
theorem goes_zero (x : List Sk) (l : List Nat) : goes x (l.take 0) = x := by rw [List.take_zero]; exact goes_nil x
theorem goes_more (x : List Sk) (l : List Nat) (q : Nat) (hq : q < l.length) (hx : l[q] < x.length) : goes x (l.take (q + 1)) = (goes x (l.take q)).set l[q] ((sk (goes x (l.take q)) l[q]).1, 6) := by
  apply List.ext_getElem
  · simp [goes]
  · intro i h1 h2
    have hi : i < x.length := by simpa [goes] using h1
    rw [List.getElem_set]
    have hk : ∀ l' : List Nat, (goes x l')[i]'(by simpa [goes] using hi) = if i ∈ l' then ((x[i]).1, 6) else x[i] := fun l' => by simp [goes]
    by_cases e : l[q] = i
    · rw [if_pos e, hk]
      subst e
      rw [if_pos (by rw [List.take_succ_eq_append_getElem hq]; exact List.mem_append_right _ (List.mem_singleton.mpr rfl)), sk_eq _ _ (by simpa [goes] using hx)]
      have := hk (l.take q)
      rw [this]
      split <;> rfl
    · rw [if_neg e, hk, hk]
      have : i ∈ l.take (q + 1) ↔ i ∈ l.take q := by rw [List.take_succ_eq_append_getElem hq, List.mem_append, List.mem_singleton]; exact ⟨fun h => h.elim id (fun h => absurd h.symm e), .inl⟩
      simp only [this]
theorem filt_next (x : List Sk) (k : Nat) (h : k < x.length) : filtL (x.take (k + 1)) = filtL (x.take k) ++ (outL (sk x k)).toList := by
  rw [List.take_succ_eq_append_getElem h, filt_app, sk_eq x k h]
  unfold filtL
  cases hh : outL x[k] <;> simp [hh]
theorem filt_le (x : List Sk) : (filtL x).length ≤ x.length := by unfold filtL; exact List.length_filterMap_le _ _
def stepN : Nat → List Sk → List Sk
  | 0, x => x
  | j + 1, x => stepL (stepN j x)
theorem stepN_len (x : List Sk) : ∀ j, (stepN j x).length = x.length
  | 0 => rfl
  | j + 1 => by rw [show stepN (j + 1) x = stepL (stepN j x) from rfl, stepL_len, stepN_len x j]
theorem scs_set (x : List Sk) (i : Nat) (z : Int) (h : i < x.length) : (scs x).set (i * 2 + 1) (.int .i64 z) = scs (x.set i ((sk x i).1, z)) := by
  induction x generalizing i with
  | nil => simp at h
  | cons k x ih =>
    cases i with
    | zero => simp [scs, sc, sk]
    | succ i =>
      have := ih i (by simpa using h)
      show (scs (k :: x)).set _ _ = scs (k :: x.set i _)
      rw [show scs (k :: x) = .string k.1 :: .int .i64 k.2 :: scs x from rfl, show scs (k :: x.set i ((sk (k :: x) (i + 1)).1, z)) = .string k.1 :: .int .i64 k.2 :: scs (x.set i ((sk (k :: x) (i + 1)).1, z)) from rfl, show (i + 1) * 2 + 1 = i * 2 + 1 + 1 + 1 by omega, List.set_cons_succ, List.set_cons_succ, this]
      rfl
end Sl
end Go.Proofs.Ytfapghekakdpgaa
