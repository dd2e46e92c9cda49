/- Facts on what is there behind a plan. -/
import Derived.Test.YtfapghekakdpgaaSlF
import Derived.Test.YtfapghekakdpgaaSlRt
namespace Go.Proofs.Ytfapghekakdpgaa
open Go.RowKit Gr Sl
set_option linter.unusedVariables false
set_option linter.unusedSimpArgs false
namespace Sl
theorem gh_live {z : Int} (h1 : 0 ≤ z) (h2 : z ≤ 6) : ghI z = !decide (z < 4) := by
  unfold ghI
  by_cases h : z < 4
  · rw [decide_eq_true h, decide_eq_false (show ¬ z = 4 by omega), decide_eq_false (show ¬ z = 5 by omega), decide_eq_false (show ¬ z = 6 by omega)]; rfl
  · rw [decide_eq_false h]
    have : z = 4 ∨ z = 5 ∨ z = 6 := by omega
    rcases this with rfl | rfl | rfl <;> rfl
theorem wh_one {n : Nat} {q : Nat → Bool} (h : ∀ i j, i < n → j < n → q i = true → q j = true → i = j) : (wh n q).length ≤ 1 := by
  by_cases h2 : (wh n q).length ≤ 1
  · exact h2
  · exfalso
    have hp : (wh n q).Pairwise (· < ·) := List.Pairwise.filter _ List.pairwise_lt_range
    have a0 : 0 < (wh n q).length := by omega
    have a1 : 1 < (wh n q).length := by omega
    have hlt := (List.pairwise_iff_getElem.mp hp) 0 1 a0 a1 (by omega)
    have m0 := mem_wh.mp (List.getElem_mem a0)
    have m1 := mem_wh.mp (List.getElem_mem a1)
    have := h _ _ m0.1 m1.1 m0.2 m1.2
    omega
theorem wh_uniq {n : Nat} {q : Nat → Bool} (h : (wh n q).length ≤ 1) {i j : Nat} (hi : i < n) (hj : j < n) (qi : q i = true) (qj : q j = true) : i = j := by
  have m0 : i ∈ wh n q := mem_wh.mpr ⟨hi, qi⟩
  have m1 : j ∈ wh n q := mem_wh.mpr ⟨hj, qj⟩
  match hw : wh n q, h, m0, m1 with
  | [x], _, m0, m1 => rw [List.mem_singleton.mp m0, List.mem_singleton.mp m1]
def Dist (L : List Sk) : Prop := L.Pairwise (fun a b => a.1 ≠ b.1)
theorem right_kind {L : List Sk} (h : Right L) {i : Nat} (hi : i < L.length) : 0 ≤ (sk L i).2 ∧ (sk L i).2 ≤ 6 := (h.1 i hi).1
theorem right_key {L : List Sk} (h : Right L) {i j : Nat} (hi : i < L.length) (hj : j < L.length) (he : (sk L i).1 = (sk L j).1) : i = j := by
  rcases Nat.lt_trichotomy i j with e | e | e
  · exact absurd he ((h.1 j hj).2 i e)
  · exact e
  · exact absurd he.symm ((h.1 i hi).2 j e)
theorem right_live {L : List Sk} (h : Right L) {i j : Nat} (hi : i < L.length) (hj : j < L.length) (gi : ghI (sk L i).2 = false) (gj : ghI (sk L j).2 = false) : i = j := by
  have k1 := right_kind h hi
  have k2 := right_kind h hj
  rw [gh_live k1.1 k1.2] at gi
  rw [gh_live k2.1 k2.2] at gj
  exact wh_uniq h.2 hi hj (by simpa [liveQ] using gi) (by simpa [liveQ] using gj)
theorem right_of {L : List Sk} {key : ByteArray} (h1 : ∀ k ∈ L, 0 ≤ k.2 ∧ k.2 ≤ 6) (h2 : Dist L) (h3 : ∀ k ∈ L, ghI k.2 = false → k.1 = key) : Right L := by
  have hmem : ∀ i, i < L.length → sk L i ∈ L := fun i hi => by rw [sk_eq L i hi]; exact List.getElem_mem hi
  have hd : ∀ i j, j < i → i < L.length → (sk L j).1 ≠ (sk L i).1 := fun i j hj hi => by
    rw [sk_eq L i hi, sk_eq L j (by omega)]
    exact (List.pairwise_iff_getElem.mp h2) j i (by omega) hi hj
  refine ⟨fun i hi => ⟨h1 _ (hmem i hi), fun j hj => hd i j hj hi⟩, wh_one fun i j hi hj qi qj => ?_⟩
  have g : ∀ t, t < L.length → liveQ L t = true → (sk L t).1 = key := fun t ht q => by
    have k := h1 _ (hmem t ht)
    refine h3 _ (hmem t ht) ?_
    rw [gh_live k.1 k.2]
    simpa [liveQ] using q
  rcases Nat.lt_trichotomy i j with e | e | e
  · exact absurd ((g i hi qi).trans (g j hj qj).symm) (hd j i e hj)
  · exact e
  · exact absurd ((g j hj qj).trans (g i hi qi).symm) (hd i j e hi)
theorem mem_aftK {L : List Sk} {E : List Int} {st : Int} {R : List Nat} {i : Nat} {k : Sk} : k ∈ aftK L E st R i ↔ ∃ z, kindA st (ats E i) (sk L i).2 = some z ∧ k = ((sk L i).1, if i ∈ R then 6 else z) := by
  unfold aftK
  cases kindA st (ats E i) (sk L i).2 with
  | none => simp
  | some z => simp
theorem mem_aftL {L : List Sk} {key : ByteArray} {E : List Int} {tk st : Int} {R : List Nat} {k : Sk} : k ∈ aftL L key E tk st R ↔ (∃ i z, i < L.length ∧ kindA st (ats E i) (sk L i).2 = some z ∧ k = ((sk L i).1, if i ∈ R then 6 else z)) ∨ (tk = -1 ∧ k = (key, startK st)) := by
  unfold aftL aftTo
  rw [List.mem_append, List.mem_flatMap]
  constructor
  · rintro (⟨i, hi, hk⟩ | h)
    · obtain ⟨z, a, b⟩ := mem_aftK.mp hk
      exact .inl ⟨i, z, List.mem_range.mp hi, a, b⟩
    · by_cases e : tk = -1
      · rw [if_pos e] at h; exact .inr ⟨e, by simpa using h⟩
      · rw [if_neg e] at h; simp at h
  · rintro (⟨i, z, hi, a, b⟩ | ⟨e, h⟩)
    · exact .inl ⟨i, List.mem_range.mpr hi, mem_aftK.mpr ⟨z, a, b⟩⟩
    · right; rw [if_pos e]; simp [h]
theorem aft_dist {L : List Sk} {key : ByteArray} {E : List Int} {tk st : Int} {R : List Nat} (h : Right L) (hk : tk = -1 → ∀ i, i < L.length → (sk L i).1 = key → kindA st (ats E i) (sk L i).2 = none) : Dist (aftL L key E tk st R) := by
  unfold aftL Dist
  rw [List.pairwise_append]
  refine ⟨?_, ?_, ?_⟩
  · unfold aftTo
    rw [List.pairwise_flatMap]
    refine ⟨fun i _ => ?_, ?_⟩
    · unfold aftK
      cases kindA st (ats E i) (sk L i).2 with
      | none => exact List.Pairwise.nil
      | some z => exact List.pairwise_singleton _ _
    · refine (List.pairwise_lt_range (n := L.length)).imp_of_mem ?_
      intro i j hi hj hij x hx y hy
      obtain ⟨_, _, rfl⟩ := mem_aftK.mp hx
      obtain ⟨_, _, rfl⟩ := mem_aftK.mp hy
      exact fun e => absurd (right_key h (List.mem_range.mp hi) (List.mem_range.mp hj) e) (by omega)
  · split
    · exact List.pairwise_singleton _ _
    · exact List.Pairwise.nil
  · intro x hx y hy
    by_cases e : tk = -1
    · rw [if_pos e, List.mem_singleton] at hy
      subst hy
      unfold aftTo at hx
      rw [List.mem_flatMap] at hx
      obtain ⟨i, hi, hx⟩ := hx
      obtain ⟨z, hz, rfl⟩ := mem_aftK.mp hx
      intro e2
      rw [hk e i (List.mem_range.mp hi) e2] at hz
      cases hz
    · rw [if_neg e] at hy
      cases hy
theorem ats_set {l : List Int} {a i : Nat} {x : Int} (h : i ≠ a) : ats (l.set a x) i = ats l i := by unfold ats; simp [List.getElem?_set, Ne.symm h]
theorem ats_set_eq {l : List Int} {a : Nat} {x : Int} (h : a < l.length) : ats (l.set a x) a = x := by unfold ats; simp [h]
theorem ats_zs (n i : Nat) : ats (zs n) i = 0 := by unfold ats zs; simp [List.getElem?_replicate]; split <;> rfl
theorem cur_none {L : List Sk} (h : cur L = none) {i : Nat} (hi : i < L.length) : ghI (sk L i).2 = true := by
  have := fi_none h i hi
  simpa [curQ] using this
theorem back_none {L : List Sk} {key : ByteArray} (h : back L key = none) {i : Nat} (hi : i < L.length) (hg : ghI (sk L i).2 = true) : (sk L i).1 ≠ key := by
  have := fi_none h i hi
  unfold backQ at this
  rw [hg] at this
  simpa using this
/-- what the plan says of each but the one who comes back. -/
theorem each1_at {L : List Sk} (h : Right L) (key : ByteArray) (mode : Int) {i : Nat} (hi : i < L.length) :
    (ghI (sk L i).2 = true ∧ ats (each1 L key mode) i = 0) ∨ (cur L = some i ∧ ghI (sk L i).2 = false ∧ ats (each1 L key mode) i = yieldI (sk L i).2 key mode) := by
  unfold each1
  cases hc : cur L with
  | none => exact .inl ⟨cur_none hc hi, ats_zs _ _⟩
  | some a =>
    obtain ⟨ha, hg⟩ := cur_some hc
    by_cases e : i = a
    · subst e
      exact .inr ⟨rfl, hg, ats_set_eq (by simp [zs]; omega)⟩
    · refine .inl ⟨?_, by show ats ((zs L.length).set a _) i = 0; rw [ats_set e, ats_zs]⟩
      cases hgi : ghI (sk L i).2 with
      | true => rfl
      | false => exact absurd (right_live h hi ha hgi hg) e
theorem yield_in (k : Int) (key : ByteArray) (mode : Int) : yieldI k key mode = 1 ∨ yieldI k key mode = 2 ∨ yieldI k key mode = 3 := by
  unfold yieldI
  split
  · simp
  · split <;> simp
theorem each1_gone {L : List Sk} (h : Right L) (key : ByteArray) (mode st : Int) {i : Nat} {z : Int} (hi : i < L.length) (hz : kindA st (ats (each1 L key mode) i) (sk L i).2 = some z) : ghI z = true ∧ 0 ≤ z ∧ z ≤ 6 := by
  have hk := right_kind h hi
  rcases each1_at h key mode hi with ⟨hg, he⟩ | ⟨_, _, he⟩
  · rw [he] at hz
    unfold kindA at hz
    simp at hz
    subst hz
    exact ⟨hg, hk⟩
  · rw [he] at hz
    rcases yield_in (sk L i).2 key mode with e | e | e <;> rw [e] at hz <;> unfold kindA at hz <;> simp at hz
    · subst hz; exact ⟨rfl, by omega, by omega⟩
    · subst hz; exact ⟨rfl, by omega, by omega⟩
theorem each2_at {L : List Sk} (key : ByteArray) (mode : Int) {i : Nat} (hi : i < L.length) :
    (back L key = some i ∧ ats (each2 L key mode) i = 4) ∨ (back L key ≠ some i ∧ ats (each2 L key mode) i = ats (each1 L key mode) i) := by
  unfold each2
  cases hb : back L key with
  | none => exact .inr ⟨by simp, rfl⟩
  | some b =>
    by_cases e : i = b
    · subst e
      exact .inl ⟨rfl, ats_set_eq (by rw [each1_len]; exact hi)⟩
    · exact .inr ⟨by simpa using Ne.symm e, ats_set e⟩
theorem startK_in (st : Int) : ghI (startK st) = false ∧ 0 ≤ startK st ∧ startK st ≤ 6 := by
  unfold startK
  split
  · exact ⟨rfl, by omega, by omega⟩
  · split
    · exact ⟨rfl, by omega, by omega⟩
    · exact ⟨rfl, by omega, by omega⟩
theorem startB_in (L : List Sk) (key : ByteArray) (mode : Int) : startB L key mode = 0 ∨ startB L key mode = 1 ∨ startB L key mode = 2 := by
  unfold startB
  split
  · simp
  · split <;> simp
theorem plan0_start (L : List Sk) (key : ByteArray) (mode : Int) : (plan0 L key mode).start = 0 ∨ (plan0 L key mode).start = 1 ∨ (plan0 L key mode).start = 2 := by
  unfold plan0
  split
  · exact .inl rfl
  · unfold repl
    split
    · exact .inl rfl
    · exact startB_in L key mode
theorem stay_some {L : List Sk} {key : ByteArray} {a : Nat} (h : stay L key = some a) : cur L = some a ∧ key ≠ ByteArray.empty ∧ (sk L a).1 = key := by
  unfold stay at h
  cases hc : cur L with
  | none => rw [hc] at h; cases h
  | some b =>
    rw [hc] at h
    dsimp only at h
    split at h
    · rename_i h2
      injection h with h
      subst h
      exact ⟨rfl, h2.1, h2.2⟩
    · cases h
theorem stay_none {L : List Sk} {key : ByteArray} (h : stay L key = none) {a : Nat} (hc : cur L = some a) (hk : key ≠ ByteArray.empty) : (sk L a).1 ≠ key := by
  unfold stay at h
  rw [hc] at h
  dsimp only at h
  split at h
  · cases h
  · rename_i h2
    exact fun e => h2 ⟨hk, e⟩
theorem rel_mem {L : List Sk} {p : Pl} {i : Nat} (h : i ∈ rel L p) : p.start ≠ 1 ∧ i < L.length ∧ (ats p.each i = 2 ∨ (ats p.each i = 0 ∧ (sk L i).2 = 4)) := by
  unfold rel at h
  split at h
  · cases h
  · rename_i he
    obtain ⟨h1, h2⟩ := mem_wh.mp h
    refine ⟨fun e => he (by unfold entQ; rw [decide_eq_true e]; rfl), h1, ?_⟩
    unfold relQ at h2
    simpa using h2
/-- what is there behind the plan. -/
def aft0 (L : List Sk) (key : ByteArray) (mode : Int) : List Sk := aftL L key (plan0 L key mode).each (plan0 L key mode).take (plan0 L key mode).start (rel L (plan0 L key mode))
theorem start_key {L : List Sk} {key : ByteArray} {mode : Int} (h : (plan0 L key mode).start ≠ 0) : key ≠ ByteArray.empty := by
  intro e
  apply h
  unfold plan0
  split
  · rfl
  · unfold repl; rw [if_pos e]
theorem aft0_live {L : List Sk} (h : Right L) (key : ByteArray) (mode : Int) : (∀ k ∈ aft0 L key mode, ghI k.2 = false → k.1 = key ∧ key ≠ ByteArray.empty) ∧ (key ≠ ByteArray.empty → ∃ k ∈ aft0 L key mode, ghI k.2 = false) ∧ Right (aft0 L key mode) := by
  cases hs : stay L key with
  | some a =>
    obtain ⟨hc, hk, hka⟩ := stay_some hs
    obtain ⟨ha, hga⟩ := cur_some hc
    have hp : plan0 L key mode = ⟨zs L.length, (a : Int), 0⟩ := by unfold plan0; rw [hs]
    have hel : ∀ k, k ∈ aft0 L key mode ↔ ∃ i, i < L.length ∧ k = ((sk L i).1, if i ∈ rel L (plan0 L key mode) then 6 else (sk L i).2) := by
      intro k
      unfold aft0
      rw [mem_aftL, hp]
      constructor
      · rintro (⟨i, z, hi, hz, rfl⟩ | ⟨e, _⟩)
        · rw [ats_zs] at hz
          unfold kindA at hz
          simp at hz
          exact ⟨i, hi, by rw [hz]⟩
        · simp at e
      · rintro ⟨i, hi, rfl⟩
        exact .inl ⟨i, _, hi, by rw [ats_zs]; rfl, rfl⟩
    have hl : ∀ k ∈ aft0 L key mode, ghI k.2 = false → k.1 = key ∧ key ≠ ByteArray.empty := by
      intro k hm hg
      obtain ⟨i, hi, rfl⟩ := (hel k).mp hm
      by_cases e : i ∈ rel L (plan0 L key mode)
      · simp only [if_pos e] at hg; cases hg
      · simp only [if_neg e] at hg
        have := right_live h hi ha hg hga
        subst this
        exact ⟨hka, hk⟩
    refine ⟨hl, fun _ => ⟨((sk L a).1, (sk L a).2), (hel _).mpr ⟨a, ha, ?_⟩, hga⟩, right_of (key := key) ?_ (aft_dist h ?_) (fun k hm hg => (hl k hm hg).1)⟩
    · rw [if_neg]
      intro hm
      obtain ⟨_, _, e | ⟨_, e⟩⟩ := rel_mem hm
      · rw [hp] at e; rw [ats_zs] at e; omega
      · rw [e] at hga; cases hga
    · intro k hm
      obtain ⟨i, hi, rfl⟩ := (hel k).mp hm
      have := right_kind h hi
      dsimp only
      split <;> omega
    · rw [hp]; intro e; simp at e
  | none =>
    have hp : plan0 L key mode = repl L key mode := by unfold plan0; rw [hs]
    by_cases hk : key = ByteArray.empty
    · have hp2 : plan0 L key mode = ⟨each1 L key mode, -2, 0⟩ := by rw [hp]; unfold repl; rw [if_pos hk]
      have hel : ∀ k ∈ aft0 L key mode, ghI k.2 = true ∧ 0 ≤ k.2 ∧ k.2 ≤ 6 := by
        intro k hm
        unfold aft0 at hm
        rw [mem_aftL, hp2] at hm
        rcases hm with ⟨i, z, hi, hz, rfl⟩ | ⟨e, _⟩
        · have := each1_gone h key mode 0 hi hz
          dsimp only
          split
          · exact ⟨rfl, by omega, by omega⟩
          · exact this
        · simp at e
      have hl : ∀ k ∈ aft0 L key mode, ghI k.2 = false → k.1 = key ∧ key ≠ ByteArray.empty := fun k hm hg => by rw [(hel k hm).1] at hg; cases hg
      exact ⟨hl, fun e => absurd hk e, right_of (key := key) (fun k hm => (hel k hm).2) (aft_dist h (by rw [hp2]; intro e; simp at e)) (fun k hm hg => (hl k hm hg).1)⟩
    · have hp2 : plan0 L key mode = ⟨each2 L key mode, oI (back L key), startB L key mode⟩ := by rw [hp]; unfold repl; rw [if_neg hk]
      have hel : ∀ k ∈ aft0 L key mode, (k.1 = key ∧ ghI k.2 = false ∨ ghI k.2 = true) ∧ 0 ≤ k.2 ∧ k.2 ≤ 6 := by
        intro k hm
        unfold aft0 at hm
        rw [mem_aftL, hp2] at hm
        rcases hm with ⟨i, z, hi, hz, rfl⟩ | ⟨_, rfl⟩
        · by_cases e : i ∈ rel L ⟨each2 L key mode, oI (back L key), startB L key mode⟩
          · simp only [if_pos e]; exact ⟨.inr rfl, by omega, by omega⟩
          · simp only [if_neg e]
            rcases each2_at key mode hi with ⟨hb, he⟩ | ⟨_, he⟩
            · rw [he] at hz
              unfold kindA at hz
              simp at hz
              subst hz
              have hst := startK_in (startB L key mode)
              exact ⟨.inl ⟨(back_some hb).2.2, hst.1⟩, hst.2⟩
            · rw [he] at hz
              have := each1_gone h key mode _ hi hz
              exact ⟨.inr this.1, this.2⟩
        · have hst := startK_in (startB L key mode)
          exact ⟨.inl ⟨rfl, hst.1⟩, hst.2⟩
      have hl : ∀ k ∈ aft0 L key mode, ghI k.2 = false → k.1 = key ∧ key ≠ ByteArray.empty := fun k hm hg => by
        rcases (hel k hm).1 with e | e
        · exact ⟨e.1, hk⟩
        · rw [e] at hg; cases hg
      refine ⟨hl, fun _ => ?_, right_of (key := key) (fun k hm => (hel k hm).2) (aft_dist h ?_) (fun k hm hg => (hl k hm hg).1)⟩
      · cases hb : back L key with
        | none =>
          refine ⟨(key, startK (startB L key mode)), ?_, (startK_in _).1⟩
          unfold aft0
          rw [mem_aftL, hp2, hb]
          exact .inr ⟨rfl, rfl⟩
        | some b =>
          obtain ⟨hbl, hbg, hbk⟩ := back_some hb
          refine ⟨(key, startK (startB L key mode)), ?_, (startK_in _).1⟩
          unfold aft0
          rw [mem_aftL]
          have hE : ats (each2 L key mode) b = 4 := by
            rcases each2_at key mode hbl with ⟨_, he⟩ | ⟨he, _⟩
            · exact he
            · exact absurd hb he
          refine .inl ⟨b, startK (startB L key mode), hbl, by rw [hp2]; show kindA _ (ats (each2 L key mode) b) _ = _; rw [hE]; rfl, ?_⟩
          rw [if_neg, hbk]
          intro hm
          obtain ⟨_, _, e | ⟨e, _⟩⟩ := rel_mem hm
          · rw [hp2] at e; dsimp only at e; rw [hE] at e; omega
          · rw [hp2] at e; dsimp only at e; rw [hE] at e; omega
      · rw [hp2]
        intro e i hi hki
        dsimp only at e ⊢
        have hb : back L key = none := by
          cases hb : back L key with
          | none => rfl
          | some b => rw [hb] at e; simp [oI] at e
        exfalso
        cases hg : ghI (sk L i).2 with
        | true => exact back_none hb hi hg hki
        | false =>
          rcases each1_at h key mode hi with ⟨hg2, _⟩ | ⟨hc, _, _⟩
          · rw [hg] at hg2; cases hg2
          · exact stay_none hs hc hk hki
theorem aft0_len (L : List Sk) (key : ByteArray) (mode : Int) : (aft0 L key mode).length ≤ L.length + 1 := aftL_len _ _ _ _ _ _
theorem sk_mem {L : List Sk} {i : Nat} (h : i < L.length) : sk L i ∈ L := by rw [sk_eq L i h]; exact List.getElem_mem h
theorem mem_sk {L : List Sk} {k : Sk} (h : k ∈ L) : ∃ i, i < L.length ∧ sk L i = k := by
  obtain ⟨i, hi, e⟩ := List.getElem_of_mem h
  exact ⟨i, hi, by rw [sk_eq L i hi, e]⟩
theorem aft0_cur {L : List Sk} (h : Right L) (key : ByteArray) (mode : Int) : (key = ByteArray.empty ∧ cur (aft0 L key mode) = none) ∨ (key ≠ ByteArray.empty ∧ ∃ a, cur (aft0 L key mode) = some a ∧ a < (aft0 L key mode).length ∧ (sk (aft0 L key mode) a).1 = key) := by
  obtain ⟨h1, h2, _⟩ := aft0_live h key mode
  by_cases e : key = ByteArray.empty
  · refine .inl ⟨e, fi_no fun i hi => ?_⟩
    unfold curQ
    cases hg : ghI (sk (aft0 L key mode) i).2 with
    | true => rfl
    | false => exact absurd e (h1 _ (sk_mem hi) hg).2
  · refine .inr ⟨e, ?_⟩
    cases hc : cur (aft0 L key mode) with
    | none =>
      obtain ⟨k, hk, hg⟩ := h2 e
      obtain ⟨i, hi, rfl⟩ := mem_sk hk
      rw [cur_none hc hi] at hg
      cases hg
    | some a =>
      obtain ⟨ha, hg⟩ := cur_some hc
      exact ⟨a, rfl, ha, (h1 _ (sk_mem ha) hg).1⟩
theorem start1 {L : List Sk} {key : ByteArray} {mode : Int} (h : (plan0 L key mode).start = 1) : key ≠ ByteArray.empty ∧ stay L key = none ∧ plan0 L key mode = ⟨each2 L key mode, oI (back L key), 1⟩ ∧ ¬ (mode = 1 ∧ crowd L (each2 L key mode) = true) := by
  have hk := start_key (L := L) (key := key) (mode := mode) (by omega)
  cases hs : stay L key with
  | some a => unfold plan0 at h; rw [hs] at h; dsimp only at h; omega
  | none =>
    have hp : plan0 L key mode = ⟨each2 L key mode, oI (back L key), startB L key mode⟩ := by unfold plan0 repl; rw [hs, if_neg hk]
    rw [hp] at h ⊢
    dsimp only at h
    refine ⟨hk, rfl, by rw [h], fun hc => ?_⟩
    unfold startB at h
    rw [if_pos hc] at h
    split at h <;> omega
theorem out_in {L : List Sk} (h : Right L) {key : ByteArray} {mode : Int} (hm : mode = 1) (hs : (plan0 L key mode).start = 1) : (aft0 L key mode).length ≤ 1 := by
  obtain ⟨hk, hst, hp, hcr⟩ := start1 hs
  have hcr : crowd L (each2 L key mode) = false := by
    cases e : crowd L (each2 L key mode) with
    | false => rfl
    | true => exact absurd ⟨hm, e⟩ hcr
  have hq : ∀ i, i < L.length → crowdQ L (each2 L key mode) i = false := fun i hi => by
    cases e : crowdQ L (each2 L key mode) i with
    | false => rfl
    | true =>
      unfold crowd at hcr
      have := List.length_pos_of_mem (mem_wh.mpr ⟨hi, e⟩)
      rw [decide_eq_true this] at hcr
      cases hcr
  obtain ⟨h1, _, h3⟩ := aft0_live h key mode
  have hall : ∀ k ∈ aft0 L key mode, ghI k.2 = false := by
    intro k hkm
    unfold aft0 at hkm
    rw [mem_aftL, hp] at hkm
    rcases hkm with ⟨i, z, hi, hz, rfl⟩ | ⟨_, rfl⟩
    · have hr : i ∉ rel L ⟨each2 L key mode, oI (back L key), 1⟩ := fun hr => (rel_mem hr).1 rfl
      simp only [if_neg hr]
      have hqi := hq i hi
      unfold crowdQ at hqi
      simp at hqi
      rcases each2_at key mode hi with ⟨hb, he⟩ | ⟨_, he⟩
      · dsimp only at hz
        rw [he] at hz
        unfold kindA at hz
        simp at hz
        subst hz
        exact (startK_in 1).1
      · dsimp only at hz
        rw [he] at hz hqi
        rcases each1_at h key mode hi with ⟨hg, h0⟩ | ⟨_, _, h0⟩
        · rw [h0] at hqi; rw [hqi.2 (by omega)] at hg; cases hg
        · rw [h0] at hz hqi
          have : yieldI (sk L i).2 key mode = 3 := by
            unfold yieldI at hqi ⊢
            split
            · rfl
            · rename_i e
              rw [if_neg e, if_neg (by omega)] at hqi
              exact absurd rfl hqi.1
          rw [this] at hz
          unfold kindA at hz
          simp at hz
    · exact (startK_in 1).1
  by_cases hl : (aft0 L key mode).length ≤ 1
  · exact hl
  · exfalso
    have := right_live h3 (i := 0) (j := 1) (by omega) (by omega) (hall _ (sk_mem (by omega))) (hall _ (sk_mem (by omega)))
    omega
theorem in_out {L : List Sk} (h : Right L) {key : ByteArray} {mode : Int} (hm : mode = 2) (hs : (plan0 L key mode).start = 1) {a : Nat} (hc : cur L = some a) {k : Sk} (hkm : k ∈ aft0 L key mode) (h5 : k.2 = 5) : k.1 ≠ (sk L a).1 := by
  obtain ⟨hk, hst, hp, _⟩ := start1 hs
  obtain ⟨ha, hga⟩ := cur_some hc
  unfold aft0 at hkm
  rw [mem_aftL, hp] at hkm
  rcases hkm with ⟨i, z, hi, hz, rfl⟩ | ⟨_, rfl⟩
  · intro e
    have := right_key h hi ha e
    subst this
    have hr : i ∉ rel L ⟨each2 L key mode, oI (back L key), 1⟩ := fun hr => (rel_mem hr).1 rfl
    simp only [if_neg hr] at h5
    rcases each2_at key mode hi with ⟨hb, _⟩ | ⟨_, he⟩
    · rw [(back_some hb).2.1] at hga; cases hga
    · dsimp only at hz
      rw [he] at hz
      rcases each1_at h key mode hi with ⟨hg, _⟩ | ⟨_, _, h0⟩
      · rw [hg] at hga; cases hga
      · rw [h0] at hz
        unfold yieldI at hz
        split at hz
        · unfold kindA at hz; simp at hz
        · rw [if_pos ⟨hm, hk⟩] at hz
          unfold kindA at hz
          simp at hz
          omega
  · exact absurd (show startK 1 = 5 from h5) (by decide)
end Sl
end Go.Proofs.Ytfapghekakdpgaa
