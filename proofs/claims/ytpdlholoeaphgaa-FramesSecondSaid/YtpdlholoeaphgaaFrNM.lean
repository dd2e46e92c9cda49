/- The count of frames: plain facts on what was asked, and what is gone. -/
import Derived.Test.YtpdlholoeaphgaaFrM
namespace Go.Proofs.Ytpdlholoeaphgaa
namespace Fr
def ai (l : List Int) (k : Nat) : Int := l.getD k 0
def bi (l : List Bool) (k : Nat) : Bool := l.getD k false
theorem ai_at {l : List Int} {k : Nat} (h : k < l.length) : l[k]? = some (ai l k) := by simp [ai, h]
theorem bi_at {l : List Bool} {k : Nat} (h : k < l.length) : l[k]? = some (bi l k) := by simp [bi, h]
theorem ai_snoc {l : List Int} {x : Int} {k : Nat} (h : k < l.length) : ai (l ++ [x]) k = ai l k := by simp [ai, List.getElem?_append_left h]
theorem ai_last (l : List Int) (x : Int) : ai (l ++ [x]) l.length = x := by simp [ai]
theorem bi_set {l : List Bool} {k j : Nat} (h : k < l.length) : bi (l.set k true) j = if j = k then true else bi l j := by
  unfold bi
  simp only [List.getD_eq_getElem?_getD, List.getElem?_set]
  by_cases e : j = k
  · subst e; simp [h]
  · rw [if_neg (fun e2 => e e2.symm), if_neg e]
/-- what was asked when, what is gone, and what waits. -/
structure Sec (now came : Int) (ask : List Int) (gone : List Bool) (a1 a2 : List Wt) : Prop where
  gl : gone.length = 101
  al : 1 ≤ ask.length
  tk : ∀ x ∈ a1 ++ a2, 1 ≤ x.tok ∧ x.tok < ask.length
  asc : Asc (a1 ++ a2)
  fresh : ∀ n, ask.length ≤ n → bi gone n = false
  in1 : ∀ n : Nat, 1 ≤ n → n < ask.length → ((∃ x ∈ a1, x.tok = n) ↔ bi gone n = false ∧ ai ask n = now - 1)
  in2 : ∀ n : Nat, 1 ≤ n → n < ask.length → ((∃ x ∈ a2, x.tok = n) ↔ bi gone n = false ∧ ai ask n = now)
  old : ∀ n : Nat, 1 ≤ n → n < ask.length → ai ask n ≤ now ∧ (bi gone n = true ∨ now - 2 < ai ask n)
  cnt : ((a1.length + a2.length : Nat) : Int) + came = (ask.length : Int) - 1
theorem Sec.start : Sec 0 0 [0] (List.replicate 101 false) [] [] :=
  ⟨by simp, by simp, by simp, fun i j _ h => by simp at h, fun n _ => by unfold bi; simp only [List.getD_eq_getElem?_getD, List.getElem?_replicate]; split <;> rfl, fun n h1 h2 => by simp at h2; omega, fun n h1 h2 => by simp at h2; omega, fun n h1 h2 => by simp at h2; omega, by simp⟩
theorem Sec.ask {now came : Int} {ask : List Int} {gone : List Bool} {a1 a2 : List Wt} (h : Sec now came ask gone a1 a2) (k n : Int) : Sec now came (ask ++ [now]) gone a1 (a2 ++ [⟨(ask.length : Int), k, n⟩]) := by
  have hl : (ask ++ [now]).length = ask.length + 1 := by simp
  have ho := h.al
  refine ⟨h.gl, by omega, ?_, ?_, fun m hm => h.fresh m (by omega), ?_, ?_, ?_, ?_⟩
  · intro x hx
    rw [← List.append_assoc] at hx
    rcases List.mem_append.1 hx with h1 | h1
    · have := h.tk x h1; omega
    · rw [List.mem_singleton.1 h1]; show 1 ≤ (ask.length : Int) ∧ (ask.length : Int) < _; omega
  · rw [← List.append_assoc]
    exact asc_snoc h.asc (fun x hx => by have := h.tk x hx; show x.tok < (ask.length : Int); omega)
  · intro m h1 h2
    rw [hl] at h2
    by_cases e : m = ask.length
    · subst e
      rw [ai_last]
      constructor
      · rintro ⟨x, hx, hxe⟩
        have := h.tk x (List.mem_append_left _ hx); omega
      · intro h9; omega
    · rw [ai_snoc (by omega)]; exact h.in1 m h1 (by omega)
  · intro m h1 h2
    rw [hl] at h2
    by_cases e : m = ask.length
    · subst e
      rw [ai_last]
      exact ⟨fun _ => ⟨h.fresh _ (Nat.le_refl _), rfl⟩, fun _ => ⟨_, List.mem_append_right _ (List.mem_singleton_self _), rfl⟩⟩
    · rw [ai_snoc (by omega), ← h.in2 m h1 (by omega)]
      constructor
      · rintro ⟨x, hx, hxe⟩
        rcases List.mem_append.1 hx with h3 | h3
        · exact ⟨x, h3, hxe⟩
        · rw [List.mem_singleton.1 h3] at hxe; simp only at hxe; omega
      · rintro ⟨x, hx, hxe⟩; exact ⟨x, List.mem_append_left _ hx, hxe⟩
  · intro m h1 h2
    rw [hl] at h2
    by_cases e : m = ask.length
    · subst e; rw [ai_last]; omega
    · rw [ai_snoc (by omega)]; exact h.old m h1 (by omega)
  · have := h.cnt
    rw [hl, List.length_append, List.length_singleton]; omega
/-- a token waits just where the statement's test says so. -/
theorem Sec.there {now came : Int} {ask : List Int} {gone : List Bool} {a1 a2 : List Wt} (h : Sec now came ask gone a1 a2) {n : Nat} (h1 : 1 ≤ n) (h2 : n < ask.length) : (∃ x ∈ a1 ++ a2, x.tok = n) ↔ bi gone n = false ∧ now - 2 < ai ask n := by
  have e1 := h.in1 n h1 h2
  have e2 := h.in2 n h1 h2
  have e3 := (h.old n h1 h2).1
  constructor
  · rintro ⟨x, hx, e⟩
    rcases List.mem_append.1 hx with h4 | h4
    · have := e1.1 ⟨x, h4, e⟩; exact ⟨this.1, by omega⟩
    · have := e2.1 ⟨x, h4, e⟩; exact ⟨this.1, by omega⟩
  · rintro ⟨h4, h5⟩
    rcases (by omega : ai ask n = now - 1 ∨ ai ask n = now) with h6 | h6
    · obtain ⟨x, hx, e⟩ := e1.2 ⟨h4, h6⟩; exact ⟨x, List.mem_append_left _ hx, e⟩
    · obtain ⟨x, hx, e⟩ := e2.2 ⟨h4, h6⟩; exact ⟨x, List.mem_append_right _ hx, e⟩
theorem Sec.none {now came : Int} {ask : List Int} {gone : List Bool} {a1 a2 : List Wt} (h : Sec now came ask gone a1 a2) {z : Int} (hz : z < 1 ∨ (ask.length : Int) ≤ z) : ¬ ∃ x ∈ a1 ++ a2, x.tok = z := by
  rintro ⟨x, hx, e⟩
  have := h.tk x hx
  omega
theorem keep_len1 {L : List Wt} {z : Int} (ha : Asc L) (h : ∃ x ∈ L, x.tok = z) : (keep z L).length + 1 = L.length := by
  obtain ⟨x, hx, e⟩ := h
  obtain ⟨k, hk, rfl⟩ := mem_el hx
  rw [keep_at ha hk e, List.length_append, List.length_take, List.length_drop]
  omega
theorem Sec.cancel {now came : Int} {ask : List Int} {gone : List Bool} {a1 a2 : List Wt} (h : Sec now came ask gone a1 a2) {n : Nat} (h1 : 1 ≤ n) (h2 : n < ask.length) (hb : ask.length ≤ 101) (hx : ∃ x ∈ a1 ++ a2, x.tok = n) : Sec now (came + 1) ask (gone.set n true) (keep n a1) (keep n a2) := by
  have hgl := h.gl
  have hset : ∀ j, bi (gone.set n true) j = if j = n then true else bi gone j := fun j => bi_set (by omega)
  have hk : keep n a1 ++ keep n a2 = keep n (a1 ++ a2) := (keep_app _ _ _).symm
  have side : ∀ (a : List Wt) (m : Nat), (∃ x ∈ keep n a, x.tok = (m : Int)) ↔ m ≠ n ∧ ∃ x ∈ a, x.tok = m := by
    intro a m
    constructor
    · rintro ⟨x, hx, e⟩
      obtain ⟨h3, h4⟩ := List.mem_filter.1 hx
      exact ⟨fun e2 => by subst e2; simp [e] at h4, x, h3, e⟩
    · rintro ⟨h3, x, hx, e⟩
      exact ⟨x, List.mem_filter.2 ⟨hx, by simp [e]; omega⟩, e⟩
  refine ⟨by simpa using hgl, h.al, fun x hx => h.tk x (by rw [hk] at hx; exact keep_mem hx), by rw [hk]; exact asc_keep2 h.asc _, fun m hm => by rw [hset, if_neg (by omega)]; exact h.fresh m hm, ?_, ?_, ?_, ?_⟩
  · intro m h3 h4
    rw [side, hset]
    by_cases e : m = n
    · simp [e]
    · rw [if_neg e, ← h.in1 m h3 h4]; simp [e]
  · intro m h3 h4
    rw [side, hset]
    by_cases e : m = n
    · simp [e]
    · rw [if_neg e, ← h.in2 m h3 h4]; simp [e]
  · intro m h3 h4
    rw [hset]
    by_cases e : m = n
    · rw [if_pos e]; exact ⟨(h.old m h3 h4).1, .inl rfl⟩
    · rw [if_neg e]; exact h.old m h3 h4
  · have h3 := keep_len1 h.asc hx
    have h4 := h.cnt
    rw [← hk, List.length_append, List.length_append] at h3
    omega
/-- what is gone behind some jobs. -/
def goneOf (gone : List Bool) (L : List Wt) : List Bool := L.foldl (fun g x => g.set x.tok.toNat true) gone
theorem goneOf_len (gone : List Bool) (L : List Wt) : (goneOf gone L).length = gone.length := by
  induction L generalizing gone with
  | nil => rfl
  | cons x L ih => show (goneOf (gone.set x.tok.toNat true) L).length = _; rw [ih]; simp
theorem goneOf_snoc (gone : List Bool) (L : List Wt) (x : Wt) : goneOf gone (L ++ [x]) = (goneOf gone L).set x.tok.toNat true := by simp [goneOf]
theorem goneOf_bi (gone : List Bool) (L : List Wt) (hL : ∀ x ∈ L, 0 ≤ x.tok ∧ x.tok.toNat < gone.length) (m : Nat) : bi (goneOf gone L) m = true ↔ bi gone m = true ∨ ∃ x ∈ L, x.tok = m := by
  induction L generalizing gone with
  | nil => simp [goneOf]
  | cons x L ih =>
    show bi (goneOf (gone.set x.tok.toNat true) L) m = true ↔ _
    have hx := hL x List.mem_cons_self
    rw [ih (gone.set x.tok.toNat true) (fun y hy => by have := hL y (List.mem_cons_of_mem _ hy); simpa using this), bi_set hx.2]
    constructor
    · rintro (h | ⟨y, hy, e⟩)
      · by_cases e : m = x.tok.toNat
        · exact .inr ⟨x, List.mem_cons_self, by omega⟩
        · rw [if_neg e] at h; exact .inl h
      · exact .inr ⟨y, List.mem_cons_of_mem _ hy, e⟩
    · rintro (h | ⟨y, hy, e⟩)
      · exact .inl (by split <;> simp_all)
      · rcases List.mem_cons.1 hy with rfl | hy
        · exact .inl (by rw [if_pos (by omega)])
        · exact .inr ⟨y, hy, e⟩
theorem Sec.due {now came : Int} {ask : List Int} {gone : List Bool} {a1 a2 : List Wt} (h : Sec now came ask gone a1 a2) (hb : ask.length ≤ 101) {j : Nat} (hj : j < a1.length) :
    1 ≤ (el a1 j).tok ∧ (el a1 j).tok < ask.length ∧ bi (goneOf gone (a1.take j)) (el a1 j).tok.toNat = false ∧ ai ask (el a1 j).tok.toNat = now + 1 - 2 := by
  have hm := el_mem hj
  obtain ⟨h1, h2⟩ := h.tk _ (List.mem_append_left _ hm)
  have hn : (((el a1 j).tok.toNat : Nat) : Int) = (el a1 j).tok := by omega
  obtain ⟨h3, h4⟩ := (h.in1 (el a1 j).tok.toNat (by omega) (by omega)).1 ⟨_, hm, hn.symm⟩
  refine ⟨h1, h2, ?_, by omega⟩
  cases hx : bi (goneOf gone (a1.take j)) (el a1 j).tok.toNat with
  | false => rfl
  | true =>
    exfalso
    have hgl := h.gl
    rcases (goneOf_bi gone (a1.take j) (fun x hx => by have := h.tk x (List.mem_append_left _ (List.mem_of_mem_take hx)); omega) _).1 hx with h5 | ⟨y, hy, e⟩
    · rw [h3] at h5; cases h5
    · obtain ⟨q, hq, rfl⟩ := mem_el hy
      rw [List.length_take] at hq
      rw [el_take (by omega)] at e
      have := (asc_app h.asc).1 q j (by omega) hj
      omega
theorem Sec.frame {now came : Int} {ask : List Int} {gone : List Bool} {a1 a2 : List Wt} (h : Sec now came ask gone a1 a2) (hb : ask.length ≤ 101) : Sec (now + 1) (came + (a1.length : Nat)) ask (goneOf gone a1) a2 [] := by
  have hgl := h.gl
  have hrng : ∀ x ∈ a1, 0 ≤ x.tok ∧ x.tok.toNat < gone.length := fun x hx => by have := h.tk x (List.mem_append_left _ hx); omega
  have hbi := goneOf_bi gone a1 hrng
  have hf : ∀ m, bi (goneOf gone a1) m = false ↔ bi gone m = false ∧ ¬ ∃ x ∈ a1, x.tok = m := by
    intro m
    have := hbi m
    rw [← Bool.not_eq_true, this, ← Bool.not_eq_true]
    constructor
    · intro h9; exact ⟨fun e => h9 (.inl e), fun e => h9 (.inr e)⟩
    · rintro ⟨h8, h9⟩ (e | e)
      · exact h8 e
      · exact h9 e
  obtain ⟨_, hs2, hs12⟩ := asc_app h.asc
  refine ⟨by rw [goneOf_len]; exact hgl, h.al, fun x hx => h.tk x (List.mem_append_right _ (by simpa using hx)), by rw [List.append_nil]; exact hs2, ?_, ?_, ?_, ?_, ?_⟩
  · intro m hm
    rw [hf]
    refine ⟨h.fresh m hm, ?_⟩
    rintro ⟨x, hx, e⟩
    have := h.tk x (List.mem_append_left _ hx); omega
  · intro m h1 h2
    rw [h.in2 m h1 h2, hf, h.in1 m h1 h2]
    constructor
    · rintro ⟨h3, h4⟩; exact ⟨⟨h3, fun e => by omega⟩, by omega⟩
    · rintro ⟨⟨h3, _⟩, h4⟩; exact ⟨h3, by omega⟩
  · intro m h1 h2
    have := (h.old m h1 h2).1
    constructor
    · rintro ⟨x, hx, _⟩; cases hx
    · rintro ⟨_, h4⟩; omega
  · intro m h1 h2
    obtain ⟨h3, h4⟩ := h.old m h1 h2
    refine ⟨by omega, ?_⟩
    by_cases e : now + 1 - 2 < ai ask m
    · exact .inr e
    · left
      rw [hbi]
      rcases h4 with h4 | h4
      · exact .inl h4
      · cases hg : bi gone m with
        | true => exact .inl rfl
        | false => exact .inr ((h.in1 m h1 h2).2 ⟨hg, by omega⟩)
  · have := h.cnt
    simp only [List.length_nil, Nat.add_zero]; omega
end Fr
end Go.Proofs.Ytpdlholoeaphgaa
