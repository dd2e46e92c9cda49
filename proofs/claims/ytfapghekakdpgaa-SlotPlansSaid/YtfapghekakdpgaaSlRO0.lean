/- Contract of the document's Of. -/
import Derived.Test.YtfapghekakdpgaaSlR
import Derived.Test.YtfapghekakdpgaaSlW5
import Derived.Test.YtfapghekakdpgaaSlMO
import Derived.Deep.DeepCutAuto
import Derived.Handy
namespace Go.Proofs.Ytfapghekakdpgaa
open Go.RowKit Gr Go.Maps Sl
set_option linter.unusedVariables false
set_option linter.unusedSimpArgs false
attribute [-go_sem] Builtin.append_
theorem row_addr {w : World} {base s n c : Nat} {e : TypeId} {A : Option Addr} {xs : List Value} (h : w.ownsRow base e s (.slice A n c) n xs) (hn : 0 < n) : ∃ eb, A = some ⟨eb, 0, none⟩ := by
  rcases h.2 with ⟨hv, h0⟩ | ⟨g, c', cur, hv, _⟩
  · omega
  · injection hv with hv _ _
    exact ⟨g, hv⟩
/-- the document's plan that is being made. -/
structure RW (w : World) (rb bp gb n : Nat) (AE : Option Addr) (ce : Nat) (E : List Int) (tk st : Int) (rl : Value) : Prop where
  res : Blk w rb 52 #[.slice none 0 0, .int .i64 0, .int .i64 0, .slice none 0 0]
  blk : Blk w bp 52 #[.slice AE n ce, .int .i64 tk, .int .i64 st, rl]
  row : w.ownsRow gb 3 1 (.slice AE n ce) n (iv E)
  len : E.length = n
  l1 : rb < bp
  l2 : bp < gb
namespace RW
variable {w w' : World} {rb bp gb n : Nat} {AE : Option Addr} {ce : Nat} {E : List Int} {tk st : Int} {rl : Value}
theorem from' (h : RW w rb bp gb n AE ce E tk st rl) : ∀ q, (Value.slice AE n ce).ownBlock = some q → gb ≤ q := own_from h.row
theorem below (h : RW w rb bp gb n AE ce E tk st rl) (hb : Below w.heap.size w w') : RW w' rb bp gb n AE ce E tk st rl := ⟨h.res.below hb, h.blk.below hb, own_below h.row hb, h.len, h.l1, h.l2⟩
theorem setC (h : RW w rb bp gb n AE ce E tk st rl) (j : Nat) (u : Value) : w.setCell ⟨bp, j, none⟩ u |>.ownsRow gb 3 1 (.slice AE n ce) n (iv E) := h.row.kept (grown_set w ⟨bp, j, none⟩ _) (.inr (by intro e; have := h.from' bp e; have := h.l2; omega))
theorem setT (h : RW w rb bp gb n AE ce E tk st rl) (x : Int) : RW (w.setCell ⟨bp, 1, none⟩ (.int .i64 x)) rb bp gb n AE ce E x st rl := ⟨h.res.other _ _ _ (by have := h.l1; omega), h.blk.set 1 _, h.setC 1 _, h.len, h.l1, h.l2⟩
theorem setS (h : RW w rb bp gb n AE ce E tk st rl) (x : Int) : RW (w.setCell ⟨bp, 2, none⟩ (.int .i64 x)) rb bp gb n AE ce E tk x rl := ⟨h.res.other _ _ _ (by have := h.l1; omega), h.blk.set 2 _, h.setC 2 _, h.len, h.l1, h.l2⟩
theorem setR (h : RW w rb bp gb n AE ce E tk st rl) (v : Value) : RW (w.setCell ⟨bp, 3, none⟩ v) rb bp gb n AE ce E tk st v := ⟨h.res.other _ _ _ (by have := h.l1; omega), h.blk.set 3 _, h.setC 3 _, h.len, h.l1, h.l2⟩
theorem setE {eb : Nat} (h : RW w rb bp gb n (some ⟨eb, 0, none⟩) ce E tk st rl) (i : Nat) (x : Int) : RW (w.setCell ⟨eb, i, none⟩ (.int .i64 x)) rb bp gb n (some ⟨eb, 0, none⟩) ce (E.set i x) tk st rl := by
  have h1 := h.from' eb rfl
  have h2 := h.l1
  have h3 := h.l2
  exact ⟨h.res.other _ _ _ (by omega), h.blk.other _ _ _ (by omega), by rw [iv_set]; exact (h.row.stored i _).1, by rw [List.length_set]; exact h.len, h.l1, h.l2⟩
theorem at' {eb : Nat} (h : RW w rb bp gb n (some ⟨eb, 0, none⟩) ce E tk st rl) {i : Nat} (hi : i < n) : w.cell? ⟨eb, i, none⟩ = some (.int .i64 (ats E i)) := by rw [h.row.cellAt i (by omega), iv_at E i (by rw [h.len]; exact hi)]
theorem frozenE {eb : Nat} (h : RW w rb bp gb n (some ⟨eb, 0, none⟩) ce E tk st rl) (i : Nat) : w.frozen? ⟨eb, i, none⟩ = false := h.row.frozenAt i
theorem grownR {row : Option Nat} (h : RW w rb bp gb n AE ce E tk st rl) (hg : w.grownBy w' row) (h1 : ∀ q, row = some q → w.heap.size ≤ q ∨ (gb ≤ q ∧ (Value.slice AE n ce).ownBlock ≠ some q)) : RW w' rb bp gb n AE ce E tk st rl := by
  have hl := h.blk.lt
  have h2 := h.l1
  have h3 := h.l2
  refine ⟨h.res.grown hg (fun e => ?_), h.blk.grown hg (fun e => ?_), h.row.kept hg ?_, h.len, h.l1, h.l2⟩
  · rcases h1 _ e.symm with h4 | h4 <;> omega
  · rcases h1 _ e.symm with h4 | h4 <;> omega
  · by_cases hv : (Value.slice AE n ce).ownBlock = none
    · exact .inl hv
    · right
      intro e
      cases hr : row with
      | none => exact hv (e.trans hr)
      | some q =>
        rw [hr] at e
        rcases h1 q hr with h4 | h4
        · have := (h.row.lt q e).2; omega
        · exact h4.2 e
theorem grew {o : Obj} {w1 : World} {A1 : Option Addr} {c1 : Nat} (h : RW w rb bp gb n AE ce (zs n) tk st rl) (hg : (w.alloc o).grownBy w1 (Value.slice AE n ce).ownBlock) (hown1 : w1.ownsRow gb 3 1 (.slice A1 (n + 1) c1) (n + 1) (iv (zs n) ++ [.int .i64 0])) : RW (w1.setCell ⟨bp, 0, none⟩ (.slice A1 (n + 1) c1)) rb bp gb (n + 1) A1 c1 (zs (n + 1)) tk st rl := by
  have h2 := h.l1
  have h3 := h.l2
  have hz : iv (zs (n + 1)) = iv (zs n) ++ [.int .i64 0] := by simp [iv, zs, List.replicate_succ']
  refine ⟨((h.res.alloc o).grown hg (fun e => by have := h.from' _ e.symm; omega)).other _ _ _ (by omega), ((h.blk.alloc o).grown hg (fun e => by have := h.from' _ e.symm; omega)).set 0 _, ?_, by simp [zs], h.l1, h.l2⟩
  rw [hz]
  exact hown1.kept (grown_set w1 ⟨bp, 0, none⟩ _) (.inr (by intro e; have := own_from hown1 bp e; omega))
end RW
def wq (L : List Sk) (tk : Int) (i : Nat) : Bool := ghI (sk L i).2 && !decide ((i : Int) = tk)
def wt0 (L : List Sk) (E : List Int) : Bool := match cur L with
  | none => false
  | some a => decide (ats E a = 1)
def wtK (L : List Sk) (E : List Int) (tk : Int) (k : Nat) : Bool := wt0 L E || (fi (wq L tk) k).isSome
theorem wtK_next (L : List Sk) (E : List Int) (tk : Int) (k : Nat) : wtK L E tk (k + 1) = (wtK L E tk k || wq L tk k) := by
  unfold wtK
  show (_ || ((fi (wq L tk) k).or (if wq L tk k = true then some k else none)).isSome) = _
  cases wq L tk k <;> cases fi (wq L tk) k <;> simp
theorem fi_isSome {q : Nat → Bool} {k : Nat} : (fi q k).isSome = true ↔ ∃ i, i < k ∧ q i = true := by
  constructor
  · intro h
    cases e : fi q k with
    | none => rw [e] at h; cases h
    | some j => obtain ⟨a, b, _⟩ := fi_some e; exact ⟨j, a, b⟩
  · rintro ⟨i, hi, hq⟩
    cases e : fi q k with
    | none => rw [fi_none e i hi] at hq; cases hq
    | some j => rfl
theorem each1_val (L : List Sk) (key : ByteArray) (mode : Int) (i : Nat) : ats (each1 L key mode) i = 0 ∨ (cur L = some i ∧ ats (each1 L key mode) i = yieldI (sk L i).2 key mode) := by
  unfold each1
  cases hc : cur L with
  | none => exact .inl (ats_zs _ _)
  | some a =>
    by_cases e : i = a
    · subst e; exact .inr ⟨rfl, ats_set_eq (by simp [zs]; exact (cur_some hc).1)⟩
    · exact .inl (by show ats ((zs L.length).set a _) i = 0; rw [ats_set e, ats_zs])
theorem waits_is (L : List Sk) (key : ByteArray) (mode : Int) : wtK L (each2 L key mode) (oI (back L key)) L.length = crowd L (each2 L key mode) := by
  have h4 : ∀ i, i < L.length → (ats (each2 L key mode) i = 4 ↔ (i : Int) = oI (back L key)) := by
    intro i hi
    rcases each2_at (L := L) key mode hi with ⟨hb, he⟩ | ⟨hb, he⟩
    · rw [he, hb]; simp [oI]
    · rw [he]
      constructor
      · intro e
        rcases each1_val L key mode i with e1 | ⟨_, e1⟩
        · omega
        · rcases yield_in (sk L i).2 key mode with y | y | y <;> omega
      · intro e
        exfalso
        apply hb
        cases hk : back L key with
        | none => rw [hk] at e; simp only [oI] at e; omega
        | some b => rw [hk] at e; simp only [oI] at e; rw [show b = i by omega]
  have hiff : wtK L (each2 L key mode) (oI (back L key)) L.length = true ↔ crowd L (each2 L key mode) = true := by
    unfold crowd wtK
    rw [Bool.or_eq_true, fi_isSome, decide_eq_true_iff, List.length_pos_iff_exists_mem]
    constructor
    · rintro (h | ⟨i, hi, hq⟩)
      · unfold wt0 at h
        cases hc : cur L with
        | none => rw [hc] at h; cases h
        | some a =>
          rw [hc] at h
          refine ⟨a, mem_wh.mpr ⟨(cur_some hc).1, ?_⟩⟩
          unfold crowdQ
          rw [show decide (ats (each2 L key mode) a = 1) = true from h]
          rfl
      · refine ⟨i, mem_wh.mpr ⟨hi, ?_⟩⟩
        unfold wq at hq
        unfold crowdQ
        simp at hq
        rw [hq.1, decide_eq_false (fun e => hq.2 ((h4 i hi).mp e))]
        simp
    · rintro ⟨i, hm⟩
      obtain ⟨hi, hq⟩ := mem_wh.mp hm
      unfold crowdQ at hq
      rw [Bool.or_eq_true] at hq
      rcases hq with hq | hq
      · left
        have h1 : ats (each2 L key mode) i = 1 := by simpa using hq
        rcases each2_at (L := L) key mode hi with ⟨_, he⟩ | ⟨_, he⟩
        · omega
        · rcases each1_val L key mode i with e1 | ⟨hc, _⟩
          · omega
          · unfold wt0; rw [hc]; exact decide_eq_true h1
      · right
        refine ⟨i, hi, ?_⟩
        unfold wq
        simp at hq
        rw [hq.2, decide_eq_false (fun e => hq.1 ((h4 i hi).mpr e))]
        rfl
  cases h : crowd L (each2 L key mode) with
  | true => exact hiff.mpr h
  | false =>
    cases h2 : wtK L (each2 L key mode) (oI (back L key)) L.length with
    | false => rfl
    | true => rw [hiff.mp h2] at h; cases h
end Go.Proofs.Ytfapghekakdpgaa
