/- A wheel and the document's: what holds between them. -/
import Derived.Test.YtdbgmogllncffaaWhR3
import Derived.Test.YtdbgmogllncffaaWhL1
namespace Go.Proofs.Ytdbgmogllncffaa
open Go.RowKit Go.Sort Wh
/-- the wheel b and the document's list in step. -/
structure Dk (w W : World) (gw b : Nat) (rv mv : Value) (last most : Int) (xs : List Tm) (A : Option Addr) (n c : Nat) (L : List Tm) : Prop where
  wl : Wl W b rv mv last most xs
  new : ∀ q, Bad b rv mv q → gw ≤ q
  bel : Below gw w W
  sz : gw ≤ W.heap.size
  pm : L.Perm xs
  so : Srt L
  lies : At W A (tv L)
  sep : ∀ b' o p, A = some ⟨b', o, p⟩ → ¬ Bad b rv mv b'
  old : ∀ b' o p, A = some ⟨b', o, p⟩ → b' < W.heap.size
  len : n = L.length
  cap : n ≤ c
  nil : A = none → n = 0 ∧ c = 0
  form : A = none ∨ ∃ b' o', A = some ⟨b', o', none⟩
  tok : ∀ x ∈ L, x.tok ≤ last
  lo : 0 ≤ last
  m1 : 1 ≤ most
  m2 : most ≤ 65536
  few : (n : Int) ≤ most
/-- what a call does to a wheel, seen from outside. -/
def Way1 (w W : World) (b : Nat) (rv mv rv' mv' : Value) : Prop := Beside (Bad b rv mv) w W ∧ Fresh w.heap.size rv mv rv' mv'
theorem srt_mem {t x : Tm} {L : List Tm} (h : Srt (t :: L)) (hx : x ∈ L) : lt t x := (List.pairwise_cons.1 h).1 x hx
/-- the document's insertion keeps the order. -/
theorem srt_ins {L : List Tm} {t : Tm} {k : Nat} (h : Srt L) (hk : k ≤ L.length) (h1 : ∀ j, j < k → (g L j).dl ≤ t.dl) (h2 : k < L.length → t.dl < (g L k).dl) (ht : ∀ x ∈ L, x.tok < t.tok) : Srt (L.take k ++ [t] ++ L.drop k) := by
  have e := List.take_append_drop k L
  have h' : (L.take k ++ L.drop k).Pairwise lt := by rw [e]; exact h
  obtain ⟨p1, p2, p3⟩ := List.pairwise_append.1 h'
  unfold Srt
  rw [List.append_assoc, List.pairwise_append]
  have hlt : ∀ x ∈ L.take k, lt x t := by
    intro x hx
    obtain ⟨j, hj⟩ := List.getElem?_of_mem hx
    have hjk : j < k := by have := (List.getElem?_eq_some_iff.1 hj).1; rw [List.length_take] at this; omega
    rw [List.getElem?_take, if_pos hjk] at hj
    have h3 := h1 j hjk
    rw [g_of hj] at h3
    have h4 := ht x (List.mem_of_mem_take hx)
    unfold lt; omega
  have hgt : ∀ x ∈ L.drop k, lt t x := by
    intro x hx
    have hkl : k < L.length := by
      rcases Nat.lt_or_ge k L.length with h3 | h3
      · exact h3
      · rw [List.drop_of_length_le h3] at hx; cases hx
    have h3 := h2 hkl
    have hd : L.drop k = g L k :: L.drop (k + 1) := by
      rw [List.drop_eq_getElem_cons hkl]
      congr 1
      exact (g_of (List.getElem?_eq_getElem hkl)).symm
    rw [hd] at hx p2
    rcases List.mem_cons.1 hx with rfl | h4
    · exact .inl h3
    · have h5 := (List.pairwise_cons.1 p2).1 x h4
      unfold lt at *; omega
  refine ⟨p1, ?_, ?_⟩
  · rw [List.singleton_append, List.pairwise_cons]
    exact ⟨hgt, p2⟩
  · intro x hx y hy
    rw [List.singleton_append] at hy
    rcases List.mem_cons.1 hy with rfl | hy
    · exact hlt x hx
    · exact p3 x hx y hy
theorem ins_perm (L : List Tm) (t : Tm) (k : Nat) : (L.take k ++ [t] ++ L.drop k).Perm (L ++ [t]) := by
  have e := List.take_append_drop k L
  calc (L.take k ++ [t] ++ L.drop k).Perm (L.take k ++ ([t] ++ L.drop k)) := by rw [List.append_assoc]
    _ |>.Perm (L.take k ++ (L.drop k ++ [t])) := List.Perm.append_left _ List.perm_append_comm
    _ |>.Perm (L ++ [t]) := by rw [← List.append_assoc, e]
theorem srt_head {L xs : List Tm} (h : Srt L) (hp : L.Perm xs) (hh : Heap xs.length (g xs)) (h0 : 0 < xs.length) : g L 0 = g xs 0 := by
  cases L with
  | nil => have := hp.length_eq; simp at this; omega
  | cons a L =>
    have e : g (a :: L) 0 = a := rfl
    rw [e]
    have h1 := hp.mem_iff.2 (head_mem h0)
    rcases List.mem_cons.1 h1 with h2 | h2
    · exact h2.symm
    · exact absurd (srt_mem h h2) (heap_head hh (hp.mem_iff.1 (List.mem_cons_self)))
theorem flt_perm {L xs xs' : List Tm} {t : Tm} (hp : L.Perm xs) (hx : xs.Perm (t :: xs')) (ho : ∀ x ∈ xs', x.tok ≠ t.tok) : (flt t.tok L).Perm xs' := by
  have h1 := (hp.trans hx).filter (fun x => decide (x.tok ≠ t.tok))
  have e : (t :: xs').filter (fun x => decide (x.tok ≠ t.tok)) = xs' := by
    rw [List.filter_cons_of_neg (by simp)]
    exact List.filter_eq_self.2 (fun x hx => by simpa using ho x hx)
  rw [e] at h1
  exact h1
theorem flt_self {L : List Tm} {z : Int} (h : ∀ x ∈ L, x.tok ≠ z) : flt z L = L := List.filter_eq_self.2 (fun x hx => by simpa using h x hx)
theorem flt_srt {L : List Tm} (h : Srt L) (z : Int) : Srt (flt z L) := List.Pairwise.filter _ h
end Go.Proofs.Ytdbgmogllncffaa
