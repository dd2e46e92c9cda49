/- What the stable sort gives to maps: of what is sorted by names the last of each run is the map of the pairs; and how the sort's words on memory lead to those of the walks. -/
import Derived.Test.YtcboeehmhpkodaaStMath
import Derived.Test.YtcboeehmhpkodaaPrMath
import Derived.Test.YtcboeehmhpkodaaMem
import Derived.Test.YtcboeehmhpkodaaAppAt
import Derived.Shelf.SlSortCmp.KitK
namespace Go.Proofs.Ytcboeehmhpkodaa
open Go.RowKit Go.Sort Go.Proofs M
namespace St
def cmpN (s t : ByteArray) : Int := Lib.compareBytes s.data.toList t.data.toList
theorem cmpN_lt (s t : ByteArray) : decide (cmpN s t < 0) = blt s t := by
  unfold cmpN blt
  rw [compare_less, Lib.toList_data, Lib.toList_data]
  cases Op.bytesLess s.data.toList t.data.toList with
  | true => simp
  | false => split <;> (try simp_all) <;> split <;> simp_all
section
variable {V : Type}
def cfP (p q : BA × V) : Int := cmpN p.1 q.1
theorem lt_cfP (p q : BA × V) : ltOf cfP p q = blt p.1 q.1 := cmpN_lt p.1 q.1
theorem swoP : SWO (ltOf (cfP (V := V))) := by
  refine ⟨fun x => ?_, fun x y z => ?_, fun x y z => ?_⟩
  · rw [lt_cfP]; exact blt_irrefl _
  · rw [lt_cfP, lt_cfP, lt_cfP]; exact blt_trans
  · rw [lt_cfP, lt_cfP, lt_cfP]
    intro h1 h2
    rw [Bool.eq_false_iff] at h1 h2 ⊢
    intro h3
    rcases blt_tri x.1 y.1 with h | h | h
    · exact h1 h
    · rw [h] at h3; exact h2 h3
    · exact h2 (blt_trans h h3)
theorem neP (x y : BA × V) (h : ltOf cfP x y = true) : x.1 ≠ y.1 := by
  rw [lt_cfP] at h
  exact blt_ne h
/-- the last of each run of one name. -/
def lasts : List (BA × V) → List (BA × V)
  | [] => []
  | [p] => [p]
  | p :: q :: r => if p.1 = q.1 then lasts (q :: r) else p :: lasts (q :: r)
theorem lasts_mem {l : List (BA × V)} {p : BA × V} (h : p ∈ lasts l) : p ∈ l := by
  induction l with
  | nil => cases h
  | cons a l ih =>
    cases l with
    | nil => exact h
    | cons b r =>
      unfold lasts at h
      split at h
      · exact List.mem_cons_of_mem _ (ih h)
      · rcases List.mem_cons.1 h with rfl | h
        · simp
        · exact List.mem_cons_of_mem _ (ih h)
def Up (l : List (BA × V)) : Prop := l.Pairwise fun p q => blt q.1 p.1 = false
theorem lasts_up {l : List (BA × V)} (hl : Up l) : Rises (lasts l) ∧ ∀ x, getP (lasts l) x = getP l x := by
  induction l with
  | nil => exact ⟨List.Pairwise.nil, fun _ => rfl⟩
  | cons a l ih =>
    have h1 := List.pairwise_cons.1 hl
    cases l with
    | nil => exact ⟨List.pairwise_singleton _ _, fun _ => rfl⟩
    | cons b r =>
      obtain ⟨h2, h3⟩ := ih h1.2
      unfold lasts
      split
      · rename_i he
        refine ⟨h2, fun x => ?_⟩
        rw [h3, getP_cons a]
        by_cases hx : a.1 = x
        · cases hg : getP (b :: r) x with
          | some v => rfl
          | none =>
            rw [getP_cons, if_pos (he.symm.trans hx)] at hg
            cases getP r x <;> simp at hg
        · rw [if_neg hx]; simp
      · rename_i he
        have hab : blt a.1 b.1 = true := by
          rcases blt_tri a.1 b.1 with h | h | h
          · exact h
          · exact absurd h he
          · rw [h1.1 b (by simp)] at h; cases h
        refine ⟨List.pairwise_cons.2 ⟨fun q hq => ?_, h2⟩, fun x => ?_⟩
        · have hq' := lasts_mem hq
          rcases List.mem_cons.1 hq' with rfl | hq'
          · exact hab
          · have h4 := (List.pairwise_cons.1 h1.2).1 q hq'
            rcases blt_tri b.1 q.1 with h | h | h
            · exact blt_trans hab h
            · rw [← h]; exact hab
            · rw [h4] at h; cases h
        · rw [getP_cons, h3, ← getP_cons]
theorem getP_filter (l : List (BA × V)) (x : BA) : getP l x = getP (l.filter fun p => decide (p.1 = x)) x := by
  induction l with
  | nil => rfl
  | cons a l ih =>
    by_cases h : a.1 = x
    · rw [List.filter_cons_of_pos (by simpa using h), getP_cons, getP_cons, ← ih]
    · rw [List.filter_cons_of_neg (by simpa using h), getP_cons, if_neg h, ← ih]; simp
theorem lasts_of {l l' : List (BA × V)} (hl : Up l') (h : ∀ s, l'.filter (fun p => decide (p.1 = s)) = l.filter (fun p => decide (p.1 = s))) : lasts l' = ofP l := by
  obtain ⟨h1, h2⟩ := lasts_up hl
  refine ofP_unique h1 fun x => ?_
  rw [h2, getP_filter l', h, ← getP_filter]
theorem lasts_step (l : List (BA × V)) (k : Nat) (hk : k + 1 < l.length) : lasts (l.drop k) = if l[k].1 = l[k + 1].1 then lasts (l.drop (k + 1)) else l[k] :: lasts (l.drop (k + 1)) := by
  rw [List.drop_eq_getElem_cons (by omega : k < l.length), List.drop_eq_getElem_cons hk]
  rfl
theorem lasts_end (l : List (BA × V)) (k : Nat) (hk : k + 1 = l.length) : lasts (l.drop k) = [l[k]] := by
  rw [List.drop_eq_getElem_cons (by omega : k < l.length), List.drop_of_length_le (by omega)]
  rfl
variable [Inhabited V]
instance : Inhabited (BA × V) := ⟨(⟨#[]⟩, default)⟩
theorem seg_whole {α : Type} [Inhabited α] (d : Array α) : seg d 0 d.size = d.toList := by
  refine List.ext_getElem (by simp [seg]) fun i h1 h2 => ?_
  have h3 : i < d.size := by simpa [seg] using h1
  simp [seg, h3]
theorem up_of {d : Array (BA × V)} (h : SortedIn (ltOf cfP) 0 d.size d) : Up d.toList := by
  unfold Up
  rw [List.pairwise_iff_getElem]
  intro i j hi hj hij
  have := h i j (Nat.zero_le _) hij (by simpa using hj)
  rw [lt_cfP] at this
  have e : ∀ k (hk : k < d.size), d[k]! = d[k] := fun k hk => getElem!_pos d k hk
  simpa [e i (by simpa using hi), e j (by simpa using hj)] using this
/-- what the sort leaves leads to the map. -/
theorem sorted_map {d d' : Array (BA × V)} (k : Kept (nm := Prod.fst) 0 d.size d d') (s : SortedIn (ltOf cfP) 0 d.size d') : lasts d'.toList = ofP d.toList := by
  have hs : d'.size = d.size := k.size
  refine lasts_of (up_of (by rw [hs]; exact s)) fun x => ?_
  have := k.sm x
  rw [Nat.sub_zero, seg_whole, ← hs, seg_whole] at this
  exact this
end
/-! memory -/
section
variable {α : Type} [Inhabited α] {enc : α → List Value} {k : Nat}
theorem grow_below {B : Nat} {a w : World} (h : Below B a w) (hB : B ≤ w.heap.size) (n : Nat) (os : Array Obj) : Below B a (grow (w.drewN n) os) :=
  ⟨h.os, h.tape, h.output, Nat.le_trans h.size (by show w.heap.size ≤ (w.heap ++ os).size; simp), fun j hj => by
    rw [← h.block j hj]
    show (w.heap ++ os)[j]? = _
    rw [Array.getElem?_append_left (by omega)]⟩
theorem swk_below {w0 W : World} {blk off B : Nat} {d : Array α} (h : SWK enc k w0 blk off d W) (h1 : B ≤ blk) (h2 : B ≤ w0.heap.size) : Below B w0 W := by
  obtain ⟨n, os, rfl⟩ := h
  refine ⟨rfl, rfl, rfl, (SWK.le ⟨n, os, rfl⟩ : w0.heap.size ≤ _), fun j hj => ?_⟩
  show (((Sort.ahead w0 n).heap.modify blk _) ++ os)[j]? = _
  have e : (Sort.ahead w0 n).heap = w0.heap := rfl
  rw [e, Array.getElem?_append_left (by simp; omega), Array.getElem?_modify, if_neg (by omega)]
omit [Inhabited α] in
theorem flat_cells (hk : ∀ x, (enc x).length = k) (l : List α) : ∀ (P : Nat → Value → Prop), (∀ i (hi : i < l.length) c u, (enc l[i])[c]? = some u → P (i * k + c) u) → ∀ j u, (l.flatMap enc)[j]? = some u → P j u := by
  induction l with
  | nil => intro P _ j u h; simp at h
  | cons x l ih =>
    intro P h j u hj
    rw [List.flatMap_cons] at hj
    rcases Nat.lt_or_ge j k with h1 | h1
    · rw [List.getElem?_append_left (by rw [hk]; exact h1)] at hj
      have := h 0 (by simp) j u hj
      rw [Nat.zero_mul, Nat.zero_add] at this
      exact this
    · rw [List.getElem?_append_right (by rw [hk]; exact h1), hk] at hj
      have := ih (fun j u => P (k + j) u) (fun i hi c u hu => by
        have := h (i + 1) (by simpa using hi) c u hu
        rw [show k + (i * k + c) = (i + 1) * k + c from by rw [Nat.add_mul, Nat.one_mul]; omega]
        exact this) (j - k) u hj
      rw [show k + (j - k) = j from by omega] at this
      exact this
omit [Inhabited α] in
theorem flat_at (hk : ∀ x, (enc x).length = k) (l : List α) : ∀ i (hi : i < l.length) c, c < k → (l.flatMap enc)[i * k + c]? = (enc l[i])[c]? := by
  induction l with
  | nil => intro i hi; simp at hi
  | cons x l ih =>
    intro i hi c hc
    rw [List.flatMap_cons]
    cases i with
    | zero => rw [Nat.zero_mul, Nat.zero_add, List.getElem?_append_left (by rw [hk]; exact hc)]; rfl
    | succ i =>
      rw [List.getElem?_append_right (by rw [hk, Nat.add_mul]; omega), hk, show (i + 1) * k + c - k = i * k + c from by rw [Nat.add_mul, Nat.one_mul]; omega]
      exact ih i (by simpa using hi) c hc
omit [Inhabited α] in
theorem flat_len (hk : ∀ x, (enc x).length = k) (l : List α) : (l.flatMap enc).length = l.length * k := by
  induction l with
  | nil => simp
  | cons x l ih => rw [List.flatMap_cons, List.length_append, ih, hk, List.length_cons, Nat.add_mul, Nat.one_mul]; omega
theorem get_toArray (l : List α) (i : Nat) (hi : i < l.length) : l.toArray[i]! = l[i] := by
  rw [getElem!_pos _ i (by simpa using hi)]; simp
/-- the cells where the sort's row lies. -/
theorem at_of_holds (hk : ∀ x, (enc x).length = k) {W : World} {blk : Nat} {d : Array α} (h : HoldsK enc k W blk 0 d) (hb : blk < W.heap.size) : At W (some ⟨blk, 0, none⟩) (d.toList.flatMap enc) := fun _ => by
  refine ⟨blk, 0, rfl, hb, flat_cells hk d.toList (fun j u => W.cell? ⟨blk, 0 + j, none⟩ = some u) fun i hi c u hu => ?_⟩
  have hi' : i < d.size := by simpa using hi
  have hc : c < k := by
    have := (List.getElem?_eq_some_iff.1 hu).1
    rw [hk] at this
    exact this
  have h1 := (HoldsK.cell h hi' hc).1
  rw [← Nat.add_assoc, h1]
  have e : d[i]! = d.toList[i] := by rw [getElem!_pos d i hi']; simp
  rw [e]
  congr 1
  rw [List.getElem!_eq_getElem?_getD, hu]
  rfl
/-- a row of the call's own lies as the sort wants it. -/
theorem holds_of_own (hk : ∀ x, (enc x).length = k) {W : World} {base : Nat} {e : TypeId} {g n c : Nat} {l : List α} (h : W.ownsRow base e k (.slice (some ⟨g, 0, none⟩) n c) n (l.flatMap enc)) : HoldsK enc k W g 0 l.toArray ∧ g < W.heap.size := by
  have hat := At.own h
  rcases h.2 with ⟨hv, _⟩ | ⟨g', c', cur, hv, hb, hh, _⟩
  · cases hv
  · injection hv with hv _ _
    injection hv with hv
    injection hv with hv
    subst hv
    have hlt : g < W.heap.size := by
      rcases Nat.lt_or_ge g W.heap.size with h1 | h1
      · exact h1
      · rw [Array.getElem?_eq_none h1] at hh; cases hh
    refine ⟨fun j hj => ⟨?_, by simp [World.frozen?, hh]⟩, hlt⟩
    rw [size_flatK] at hj
    have hj' : j < l.length * k := by simpa using hj
    have hk0 : 0 < k := by
      rcases Nat.eq_zero_or_pos k with h0 | h0
      · subst h0; simp at hj'
      · exact h0
    have h1 : j / k < l.length := by rw [Nat.div_lt_iff_lt_mul hk0]; exact hj'
    have h2 : j % k < k := Nat.mod_lt _ hk0
    have h3 := flat_at hk l (j / k) h1 (j % k) h2
    rw [show j / k * k + j % k = j from by rw [Nat.mul_comm]; exact Nat.div_add_mod j k] at h3
    have h4 : (l.flatMap enc) ≠ [] := fun e => by rw [e] at h3; simp at h3; rw [hk] at h3; omega
    obtain ⟨b, off, e1, _, hc⟩ := hat h4
    injection e1 with e1
    injection e1 with e1 e2
    subst e1 e2
    rw [get_flatK _ _ _ _ hj, get_toArray l _ h1]
    have h5 : j % k < (enc l[j / k]).length := by rw [hk]; exact h2
    rw [List.getElem?_eq_getElem h5] at h3
    refine (hc j _ h3).trans ?_
    rw [getElem!_pos (enc l[j / k]) (j % k) h5]
    rfl
end
end St
end Go.Proofs.Ytcboeehmhpkodaa
