/- Contract of a queue's Cancel. -/
import Derived.Test.YtpdlholoeaphgaaFrW4
namespace Go.Proofs.Ytpdlholoeaphgaa
open Go.RowKit Fr
attribute [-go_sem] Builtin.append_
namespace Fr
def Asc (L : List Wt) : Prop := ∀ i j, i < j → j < L.length → (el L i).tok < (el L j).tok
def keep (t : Int) (L : List Wt) : List Wt := L.filter fun x => decide (x.tok ≠ t)
theorem keep_all {t : Int} {L : List Wt} (h : ∀ x ∈ L, x.tok ≠ t) : keep t L = L := by
  unfold keep
  exact List.filter_eq_self.2 (fun x hx => by simpa using h x hx)
theorem mem_el {L : List Wt} {x : Wt} (h : x ∈ L) : ∃ k, k < L.length ∧ el L k = x := by
  obtain ⟨k, hk, e⟩ := List.getElem_of_mem h
  exact ⟨k, hk, el_of (by rw [List.getElem?_eq_getElem hk, e])⟩
theorem el_mem {L : List Wt} {k : Nat} (h : k < L.length) : el L k ∈ L := List.mem_of_getElem? (el_at h)
theorem el_take {L : List Wt} {j k : Nat} (h : j < k) : el (L.take k) j = el L j := by simp [el, h]
theorem el_drop (L : List Wt) (j k : Nat) : el (L.drop k) j = el L (k + j) := by simp [el, List.getElem?_drop]
theorem keep_at {t : Int} {L : List Wt} (ha : Asc L) {k : Nat} (hk : k < L.length) (ht : (el L k).tok = t) : keep t L = L.take k ++ L.drop (k + 1) := by
  have h1 : keep t (L.take k) = L.take k := keep_all fun x hx => by
    obtain ⟨j, hj, rfl⟩ := mem_el hx
    rw [List.length_take] at hj
    rw [el_take (by omega)]
    have := ha j k (by omega) hk
    omega
  have h2 : keep t (L.drop (k + 1)) = L.drop (k + 1) := keep_all fun x hx => by
    obtain ⟨j, hj, rfl⟩ := mem_el hx
    rw [List.length_drop] at hj
    rw [el_drop]
    have := ha k (k + 1 + j) (by omega) (by omega)
    omega
  have h3 : L = L.take k ++ el L k :: L.drop (k + 1) := by
    have e : L.drop k = el L k :: L.drop (k + 1) := by
      rw [List.drop_eq_getElem_cons hk]
      congr 1
      exact (el_of (List.getElem?_eq_getElem hk)).symm
    rw [← e, List.take_append_drop]
  conv => lhs; rw [h3]
  unfold keep at *
  rw [List.filter_append, h1, List.filter_cons_of_neg (by simp [ht]), h2]
theorem spot_none {L : List Wt} {t : Int} {k : Nat} (ha : Asc L) (hs : Spot L t k) (hn : ¬ (k < L.length ∧ (el L k).tok = t)) : ∀ x ∈ L, x.tok ≠ t := by
  intro x hx e
  obtain ⟨j, hj, rfl⟩ := mem_el hx
  obtain ⟨h1, h2, h3⟩ := hs
  rcases Nat.lt_trichotomy j k with h | h | h
  · have := h2 j h; omega
  · subst h; exact hn ⟨hj, e⟩
  · have := h3 k (Nat.le_refl _) (by omega)
    have := ha k j h hj
    omega
theorem asc_mono {L : List Wt} (ha : Asc L) : ∀ a b, a ≤ b → b < L.length → (el L a).tok ≤ (el L b).tok := by
  intro a b h1 h2
  rcases Nat.lt_or_ge a b with h | h
  · have := ha a b h h2; omega
  · obtain rfl : a = b := by omega
    exact Int.le_refl _
theorem asc_keep {L : List Wt} (ha : Asc L) (k : Nat) : Asc (L.take k ++ L.drop (k + 1)) := by
  intro i j hij hj
  have e : ∀ q, q < (L.take k ++ L.drop (k + 1)).length → ∃ p, el (L.take k ++ L.drop (k + 1)) q = el L p ∧ p < L.length ∧ (q < k → p = q) ∧ (k ≤ q → p = q + 1) := by
    intro q hq
    rw [List.length_append, List.length_take, List.length_drop] at hq
    by_cases hk : q < (L.take k).length
    · have hk' := hk
      rw [List.length_take] at hk
      refine ⟨q, ?_, by omega, fun _ => rfl, fun h => by omega⟩
      simp only [el]
      rw [List.getElem?_append_left hk', List.getElem?_take, if_pos (by omega)]
    · have hk' := hk
      rw [List.length_take] at hk
      refine ⟨k + 1 + (q - (L.take k).length), ?_, by rw [List.length_take]; omega, fun h => by omega, fun h => by rw [List.length_take]; omega⟩
      simp only [el]
      rw [List.getElem?_append_right (by omega), List.getElem?_drop]
  obtain ⟨p, e1, h1, h2, h3⟩ := e i (by omega)
  obtain ⟨q, e2, h4, h5, h6⟩ := e j hj
  rw [e1, e2]
  refine ha p q ?_ h4
  by_cases hi : i < k <;> by_cases hj2 : j < k
  · have := h2 hi; have := h5 hj2; omega
  · have := h2 hi; have := h6 (by omega); omega
  · omega
  · have := h3 (by omega); have := h6 (by omega); omega
end Fr
theorem fdelete_any' (g n c i base : Nat) (L : List Wt) (w : World) (hn : n = L.length) (hi : i < n) (hb : n ≤ 70000) (h : w.ownsRow base 49 4 (.slice (some ⟨g, 0, none⟩) n c) n (rowv 0 L)) :
    Calls Try.prog 37 #[.slice (some ⟨g, 0, none⟩) n c, .int .i64 i, .int .i64 ((i : Int) + 1)] w fun e w' => e = .returned (.slice (some ⟨g, 0, none⟩) (n - 1) c) ∧ w'.ownsRow base 49 4 (.slice (some ⟨g, 0, none⟩) (n - 1) c) (n - 1) (rowv 0 (L.take i ++ L.drop (i + 1))) ∧ Beside (fun x => x = g) w w' := by
  have := fdelete_any g n c i base L w hn hi hb h
  rwa [show ((i + 1 : Nat) : Int) = (i : Int) + 1 from by omega] at this
/-- the search, told as a caller branches on it. -/
theorem fsearch2 (A : Option Addr) (n c : Nat) (L : List Wt) (t : Int) (w : World) (hn : n = L.length) (hm : n ≤ 100000) (ha : At w A (rowv 0 L)) (hL : Asc L) :
    Calls Try.prog 35 #[.slice A n c, .int .i64 t, .func (.func 36) #[] #[]] w fun e w' =>
      (∃ k : Nat, e = .returned (.tuple #[.int .i64 k, .bool false]) ∧ Hid (∀ x ∈ L, x.tok ≠ t) ∧ Below w.heap.size w w') ∨ (∃ k : Nat, e = .returned (.tuple #[.int .i64 k, .bool true]) ∧ k < n ∧ Hid ((el L k).tok = t) ∧ Below w.heap.size w w') := by
  refine (fsearch_any A n c L t w hn hm ha (asc_mono hL)).mono ?_
  rintro e w' ⟨k, rfl, hs, hb⟩
  by_cases hk : k < n ∧ (el L k).tok = t
  · exact .inr ⟨k, by rw [decide_eq_true hk], hk.1, hk.2, hb⟩
  · exact .inl ⟨k, by rw [decide_eq_false hk], spot_none hL hs (by rw [← hn]; exact hk), hb⟩
theorem fsearch3 {w0 : World} {v : Value} {n0 : Nat} {xs : List Value} (hv : w0.ownsRow 0 49 4 v n0 xs) (n c : Nat) (A : Option Addr) (L : List Wt) (t : Int) (w : World) (hn : n = L.length) (hm : n ≤ 100000) (hvv : v = .slice A n c) (ha : At w A (rowv 0 L)) (hL : Asc L) :
    Calls Try.prog 35 #[.slice A n c, .int .i64 t, .func (.func 36) #[] #[]] w fun e w' =>
      (∃ k : Nat, e = .returned (.tuple #[.int .i64 k, .bool false]) ∧ Hid (∀ x ∈ L, x.tok ≠ t) ∧ Below w.heap.size w w') ∨ (∃ k g : Nat, A = some ⟨g, 0, none⟩ ∧ e = .returned (.tuple #[.int .i64 k, .bool true]) ∧ k < n ∧ Hid ((el L k).tok = t) ∧ Below w.heap.size w w') := by
  refine (fsearch2 A n c L t w hn hm ha hL).mono ?_
  rintro e w' (h | ⟨k, h1, h2, h3, h4⟩)
  · exact .inl h
  · subst hvv
    rcases hv.2 with ⟨h5, h6⟩ | ⟨g, c', cur, h5, _⟩
    · injection h5 with h5 h7 h8
      omega
    · injection h5 with h5 _ _
      exact .inr ⟨k, g, h5, h1, h2, h3, h4⟩
theorem Fr.cancel_end1 {w W w6 : World} {b o g n c : Nat} {T : TypeId} {pre post : List Value} {r1 r2 : Value} {last most : Int} {a1 a2 a1' : List Wt} (h : Qm w b T pre post r1 r2 last most a1 a2) (ho : pre.length = o) (hT : 49 ≠ T) (hb : Below w.heap.size w W) (hd : Beside (fun x => x = g) W w6) (hr : r1 = .slice (some ⟨g, 0, none⟩) n c) (hown : w6.ownsRow 0 49 4 (.slice (some ⟨g, 0, none⟩) (n - 1) c) (n - 1) (rowv 0 a1')) (hl : a1'.length = n - 1) (hf : n - 1 ≤ a1.length) :
    w6.cell? ⟨b, o + 1, none⟩ = some r1 ∧ w6.frozen? ⟨b, o + 1, none⟩ = false ∧ Qm (w6.setCell ⟨b, o + 1, none⟩ (.slice (some ⟨g, 0, none⟩) (n - 1) c)) b T pre post (.slice (some ⟨g, 0, none⟩) (n - 1) c) r2 last most a1' a2 ∧ Beside (Qb b r1 r2) w (w6.setCell ⟨b, o + 1, none⟩ (.slice (some ⟨g, 0, none⟩) (n - 1) c)) := by
  have hp := h.below hb
  have hrb1 := Fr.row_ne_blk h.row1 h.blk hT
  have hrb2 := Fr.row_ne_blk h.row2 h.blk hT
  have hg1 : r1.ownBlock = some g := by rw [hr]; rfl
  have hgb : g ≠ b := fun e => hrb1 (by rw [hg1, e])
  have hB6 : Blk w6 b T _ := (hd.block b hp.blk.lt (fun e => hgb e.symm)).trans hp.blk
  have hR2 := hd.keepsOwn hp.row2 (fun q hq e => h.apart g hg1 (by rw [hq, e]))
  have hset : Beside (fun x => x = b) w6 (w6.setCell ⟨b, o + 1, none⟩ (.slice (some ⟨g, 0, none⟩) (n - 1) c)) := (Beside.refl (fun x => x = b) w6).set (.inl rfl) _ _
  refine ⟨?_, hB6.frozen _, ⟨?_, ?_, hset.keepsOwn hR2 (by intro q hq e; exact hrb2 (by rw [hq, e])), ?_, ?_⟩, ?_⟩
  · have := (qc_at pre post r1 r2 last most).2.1
    rw [ho] at this
    exact hB6.cell _ this
  · have := hB6.set (o + 1) (.slice (some ⟨g, 0, none⟩) (n - 1) c)
    rw [← ho, (qc_set pre post r1 r2 _ last most 0).1, ho] at this
    exact this
  · rw [hl]
    exact hset.keepsOwn hown (by intro q hq e; injection hq with hq; exact hgb (by rw [← e, ← hq]))
  · intro q h1 h2
    exact h.apart q (by rw [hg1]; exact h1) h2
  · have := h.few; omega
  · exact ((Beside.ofBelow hb).trans (hd.mono (fun x hx => .inr (.inl (by rw [hx]; exact hg1))))).set (.inl (.inl rfl)) _ _
theorem Fr.cancel_end2 {w W w6 : World} {b o g n c : Nat} {T : TypeId} {pre post : List Value} {r1 r2 : Value} {last most : Int} {a1 a2 a2' : List Wt} (h : Qm w b T pre post r1 r2 last most a1 a2) (ho : pre.length = o) (hT : 49 ≠ T) (hb : Below w.heap.size w W) (hd : Beside (fun x => x = g) W w6) (hr : r2 = .slice (some ⟨g, 0, none⟩) n c) (hown : w6.ownsRow 0 49 4 (.slice (some ⟨g, 0, none⟩) (n - 1) c) (n - 1) (rowv 0 a2')) (hl : a2'.length = n - 1) (hf : n - 1 ≤ a2.length) :
    w6.cell? ⟨b, o + 2, none⟩ = some r2 ∧ w6.frozen? ⟨b, o + 2, none⟩ = false ∧ Qm (w6.setCell ⟨b, o + 2, none⟩ (.slice (some ⟨g, 0, none⟩) (n - 1) c)) b T pre post r1 (.slice (some ⟨g, 0, none⟩) (n - 1) c) last most a1 a2' ∧ Beside (Qb b r1 r2) w (w6.setCell ⟨b, o + 2, none⟩ (.slice (some ⟨g, 0, none⟩) (n - 1) c)) := by
  have hp := h.below hb
  have hrb1 := Fr.row_ne_blk h.row1 h.blk hT
  have hrb2 := Fr.row_ne_blk h.row2 h.blk hT
  have hg1 : r2.ownBlock = some g := by rw [hr]; rfl
  have hgb : g ≠ b := fun e => hrb2 (by rw [hg1, e])
  have hB6 : Blk w6 b T _ := (hd.block b hp.blk.lt (fun e => hgb e.symm)).trans hp.blk
  have hR2 := hd.keepsOwn hp.row1 (fun q hq e => h.apart g (by rw [hq, e]) hg1)
  have hset : Beside (fun x => x = b) w6 (w6.setCell ⟨b, o + 2, none⟩ (.slice (some ⟨g, 0, none⟩) (n - 1) c)) := (Beside.refl (fun x => x = b) w6).set (.inl rfl) _ _
  refine ⟨?_, hB6.frozen _, ⟨?_, hset.keepsOwn hR2 (by intro q hq e; exact hrb1 (by rw [hq, e])), ?_, ?_, ?_⟩, ?_⟩
  · have := (qc_at pre post r1 r2 last most).2.2.1
    rw [ho] at this
    exact hB6.cell _ this
  · have := hB6.set (o + 2) (.slice (some ⟨g, 0, none⟩) (n - 1) c)
    rw [← ho, (qc_set pre post r1 r2 _ last most 0).2.1, ho] at this
    exact this
  · rw [hl]
    exact hset.keepsOwn hown (by intro q hq e; injection hq with hq; exact hgb (by rw [← e, ← hq]))
  · intro q h1 h2
    exact h.apart q h1 (by rw [hg1]; exact h2)
  · have := h.few; omega
  · exact ((Beside.ofBelow hb).trans (hd.mono (fun x hx => .inr (.inr (by rw [hx]; exact hg1))))).set (.inl (.inl rfl)) _ _
/-- what a cancel leaves. -/
def Fr.CancelPost (b : Nat) (T : TypeId) (pre post : List Value) (r1 r2 : Value) (last most tok : Int) (a1 a2 : List Wt) (w : World) (e : Ending) (w' : World) : Prop :=
  ∃ r1' r2', e = .returned (.bool (decide (∃ x ∈ a1 ++ a2, x.tok = tok))) ∧ Qm w' b T pre post r1' r2' last most (keep tok a1) (keep tok a2) ∧ Beside (Qb b r1 r2) w w' ∧ r1'.ownBlock = r1.ownBlock ∧ r2'.ownBlock = r2.ownBlock
set_option maxHeartbeats 8000000 in
set_option maxRecDepth 100000 in
theorem fcancel_any (b o : Nat) (T : TypeId) (pre post : List Value) (r1 r2 : Value) (last most tok : Int) (a1 a2 : List Wt) (w : World) (h : Qm w b T pre post r1 r2 last most a1 a2) (ho : pre.length = o) (hT : 49 ≠ T) (h1 : Asc a1) (h2 : Asc a2) (h12 : ∀ x ∈ a1, ∀ y ∈ a2, x.tok ≠ y.tok) :
    Calls Try.prog 17 #[.pointer (some ⟨b, o, none⟩), .int .i64 tok] w (CancelPost b T pre post r1 r2 last most tok a1 a2 w) := by
  have mixed : Try.prog.follows .mixedOrders = true := by kernel_rfl
  obtain ⟨f0, f1, f2, _, _⟩ := h.cells ho
  have hrb1 := Lib.hid (Fr.row_ne_blk h.row1 h.blk hT)
  have hrb2 := Lib.hid (Fr.row_ne_blk h.row2 h.blk hT)
  obtain ⟨A1, c1, hr1, hc1, _⟩ := own_slice h.row1
  obtain ⟨A2, c2, hr2, hc2, _⟩ := own_slice h.row2
  have hAt1 := At.own (hr1 ▸ h.row1)
  have hAt2 := At.own (hr2 ▸ h.row2)
  have hf := h.few
  have hbl := h.blk.lt
  have S0 : Hid (∀ W, Below w.heap.size w W → Calls Try.prog 35 #[.slice none 0 0, .int .i64 tok, .func (.func 36) #[] #[]] W fun e w' => ∃ k : Nat, e = .returned (.tuple #[.int .i64 k, .bool false]) ∧ Below W.heap.size W w') := fun W _ => (fsearch2 none 0 0 [] tok W rfl (by omega) (At.nil _ _) (fun i j _ hj => by simp at hj)).mono (by
    rintro e w' (⟨k, h3, _, h4⟩ | ⟨k, _, h3, _⟩)
    · exact ⟨k, h3, h4⟩
    · exact absurd h3 (Nat.not_lt_zero _))
  have S1 := Lib.hid (fun W (hW : Below w.heap.size w W) => fsearch3 (hr1 ▸ h.row1) a1.length c1 A1 a1 tok W rfl (by omega) rfl (hAt1.below hW) h1)
  have S2 := Lib.hid (fun W (hW : Below w.heap.size w W) => fsearch3 (hr2 ▸ h.row2) a2.length c2 A2 a2 tok W rfl (by omega) rfl (hAt2.below hW) h2)
  have CD := Lib.hid (fun (g n c q : Nat) (L : List Wt) W => fdelete_any' g n c q 0 L W)
  have H := Lib.hid h
  have HO := Lib.hid ho
  have H1 := Lib.hid h1
  have H2 := Lib.hid h2
  have H12 := Lib.hid h12
  have HR1 := Lib.hid hr1
  have HR2 := Lib.hid hr2
  rw [hr1] at f1
  rw [hr2] at f2
  have hn1 : a1.length ≤ 65536 := by omega
  have hn2 : a2.length ≤ 65536 := by omega
  clear h ho h1 h2 h12 hr1 hr2 hAt1 hAt2 hf
  generalize hN1 : a1.length = N1 at *
  generalize hN2 : a2.length = N2 at *
  have HN1 := Lib.hid hN1
  have HN2 := Lib.hid hN2
  clear hN1 hN2
  go_enter Try.func17, Try.ntmps17
  go_wp2_with fail
  go_loopw [13] (fun i wr => ∃ k : Int, 0 ≤ k ∧ k ≤ 3 ∧ i = .int .i64 k ∧ Below w.heap.size w wr ∧ Hid (2 ≤ k → ∀ x ∈ a1, x.tok ≠ tok) ∧ Hid (3 ≤ k → ∀ x ∈ a2, x.tok ≠ tok)) (fun i _ => 3 - (intOf i).toNat)
  case atStart => exact ⟨0, by omega, by omega, rfl, Below.refl _ _, Lib.hid (fun h => by omega), Lib.hid (fun h => by omega)⟩
  case round =>
    obtain ⟨k, hk0, hk3, rfl, hbel, hd1, hd2⟩ := hrel
    rcases (by omega : k = 0 ∨ k = 1 ∨ k = 2 ∨ k = 3) with rfl | rfl | rfl | rfl
    · go_wp2_with (go_at_call 35; refine (S0.out _ hbel).mono ?_; rintro e w5 ⟨q, rfl, hb5⟩)
      refine ⟨⟨1, by omega, by omega, rfl, Fr.below_join hbel hb5, Lib.hid (fun h => by omega), Lib.hid (fun h => by omega)⟩, ?_⟩
      simp [intOf]
    · go_wp2_with (go_at_call 35; refine (S1.out _ hbel).mono ?_; rintro e w5 (⟨q, rfl, hn, hb5⟩ | ⟨q, g, rfl, rfl, hq, hk, hb5⟩))
      · refine ⟨⟨2, by omega, by omega, rfl, Fr.below_join hbel hb5, Lib.hid (fun _ => hn.out), Lib.hid (fun h => by omega)⟩, ?_⟩
        simp [intOf]
      · have hbw := Fr.below_join hbel hb5
        have hbd : Below w.heap.size w w5.drew := Fr.below_join hbw (Fr.below_drew1 _)
        have CE := Lib.hid (CD.out g N1 c1 q a1 w5.drew HN1.out.symm hq (by omega) (by have := (H.out.below hbd).row1; rw [HR1.out, HN1.out] at this; exact this))
        have HBD := Lib.hid hbd
        have hwq : IntKind.i64.wrap ((q : Int) + 1) = (q : Int) + 1 := by rw [IntKind.wrap_i64]; omega
        clear hbel hb5 hbw hbd
        go_region_with (go_at_call 37; (try rw [hwq]); (with_reducible refine CE.out.mono ?_); rintro e w6 ⟨rfl, hown, hbs⟩; obtain ⟨m1, m2, m3, m4⟩ := Fr.cancel_end1 H.out HO.out hT HBD.out hbs HR1.out hown (by rw [List.length_append, List.length_take, List.length_drop]; have := HN1.out; omega) (by have := HN1.out; omega); rw [HR1.out] at m1; have HM3 := Lib.hid m3; have HM4 := Lib.hid m4; clear hown hbs m3 m4)
        go_wp2
        go_ret
        have hq1 : q < a1.length := by have := HN1.out; omega
        refine ⟨.slice (some ⟨g, 0, none⟩) (N1 - 1) c1, _, ret_bool' (decide_eq_true ⟨el a1 q, List.mem_append_left _ (el_mem hq1), hk.out⟩).symm, ?_, HM4.out, by rw [HR1.out]; rfl, rfl⟩
        rw [keep_at H1.out hq1 hk.out, keep_all (L := a2) (fun x hx e => H12.out _ (el_mem hq1) x hx (by rw [hk.out, e]))]
        exact HM3.out
    · go_wp2_with (go_at_call 35; refine (S2.out _ hbel).mono ?_; rintro e w5 (⟨q, rfl, hn, hb5⟩ | ⟨q, g, rfl, rfl, hq, hk, hb5⟩))
      · refine ⟨⟨3, by omega, by omega, rfl, Fr.below_join hbel hb5, Lib.hid (fun _ => hd1.out (by omega)), Lib.hid (fun _ => hn.out)⟩, ?_⟩
        simp [intOf]
      · have hbw := Fr.below_join hbel hb5
        have hbd : Below w.heap.size w w5.drew := Fr.below_join hbw (Fr.below_drew1 _)
        have CE := Lib.hid (CD.out g N2 c2 q a2 w5.drew HN2.out.symm hq (by omega) (by have := (H.out.below hbd).row2; rw [HR2.out, HN2.out] at this; exact this))
        have HBD := Lib.hid hbd
        have hwq : IntKind.i64.wrap ((q : Int) + 1) = (q : Int) + 1 := by rw [IntKind.wrap_i64]; omega
        clear hbel hb5 hbw hbd
        go_region_with (go_at_call 37; (try rw [hwq]); (with_reducible refine CE.out.mono ?_); rintro e w6 ⟨rfl, hown, hbs⟩; obtain ⟨m1, m2, m3, m4⟩ := Fr.cancel_end2 H.out HO.out hT HBD.out hbs HR2.out hown (by rw [List.length_append, List.length_take, List.length_drop]; have := HN2.out; omega) (by have := HN2.out; omega); rw [HR2.out] at m1; have HM3 := Lib.hid m3; have HM4 := Lib.hid m4; clear hown hbs m3 m4)
        go_wp2
        go_ret
        have hq1 : q < a2.length := by have := HN2.out; omega
        refine ⟨_, .slice (some ⟨g, 0, none⟩) (N2 - 1) c2, ret_bool' (decide_eq_true ⟨el a2 q, List.mem_append_right _ (el_mem hq1), hk.out⟩).symm, ?_, HM4.out, rfl, by rw [HR2.out]; rfl⟩
        rw [keep_at H2.out hq1 hk.out, keep_all (L := a1) (hd1.out (by omega))]
        exact HM3.out
    · go_wp2
      go_ret
      have hno : ¬ ∃ x ∈ a1 ++ a2, x.tok = tok := by
        rintro ⟨x, hx, e⟩
        rcases List.mem_append.1 hx with h | h
        · exact hd1.out (by omega) x h e
        · exact hd2.out (by omega) x h e
      refine ⟨_, _, ret_bool' (decide_eq_false hno).symm, ?_, Beside.ofBelow hbel, rfl, rfl⟩
      rw [keep_all (hd1.out (by omega)), keep_all (hd2.out (by omega))]
      exact H.out.below hbel
end Go.Proofs.Ytpdlholoeaphgaa
