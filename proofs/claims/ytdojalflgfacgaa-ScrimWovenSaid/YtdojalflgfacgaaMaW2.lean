/- Contract of match's Pair. -/
import Derived.Test.YtdojalflgfacgaaMaW1
namespace Go.Proofs.Ytdojalflgfacgaa
open Go.RowKit Ma
/-- by names: who of the first k old ones has the name -/
noncomputable def plF (old : List Kd) (k : Nat) (x : Kd × Nat) : Option Value := open Classical in if h : ∃ j, j < k ∧ nm old j = x then some (.int .i64 ((Classical.choose h : Nat) : Int)) else none
theorem plF_yes {old : List Kd} {k j : Nat} {x : Kd × Nat} (hk : k ≤ old.length) (hj : j < k) (h : nm old j = x) : plF old k x = some (.int .i64 (j : Int)) := by
  have hx : ∃ j, j < k ∧ nm old j = x := ⟨j, hj, h⟩
  unfold plF
  rw [dif_pos hx]
  have h1 := Classical.choose_spec hx
  rw [nm_inj old (by omega) (by omega) (h1.2.trans h.symm)]
theorem plF_no {old : List Kd} {k : Nat} {x : Kd × Nat} (h : ∀ j, j < k → nm old j ≠ x) : plF old k x = none := by
  unfold plF
  rw [dif_neg (fun ⟨j, h1, h2⟩ => h j h1 h2)]
theorem plF_next {old : List Kd} {k : Nat} (hk : k < old.length) : (fun x => if x = nm old k then some (Value.int .i64 (k : Int)) else plF old k x) = plF old (k + 1) := by
  funext x
  by_cases e : x = nm old k
  · rw [if_pos e, plF_yes (by omega) (show k < k + 1 by omega) e.symm]
  · rw [if_neg e]
    by_cases h : ∃ j, j < k ∧ nm old j = x
    · obtain ⟨j, h1, h2⟩ := h
      rw [plF_yes (by omega) h1 h2, plF_yes (by omega) (show j < k + 1 by omega) h2]
    · rw [plF_no (fun j h1 h2 => h ⟨j, h1, h2⟩), plF_no (fun j h1 h2 => ?_)]
      by_cases ej : j = k
      · subst ej; exact e h2.symm
      · exact h ⟨j, by omega, h2⟩
theorem plF_pair (old new : List Kd) (i : Nat) : (plF old old.length (nm new i) = none ∧ pairF old new i = -1) ∨ plF old old.length (nm new i) = some (.int .i64 (pairF old new i)) := by
  rcases pairF_is old new i with ⟨h1, h2⟩ | ⟨j, h1, h2, h3⟩
  · exact .inl ⟨plF_no h2, h1⟩
  · exact .inr (by rw [plF_yes (Nat.le_refl _) h1 h3, h2])
def pTo (p : Nat → Int) (k n : Nat) : List Int := (List.range k).map p ++ List.replicate (n - k) 0
theorem pTo_len (p : Nat → Int) (k n : Nat) (h : k ≤ n) : (pTo p k n).length = n := by simp [pTo]; omega
theorem pTo_set (p : Nat → Int) (k n : Nat) (h : k < n) : (pTo p k n).set k (p k) = pTo p (k + 1) n := by
  apply List.ext_getElem?
  intro j
  unfold pTo
  rw [List.getElem?_set]
  simp only [List.length_append, List.length_map, List.length_range, List.length_replicate]
  by_cases hj : k = j
  · subst hj
    rw [if_pos rfl, if_pos (by omega), List.getElem?_append_left (by simp)]
    simp
  · rw [if_neg hj]
    by_cases hjk : j < k
    · rw [List.getElem?_append_left (by simpa using hjk), List.getElem?_append_left (by simp; omega)]
      simp [hjk, show j < k + 1 by omega]
    · rw [List.getElem?_append_right (by simp; omega), List.getElem?_append_right (by simp; omega)]
      simp only [List.length_map, List.length_range, List.getElem?_replicate]
      by_cases hjn : j < n
      · rw [if_pos (by omega), if_pos (by omega)]
      · rw [if_neg (by omega), if_neg (by omega)]
theorem pTo_all (p : Nat → Int) (n : Nat) : pTo p n n = (List.range n).map p := by simp [pTo]
theorem iv_set (l : List Int) (k : Nat) (x : Int) : iv (l.set k x) = (iv l).set k (.int .i64 x) := by simp [iv, List.map_set]
theorem iv_zero (p : Nat → Int) (n : Nat) : iv (pTo p 0 n) = (madeCells #[.int .i64 0] (n * 1)).toList := by rw [Nat.mul_one, toList_madeCells_one]; simp [iv, pTo]
theorem at_names {w : World} {A : Option Addr} {L : List Kd} {n : Nat} (h : At w A (nc ((List.range n).map (nm L)))) {k : Nat} (hk : k < n) :
    ∃ b off, A = some ⟨b, off, none⟩ ∧ b < w.heap.size ∧ w.cell? ⟨b, off + k * 3, none⟩ = some (.int .i64 (g L k).1) ∧ w.cell? ⟨b, off + k * 3 + 1, none⟩ = some (.string (g L k).2) ∧ w.cell? ⟨b, off + k * 3 + 2, none⟩ = some (.int .i64 (cnt L k (canon (g L k)) : Int)) := by
  have h1 := at_name h (k := k) (by simpa using hk)
  simp only [List.getElem_map, List.getElem_range] at h1
  exact h1
/-- a map's store, its look-up, at the operation -/
theorem wpList_store_of {α : Type} [DecidableEq α] {P : Program} {w : World} {ops : Array Oper} {rest : List Oper} {o : Oper} {a : Act} {Q : Exit → Act → World → Prop} {kv : α → Value} {kl : α → Lit} {ok : α → Prop} (hg : o.guard = none) (m x v : Operand) (t K E : TypeId) (hop : o.op = Op.mapUpdate t m x v)
    (W : Way P K kv kl ok) (ht : P.underlying t = some (.map K E)) (b n : Nat) (f : α → Option Value) (hm : a.eval m = .map (some b)) (h : MapOf P K kl ok w b f n) (hn : n < maxLen) (i : α) (hi : ok i) (val : Value)
    (hx : a.eval x = kv i) (hv : a.eval v = val) (hK : ∀ w', MapOf P K kl ok w' b (fun j => if j = i then some val else f j) (if (f i).isSome then n else n + 1) → w.grownBy w' (some b) → w'.heap.size = w.heap.size → wpList P ops Q rest (a.put o.dst undef) w') : wpList P ops Q (o :: rest) a w :=
  wpList_plain hg fun K' hK' => by
    obtain ⟨w', hrun, r1, r2, r3⟩ := h.store W ht hn i hi val
    have h3 := hK' _ _ (hK w' r1 r2 r3)
    unfold Oper.wp
    simp [execOp, hop, hm, hx, hv, hrun, Result.andThen]
    exact h3
theorem wpList_lookok_of {α : Type} {P : Program} {w : World} {ops : Array Oper} {rest : List Oper} {o : Oper} {a : Act} {Q : Exit → Act → World → Prop} {kv : α → Value} {kl : α → Lit} {ok : α → Prop} (hg : o.guard = none) (m x : Operand) (t K E : TypeId) (hop : o.op = Op.lookup t m x true)
    (W : Way P K kv kl ok) (ht : P.underlying t = some (.map K E)) {z0 : Value} (hz : ∀ w, (zeroValue E).run P w = .ok z0 w) (b n : Nat) (f : α → Option Value) (hm : a.eval m = .map (some b)) (h : MapOf P K kl ok w b f n) (i : α) (hi : ok i)
    (hx : a.eval x = kv i) (v : Value) (c : Bool) (hv : (f i).getD z0 = v) (hc : (f i).isSome = c) (hK : wpList P ops Q rest (a.put o.dst (.tuple #[v, .bool c])) w) : wpList P ops Q (o :: rest) a w :=
  wpList_plain hg fun K' hK' => by
    have hrun := h.look_ok W ht hz i hi
    rw [hv, hc] at hrun
    have h3 := hK' _ _ hK
    unfold Oper.wp
    simp [execOp, hop, hm, hx, hrun, Result.andThen]
    exact h3
set_option maxHeartbeats 2000000 in
set_option maxRecDepth 100000 in
theorem pair_any (A B : Option Addr) (n c m d : Nat) (old new : List Kd) (w : World) (hn : n = old.length) (hm : m = new.length) (h1 : n ≤ 100000) (h2 : m ≤ 100000) (ha : At w A (kc old)) (hb : At w B (kc new)) (ho : ∀ k ∈ old, OkK k) (hw : ∀ k ∈ new, OkK k) :
    Calls Try.prog 13 #[.slice A n c, .slice B m d] w fun e w' => ∃ v, e = .returned v ∧ w'.ownsRow w.heap.size 3 1 v m (iv (pairs old new)) ∧ Below w.heap.size w w' := by
  have HN := Lib.hid hn
  have HM := Lib.hid hm
  have HO := Lib.hid ho
  have HW := Lib.hid hw
  have C1 := fun W (hW : Below w.heap.size w W) => names_any A n c old W hn h1 (ha.below hW) ho
  have C2 := fun W (hW : Below w.heap.size w W) => names_any B m d new W hm h2 (hb.below hW) hw
  have hmm := @run_makeMap Try.prog
  obtain ⟨i0, hi, hz0, hz1, hz2⟩ := info_parts infoInt
  clear hn hm ha hb ho hw
  go_enter Try.func13, Try.ntmps13
  go_wp2_with fail
  refine (C1 _ (below_alloc _ _)).mono ?_
  rintro e w6 ⟨v, rfl, hown, hb6⟩
  have HO6 := Lib.hid hown
  have HB6 := Lib.hid hb6
  clear hown hb6
  obtain ⟨A6, c6, rfl, hc6, hm6⟩ := own_slice HO6.out
  have HT6 := Lib.hid (At.own HO6.out)
  have HF6 := Lib.hid (own_from HO6.out)
  have HM6 : Hid (MapOf Try.prog 72 nmL OkN w6 w.heap.size (plF old 0) 0) := ((MapOf.made _ _ _ _ _).congr (fun a _ => (plF_no (fun j h => absurd h (Nat.not_lt_zero _))).symm)).below HB6.out
  have HW6 : Hid (Below w.heap.size w w6) := (below_alloc w _).trans (HB6.out.mono (below_alloc w (.map #[] 0)).size)
  have hl6 : w.heap.size < w6.heap.size := HM6.out.lt
  clear HO6 HB6
  go_wp2
  go_loopw [17] (fun i wr => ∃ k q : Nat, k ≤ n ∧ q ≤ k ∧ i = .int .i64 k ∧ Hid (MapOf Try.prog 72 nmL OkN wr w.heap.size (plF old k) q) ∧ Hid (w6.grownBy wr (some w.heap.size)) ∧ Hid (Below w.heap.size w wr)) (fun i _ => n - (intOf i).toNat)
  case atStart => exact ⟨0, 0, Nat.zero_le _, Nat.le_refl _, rfl, HM6, World.grownBy.refl _ _, HW6⟩
  case round =>
    obtain ⟨k, q, hk, hq, rfl, hmap, hgr, hbel⟩ := hrel
    by_cases hlt : k < n
    · obtain ⟨b1, o1, rfl, hb1, hc1, hc2, hc3⟩ := at_names HT6.out hlt
      have hne : b1 ≠ w.heap.size := by have := HF6.out b1 rfl; simp at this; omega
      have hd1 : wr.cell? ⟨b1, o1 + k * 3, none⟩ = _ := hgr.out.cell hc1 (by intro e; injection e with e; exact hne e)
      have hd2 : wr.cell? ⟨b1, o1 + k * 3 + 1, none⟩ = _ := hgr.out.cell hc2 (by intro e; injection e with e; exact hne e)
      have hd3 : wr.cell? ⟨b1, o1 + k * 3 + 2, none⟩ = _ := hgr.out.cell hc3 (by intro e; injection e with e; exact hne e)
      have hk' : k < old.length := by have := HN.out; omega
      have hOk : OkN (nm old k) := ⟨HO.out _ (by show g old k ∈ old; rw [g_eq old k hk']; exact List.getElem_mem _), by
        have := cnt_le old (canon (g old k)) k
        show cnt old k (canon (g old k)) ≤ maxLen
        unfold maxLen
        omega⟩
      have hnx := plF_next hk'
      have hnm : nm old k = (g old k, cnt old k (canon (g old k))) := rfl
      rw [hnm] at hOk hnx
      generalize cnt old k (canon (g old k)) = y at *
      generalize g old k = x at *
      obtain ⟨z, s⟩ := x
      have HNX := Lib.hid hnx
      have HOK := Lib.hid hOk
      have VM : Hid (MapOf Try.prog 72 nmL OkN (wr.alloc (.cells #[.int .i64 z, .string s, .int .i64 y] 72)) w.heap.size (plF old k) q) := hmap.out.below (below_alloc wr _)
      have hsz := hbel.out.size
      clear hc1 hc2 hc3 hnx hOk hnm
      go_wp2_with (refine wpList_store_of rfl _ _ _ 68 72 3 rfl nmWay Try.underlying68 w.heap.size q _ rfl VM.out (by unfold maxLen; omega) ((z, s), y) HOK.out (.int .i64 (k : Int)) rfl rfl ?_; intro w8 hm8 hg8 hs8; have M8 := Lib.hid hm8; have G8 := Lib.hid hg8; clear hm8 hg8 hs8)
      have M9 : Hid (∃ q', q' ≤ k + 1 ∧ MapOf Try.prog 72 nmL OkN w8 w.heap.size (plF old (k + 1)) q') := by
        have h9 := M8.out
        rw [HNX.out] at h9
        refine ⟨_, ?_, h9⟩
        split <;> omega
      obtain ⟨q', hq', M9'⟩ := M9.out
      have M10 := Lib.hid M9'
      clear M9'
      go_roundw
      case rel => exact ⟨k + 1, q', by omega, hq', by go_num, M10, (hgr.out.trans (World.grownBy_alloc wr _ _)).trans G8.out, (hbel.out.alloc hsz _).grown G8.out (by simp; omega) (fun p hp => by injection hp with hp; omega)⟩
      case measure => simp [intOf]; omega
    · obtain rfl : k = n := by omega
      obtain ⟨w2, hmk, hrow, hgm⟩ := run_makeSlice_full (P := Try.prog) wr w.heap.size 22 3 i0 (.int .i64 0) 1 Try.underlying22 hi hz0 hz1 .i64 .i64 m (by omega) (by rw [hz2]; omega) (by unfold maxLen; omega) hbel.out.size
      have hl2 : wr.heap.size < w2.heap.size := (hrow.lt _ rfl).2
      have HR2 := Lib.hid hrow
      have HG2 := Lib.hid hgm
      clear hrow hgm
      go_wp2_with fail
      clear hmk
      have HB2 : Hid (Below w.heap.size w w2) := hbel.out.grown HG2.out hbel.out.size (fun p hp => nomatch hp)
      refine (C2 _ HB2.out).mono ?_
      rintro e w7 ⟨v7, rfl, hown7, hb7⟩
      obtain ⟨A7, c7, rfl, hc7, hm7⟩ := own_slice hown7
      have HT7 := Lib.hid (At.own hown7)
      have HF7 := Lib.hid (own_from hown7)
      have HM7 : Hid (MapOf Try.prog 72 nmL OkN w7 w.heap.size (plF old k) q) := (hmap.out.grown HG2.out (by simp)).below hb7
      have HR7 : Hid (w7.ownsRow w.heap.size 3 1 (.slice (some ⟨wr.heap.size, 0, none⟩) m m) m (iv (pTo (pairF old new) 0 m))) := by
        show World.ownsRow _ _ _ _ _ _ _
        rw [iv_zero]
        exact own_below HR2.out hb7
      have HB7 : Hid (Below w.heap.size w w7) := HB2.out.trans (hb7.mono HB2.out.size)
      have hwr : w.heap.size < wr.heap.size := hmap.out.lt
      have hr7 : wr.heap.size < w7.heap.size := (HR7.out.lt _ rfl).2
      have HF8 : Hid (∀ p, (Value.slice A7 m c7).ownBlock = some p → wr.heap.size < p) := fun p hp => Nat.lt_of_lt_of_le hl2 (HF7.out p hp)
      clear hown7 hb7 HR2 HG2 HB2 hmap hgr hbel C1 C2 HF7 hl2
      go_wp2_with fail
      generalize wr.heap.size = rb at *
      go_loopw [32] (fun i wr => ∃ j : Nat, j ≤ m ∧ i = .int .i64 j ∧ Hid (wr.ownsRow w.heap.size 3 1 (.slice (some ⟨rb, 0, none⟩) m m) m (iv (pTo (pairF old new) j m))) ∧ Hid (w7.grownBy wr (some rb))) (fun i _ => m - (intOf i).toNat)
      case atStart => exact ⟨0, Nat.zero_le _, rfl, HR7, World.grownBy.refl _ _⟩
      case round =>
        obtain ⟨j, hj, rfl, hrow, hgr⟩ := hrel
        by_cases hjm : j < m
        · obtain ⟨b1, o1, rfl, hb1, hc1, hc2, hc3⟩ := at_names HT7.out hjm
          have hne : b1 ≠ rb := by have := HF8.out b1 rfl; omega
          have hd1 : wr.cell? ⟨b1, o1 + j * 3, none⟩ = _ := hgr.out.cell hc1 (by intro e; injection e with e; exact hne e)
          have hd2 : wr.cell? ⟨b1, o1 + j * 3 + 1, none⟩ = _ := hgr.out.cell hc2 (by intro e; injection e with e; exact hne e)
          have hd3 : wr.cell? ⟨b1, o1 + j * 3 + 2, none⟩ = _ := hgr.out.cell hc3 (by intro e; injection e with e; exact hne e)
          have hj' : j < new.length := by have := HM.out; omega
          have hOk : OkN (nm new j) := ⟨HW.out _ (by show g new j ∈ new; rw [g_eq new j hj']; exact List.getElem_mem _), by
            have := cnt_le new (canon (g new j)) j
            show cnt new j (canon (g new j)) ≤ maxLen
            unfold maxLen
            omega⟩
          have hpp := plF_pair old new j
          rw [← HN.out] at hpp
          have hps := Lib.hid (pTo_set (pairF old new) j m hjm)
          have hnm : nm new j = (g new j, cnt new j (canon (g new j))) := rfl
          rw [hnm] at hOk hpp
          generalize cnt new j (canon (g new j)) = y at *
          generalize g new j = x at *
          obtain ⟨z, s⟩ := x
          have HOK := Lib.hid hOk
          have VM : Hid (MapOf Try.prog 72 nmL OkN (wr.alloc (.cells #[.int .i64 z, .string s, .int .i64 y] 72)) w.heap.size (plF old k) q) := (HM7.out.grown hgr.out (by intro e; injection e with e; omega)).below (below_alloc wr _)
          have hll : j < (iv (pTo (pairF old new) j m)).length := by rw [iv_len, pTo_len _ _ _ (by omega)]; exact hjm
          obtain ⟨u0, hu0⟩ : ∃ u, (wr.alloc (.cells #[.int .i64 z, .string s, .int .i64 y] 72)).cell? ⟨rb, j, none⟩ = some u := ⟨_, ((hrow.out.alloc _).cellAt j (by omega)).trans (List.getElem?_eq_getElem hll)⟩
          have hf0 : (wr.alloc (.cells #[.int .i64 z, .string s, .int .i64 y] 72)).frozen? ⟨rb, j, none⟩ = false := (hrow.out.alloc _).frozenAt j
          have HFIN : ∀ P : Int, P = pairF old new j → Hid (((wr.alloc (.cells #[.int .i64 z, .string s, .int .i64 y] 72)).setCell ⟨rb, j, none⟩ (.int .i64 P)).ownsRow w.heap.size 3 1 (.slice (some ⟨rb, 0, none⟩) m m) m (iv (pTo (pairF old new) (j + 1) m))) := by
            intro P hP
            show World.ownsRow _ _ _ _ _ _ _
            rw [← hps.out, iv_set, ← hP]
            exact ((hrow.out.alloc _).stored _ _).1
          clear hc1 hc2 hc3 hOk hnm hps hll
          rcases hpp with ⟨hp1, hp2⟩ | hp1
          · have H1 := Lib.hid hp1
            have HF := HFIN (-1) hp2.symm
            clear hp1 hp2 HFIN
            go_wp2_with (refine wpList_lookok_of rfl _ _ 68 72 3 rfl nmWay Try.underlying68 zeroI w.heap.size q _ rfl VM.out ((z, s), y) HOK.out rfl (.int .i64 0) false (by rw [H1.out]; rfl) (by rw [H1.out]; rfl) ?_)
            go_roundw
            case rel => exact ⟨j + 1, by omega, by go_num, HF, (hgr.out.trans (World.grownBy_alloc wr _ _)).trans ((hrow.out.alloc _).stored _ _).2⟩
            case measure => simp [intOf]; omega
          · have H1 := Lib.hid hp1
            have HF := HFIN _ rfl
            clear hp1 HFIN
            generalize pairF old new j = P at *
            go_wp2_with (refine wpList_lookok_of rfl _ _ 68 72 3 rfl nmWay Try.underlying68 zeroI w.heap.size q _ rfl VM.out ((z, s), y) HOK.out rfl (.int .i64 P) true (by rw [H1.out]; rfl) (by rw [H1.out]; rfl) ?_)
            go_roundw
            case rel => exact ⟨j + 1, by omega, by go_num, HF, (hgr.out.trans (World.grownBy_alloc wr _ _)).trans ((hrow.out.alloc _).stored _ _).2⟩
            case measure => simp [intOf]; omega
        · obtain rfl : j = m := by omega
          go_wp2
          go_ret
          exact ⟨_, rfl, by have h9 := hrow.out; rw [pTo_all] at h9; unfold pairs; rw [← HM.out]; exact h9, HB7.out.grown hgr.out HB7.out.size (fun p hp => by injection hp with hp; omega)⟩
end Go.Proofs.Ytdojalflgfacgaa
