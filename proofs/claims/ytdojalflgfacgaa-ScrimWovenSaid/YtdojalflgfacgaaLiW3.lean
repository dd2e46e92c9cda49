/- Contract of lis.Of. -/
import Derived.Test.YtdojalflgfacgaaLiW2
import Derived.Maps.Own
namespace Go.Proofs.Ytdojalflgfacgaa
open Go.RowKit Li
theorem spot_is {L : Nat → Int} {es : List Nat} (h : ∀ a b, a < b → b < es.length → L (es.getD a 0) < L (es.getD b 0)) (x : Int) : ∃ a, Spot L es x a := by
  have key : ∀ n, n ≤ es.length → ∃ a, a ≤ n ∧ (∀ m, m < a → L (es.getD m 0) < x) ∧ (∀ m, a ≤ m → m < n → ¬ L (es.getD m 0) < x) := by
    intro n
    induction n with
    | zero => intro _; exact ⟨0, Nat.le_refl _, fun m hm => absurd hm (Nat.not_lt_zero _), fun m _ hm => absurd hm (Nat.not_lt_zero _)⟩
    | succ n ih =>
      intro hn
      obtain ⟨a, h1, h2, h3⟩ := ih (by omega)
      by_cases hx : L (es.getD n 0) < x
      · refine ⟨n + 1, Nat.le_refl _, fun m hm => ?_, fun m h4 h5 => by omega⟩
        by_cases hmn : m = n
        · rw [hmn]; exact hx
        · have := h m n (by omega) (by omega); omega
      · refine ⟨a, by omega, h2, fun m h4 h5 => ?_⟩
        by_cases hmn : m = n
        · rw [hmn]; exact hx
        · exact h3 m h4 (by omega)
  obtain ⟨a, h1, h2, h3⟩ := key es.length (Nat.le_refl _)
  exact ⟨a, h1, h2, fun m h4 h5 => h3 m h4 h5⟩
theorem spot_uniq {L : Nat → Int} {es : List Nat} {x : Int} {a b : Nat} (h : Spot L es x a) (h' : Spot L es x b) : a = b := by
  rcases Nat.lt_trichotomy a b with h1 | h1 | h1
  · exact absurd (h'.2.1 a h1) (h.2.2 a (Nat.le_refl _) (by have := h'.1; omega))
  · exact h1
  · exact absurd (h.2.1 b h1) (h'.2.2 b (Nat.le_refl _) (by have := h.1; omega))
theorem search_at (A B : Option Addr) (n c m d lb a : Nat) (t : Bool) (es : List Nat) (l : List Int) (x : Int) (w : World) (hn : n = es.length) (hb : n ≤ 100000) (ha : At w A (nv es)) (hm : m = l.length) (hl : w.cell? ⟨lb, 0, none⟩ = some (.slice B m d)) (hB : At w B (iv l))
    (hlt : ∀ k, k < es.length → es.getD k 0 < l.length) (hmono : ∀ a b, a < b → b < es.length → ats l (es.getD a 0) < ats l (es.getD b 0)) (hS : Spot (ats l) es x a) (ht : t = decide (a < n ∧ ats l (es.getD a 0) = x)) :
    Calls Try.prog 40 #[.slice A n c, .int .i64 x, .func (.func 41) #[] #[.pointer (some ⟨lb, 0, none⟩)]] w fun e w' =>
      e = .returned (.tuple #[.int .i64 a, .bool t]) ∧ w = w' := by
  refine (search_any A B n c m d lb es l x w hn hb ha hm hl hB hlt hmono).mono ?_
  rintro e w' ⟨k, rfl, hk, rfl⟩
  obtain rfl := spot_uniq hS hk.out
  exact ⟨by rw [ht], rfl⟩
theorem infoInt : (Try.prog.info? 3).map (fun i => (i.zero, i.size, i.bytes)) = some (some (.int .i64 0), 1, 8) := by kernel_rfl
/-- what the loop keeps -/
structure Kept (w wr : World) (A : Option Addr) (n c : Nat) (l : List Int) (k j : Nat) (vE : Value) (es bs : List Nat) : Prop where
  ends : Li.Ends (ats l) k es
  befs : Befores (ats l) j bs
  len : bs.length = n
  own : wr.ownsRow (w.heap.size + 2) 3 1 vE es.length (nv es)
  bown : wr.ownsRow w.heap.size 3 1 (.slice (some ⟨w.heap.size + 1, 0, none⟩) n n) n (nv bs)
  below : Below w.heap.size w wr
  box : wr.cell? ⟨w.heap.size, 0, none⟩ = some (.slice A n c)
section
variable {w wr : World} {A : Option Addr} {n c k j : Nat} {l : List Int} {vE : Value} {es bs : List Nat}
theorem Kept.lts (h : Kept w wr A n c l k j vE es bs) : ∀ j, j < es.length → es.getD j 0 < k := fun j hj => (h.ends.2 j hj).1
theorem Kept.before (h : Kept w wr A n c l k k vE es bs) (s : Spot (ats l) es (ats l k) 0) : Kept w wr A n c l k (k + 1) vE es bs :=
  ⟨h.ends, h.befs.keep h.ends s, h.len, h.own, h.bown, h.below, h.box⟩
theorem Kept.ne (h : Kept w wr A n c l k j vE es bs) {q : Nat} (hq : q < w.heap.size + 2) : some q ≠ vE.ownBlock := fun e => by
  have := own_from h.own q e.symm
  omega
theorem Kept.beforePut {p : Nat} (h : Kept w wr A n c l k k vE es bs) (s : Spot (ats l) es (ats l k) (p + 1)) (hk : k < n) :
    Kept w (wr.setCell ⟨w.heap.size + 1, k, none⟩ (.int .i64 ((es.getD p 0 : Nat) : Int))) A n c l k (k + 1) vE es (bs.set k (es.getD p 0)) := by
  have hst := h.bown.stored k (.int .i64 ((es.getD p 0 : Nat) : Int))
  refine ⟨h.ends, h.befs.put h.ends s (Nat.succ_pos _) (by rw [h.len]; exact hk), by rw [List.length_set]; exact h.len, h.own.kept hst.2 (.inr (h.ne (by omega)).symm), by rw [nv_set]; exact hst.1, h.below.grown hst.2 h.below.size (fun q hq => by injection hq with hq; omega), ?_⟩
  exact hst.2.cell h.box (by simp)
theorem Kept.append {w' : World} {v' : Value} {o : Obj} (h : Kept w wr A n c l k (k + 1) vE es bs) (s : Spot (ats l) es (ats l k) es.length) (hown : w'.ownsRow (w.heap.size + 2) 3 1 v' (es.length + 1) (nv es ++ [.int .i64 (k : Int)])) (hg : (wr.alloc o).grownBy w' vE.ownBlock) :
    Kept w w' A n c l (k + 1) (k + 1) v' (es ++ [k]) bs := by
  have hsz := h.below.size
  refine ⟨h.ends.append s, h.befs, h.len, by rw [List.length_append, nv_app]; exact hown, (h.bown.alloc _).kept hg (.inr fun e => ?_), (h.below.alloc hsz _).grown hg (by simp; omega) (fun q hq => by have := own_from h.own q hq; omega), ?_⟩
  · exact h.ne (q := w.heap.size + 1) (by omega) e
  · exact hg.cell (Lib.cell?_alloc_some _ h.box) (h.ne (q := w.heap.size) (by omega))
theorem Kept.put {g m cE a : Nat} (h : Kept w wr A n c l k (k + 1) (.slice (some ⟨g, 0, none⟩) m cE) es bs) (hm : m = es.length) (s : Spot (ats l) es (ats l k) a) (ha : a < es.length) (hlt : ats l k < ats l (es.getD a 0)) :
    Kept w (wr.setCell ⟨g, a, none⟩ (.int .i64 (k : Int))) A n c l (k + 1) (k + 1) (.slice (some ⟨g, 0, none⟩) m cE) (es.set a k) bs := by
  subst hm
  have hst := h.own.stored a (.int .i64 (k : Int))
  have hg := own_from h.own g rfl
  refine ⟨h.ends.put s ha hlt, h.befs, h.len, by rw [nv_set, List.length_set]; exact hst.1, h.bown.kept hst.2 (.inr fun e => ?_), h.below.grown hst.2 h.below.size (fun q hq => by injection hq with hq; omega), ?_⟩
  · simp only [Value.ownBlock, Option.some.injEq] at e
    omega
  · refine hst.2.cell h.box (fun e => ?_)
    injection e with e
    simp only at e
    omega
theorem Kept.keep {a : Nat} (h : Kept w wr A n c l k (k + 1) vE es bs) (s : Spot (ats l) es (ats l k) a) (ha : a < es.length) (he : ats l (es.getD a 0) = ats l k) : Kept w wr A n c l (k + 1) (k + 1) vE es bs :=
  ⟨h.ends.keep s ha he, h.befs, h.len, h.own, h.bown, h.below, h.box⟩
end
set_option maxHeartbeats 4000000 in
set_option maxRecDepth 100000 in
theorem of_any (A : Option Addr) (n c : Nat) (l : List Int) (w : World) (hn : n = l.length) (hm : n ≤ 1000) (ha : At w A (iv l)) :
    Calls Try.prog 35 #[.slice A n c] w fun e w' => ∃ v r, e = .returned v ∧ Hid (IsRow (ats l) n r) ∧ w'.ownsRow w.heap.size 3 1 v r.length (nv r) ∧ Below w.heap.size w w' := by
  have HN := Lib.hid hn
  have HA := Lib.hid ha
  obtain ⟨i0, hi, hz0, hz1, hz2⟩ := info_parts infoInt
  obtain ⟨w2, hmk, hrow, hgr⟩ := run_makeSlice_full (P := Try.prog) (w.alloc (.cells #[.slice A n c] 22)) w.heap.size 22 3 i0 (.int .i64 0) 1 Try.underlying22 hi hz0 hz1 .i64 .i64 n (by omega) (by rw [hz2]; omega) (by unfold maxLen; omega) (by simp)
  have hsz1 : (w.alloc (.cells #[.slice A n c] 22)).heap.size = w.heap.size + 1 := by simp
  rw [hsz1] at hmk hrow
  have K0 : Hid (Kept w w2 A n c l 0 0 (.slice none 0 0) [] (List.replicate n 0)) := by
    refine ⟨Ends.nil _, Befores.nil _ _, by simp, World.ownsRow_nil _ _ _ _, ?_, ((below_alloc w _).grown hgr (by simp) (fun q hq => nomatch hq)), ?_⟩
    · have e : nv (List.replicate n 0) = (madeCells (Value.int .i64 0).cells (n * 1)).toList := by
        show _ = (madeCells #[.int .i64 0] (n * 1)).toList
        rw [Nat.mul_one, toList_madeCells_one]
        simp [nv]
      rw [e]
      exact hrow
    · exact hgr.cell (a := ⟨w.heap.size, 0, none⟩) (by simp) (by simp)
  have hbox := K0.out.box
  clear hn ha hrow hgr hsz1
  go_enter Try.func35, Try.ntmps35
  go_wp2
  clear hbox hmk
  go_loopw [3, 14] (fun v i wr => ∃ (k : Nat) (es bs : List Nat), k ≤ n ∧ i = .int .i64 k ∧ Hid (Kept w wr A n c l k k v es bs)) (fun _ i _ => n - (intOf i).toNat)
  case atStart => exact ⟨0, [], _, Nat.zero_le _, rfl, K0⟩
  case round =>
    obtain ⟨k, es, bs, hk, rfl, hkept⟩ := hrel
    by_cases hlt : k < n
    · have hk' : k < l.length := by have := HN.out; omega
      obtain ⟨a, hS⟩ := spot_is hkept.out.ends.mono2 (ats l k)
      obtain ⟨b1, o1, rfl, hb1, hc1⟩ := HA.out.one (iv_at l k hk')
      have hc := (below_cells hkept.out.below).1 b1 (o1 + k) hb1
      rw [hc1] at hc
      have HC1 := Lib.hid hc1
      clear hc1
      obtain ⟨AE, cE, rfl, hcE, hcE2⟩ := own_slice hkept.out.own
      have HS := Lib.hid hS
      obtain ⟨x, hx⟩ : ∃ x, x = ats l k := ⟨_, rfl⟩
      rw [← hx] at hc hS
      obtain ⟨t, ht⟩ : ∃ t, t = decide (a < es.length ∧ ats l (es.getD a 0) = x) := ⟨_, rfl⟩
      have hes : es.length ≤ n := by have := hkept.out.ends.1; have := top_le (ats l) k; omega
      have HSR := Lib.hid (search_at AE (some ⟨b1, o1, none⟩) es.length cE n c w.heap.size a t es l x wr rfl (by omega) (At.own hkept.out.own) HN.out hkept.out.box (HA.out.below hkept.out.below) (fun j hj => by have := hkept.out.lts j hj; omega) hkept.out.ends.mono2 hS ht)
      have HX := Lib.hid hx
      have HT := Lib.hid ht
      have hwr := hkept.out.below.size
      have hwr2 : w.heap.size + 2 ≤ wr.heap.size := (hkept.out.bown.lt _ rfl).2
      have hsa := hS.1
      have HOW := Lib.hid hkept.out.own
      have HB := Lib.hid hkept.out.bown
      clear ht hS hx
      by_cases ha0 : a = 0
      · subst ha0
        by_cases hma : 0 = es.length
        · have K1 := Lib.hid (hkept.out.before HS.out)
          have HOW2 := HOW
          have htf : t = false := by have := HT.out; rw [this, decide_eq_false_iff_not]; omega
          subst htf
          have HMA := Lib.hid hma
          have hmz : ((0 : Int) == (es.length : Int)) = true := by rw [beq_iff_eq]; omega
          clear hma
          go_wp2_with (first | (go_at_call 40; refine HSR.out.mono ?_; rintro e w6 ⟨rfl, rfl⟩) | (at_builtin; refine wpList_append_own _ rfl _ _ 22 rfl (w.heap.size + 2) 3 i0 (.int .i64 0) 1 8 Try.underlying22 hi hz0 hz1 hz2 rfl (by decide) _ _ _ rfl (HOW2.out.alloc _) ⟨_, 0, none⟩ 1 1 [.int .i64 (k : Int)] rfl rfl (cell_one_new _ _ _) (nv_one [k]) (by unfold maxLen; omega) (by omega) (by simp; omega) ?_; intro v1 w1 hown1 hgrow1 _hnil1; have HO := Lib.hid hown1; have HG := Lib.hid hgrow1; clear hown1 hgrow1 _hnil1))
          go_roundw
          case rel => exact ⟨k + 1, es ++ [k], bs, by omega, by go_num, by show Kept _ _ _ _ _ _ _ _ _ _ _; refine K1.out.append (by have h5 := HS.out; have h6 := HMA.out; rw [h6] at h5; exact h5) HO.out HG.out⟩
          case measure => simp [intOf]; omega
        · have hmp : 0 < es.length := by omega
          by_cases hxe0 : ats l (es.getD 0 0) = x
          · have hxe := Lib.hid hxe0
            clear hxe0
            have K1 := Lib.hid (hkept.out.before HS.out)
            have HOW2 := HOW
            obtain ⟨gE, cE', hv, hg1, hg2, hg3, hg4⟩ := own_hd HOW.out (by omega)
            injection hv with hv1 _ hv3
            subst hv1 hv3
            obtain ⟨y1, hy1⟩ : ∃ y, y = es.getD 0 0 := ⟨_, rfl⟩
            have hca : wr.cell? ⟨gE, 0, none⟩ = some (.int .i64 (y1 : Int)) := by rw [HOW.out.cellAt _ (by omega), nv_at _ _ (by omega), hy1]
            have hza := HOW.out.frozenAt 0
            have htf : t = true := by rw [HT.out, decide_eq_true_iff]; exact ⟨by omega, hxe.out⟩
            subst htf
            have hmz : ((0 : Int) == (es.length : Int)) = false := by rw [beq_eq_false_iff_ne]; omega
            clear hca hza
            go_wp2_with (first | (go_at_call 40; refine HSR.out.mono ?_; rintro e w6 ⟨rfl, rfl⟩) | (at_builtin; refine wpList_append_own _ rfl _ _ 22 rfl (w.heap.size + 2) 3 i0 (.int .i64 0) 1 8 Try.underlying22 hi hz0 hz1 hz2 rfl (by decide) _ _ _ rfl (HOW2.out.alloc _) ⟨_, 0, none⟩ 1 1 [.int .i64 (k : Int)] rfl rfl (cell_one_new _ _ _) (nv_one [k]) (by unfold maxLen; omega) (by omega) (by simp; omega) ?_; intro v1 w1 hown1 hgrow1 _hnil1; have HO := Lib.hid hown1; have HG := Lib.hid hgrow1; clear hown1 hgrow1 _hnil1))
            go_roundw
            case rel => exact ⟨k + 1, es, bs, by omega, by go_num, Lib.hid (K1.out.keep HS.out (by omega) (by rw [hxe.out, HX.out]))⟩
            case measure => simp [intOf]; omega
          · have hxe := Lib.hid hxe0
            clear hxe0
            have K1 := Lib.hid (hkept.out.before HS.out)
            have HOW2 := HOW
            obtain ⟨gE, cE', hv, hg1, hg2, hg3, hg4⟩ := own_hd HOW.out (by omega)
            injection hv with hv1 _ hv3
            subst hv1 hv3
            obtain ⟨y1, hy1⟩ : ∃ y, y = es.getD 0 0 := ⟨_, rfl⟩
            have hca : wr.cell? ⟨gE, 0, none⟩ = some (.int .i64 (y1 : Int)) := by rw [HOW.out.cellAt _ (by omega), nv_at _ _ (by omega), hy1]
            have hza := HOW.out.frozenAt 0
            have htf : t = false := by rw [HT.out, decide_eq_false_iff_not]; exact fun e => hxe.out e.2
            subst htf
            have hmz : ((0 : Int) == (es.length : Int)) = false := by rw [beq_eq_false_iff_ne]; omega
            go_wp2_with (first | (go_at_call 40; refine HSR.out.mono ?_; rintro e w6 ⟨rfl, rfl⟩) | (at_builtin; refine wpList_append_own _ rfl _ _ 22 rfl (w.heap.size + 2) 3 i0 (.int .i64 0) 1 8 Try.underlying22 hi hz0 hz1 hz2 rfl (by decide) _ _ _ rfl (HOW2.out.alloc _) ⟨_, 0, none⟩ 1 1 [.int .i64 (k : Int)] rfl rfl (cell_one_new _ _ _) (nv_one [k]) (by unfold maxLen; omega) (by omega) (by simp; omega) ?_; intro v1 w1 hown1 hgrow1 _hnil1; have HO := Lib.hid hown1; have HG := Lib.hid hgrow1; clear hown1 hgrow1 _hnil1))
            go_roundw
            case rel => exact ⟨k + 1, es.set 0 k, bs, by omega, by go_num, Lib.hid (K1.out.put rfl HS.out (by omega) (by have h1 := hxe.out; have h2 := HS.out.2.2 0 (Nat.le_refl _) (by omega); have h3 := HX.out; omega))⟩
            case measure => simp [intOf]; omega
      · obtain ⟨p, rfl⟩ : ∃ p, a = p + 1 := ⟨a - 1, by omega⟩
        clear ha0
        by_cases hma : p + 1 = es.length
        · obtain ⟨gE, cE', hv, hg1, hg2, hg3, hg4⟩ := own_hd HOW.out (by omega)
          injection hv with hv1 _ hv3
          subst hv1 hv3
          obtain ⟨y, hy⟩ : ∃ y, y = es.getD p 0 := ⟨_, rfl⟩
          have hcp : wr.cell? ⟨gE, p, none⟩ = some (.int .i64 (y : Int)) := by rw [HOW.out.cellAt _ (by omega), nv_at _ _ (by omega), hy]
          have hpp : ((p : Int) + 1) - 1 = (p : Int) := by omega
          have K1 := Lib.hid (hkept.out.beforePut HS.out hlt)
          rw [← hy] at K1
          clear hy
          have HOW2 := Lib.hid (K1.out.own)
          skip
          have hcb : wr.cell? ⟨w.heap.size + 1, k, none⟩ = some (.int .i64 ((bs.getD k 0 : Nat) : Int)) := by rw [HB.out.cellAt _ (by omega), nv_at _ _ (by have := hkept.out.len; omega)]
          have hzb := HB.out.frozenAt k
          have htf : t = false := by have := HT.out; rw [this, decide_eq_false_iff_not]; omega
          subst htf
          have HMA := Lib.hid hma
          have hle1 : p + 1 ≤ es.length := by omega
          have hle2 : es.length ≤ p + 1 := by omega
          clear hma
          go_wp2_with (first | (go_at_call 40; refine HSR.out.mono ?_; rintro e w6 ⟨rfl, rfl⟩) | (at_builtin; refine wpList_append_own _ rfl _ _ 22 rfl (w.heap.size + 2) 3 i0 (.int .i64 0) 1 8 Try.underlying22 hi hz0 hz1 hz2 rfl (by decide) _ _ _ rfl (HOW2.out.alloc _) ⟨_, 0, none⟩ 1 1 [.int .i64 (k : Int)] rfl rfl (cells_new' _ _ _ _ rfl wr.heap.size (by simp)) (nv_one [k]) (by unfold maxLen; omega) (by omega) (by simp; omega) ?_; intro v1 w1 hown1 hgrow1 _hnil1; have HO := Lib.hid hown1; have HG := Lib.hid hgrow1; clear hown1 hgrow1 _hnil1))
          go_roundw
          case rel => exact ⟨k + 1, es ++ [k], (bs.set k y), by omega, by go_num, by show Kept _ _ _ _ _ _ _ _ _ _ _; refine K1.out.append (by have h5 := HS.out; have h6 := HMA.out; rw [h6] at h5; exact h5) HO.out HG.out⟩
          case measure => simp [intOf]; omega
        · have hmp : p + 1 < es.length := by omega
          by_cases hxe0 : ats l (es.getD (p + 1) 0) = x
          · have hxe := Lib.hid hxe0
            clear hxe0
            obtain ⟨gE, cE', hv, hg1, hg2, hg3, hg4⟩ := own_hd HOW.out (by omega)
            injection hv with hv1 _ hv3
            subst hv1 hv3
            obtain ⟨y, hy⟩ : ∃ y, y = es.getD p 0 := ⟨_, rfl⟩
            have hcp : wr.cell? ⟨gE, p, none⟩ = some (.int .i64 (y : Int)) := by rw [HOW.out.cellAt _ (by omega), nv_at _ _ (by omega), hy]
            have hpp : ((p : Int) + 1) - 1 = (p : Int) := by omega
            have K1 := Lib.hid (hkept.out.beforePut HS.out hlt)
            rw [← hy] at K1
            clear hy
            have HOW2 := Lib.hid (K1.out.own)
            skip
            have hcb : wr.cell? ⟨w.heap.size + 1, k, none⟩ = some (.int .i64 ((bs.getD k 0 : Nat) : Int)) := by rw [HB.out.cellAt _ (by omega), nv_at _ _ (by have := hkept.out.len; omega)]
            have hzb := HB.out.frozenAt k
            obtain ⟨y1, hy1⟩ : ∃ y, y = es.getD (p + 1) 0 := ⟨_, rfl⟩
            have hca : wr.cell? ⟨gE, (p + 1), none⟩ = some (.int .i64 (y1 : Int)) := by rw [HOW.out.cellAt _ (by omega), nv_at _ _ (by omega), hy1]
            have hza := HOW.out.frozenAt (p + 1)
            have hca2 : (wr.setCell ⟨w.heap.size + 1, k, none⟩ (.int .i64 (y : Int))).cell? ⟨gE, (p + 1), none⟩ = some (.int .i64 (y1 : Int)) := by rw [HOW2.out.cellAt _ (by omega), nv_at _ _ (by omega), hy1]
            have hza2 := HOW2.out.frozenAt (p + 1)
            have htf : t = true := by rw [HT.out, decide_eq_true_iff]; exact ⟨by omega, hxe.out⟩
            subst htf
            have hmz : ((p : Int) + 1 == (es.length : Int)) = false := by rw [beq_eq_false_iff_ne]; omega
            clear hca hza
            clear hca2 hza2
            go_wp2_with (first | (go_at_call 40; refine HSR.out.mono ?_; rintro e w6 ⟨rfl, rfl⟩) | (at_builtin; refine wpList_append_own _ rfl _ _ 22 rfl (w.heap.size + 2) 3 i0 (.int .i64 0) 1 8 Try.underlying22 hi hz0 hz1 hz2 rfl (by decide) _ _ _ rfl (HOW2.out.alloc _) ⟨_, 0, none⟩ 1 1 [.int .i64 (k : Int)] rfl rfl (cell_one_new _ _ _) (nv_one [k]) (by unfold maxLen; omega) (by omega) (by simp; omega) ?_; intro v1 w1 hown1 hgrow1 _hnil1; have HO := Lib.hid hown1; have HG := Lib.hid hgrow1; clear hown1 hgrow1 _hnil1))
            go_roundw
            case rel => exact ⟨k + 1, es, (bs.set k y), by omega, by go_num, Lib.hid (K1.out.keep HS.out (by omega) (by rw [hxe.out, HX.out]))⟩
            case measure => simp [intOf]; omega
          · have hxe := Lib.hid hxe0
            clear hxe0
            obtain ⟨gE, cE', hv, hg1, hg2, hg3, hg4⟩ := own_hd HOW.out (by omega)
            injection hv with hv1 _ hv3
            subst hv1 hv3
            obtain ⟨y, hy⟩ : ∃ y, y = es.getD p 0 := ⟨_, rfl⟩
            have hcp : wr.cell? ⟨gE, p, none⟩ = some (.int .i64 (y : Int)) := by rw [HOW.out.cellAt _ (by omega), nv_at _ _ (by omega), hy]
            have hpp : ((p : Int) + 1) - 1 = (p : Int) := by omega
            have K1 := Lib.hid (hkept.out.beforePut HS.out hlt)
            rw [← hy] at K1
            clear hy
            have HOW2 := Lib.hid (K1.out.own)
            skip
            have hcb : wr.cell? ⟨w.heap.size + 1, k, none⟩ = some (.int .i64 ((bs.getD k 0 : Nat) : Int)) := by rw [HB.out.cellAt _ (by omega), nv_at _ _ (by have := hkept.out.len; omega)]
            have hzb := HB.out.frozenAt k
            obtain ⟨y1, hy1⟩ : ∃ y, y = es.getD (p + 1) 0 := ⟨_, rfl⟩
            have hca : wr.cell? ⟨gE, (p + 1), none⟩ = some (.int .i64 (y1 : Int)) := by rw [HOW.out.cellAt _ (by omega), nv_at _ _ (by omega), hy1]
            have hza := HOW.out.frozenAt (p + 1)
            have hca2 : (wr.setCell ⟨w.heap.size + 1, k, none⟩ (.int .i64 (y : Int))).cell? ⟨gE, (p + 1), none⟩ = some (.int .i64 (y1 : Int)) := by rw [HOW2.out.cellAt _ (by omega), nv_at _ _ (by omega), hy1]
            have hza2 := HOW2.out.frozenAt (p + 1)
            have htf : t = false := by rw [HT.out, decide_eq_false_iff_not]; exact fun e => hxe.out e.2
            subst htf
            have hmz : ((p : Int) + 1 == (es.length : Int)) = false := by rw [beq_eq_false_iff_ne]; omega
            go_wp2_with (first | (go_at_call 40; refine HSR.out.mono ?_; rintro e w6 ⟨rfl, rfl⟩) | (at_builtin; refine wpList_append_own _ rfl _ _ 22 rfl (w.heap.size + 2) 3 i0 (.int .i64 0) 1 8 Try.underlying22 hi hz0 hz1 hz2 rfl (by decide) _ _ _ rfl (HOW2.out.alloc _) ⟨_, 0, none⟩ 1 1 [.int .i64 (k : Int)] rfl rfl (cell_one_new _ _ _) (nv_one [k]) (by unfold maxLen; omega) (by omega) (by simp; omega) ?_; intro v1 w1 hown1 hgrow1 _hnil1; have HO := Lib.hid hown1; have HG := Lib.hid hgrow1; clear hown1 hgrow1 _hnil1))
            go_roundw
            case rel => exact ⟨k + 1, es.set (p + 1) k, (bs.set k y), by omega, by go_num, Lib.hid (K1.out.put rfl HS.out (by omega) (by have h1 := hxe.out; have h2 := HS.out.2.2 (p + 1) (Nat.le_refl _) (by omega); have h3 := HX.out; omega))⟩
            case measure => simp [intOf]; omega
    · obtain rfl : k = n := by omega
      obtain ⟨AE, cE, rfl, hcE, hcE2⟩ := own_slice hkept.out.own
      by_cases h0 : es.length = 0
      · have e0 : es = [] := List.eq_nil_of_length_eq_zero h0
        subst e0
        have HROW : Hid (IsRow (ats l) k []) := (Half.start hkept.out.ends).row
        have HCH := Lib.hid (chained_none AE (some ⟨w.heap.size + 1, 0, none⟩) cE k k wr)
        have HOW := Lib.hid (own_mono hkept.out.own (base' := w.heap.size) (by omega))
        have HBE := Lib.hid hkept.out.below
        clear hkept h0 hlt
        go_wp2_with (first | (go_at_call 43; (with_reducible refine HCH.out.mono ?_); rintro e w6 ⟨rfl, rfl⟩))
        go_ret
        exact ⟨_, [], rfl, HROW, HOW.out, HBE.out⟩
      · obtain ⟨gE, cE', hv, hg1, hg2, hg3, hg4⟩ := own_hd hkept.out.own (by omega)
        injection hv with hv1 _ hv3
        subst hv1 hv3
        have HCH := Lib.hid (chained_any gE es.length cE (w.heap.size + 1) k k _ _ es bs (ats l) k wr (by omega) hkept.out.own hkept.out.bown (by omega) (by have := hkept.out.ends.1; have := top_le (ats l) k; omega) hkept.out.ends hkept.out.befs (by have := hkept.out.len; omega))
        have HBE := Lib.hid hkept.out.below
        have HG1 := Lib.hid hg1
        clear hkept h0 hlt hg1
        go_wp2_with (first | (go_at_call 43; (with_reducible refine HCH.out.mono ?_); rintro e w6 ⟨rfl, r, hr, hor, hgr⟩; have HR := Lib.hid hor; have HG := Lib.hid hgr; clear hor hgr))
        go_ret
        have hl : es.length = r.length := by have := HR.out.1; rw [nv_len] at this; omega
        refine ⟨_, r, rfl, hr, ?_, HBE.out.grown HG.out HBE.out.size (fun q hq => by injection hq with hq; have := HG1.out; omega)⟩
        rw [← hl]
        exact own_mono HR.out (by omega)
end Go.Proofs.Ytdojalflgfacgaa
