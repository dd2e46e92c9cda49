/- Contracts of weave's drops, kept and waiting. -/
import Derived.Test.YtdojalflgfacgaaWeW2
import Derived.Test.YtdojalflgfacgaaLiW3
import Derived.Test.YtdojalflgfacgaaBeside
namespace Go.Proofs.Ytdojalflgfacgaa
open Go.RowKit We
theorem infoBoolW : (Try.prog.info? 4).map (fun i => (i.zero, i.size, i.bytes)) = some (some (.bool false), 1, 1) := by kernel_rfl
theorem infoStepW : (Try.prog.info? 31).map (fun i => (i.zero, i.size, i.bytes)) = some (some (.agg #[.int .i64 0, .int .i64 0, .int .i64 0]), 3, 24) := by kernel_rfl
/-- steps as cells -/
def sc (L : List Stp) : List Value := L.flatMap fun s => [.int .i64 s.1, .int .i64 s.2.1, .int .i64 s.2.2]
theorem sc_app (a b : List Stp) : sc (a ++ b) = sc a ++ sc b := List.flatMap_append
theorem sc_one (L : List Stp) : ∀ u ∈ sc L, u.oneCell' = true := by
  intro u hu
  simp only [sc, List.mem_flatMap, List.mem_cons, List.not_mem_nil, or_false] at hu
  obtain ⟨k, _, rfl | rfl | rfl⟩ := hu <;> rfl
def bits (n : Nat) (f : Nat → Bool) : List Value := (List.range n).map fun p => Value.bool (f p)
theorem bits_len (n : Nat) (f : Nat → Bool) : (bits n f).length = n := by simp [bits]
theorem bits_at (n : Nat) (f : Nat → Bool) (j : Nat) (h : j < n) : (bits n f)[j]? = some (.bool (f j)) := by simp [bits, h]
theorem bits_set (n : Nat) (f : Nat → Bool) (a : Nat) (v : Bool) : (bits n f).set a (.bool v) = bits n (fun p => if p = a then v else f p) := by
  apply List.ext_getElem?
  intro j
  by_cases hj : j < n
  · rw [bits_at _ _ j hj, List.getElem?_set]
    by_cases e : a = j
    · subst e; rw [if_pos rfl, if_pos (by rw [bits_len]; exact hj), if_pos rfl]
    · rw [if_neg e, bits_at _ _ j hj, if_neg (fun h => e h.symm)]
  · rw [List.getElem?_eq_none (by simp [bits_len]; omega), List.getElem?_eq_none (by rw [bits_len]; omega)]
theorem bits_congr {n : Nat} {f g : Nat → Bool} (h : ∀ p, p < n → f p = g p) : bits n f = bits n g := by
  unfold bits
  apply List.map_congr_left
  intro p hp
  rw [h p (by simpa using hp)]
theorem bits_zero (n : Nat) : bits n (fun _ => false) = (madeCells #[.bool false] (n * 1)).toList := by
  rw [Nat.mul_one, toList_madeCells_one]
  apply List.ext_getElem
  · simp [bits]
  · intro j h1 h2
    simp [bits]
theorem dropsOf_next {a b : List Int} {k : Nat} (h : k < a.length) : dropsOf (a.take (k + 1)) b = dropsOf (a.take k) b ++ (if at' a k ∈ b then [] else [(1, at' a k, 0)]) := by
  unfold dropsOf
  rw [take_next h, List.filter_append, List.map_append]
  by_cases e : at' a k ∈ b <;> simp [e]
theorem dropsOf_len (a b : List Int) : (dropsOf a b).length ≤ a.length := by
  unfold dropsOf
  rw [List.length_map]
  exact List.length_filter_le _ _
set_option maxHeartbeats 1000000 in
theorem drops_any (A : Option Addr) (n c mb N : Nat) (a B : List Int) (w : World) (hn : n = a.length) (hb : n ≤ 1000) (ha : At w A (iv a)) (hok : ∀ x ∈ a, OkI x) (hmap : MapOf Try.prog 3 ikey OkI w mb (posF B) N) :
    Calls Try.prog 21 #[.slice A n c, .map (some mb)] w fun e w' => ∃ v, e = .returned v ∧ w'.ownsRow w.heap.size 31 3 v (dropsOf a B).length (sc (dropsOf a B)) ∧ Below w.heap.size w w' := by
  have HN := Lib.hid hn
  have HA := Lib.hid ha
  have HOK := Lib.hid hok
  have HM := Lib.hid hmap
  obtain ⟨i0, hi, hz0, hz1, hz2⟩ := info_parts infoStepW
  clear hn ha hok hmap
  go_enter Try.func21, Try.ntmps21
  go_wp2_with fail
  go_loopw [5, 12] (fun v i wr => ∃ k : Nat, k ≤ n ∧ i = .int .i64 k ∧ Hid (wr.ownsRow w.heap.size 31 3 v (dropsOf (a.take k) B).length (sc (dropsOf (a.take k) B))) ∧ Hid (Below w.heap.size w wr)) (fun _ i _ => n - (intOf i).toNat)
  case atStart => exact ⟨0, Nat.zero_le _, rfl, World.ownsRow_nil _ _ _ _, Below.refl _ _⟩
  case round =>
    obtain ⟨k, hk, rfl, hown, hbel⟩ := hrel
    by_cases hlt : k < n
    · have hkl : k < a.length := by have := HN.out; omega
      obtain ⟨b1, o1, rfl, hb1, hc1⟩ := (HA.out.below hbel.out).one (iv_at a k hkl)
      have hnx := dropsOf_next (b := B) hkl
      have hol := dropsOf_len (a.take k) B
      rw [List.length_take] at hol
      obtain ⟨x, hx⟩ : ∃ x, x = ats a k := ⟨_, rfl⟩
      rw [← hx] at hc1
      rw [show at' a k = x from hx.symm] at hnx
      have hOx := Lib.hid (HOK.out x (by rw [hx]; exact at_mem hkl))
      have HMW := Lib.hid (HM.out.below hbel.out)
      have hszr := hbel.out.size
      obtain ⟨AE, cE, rfl, hcE, hcE2⟩ := own_slice hown.out
      clear hx
      by_cases hm : x ∈ B
      · rw [if_pos hm, List.append_nil] at hnx
        have HS := Lib.hid hnx
        have HP := Lib.hid (posF_yes hm)
        clear hm hnx
        go_wp2_with (refine wpList_lookok_mo rfl _ _ 48 3 3 rfl (intWay Try.underlying3) Try.underlying48 zeroIW mb _ _ rfl HMW.out x hOx.out rfl (.int .i64 (ix B x : Int)) true (by rw [HP.out]; rfl) (by rw [HP.out]; rfl) ?_)
        go_roundw
        case rel => exact ⟨k + 1, by omega, by go_num, by show World.ownsRow _ _ _ _ _ _ _; rw [HS.out]; exact hown.out, hbel⟩
        case measure => simp [intOf]; omega
      · rw [if_neg hm] at hnx
        have HS := Lib.hid hnx
        have HP := Lib.hid (posF_no hm)
        clear hm hnx
        go_wp2_with (first | (refine wpList_lookok_mo rfl _ _ 48 3 3 rfl (intWay Try.underlying3) Try.underlying48 zeroIW mb _ _ rfl HMW.out x hOx.out rfl (.int .i64 0) false (by rw [HP.out]; rfl) (by rw [HP.out]; rfl) ?_) | (at_builtin; refine wpList_append_own _ rfl _ _ 25 rfl w.heap.size 31 i0 (.agg #[.int .i64 0, .int .i64 0, .int .i64 0]) 3 24 Try.underlying25 hi hz0 hz1 hz2 rfl (by decide) _ _ _ rfl (hown.out.alloc _) ⟨_, 0, none⟩ 1 1 [.int .i64 1, .int .i64 x, .int .i64 0] rfl rfl (cells_new _ _ _ _ rfl) (sc_one [(1, x, 0)]) (by unfold maxLen; omega) (by omega) (by simp; omega) ?_; intro v1 w1 hown1 hgrow1 _hnil1; have HO1 := Lib.hid hown1; have HG1 := Lib.hid hgrow1; clear hown1 hgrow1 _hnil1))
        go_roundw
        case rel => exact ⟨k + 1, by omega, by go_num, by show World.ownsRow _ _ _ _ _ _ _; rw [HS.out, List.length_append, sc_app]; exact HO1.out, (hbel.out.alloc hszr _).grown HG1.out (by simp; omega) (own_from hown.out)⟩
        case measure => simp [intOf]; omega
    · obtain rfl : k = n := by omega
      go_wp2
      go_ret
      exact ⟨_, rfl, by have h9 := hown.out; rw [List.take_of_length_le (by have := HN.out; omega)] at h9; exact h9, hbel.out⟩
theorem olds_next {a b : List Int} {k : Nat} (h : k < b.length) : olds a (b.take (k + 1)) = olds a (b.take k) ++ (if at' b k ∈ a then [(ix a (at' b k) : Int)] else []) := by
  unfold olds comm
  rw [take_next h, List.filter_append, List.map_append]
  by_cases e : at' b k ∈ a <;> simp [e]
theorem comm_le (a b : List Int) : (comm a b).length ≤ b.length := List.length_filter_le _ _
/-- which old places are those of the row r -/
def stayB (a b : List Int) (r : List Nat) (m : Nat) (p : Nat) : Bool := decide (∃ k, k < m ∧ ats (olds a b) (r.getD k 0) = (p : Int))
theorem stayB_next (a b : List Int) (r : List Nat) (m q : Nat) (h : ats (olds a b) (r.getD m 0) = (q : Int)) (p : Nat) : (if p = q then true else stayB a b r m p) = stayB a b r (m + 1) p := by
  unfold stayB
  by_cases e : p = q
  · subst e
    rw [if_pos rfl]
    exact (decide_eq_true ⟨m, by omega, h⟩).symm
  · rw [if_neg e]
    apply decide_eq_decide.2
    constructor
    · rintro ⟨k, h1, h2⟩; exact ⟨k, by omega, h2⟩
    · rintro ⟨k, h1, h2⟩
      by_cases ek : k = m
      · subst ek; exact absurd (by omega : p = q) e
      · exact ⟨k, by omega, h2⟩
set_option maxHeartbeats 2000000 in
set_option maxRecDepth 100000 in
theorem kept_any (A : Option Addr) (n c mb : Nat) (a b : List Int) (r : List Nat) (w : World) (hn : n = b.length) (hb : n ≤ 1000) (hna : a.length ≤ 1000) (ha : At w A (iv b)) (hok : ∀ x ∈ b, OkI x) (hmap : MapOf Try.prog 3 ikey OkI w mb (posF a) a.length) (hr : Li.IsRow (ats (olds a b)) (comm a b).length r) :
    Calls Try.prog 22 #[.slice A n c, .map (some mb)] w fun e w' => ∃ gb, e = .returned (.slice (some ⟨gb, 0, none⟩) a.length a.length) ∧ w'.ownsRow w.heap.size 4 1 (.slice (some ⟨gb, 0, none⟩) a.length a.length) a.length (bits a.length (stayB a b r r.length)) ∧ w.heap.size ≤ gb ∧ Below w.heap.size w w' := by
  have HN := Lib.hid hn
  have HA := Lib.hid ha
  have HOK := Lib.hid hok
  have HM := Lib.hid hmap
  have HR := Lib.hid hr
  obtain ⟨i0, hi, hz0, hz1, hz2⟩ := info_parts infoIntW
  obtain ⟨b0, bi, bz0, bz1, bz2⟩ := info_parts infoBoolW
  clear hn ha hok hmap hr
  go_enter Try.func22, Try.ntmps22
  go_wp2_with fail
  go_loopw [5, 15] (fun v i wr => ∃ k : Nat, k ≤ n ∧ i = .int .i64 k ∧ Hid (wr.ownsRow w.heap.size 3 1 v (olds a (b.take k)).length (iv (olds a (b.take k)))) ∧ Hid (Below w.heap.size w wr)) (fun _ i _ => n - (intOf i).toNat)
  case atStart => exact ⟨0, Nat.zero_le _, rfl, World.ownsRow_nil _ _ _ _, Below.refl _ _⟩
  case round =>
    obtain ⟨k, hk, rfl, hown, hbel⟩ := hrel
    have hszr := hbel.out.size
    by_cases hlt : k < n
    · have hkl : k < b.length := by have := HN.out; omega
      obtain ⟨b1, o1, rfl, hb1, hc1⟩ := (HA.out.below hbel.out).one (iv_at b k hkl)
      have hnx := olds_next (a := a) hkl
      have hol : (olds a (b.take k)).length ≤ k := by rw [olds_len]; exact Nat.le_trans (comm_le _ _) (by simp; omega)
      obtain ⟨x, hx⟩ : ∃ x, x = ats b k := ⟨_, rfl⟩
      rw [← hx] at hc1
      rw [show at' b k = x from hx.symm] at hnx
      have hOx := Lib.hid (HOK.out x (by rw [hx]; exact at_mem hkl))
      have HMW := Lib.hid (HM.out.below hbel.out)
      obtain ⟨AE, cE, rfl, hcE, hcE2⟩ := own_slice hown.out
      clear hx
      by_cases hm : x ∈ a
      · rw [if_pos hm] at hnx
        have HS := Lib.hid hnx
        have HP := Lib.hid (posF_yes hm)
        obtain ⟨q, hq⟩ : ∃ q, q = ix a x := ⟨_, rfl⟩
        rw [← hq] at HP HS
        clear hm hnx hq
        go_wp2_with (first | (refine wpList_lookok_mo rfl _ _ 48 3 3 rfl (intWay Try.underlying3) Try.underlying48 zeroIW mb _ _ rfl HMW.out x hOx.out rfl (.int .i64 (q : Int)) true (by rw [HP.out]; rfl) (by rw [HP.out]; rfl) ?_) | (at_builtin; refine wpList_append_own _ rfl _ _ 22 rfl w.heap.size 3 i0 (.int .i64 0) 1 8 Try.underlying22 hi hz0 hz1 hz2 rfl (by decide) _ _ _ rfl (hown.out.alloc _) ⟨_, 0, none⟩ 1 1 [.int .i64 (q : Int)] rfl rfl (cell_one_new _ _ _) (iv_one [(q : Int)]) (by unfold maxLen; omega) (by omega) (by simp; omega) ?_; intro v1 w1 hown1 hgrow1 _hnil1; have HO1 := Lib.hid hown1; have HG1 := Lib.hid hgrow1; clear hown1 hgrow1 _hnil1))
        go_roundw
        case rel => exact ⟨k + 1, by omega, by go_num, by show World.ownsRow _ _ _ _ _ _ _; rw [HS.out, List.length_append, iv_app]; exact HO1.out, (hbel.out.alloc hszr _).grown HG1.out (by simp; omega) (own_from hown.out)⟩
        case measure => simp [intOf]; omega
      · rw [if_neg hm, List.append_nil] at hnx
        have HS := Lib.hid hnx
        have HP := Lib.hid (posF_no hm)
        clear hm hnx
        go_wp2_with (refine wpList_lookok_mo rfl _ _ 48 3 3 rfl (intWay Try.underlying3) Try.underlying48 zeroIW mb _ _ rfl HMW.out x hOx.out rfl (.int .i64 0) false (by rw [HP.out]; rfl) (by rw [HP.out]; rfl) ?_)
        go_roundw
        case rel => exact ⟨k + 1, by omega, by go_num, by show World.ownsRow _ _ _ _ _ _ _; rw [HS.out]; exact hown.out, hbel⟩
        case measure => simp [intOf]; omega
    · obtain rfl : k = n := by omega
      have hTK : b.take k = b := List.take_of_length_le (by have := HN.out; omega)
      rw [hTK] at hown
      have hol : (olds a b).length = (comm a b).length := olds_len a b
      have hcl : (comm a b).length ≤ k := by have := comm_le a b; have := HN.out; omega
      rw [hol] at hown
      obtain ⟨AO, cO, rfl, hcO, hcO2⟩ := own_slice hown.out
      have hlen := fun ty => (HM.out.below hbel.out).len (t := 48) (E := 3) Try.underlying48 ty
      obtain ⟨w2, hmk, hrow, hgm⟩ := run_makeSlice_full (P := Try.prog) wr w.heap.size 52 4 b0 (.bool false) 1 Try.underlying52 bi bz0 bz1 .i64 .i64 a.length (by omega) (by rw [bz2]; omega) (by unfold maxLen; omega) hszr
      have HB2 := Lib.hid (hbel.out.grown hgm hszr (fun q hq => nomatch hq))
      have HG2 := Lib.hid ((Below.refl wr.heap.size wr).grown hgm (Nat.le_refl _) (fun q hq => nomatch hq))
      have HR2 : Hid (w2.ownsRow w.heap.size 4 1 (.slice (some ⟨wr.heap.size, 0, none⟩) a.length a.length) a.length (bits a.length (stayB a b r 0))) := by
        show World.ownsRow _ _ _ _ _ _ _
        have e : bits a.length (stayB a b r 0) = bits a.length (fun _ => false) := bits_congr (fun p _ => by unfold stayB; exact decide_eq_false (fun ⟨k, h, _⟩ => by omega))
        rw [e, bits_zero]
        exact hrow
      have HO2 := Lib.hid (own_below hown.out HG2.out)
      have HLI := Lib.hid (of_any AO (comm a b).length cO (olds a b) w2 hol.symm (by omega) (At.own HO2.out))
      have hlw : w.heap.size ≤ wr.heap.size := hszr
      have HLN : Hid (∀ i, i < (comm a b).length → ∃ q, q < a.length ∧ ats (olds a b) i = (q : Int)) := by
        show ∀ i, _
        intro i h
        exact ⟨ix a (at' (comm a b) i), ix_lt (comm_mem.1 (at_mem h)).2, olds_at h⟩
      have hlt1 : wr.heap.size < w2.heap.size := (hrow.lt _ rfl).2
      have HOF := Lib.hid (own_from HO2.out)
      have HOL := Lib.hid (hown.out.lt)
      clear hown hbel hrow hgm hTK hol
      go_wp2_with fail
      clear hmk hlen
      refine HLI.out.mono ?_
      rintro e w6 ⟨v, r', rfl, hr', hown6, hb6⟩
      have hrr := hr'.out.uniq HR.out
      subst hrr
      obtain ⟨A6, c6, rfl, hc6, hm6⟩ := own_slice hown6
      have HT6 := Lib.hid (At.own hown6)
      have HF6 := Lib.hid (own_from hown6)
      have HB6 := Lib.hid hb6
      have HO6 := Lib.hid (own_below HO2.out hb6)
      have HR6 := Lib.hid (own_below HR2.out hb6)
      have HL6 := Lib.hid HR.out.lt
      have hrl : r'.length ≤ (comm a b).length := by have h1 := HR.out.1; have h2 := Li.top_le (ats (olds a b)) (comm a b).length; omega
      clear hown6 hb6 hr' HLI
      generalize wr.heap.size = gb at *
      have HNE : Hid (∀ q, (Value.slice AO (comm a b).length cO).ownBlock = some q → q < gb) := fun q hq => (HOL.out q hq).2
      go_wp2_with fail
      go_loopw [37] (fun i wr => ∃ m : Nat, m ≤ r'.length ∧ i = .int .i64 m ∧ Hid (wr.ownsRow w.heap.size 4 1 (.slice (some ⟨gb, 0, none⟩) a.length a.length) a.length (bits a.length (stayB a b r' m))) ∧ Hid (w6.grownBy wr (some gb))) (fun i _ => r'.length - (intOf i).toNat)
      case atStart => exact ⟨0, Nat.zero_le _, rfl, HR6, World.grownBy.refl _ _⟩
      case round =>
        obtain ⟨m, hm, rfl, hrow, hgr⟩ := hrel
        by_cases hmr : m < r'.length
        · obtain ⟨b3, o3, rfl, hb3, hc3⟩ := HT6.out.one (nv_at r' m hmr)
          have hne3 : b3 ≠ gb := by have := HF6.out b3 rfl; omega
          have hd3 : wr.cell? ⟨b3, o3 + m, none⟩ = _ := hgr.out.cell hc3 (by intro e; injection e with e; exact hne3 e)
          have hrm := HL6.out m hmr
          obtain ⟨q, hqa, hq⟩ := HLN.out _ hrm
          obtain ⟨b4, o4, e4, hb4, hc4⟩ := (At.own HO6.out).one (iv_at (olds a b) (r'.getD m 0) (by rw [olds_len]; exact hrm))
          rw [hq] at hc4
          have hS := Lib.hid (stayB_next a b r' m q hq)
          obtain ⟨y, hy⟩ : ∃ y, y = r'.getD m 0 := ⟨_, rfl⟩
          rw [← hy] at hd3 hc4 hrm
          subst e4
          have hne4 : b4 ≠ gb := by have := HNE.out b4 rfl; omega
          have hd4 : wr.cell? ⟨b4, o4 + y, none⟩ = _ := hgr.out.cell hc4 (by intro e; injection e with e; exact hne4 e)
          obtain ⟨u0, hu0⟩ : ∃ u, wr.cell? ⟨gb, q, none⟩ = some u := ⟨_, (hrow.out.cellAt q (by omega)).trans (bits_at _ _ _ hqa)⟩
          have hf0 := hrow.out.frozenAt q
          clear hc3 hc4 hq hy
          go_wp2_with fail
          go_roundw
          case rel => exact ⟨m + 1, by omega, by go_num, by show World.ownsRow _ _ _ _ _ _ _; have h9 := (hrow.out.stored q (.bool true)).1; rw [bits_set] at h9; rw [← bits_congr (fun p _ => hS.out p)]; exact h9, hgr.out.trans (hrow.out.stored _ _).2⟩
          case measure => simp [intOf]; omega
        · obtain rfl : m = r'.length := by omega
          go_wp2_with fail
          go_ret
          exact ⟨gb, rfl, hrow.out, hlw, (HB2.out.trans (HB6.out.mono HB2.out.size)).grown hgr.out ((HB2.out.trans (HB6.out.mono HB2.out.size)).size) (fun p hp => by injection hp with hp; omega)⟩
end Go.Proofs.Ytdojalflgfacgaa
