/- Contracts of a slot's kid: its look, ghost; the library's IndexFunc, ContainsFunc; where. -/
import Derived.Test.YtfapghekakdpgaaSlMath
import Derived.Test.YtfapghekakdpgaaGrW3
namespace Go.Proofs.Ytfapghekakdpgaa
open Go.RowKit Gr Go.Maps Sl
set_option linter.unusedVariables false
set_option linter.unusedSimpArgs false
theorem slook_any (s : ByteArray) (k : Int) (w : World) : Calls Try.prog 54 #[.agg #[.string s, .int .i64 k]] w fun e w' => e = .returned (.agg #[.int .i64 k, .int .i64 0, .int .i64 0, .int .i64 0]) ∧ Below w.heap.size w w' := by
  obtain ⟨b0, hb0⟩ : ∃ b, b = w.heap.size := ⟨_, rfl⟩
  obtain ⟨U, hU⟩ : ∃ W, W = (w.alloc (.cells #[.string s, .int .i64 k] 86)).alloc (.cells #[.int .i64 0, .int .i64 0, .int .i64 0, .int .i64 0] 92) := ⟨_, rfl⟩
  have hbU : Below w.heap.size w U := by rw [hU]; exact (below_alloc w _).alloc (by simp) _
  have HK0 := Lib.hid (show Blk U b0 86 #[.string s, .int .i64 k] by rw [hU, hb0]; exact (Blk.new w _ _).alloc _)
  have HK1 := Lib.hid (show Blk U (b0 + 1) 92 #[.int .i64 0, .int .i64 0, .int .i64 0, .int .i64 0] by rw [hU, hb0]; exact Blk.new' (w.alloc _) _ _ _ (by simp))
  have HU := Lib.hid hU
  have HB := Lib.hid hbU
  have HG := Lib.hid hb0
  have r1 := HK0.out.cell 1 (v := .int .i64 k) rfl
  have e0 := HK1.out.cell 0 (v := .int .i64 0) rfl
  have e1 := HK1.out.cell 1 (v := .int .i64 0) rfl
  have e2 := HK1.out.cell 2 (v := .int .i64 0) rfl
  have e3 := HK1.out.cell 3 (v := .int .i64 0) rfl
  have p0 := HK1.out.frozen 0
  have p1 := HK1.out.frozen 1
  have p2 := HK1.out.frozen 2
  have p3 := HK1.out.frozen 3
  clear hU hbU hb0
  go_enter Try.func54, Try.ntmps54
  go_upto_region 1 with fail
  rw [← HU.out, ← HG.out]
  go_wp2
  obtain ⟨V, hV⟩ : ∃ V, V = (((U.setCell ⟨b0 + 1, 0, none⟩ (.int .i64 k)).setCell ⟨b0 + 1, 1, none⟩ (.int .i64 0)).setCell ⟨b0 + 1, 2, none⟩ (.int .i64 0)).setCell ⟨b0 + 1, 3, none⟩ (.int .i64 0) := ⟨_, rfl⟩
  rw [← hV]
  have hgw : w.heap.size ≤ b0 + 1 := by have := HG.out; omega
  have KV : Blk V (b0 + 1) 92 #[.int .i64 k, .int .i64 0, .int .i64 0, .int .i64 0] := by rw [hV]; exact (((HK1.out.set 0 _).set 1 _).set 2 _).set 3 _
  have BV : Below w.heap.size w V := by rw [hV]; exact (((HB.out.setCell (p := ⟨b0 + 1, 0, none⟩) hgw _).setCell (p := ⟨b0 + 1, 1, none⟩) hgw _).setCell (p := ⟨b0 + 1, 2, none⟩) hgw _).setCell (p := ⟨b0 + 1, 3, none⟩) hgw _
  clear hV
  exact bodyPost_ret (results_mid rfl _ _ (b0 + 1) 0 [.int .i64 k, .int .i64 0, .int .i64 0, .int .i64 0] _ rfl (blk_rangeS KV) Try.underlying92 rfl (by kernel_rfl)) rfl ⟨rfl, BV⟩
theorem entering_any (k m x y : Int) (w : World) : Calls Try.prog 55 #[.agg #[.int .i64 k, .int .i64 m, .int .i64 x, .int .i64 y]] w fun e w' => e = .returned (.bool (decide (k = 2) || decide (k = 3))) ∧ Below w.heap.size w w' := by
  by_cases h1 : k = 2
  · subst h1
    go_enter Try.func55, Try.ntmps55
    go_wp2
    go_ret
    exact ⟨rfl, below_alloc w _⟩
  · have e1 : decide (k = 2) = false := by simpa using h1
    rw [e1]
    go_enter Try.func55, Try.ntmps55
    go_wp2
    go_ret
    exact ⟨ret_bool' (by rw [Bool.eq_iff_iff]; simp [h1]), below_alloc w _⟩
set_option maxHeartbeats 1000000 in
set_option maxRecDepth 100000 in
theorem leaving_any (k m x y : Int) (w : World) : Calls Try.prog 70 #[.agg #[.int .i64 k, .int .i64 m, .int .i64 x, .int .i64 y]] w fun e w' => e = .returned (.bool (decide (k = 5) || decide (k = 6))) ∧ Below w.heap.size w w' := by
  by_cases h1 : k = 5
  · subst h1
    go_enter Try.func70, Try.ntmps70
    go_wp2
    go_ret
    exact ⟨rfl, below_alloc w _⟩
  · have e1 : decide (k = 5) = false := by simpa using h1
    rw [e1]
    go_enter Try.func70, Try.ntmps70
    go_wp2
    go_ret
    exact ⟨ret_bool' (by rw [Bool.eq_iff_iff]; simp [h1]), below_alloc w _⟩
theorem ghost_any (k m x y : Int) (w : World) : Calls Try.prog 68 #[.agg #[.int .i64 k, .int .i64 m, .int .i64 x, .int .i64 y]] w fun e w' => e = .returned (.bool (ghI k)) ∧ Below w.heap.size w w' := by
  have C := Lib.hid (leaving_any k m x y (w.alloc (.cells #[.int .i64 k, .int .i64 m, .int .i64 x, .int .i64 y] 92)))
  unfold ghI
  by_cases h : k = 4
  · have hk : (k == 4) = true := by simpa using h
    rw [decide_eq_true h, Bool.true_or]
    clear h
    go_enter Try.func68, Try.ntmps68
    go_wp2
    go_ret
    exact ⟨rfl, below_alloc _ _⟩
  · have hk : (k == 4) = false := by simpa using h
    rw [decide_eq_false h, Bool.false_or]
    clear h
    generalize (decide (k = 5) || decide (k = 6)) = b at *
    go_enter Try.func68, Try.ntmps68
    go_wp2_with fail
    refine C.out.mono ?_
    rintro e w1 ⟨rfl, hb⟩
    have HB := Lib.hid hb
    clear hb
    go_wp2
    go_ret
    exact ⟨rfl, (below_alloc w _).trans (HB.out.mono (by simp))⟩
theorem kghost_any (s : ByteArray) (k : Int) (w : World) : Calls Try.prog 58 #[.agg #[.string s, .int .i64 k]] w fun e w' => e = .returned (.bool (ghI k)) ∧ Below w.heap.size w w' := by
  have C1 := Lib.hid (fun W => slook_any s k W)
  have C2 := Lib.hid (fun W => ghost_any k 0 0 0 W)
  generalize ghI k = b at *
  go_enter Try.func58, Try.ntmps58
  go_wp2_with fail
  refine (C1.out _).mono ?_
  rintro e w1 ⟨rfl, hb1⟩
  have HB1 := Lib.hid hb1
  clear hb1
  go_wp2_with fail
  refine (C2.out _).mono ?_
  rintro e w2 ⟨rfl, hb2⟩
  have HB2 := Lib.hid hb2
  clear hb2
  go_wp2
  go_ret
  exact ⟨rfl, ((below_alloc w _).trans (HB1.out.mono (by simp))).trans (HB2.out.mono (Nat.le_trans (by simp) HB1.out.size))⟩
theorem current1_any (s : ByteArray) (k : Int) (w : World) : Calls Try.prog 64 #[.agg #[.string s, .int .i64 k]] w fun e w' => e = .returned (.bool (!ghI k)) ∧ Below w.heap.size w w' := by
  have C1 := Lib.hid (fun W => kghost_any s k W)
  generalize ghI k = b at *
  go_enter Try.func64, Try.ntmps64
  go_wp2_with fail
  refine (C1.out _).mono ?_
  rintro e w1 ⟨rfl, hb1⟩
  have HB1 := Lib.hid hb1
  clear hb1
  go_wp2
  go_ret
  exact ⟨rfl, (below_alloc w _).trans (HB1.out.mono (by simp))⟩
theorem replace1_any (s : ByteArray) (k : Int) (bk : Nat) (key : ByteArray) (w : World) (hk : w.cell? ⟨bk, 0, none⟩ = some (.string key)) (hlt : bk < w.heap.size) : Calls Try.prog 66 #[.agg #[.string s, .int .i64 k], .pointer (some ⟨bk, 0, none⟩)] w fun e w' => e = .returned (.bool (ghI k && decide (s = key))) ∧ Below w.heap.size w w' := by
  obtain ⟨U, hU⟩ : ∃ W, W = w.alloc (.cells #[.string s, .int .i64 k] 86) := ⟨_, rfl⟩
  obtain ⟨b0, hb0⟩ : ∃ b, b = w.heap.size := ⟨_, rfl⟩
  have HBU := Lib.hid (show Below w.heap.size w U by rw [hU]; exact below_alloc w _)
  have HKU := Lib.hid (show Blk U b0 86 #[.string s, .int .i64 k] by rw [hU, hb0]; exact Blk.new w _ _)
  have HKK : Hid (U.cell? ⟨bk, 0, none⟩ = some (.string key)) := (HBU.out.cell (p := ⟨bk, 0, none⟩) hlt).trans hk
  have C := Lib.hid (kghost_any s k U)
  have HU := Lib.hid hU
  have HG := Lib.hid hb0
  have hltU : bk < U.heap.size := Nat.lt_of_lt_of_le hlt HBU.out.size
  have s0 := HKU.out.cell 0 (v := .string s) rfl
  have s1 := HKU.out.cell 1 (v := .int .i64 k) rfl
  clear hU hb0 hk hlt
  obtain ⟨d, hd⟩ : ∃ d, d = decide (s = key) := ⟨_, rfl⟩
  have hst : (s.toList == key.toList) = d := by
    by_cases hs : s = key
    · rw [hd, decide_eq_true hs, hs]; simp
    · rw [hd, decide_eq_false hs]; exact M.str_no hs
  rw [← hd]
  clear hd
  generalize ghI k = b at *
  cases b
  all_goals
    go_enter Try.func66, Try.ntmps66
    go_upto_region 1 with fail
    rw [← HU.out, ← HG.out]
    go_wp2_with fail
    refine C.out.mono ?_
    rintro e w1 ⟨rfl, hb1⟩
    have HB1 := Lib.hid (HBU.out.trans (hb1.mono HBU.out.size))
    have t0 := (HKU.out.below hb1).cell 0 (v := .string s) rfl
    have t1 := (hb1.cell (p := ⟨bk, 0, none⟩) hltU).trans HKK.out
    clear hb1 C s0 s1
    go_wp2
    go_ret
    exact ⟨ret_bool' (by simp [hst]), HB1.out⟩
set_option maxHeartbeats 1000000 in
theorem index_cur (A : Option Addr) (n c : Nat) (L : List Sk) (q : Nat → Bool) (w : World) (hn : n = L.length) (hm : n ≤ 100000) (ha : At w A (scs L)) (hc : ∀ W (i : Nat), i < n → Below w.heap.size w W → Calls Try.prog 64 #[.agg #[.string (sk L i).1, .int .i64 (sk L i).2]] W fun e W' => e = .returned (.bool (q i)) ∧ Below W.heap.size W W') :
    Calls Try.prog 63 #[.slice A n c, .func (.func 64) #[] #[]] w fun e w' => e = .returned (.int .i64 (oI (fi q n))) ∧ Below w.heap.size w w' := by
  have HN := Lib.hid hn
  have HA := Lib.hid ha
  have HC := Lib.hid hc
  clear hn ha hc
  go_enter Try.func63, Try.ntmps63
  go_wp2
  go_loopw [8] (fun i wr => ∃ k : Nat, k ≤ n ∧ i = .int .i64 k ∧ Hid (∀ j, j < k → q j = false) ∧ Hid (Below w.heap.size w wr)) (fun i _ => n - (intOf i).toNat)
  case atStart => exact ⟨0, Nat.zero_le _, rfl, Lib.hid (fun j h => absurd h (Nat.not_lt_zero _)), Below.refl _ _⟩
  case round =>
    obtain ⟨k, hk, rfl, hno, hbel⟩ := hrel
    by_cases hlt : k < n
    · have hk' : k < L.length := by have := HN.out; omega
      obtain ⟨b1, o1, rfl, hb1, hc0, hc1⟩ := at_sk HA.out hk'
      have hd0 := ((below_cells hbel.out).1 b1 (o1 + k * 2) hb1).trans hc0
      have hd1 := ((below_cells hbel.out).1 b1 (o1 + k * 2 + 1) hb1).trans hc1
      have CK := Lib.hid (HC.out wr k hlt hbel.out)
      generalize (sk L k).1 = s at *
      generalize (sk L k).2 = z at *
      obtain ⟨b, hb⟩ : ∃ b, b = q k := ⟨_, rfl⟩
      rw [← hb] at CK
      have HBQ := Lib.hid hb
      clear hc0 hc1 hb
      go_wp2_with fail
      refine CK.out.mono ?_
      rintro e w6 ⟨rfl, hb6⟩
      have HB6 := Lib.hid (hbel.out.trans (hb6.mono hbel.out.size))
      clear hb6 hbel CK
      cases b with
      | true =>
        have HF : Hid (oI (fi q n) = (k : Int)) := by show _ = _; rw [fi_is hlt HBQ.out.symm hno.out]; rfl
        go_wp2
        go_ret
        exact ⟨by rw [HF.out]; rfl, HB6.out⟩
      | false =>
        go_wp2
        go_roundw
        case rel => exact ⟨k + 1, by omega, by go_num, Lib.hid (fun j hj => by
          by_cases e : j = k
          · subst e; exact HBQ.out.symm
          · exact hno.out j (by omega)), HB6⟩
        case measure => simp [intOf]; omega
    · obtain rfl : n = k := by omega
      have HF : Hid (oI (fi q n) = -1) := by show _ = _; rw [fi_no hno.out]; rfl
      go_wp2
      go_ret
      exact ⟨by rw [HF.out]; rfl, hbel.out⟩
set_option maxHeartbeats 1000000 in
theorem index_back (A : Option Addr) (n c : Nat) (L : List Sk) (bk : Nat) (q : Nat → Bool) (w : World) (hn : n = L.length) (hm : n ≤ 100000) (ha : At w A (scs L)) (hc : ∀ W (i : Nat), i < n → Below w.heap.size w W → Calls Try.prog 66 #[.agg #[.string (sk L i).1, .int .i64 (sk L i).2], .pointer (some ⟨bk, 0, none⟩)] W fun e W' => e = .returned (.bool (q i)) ∧ Below W.heap.size W W') :
    Calls Try.prog 63 #[.slice A n c, .func (.func 66) #[] #[.pointer (some ⟨bk, 0, none⟩)]] w fun e w' => e = .returned (.int .i64 (oI (fi q n))) ∧ Below w.heap.size w w' := by
  have HN := Lib.hid hn
  have HA := Lib.hid ha
  have HC := Lib.hid hc
  clear hn ha hc
  go_enter Try.func63, Try.ntmps63
  go_wp2
  go_loopw [8] (fun i wr => ∃ k : Nat, k ≤ n ∧ i = .int .i64 k ∧ Hid (∀ j, j < k → q j = false) ∧ Hid (Below w.heap.size w wr)) (fun i _ => n - (intOf i).toNat)
  case atStart => exact ⟨0, Nat.zero_le _, rfl, Lib.hid (fun j h => absurd h (Nat.not_lt_zero _)), Below.refl _ _⟩
  case round =>
    obtain ⟨k, hk, rfl, hno, hbel⟩ := hrel
    by_cases hlt : k < n
    · have hk' : k < L.length := by have := HN.out; omega
      obtain ⟨b1, o1, rfl, hb1, hc0, hc1⟩ := at_sk HA.out hk'
      have hd0 := ((below_cells hbel.out).1 b1 (o1 + k * 2) hb1).trans hc0
      have hd1 := ((below_cells hbel.out).1 b1 (o1 + k * 2 + 1) hb1).trans hc1
      have CK := Lib.hid (HC.out wr k hlt hbel.out)
      generalize (sk L k).1 = s at *
      generalize (sk L k).2 = z at *
      obtain ⟨b, hb⟩ : ∃ b, b = q k := ⟨_, rfl⟩
      rw [← hb] at CK
      have HBQ := Lib.hid hb
      clear hc0 hc1 hb
      go_wp2_with fail
      refine CK.out.mono ?_
      rintro e w6 ⟨rfl, hb6⟩
      have HB6 := Lib.hid (hbel.out.trans (hb6.mono hbel.out.size))
      clear hb6 hbel CK
      cases b with
      | true =>
        have HF : Hid (oI (fi q n) = (k : Int)) := by show _ = _; rw [fi_is hlt HBQ.out.symm hno.out]; rfl
        go_wp2
        go_ret
        exact ⟨by rw [HF.out]; rfl, HB6.out⟩
      | false =>
        go_wp2
        go_roundw
        case rel => exact ⟨k + 1, by omega, by go_num, Lib.hid (fun j hj => by
          by_cases e : j = k
          · subst e; exact HBQ.out.symm
          · exact hno.out j (by omega)), HB6⟩
        case measure => simp [intOf]; omega
    · obtain rfl : n = k := by omega
      have HF : Hid (oI (fi q n) = -1) := by show _ = _; rw [fi_no hno.out]; rfl
      go_wp2
      go_ret
      exact ⟨by rw [HF.out]; rfl, hbel.out⟩
set_option maxHeartbeats 1000000 in
theorem index_gh (A : Option Addr) (n c : Nat) (L : List Sk) (q : Nat → Bool) (w : World) (hn : n = L.length) (hm : n ≤ 100000) (ha : At w A (scs L)) (hc : ∀ W (i : Nat), i < n → Below w.heap.size w W → Calls Try.prog 58 #[.agg #[.string (sk L i).1, .int .i64 (sk L i).2]] W fun e W' => e = .returned (.bool (q i)) ∧ Below W.heap.size W W') :
    Calls Try.prog 63 #[.slice A n c, .func (.func 58) #[] #[]] w fun e w' => e = .returned (.int .i64 (oI (fi q n))) ∧ Below w.heap.size w w' := by
  have HN := Lib.hid hn
  have HA := Lib.hid ha
  have HC := Lib.hid hc
  clear hn ha hc
  go_enter Try.func63, Try.ntmps63
  go_wp2
  go_loopw [8] (fun i wr => ∃ k : Nat, k ≤ n ∧ i = .int .i64 k ∧ Hid (∀ j, j < k → q j = false) ∧ Hid (Below w.heap.size w wr)) (fun i _ => n - (intOf i).toNat)
  case atStart => exact ⟨0, Nat.zero_le _, rfl, Lib.hid (fun j h => absurd h (Nat.not_lt_zero _)), Below.refl _ _⟩
  case round =>
    obtain ⟨k, hk, rfl, hno, hbel⟩ := hrel
    by_cases hlt : k < n
    · have hk' : k < L.length := by have := HN.out; omega
      obtain ⟨b1, o1, rfl, hb1, hc0, hc1⟩ := at_sk HA.out hk'
      have hd0 := ((below_cells hbel.out).1 b1 (o1 + k * 2) hb1).trans hc0
      have hd1 := ((below_cells hbel.out).1 b1 (o1 + k * 2 + 1) hb1).trans hc1
      have CK := Lib.hid (HC.out wr k hlt hbel.out)
      generalize (sk L k).1 = s at *
      generalize (sk L k).2 = z at *
      obtain ⟨b, hb⟩ : ∃ b, b = q k := ⟨_, rfl⟩
      rw [← hb] at CK
      have HBQ := Lib.hid hb
      clear hc0 hc1 hb
      go_wp2_with fail
      refine CK.out.mono ?_
      rintro e w6 ⟨rfl, hb6⟩
      have HB6 := Lib.hid (hbel.out.trans (hb6.mono hbel.out.size))
      clear hb6 hbel CK
      cases b with
      | true =>
        have HF : Hid (oI (fi q n) = (k : Int)) := by show _ = _; rw [fi_is hlt HBQ.out.symm hno.out]; rfl
        go_wp2
        go_ret
        exact ⟨by rw [HF.out]; rfl, HB6.out⟩
      | false =>
        go_wp2
        go_roundw
        case rel => exact ⟨k + 1, by omega, by go_num, Lib.hid (fun j hj => by
          by_cases e : j = k
          · subst e; exact HBQ.out.symm
          · exact hno.out j (by omega)), HB6⟩
        case measure => simp [intOf]; omega
    · obtain rfl : n = k := by omega
      have HF : Hid (oI (fi q n) = -1) := by show _ = _; rw [fi_no hno.out]; rfl
      go_wp2
      go_ret
      exact ⟨by rw [HF.out]; rfl, hbel.out⟩
theorem current_any (A : Option Addr) (n c : Nat) (L : List Sk) (w : World) (hn : n = L.length) (hm : n ≤ 100000) (ha : At w A (scs L)) :
    Calls Try.prog 48 #[.slice A n c] w fun e w' => e = .returned (.int .i64 (oI (cur L))) ∧ Below w.heap.size w w' := by
  have C := Lib.hid (index_cur A n c L (curQ L) w hn hm ha (fun W i _ _ => current1_any _ _ W))
  have HC : Hid (cur L = fi (curQ L) n) := by show _ = _; unfold cur; rw [hn]
  rw [HC.out]
  clear hn ha HC
  generalize oI (fi (curQ L) n) = z at *
  go_enter Try.func48, Try.ntmps48
  go_wp2_with fail
  refine C.out.mono ?_
  rintro e w1 ⟨rfl, hb⟩
  go_wp2
  go_ret
  exact ⟨rfl, hb⟩
theorem contains_any (A : Option Addr) (n c : Nat) (L : List Sk) (w : World) (hn : n = L.length) (hm : n ≤ 100000) (ha : At w A (scs L)) :
    Calls Try.prog 57 #[.slice A n c, .func (.func 58) #[] #[]] w fun e w' => e = .returned (.bool (fi (fun i => ghI (sk L i).2) n).isSome) ∧ Below w.heap.size w w' := by
  have C := Lib.hid (index_gh A n c L (fun i => ghI (sk L i).2) w hn hm ha (fun W i _ _ => kghost_any _ _ W))
  clear hn ha
  generalize fi (fun i => ghI (sk L i).2) n = f at *
  cases f with
  | none =>
    go_enter Try.func57, Try.ntmps57
    go_wp2_with fail
    refine C.out.mono ?_
    rintro e w1 ⟨rfl, hb⟩
    rw [show oI none = -1 from rfl]
    go_wp2
    go_ret
    exact ⟨rfl, hb⟩
  | some j =>
    go_enter Try.func57, Try.ntmps57
    go_wp2_with fail
    refine C.out.mono ?_
    rintro e w1 ⟨rfl, hb⟩
    rw [show oI (some j) = (j : Int) from rfl]
    go_wp2
    go_ret
    exact ⟨ret_bool' (by simp), hb⟩
set_option maxHeartbeats 2000000 in
set_option maxRecDepth 100000 in
theorem where_sof (n : Nat) (bp bo : Nat) (q : Nat → Bool) (w : World) (h1 : n ≤ 100000) (hc : ∀ W (i : Nat), i < n → Below w.heap.size w W → Calls Try.prog 52 #[.int .i64 i, .pointer (some ⟨bp, 0, none⟩), .pointer (some ⟨bo, 0, none⟩)] W fun e W' => e = .returned (.bool (q i)) ∧ Below W.heap.size W W') :
    Calls Try.prog 51 #[.int .i64 n, .func (.func 52) #[] #[.pointer (some ⟨bp, 0, none⟩), .pointer (some ⟨bo, 0, none⟩)]] w fun e w' => ∃ v, e = .returned v ∧ w'.ownsRow w.heap.size 3 1 v (wh n q).length (nv (wh n q)) ∧ Below w.heap.size w w' := by
  have HC := Lib.hid hc
  obtain ⟨i0, hi, hz0, hz1, hz2⟩ := info_parts infoInt
  clear hc
  go_enter Try.func51, Try.ntmps51
  go_wp2
  go_loopw [5, 8] (fun v i wy => ∃ j : Nat, j ≤ n ∧ i = .int .i64 j ∧ Hid (wy.ownsRow w.heap.size 3 1 v (wh j q).length (nv (wh j q))) ∧ Hid (Below w.heap.size w wy)) (fun _ i _ => n - (intOf i).toNat)
  case atStart => exact ⟨0, Nat.zero_le _, rfl, World.ownsRow_nil _ _ _ _, Below.refl _ _⟩
  case round =>
    obtain ⟨j, hj, rfl, hown, hbel⟩ := hrel
    by_cases hjn : j < n
    · have hwr := hbel.out.size
      have hgl := wh_le j q
      have HNX := Lib.hid (wh_next j q)
      have CJ := Lib.hid (HC.out _ j hjn hbel.out)
      obtain ⟨b, hb⟩ : ∃ b, b = q j := ⟨_, rfl⟩
      rw [← hb] at HNX CJ
      clear hb
      obtain ⟨AE, cE, rfl, hcE, hcE2⟩ := own_slice hown.out
      go_wp2_with fail
      refine CJ.out.mono ?_
      rintro e w6 ⟨rfl, hb6⟩
      have HO6 := Lib.hid (own_below hown.out hb6)
      have HB6 := Lib.hid (hbel.out.trans (hb6.mono hbel.out.size))
      have hw6 := HB6.out.size
      clear hown hbel CJ hb6
      cases b with
      | true =>
        have HY : Hid (wh (j + 1) q = wh j q ++ [j]) := by show _ = _; simpa using HNX.out
        clear HNX
        go_wp2_with (at_builtin; refine wpList_append_own _ rfl _ _ 29 rfl w.heap.size 3 i0 (.int .i64 0) 1 8 Try.underlying29 hi hz0 hz1 hz2 rfl (by decide) _ _ _ rfl (HO6.out.alloc _) ⟨_, 0, none⟩ 1 1 [.int .i64 (j : Int)] rfl rfl (cell_one_new _ _ _) (nv_one [j]) (by unfold maxLen; omega) (by omega) (by simp; omega) ?_; intro v1 w1 hown1 hgrow1 _hnil1; have HO1 := Lib.hid hown1; have HG1 := Lib.hid hgrow1; clear hown1 hgrow1 _hnil1)
        go_roundw
        case rel => exact ⟨j + 1, by omega, by go_num, by show World.ownsRow _ _ _ _ _ _ _; rw [HY.out, List.length_append, nv_app]; exact HO1.out, (HB6.out.alloc hw6 _).grown HG1.out (by simp; omega) (own_from HO6.out)⟩
        case measure => simp [intOf]; omega
      | false =>
        have HY : Hid (wh (j + 1) q = wh j q) := by show _ = _; simpa using HNX.out
        clear HNX
        go_wp2_with fail
        go_roundw
        case rel => exact ⟨j + 1, by omega, by go_num, by show World.ownsRow _ _ _ _ _ _ _; rw [HY.out]; exact HO6.out, HB6⟩
        case measure => simp [intOf]; omega
    · obtain rfl : j = n := by omega
      go_wp2
      go_ret
      exact ⟨_, rfl, hown.out, hbel.out⟩
set_option maxHeartbeats 2000000 in
set_option maxRecDepth 100000 in
theorem where_next (n : Nat) (bo : Nat) (q : Nat → Bool) (w : World) (h1 : n ≤ 100000) (hc : ∀ W (i : Nat), i < n → Below w.heap.size w W → Calls Try.prog 56 #[.int .i64 i, .pointer (some ⟨bo, 0, none⟩)] W fun e W' => e = .returned (.bool (q i)) ∧ Below W.heap.size W W') :
    Calls Try.prog 51 #[.int .i64 n, .func (.func 56) #[] #[.pointer (some ⟨bo, 0, none⟩)]] w fun e w' => ∃ v, e = .returned v ∧ w'.ownsRow w.heap.size 3 1 v (wh n q).length (nv (wh n q)) ∧ Below w.heap.size w w' := by
  have HC := Lib.hid hc
  obtain ⟨i0, hi, hz0, hz1, hz2⟩ := info_parts infoInt
  clear hc
  go_enter Try.func51, Try.ntmps51
  go_wp2
  go_loopw [5, 8] (fun v i wy => ∃ j : Nat, j ≤ n ∧ i = .int .i64 j ∧ Hid (wy.ownsRow w.heap.size 3 1 v (wh j q).length (nv (wh j q))) ∧ Hid (Below w.heap.size w wy)) (fun _ i _ => n - (intOf i).toNat)
  case atStart => exact ⟨0, Nat.zero_le _, rfl, World.ownsRow_nil _ _ _ _, Below.refl _ _⟩
  case round =>
    obtain ⟨j, hj, rfl, hown, hbel⟩ := hrel
    by_cases hjn : j < n
    · have hwr := hbel.out.size
      have hgl := wh_le j q
      have HNX := Lib.hid (wh_next j q)
      have CJ := Lib.hid (HC.out _ j hjn hbel.out)
      obtain ⟨b, hb⟩ : ∃ b, b = q j := ⟨_, rfl⟩
      rw [← hb] at HNX CJ
      clear hb
      obtain ⟨AE, cE, rfl, hcE, hcE2⟩ := own_slice hown.out
      go_wp2_with fail
      refine CJ.out.mono ?_
      rintro e w6 ⟨rfl, hb6⟩
      have HO6 := Lib.hid (own_below hown.out hb6)
      have HB6 := Lib.hid (hbel.out.trans (hb6.mono hbel.out.size))
      have hw6 := HB6.out.size
      clear hown hbel CJ hb6
      cases b with
      | true =>
        have HY : Hid (wh (j + 1) q = wh j q ++ [j]) := by show _ = _; simpa using HNX.out
        clear HNX
        go_wp2_with (at_builtin; refine wpList_append_own _ rfl _ _ 29 rfl w.heap.size 3 i0 (.int .i64 0) 1 8 Try.underlying29 hi hz0 hz1 hz2 rfl (by decide) _ _ _ rfl (HO6.out.alloc _) ⟨_, 0, none⟩ 1 1 [.int .i64 (j : Int)] rfl rfl (cell_one_new _ _ _) (nv_one [j]) (by unfold maxLen; omega) (by omega) (by simp; omega) ?_; intro v1 w1 hown1 hgrow1 _hnil1; have HO1 := Lib.hid hown1; have HG1 := Lib.hid hgrow1; clear hown1 hgrow1 _hnil1)
        go_roundw
        case rel => exact ⟨j + 1, by omega, by go_num, by show World.ownsRow _ _ _ _ _ _ _; rw [HY.out, List.length_append, nv_app]; exact HO1.out, (HB6.out.alloc hw6 _).grown HG1.out (by simp; omega) (own_from HO6.out)⟩
        case measure => simp [intOf]; omega
      | false =>
        have HY : Hid (wh (j + 1) q = wh j q) := by show _ = _; simpa using HNX.out
        clear HNX
        go_wp2_with fail
        go_roundw
        case rel => exact ⟨j + 1, by omega, by go_num, by show World.ownsRow _ _ _ _ _ _ _; rw [HY.out]; exact HO6.out, HB6⟩
        case measure => simp [intOf]; omega
    · obtain rfl : j = n := by omega
      go_wp2
      go_ret
      exact ⟨_, rfl, hown.out, hbel.out⟩
set_option maxHeartbeats 2000000 in
set_option maxRecDepth 100000 in
theorem where_crowd (n : Nat) (bq bo : Nat) (q : Nat → Bool) (w : World) (h1 : n ≤ 100000) (hc : ∀ W (i : Nat), i < n → Below w.heap.size w W → Calls Try.prog 69 #[.int .i64 i, .pointer (some ⟨bq, 0, none⟩), .pointer (some ⟨bo, 0, none⟩)] W fun e W' => e = .returned (.bool (q i)) ∧ Below W.heap.size W W') :
    Calls Try.prog 51 #[.int .i64 n, .func (.func 69) #[] #[.pointer (some ⟨bq, 0, none⟩), .pointer (some ⟨bo, 0, none⟩)]] w fun e w' => ∃ v, e = .returned v ∧ w'.ownsRow w.heap.size 3 1 v (wh n q).length (nv (wh n q)) ∧ Below w.heap.size w w' := by
  have HC := Lib.hid hc
  obtain ⟨i0, hi, hz0, hz1, hz2⟩ := info_parts infoInt
  clear hc
  go_enter Try.func51, Try.ntmps51
  go_wp2
  go_loopw [5, 8] (fun v i wy => ∃ j : Nat, j ≤ n ∧ i = .int .i64 j ∧ Hid (wy.ownsRow w.heap.size 3 1 v (wh j q).length (nv (wh j q))) ∧ Hid (Below w.heap.size w wy)) (fun _ i _ => n - (intOf i).toNat)
  case atStart => exact ⟨0, Nat.zero_le _, rfl, World.ownsRow_nil _ _ _ _, Below.refl _ _⟩
  case round =>
    obtain ⟨j, hj, rfl, hown, hbel⟩ := hrel
    by_cases hjn : j < n
    · have hwr := hbel.out.size
      have hgl := wh_le j q
      have HNX := Lib.hid (wh_next j q)
      have CJ := Lib.hid (HC.out _ j hjn hbel.out)
      obtain ⟨b, hb⟩ : ∃ b, b = q j := ⟨_, rfl⟩
      rw [← hb] at HNX CJ
      clear hb
      obtain ⟨AE, cE, rfl, hcE, hcE2⟩ := own_slice hown.out
      go_wp2_with fail
      refine CJ.out.mono ?_
      rintro e w6 ⟨rfl, hb6⟩
      have HO6 := Lib.hid (own_below hown.out hb6)
      have HB6 := Lib.hid (hbel.out.trans (hb6.mono hbel.out.size))
      have hw6 := HB6.out.size
      clear hown hbel CJ hb6
      cases b with
      | true =>
        have HY : Hid (wh (j + 1) q = wh j q ++ [j]) := by show _ = _; simpa using HNX.out
        clear HNX
        go_wp2_with (at_builtin; refine wpList_append_own _ rfl _ _ 29 rfl w.heap.size 3 i0 (.int .i64 0) 1 8 Try.underlying29 hi hz0 hz1 hz2 rfl (by decide) _ _ _ rfl (HO6.out.alloc _) ⟨_, 0, none⟩ 1 1 [.int .i64 (j : Int)] rfl rfl (cell_one_new _ _ _) (nv_one [j]) (by unfold maxLen; omega) (by omega) (by simp; omega) ?_; intro v1 w1 hown1 hgrow1 _hnil1; have HO1 := Lib.hid hown1; have HG1 := Lib.hid hgrow1; clear hown1 hgrow1 _hnil1)
        go_roundw
        case rel => exact ⟨j + 1, by omega, by go_num, by show World.ownsRow _ _ _ _ _ _ _; rw [HY.out, List.length_append, nv_app]; exact HO1.out, (HB6.out.alloc hw6 _).grown HG1.out (by simp; omega) (own_from HO6.out)⟩
        case measure => simp [intOf]; omega
      | false =>
        have HY : Hid (wh (j + 1) q = wh j q) := by show _ = _; simpa using HNX.out
        clear HNX
        go_wp2_with fail
        go_roundw
        case rel => exact ⟨j + 1, by omega, by go_num, by show World.ownsRow _ _ _ _ _ _ _; rw [HY.out]; exact HO6.out, HB6⟩
        case measure => simp [intOf]; omega
    · obtain rfl : j = n := by omega
      go_wp2
      go_ret
      exact ⟨_, rfl, hown.out, hbel.out⟩
end Go.Proofs.Ytfapghekakdpgaa
