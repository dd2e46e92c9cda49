/- GroupKeeps: a key that stood there, alive, and is to be there, keeps its kid. -/
import Derived.Test.YtjflmkeagheilaaGrP
import Derived.OrdersHeld
namespace Go.Proofs.Ytjflmkeagheilaa
open Go.RowKit Gr
open M (cutS few few_len)
attribute [-go_sem] Builtin.append_
set_option linter.unusedVariables false
theorem keeps {L : List Gk} {keys : List ByteArray} {i j : Nat} (hi : i < L.length) (hg : (gk L i).2 = false) (hk : (gk L i).1 = key keys j) (h1 : ∀ q, q < i → ¬ ((gk L q).2 = false ∧ (gk L q).1 = key keys j)) (h2 : ¬ key keys j ∈ keys.take j) : takeI L keys j = (i : Int) := by
  unfold takeI takeO
  rw [if_neg h2]
  have h3 : first L L.length (key keys j) = some i := by
    unfold first
    cases hs : scan L (key keys j) false L.length with
    | none => exact absurd ⟨hk, hg⟩ (scan_none hs i hi)
    | some q =>
      obtain ⟨q1, q2, q3, q4⟩ := scan_some hs
      have : q = i := by
        rcases Nat.lt_trichotomy q i with h | h | h
        · exact absurd ⟨q3, q2⟩ (h1 q h)
        · exact h
        · exact absurd ⟨hk, hg⟩ (q4 i h)
      rw [this]
      rfl
  rw [h3]
  rfl
set_option maxHeartbeats 16000000 in
set_option maxRecDepth 100000 in
theorem groupKeeps_any (A B : Option Addr) (n c m d : Nat) (L : List Gk) (K : List ByteArray) (x y : Int) (w : World) (hn : n = L.length) (hm : m = K.length) (hb : n ≤ maxLen) (hb2 : m ≤ maxLen) (ha : At w A (gcs L)) (ha2 : At w B (sv K)) (ho : ∀ k ∈ L, OkS k.1) (hw : ∀ k ∈ K, OkS k) :
    Calls Try.prog 5 #[.agg #[.slice A n c, .slice B m d, .int .i64 x, .int .i64 y]] w fun e w' => e = .returned (.bool true) ∧ Below w.heap.size w w' := by
  obtain ⟨b0, hb0⟩ : ∃ b, b = w.heap.size := ⟨_, rfl⟩
  obtain ⟨V0, hV0⟩ : ∃ W, W = w.alloc (.cells #[.slice A n c, .slice B m d, .int .i64 x, .int .i64 y] 42) := ⟨_, rfl⟩
  have hbV : Below w.heap.size w V0 := by rw [hV0]; exact below_alloc w _
  have HK0 := Lib.hid (show Blk V0 b0 42 #[.slice A n c, .slice B m d, .int .i64 x, .int .i64 y] by rw [hV0, hb0]; exact Blk.new w _ _)
  have C1 := Lib.hid (fun W (hW : Below V0.heap.size V0 W) => own_any A n c 20 L W hn hb (by omega) ((ha.below hbV).below hW))
  have C2x := Lib.hid (fun W (hW : Below V0.heap.size V0 W) => few_any B m d 20 K W hm hb2 (by omega) (by omega) ((ha2.below hbV).below hW))
  have OX := Lib.hid (ownK_ok L 20 ho)
  have OY := Lib.hid (few_ok K 20 hw)
  have LX : Hid (min 20 n = (ownK L 20).length) := by show _ = _; rw [ownK_len, hn]
  have hx1 : min 20 n ≤ 20 := by omega
  have hy1 : (few K 20).length ≤ 20 := few_len K 20
  generalize ownK L 20 = X at *
  replace C2x : Hid (∀ W, Below V0.heap.size V0 W → Calls Try.prog 13 #[.slice B m d, .int .i64 20] W fun e w' => ∃ v, e = .returned v ∧ w'.ownsRow W.heap.size 9 1 v (few K 20).length (sv (few K 20)) ∧ Below W.heap.size W w') := C2x
  obtain ⟨Y, hY⟩ : ∃ Y, Y = few K 20 := ⟨_, rfl⟩
  rw [← hY] at C2x OY hy1
  clear hY
  generalize min 20 n = N at *
  obtain ⟨M, hM⟩ : ∃ M, M = Y.length := ⟨_, rfl⟩
  rw [← hM] at C2x hy1
  have HM := Lib.hid hM
  have HBV := Lib.hid hbV
  have HV0 := Lib.hid hV0
  have HG0 := Lib.hid hb0
  clear hn hm hb hb2 ha ha2 ho hw hM hbV hV0 hb0
  go_enter Try.func5, Try.ntmps5
  go_upto_region 1 with fail
  rw [← HV0.out, ← HG0.out]
  go_wp2_with fail
  refine (awake25_any _).mono ?_
  rintro e w1 ⟨rfl, hb1⟩
  have HB1 := Lib.hid hb1
  have K1 := Lib.hid (HK0.out.below hb1)
  have r0 := K1.out.cell 0 (v := .slice A n c) rfl
  clear hb1
  go_wp2_with fail
  refine (C1.out _ HB1.out).mono ?_
  rintro e U ⟨v5, v6, rfl, ho5, ho6, hb2⟩
  obtain ⟨A5, c5, rfl, hc5, hm5⟩ := own_slice ho5
  obtain ⟨A6, c6, rfl, hc6, hm6⟩ := own_slice ho6
  have T5 := Lib.hid (At.own ho5)
  have T6 := Lib.hid (At.own ho6)
  have N6 := Lib.hid (own_addr ho6)
  have HB2 := Lib.hid (HB1.out.trans (hb2.mono HB1.out.size))
  have K2 := Lib.hid (K1.out.below hb2)
  have C2 := Lib.hid (fun W (hW : Below U.heap.size U W) => C2x.out W (HB2.out.trans (hW.mono HB2.out.size)))
  have SH := Lib.hid (fun W (BW : Below U.heap.size U W) => (⟨(BW.cell (p := ⟨b0, 1, none⟩) K2.out.lt).trans (K2.out.cell 1 (v := .slice B m d) rfl), (BW.cell (p := ⟨b0, 2, none⟩) K2.out.lt).trans (K2.out.cell 2 (v := .int .i64 x) rfl), (BW.cell (p := ⟨b0, 3, none⟩) K2.out.lt).trans (K2.out.cell 3 (v := .int .i64 y) rfl), BW⟩ : (fun w' => w'.cell? ⟨b0, 1, none⟩ = some (.slice B m d) ∧ w'.cell? ⟨b0, 2, none⟩ = some (.int .i64 x) ∧ w'.cell? ⟨b0, 3, none⟩ = some (.int .i64 y) ∧ Below U.heap.size U w') W))
  clear ho5 ho6 hb2 C1 r0 C2x K1 HB1 HK0
  go_upto_region 4 with fail
  go_cut [5, 6, 7] (fun p q r wx => ∃ (A1 : Option Addr) (c1 : Nat), p = .slice A1 M c1 ∧ q = .int .i64 x ∧ r = .int .i64 y ∧ Hid (wx.ownsRow U.heap.size 9 1 (.slice A1 M c1) M (sv Y)) ∧ Hid (Below U.heap.size U wx))
  case first =>
    have HB0 := Lib.hid (show Below U.heap.size U U.drew from Below_drew (Below.refl _ _))
    obtain ⟨X0, hX0⟩ : ∃ X, X = U.drew := ⟨_, rfl⟩
    refine wp_region_held_drew (S := (fun w' => w'.cell? ⟨b0, 1, none⟩ = some (.slice B m d) ∧ w'.cell? ⟨b0, 2, none⟩ = some (.int .i64 x) ∧ w'.cell? ⟨b0, 3, none⟩ = some (.int .i64 y) ∧ Below U.heap.size U w')) (by kernel_rfl) (SH.out _ HB0.out) (fun hH0 => ?_)
    rw [← hX0] at HB0 hH0 ⊢
    clear hX0
    refine wpAnyH_take (i := 0) (oi := Oper.mk (some 21) (Op.fieldAddr 42 (Operand.tmp 1) 1) 0 "law.go:99" #[] none) (v := ?_) rfl (by kernel_rfl) (by kernel_rfl) (by kernel_rfl) (fun _ _ _ h => h) (Or.inl ⟨by rfl, ?_⟩) (by assumption) ?_
    rotate_left 1
    · (intro w hSw; (try dsimp only at hSw); go_simp; (try with_reducible rfl))
    try simp only [Act.put, List.setIfInBounds_toArray, List.set_cons_zero, List.set_cons_succ]
    refine wpAnyH_take (i := 1) (oi := Oper.mk (some 22) (Op.load 23 (Operand.tmp 21)) 23 "law.go:99" #[Edge.mk 0 Ground.data] none) (v := ?_) rfl (by kernel_rfl) (by kernel_rfl) (by kernel_rfl) (fun _ _ _ h => h) (Or.inl ⟨by rfl, ?_⟩) (by assumption) ?_
    rotate_left 1
    · (intro w hSw; (try dsimp only at hSw); go_simp; (try with_reducible rfl))
    try simp only [Act.put, List.setIfInBounds_toArray, List.set_cons_zero, List.set_cons_succ]
    refine wpAnyH_take (i := 3) (oi := Oper.mk (some 24) (Op.fieldAddr 42 (Operand.tmp 1) 2) 0 "law.go:99" #[Edge.mk 7 (Ground.gcOnly Departure.lateStores)] none) (v := ?_) rfl (by kernel_rfl) (by kernel_rfl) (by kernel_rfl) (fun _ _ _ h => h) (Or.inl ⟨by rfl, ?_⟩) (by assumption) ?_
    rotate_left 1
    · (intro w hSw; (try dsimp only at hSw); go_simp; (try with_reducible rfl))
    try simp only [Act.put, List.setIfInBounds_toArray, List.set_cons_zero, List.set_cons_succ]
    refine wpAnyH_take (i := 4) (oi := Oper.mk (some 25) (Op.load 3 (Operand.tmp 24)) 3 "law.go:99" #[Edge.mk 3 Ground.data, Edge.mk 7 (Ground.gcOnly Departure.lateStores)] none) (v := ?_) rfl (by kernel_rfl) (by kernel_rfl) (by kernel_rfl) (fun _ _ _ h => h) (Or.inl ⟨by rfl, ?_⟩) (by assumption) ?_
    rotate_left 1
    · (intro w hSw; (try dsimp only at hSw); go_simp; (try with_reducible rfl))
    try simp only [Act.put, List.setIfInBounds_toArray, List.set_cons_zero, List.set_cons_succ]
    refine wpAnyH_take (i := 5) (oi := Oper.mk (some 26) (Op.fieldAddr 42 (Operand.tmp 1) 3) 0 "law.go:99" #[Edge.mk 8 (Ground.gcOnly Departure.lateStores)] none) (v := ?_) rfl (by kernel_rfl) (by kernel_rfl) (by kernel_rfl) (fun _ _ _ h => h) (Or.inl ⟨by rfl, ?_⟩) (by assumption) ?_
    rotate_left 1
    · (intro w hSw; (try dsimp only at hSw); go_simp; (try with_reducible rfl))
    try simp only [Act.put, List.setIfInBounds_toArray, List.set_cons_zero, List.set_cons_succ]
    refine wpAnyH_take (i := 6) (oi := Oper.mk (some 27) (Op.load 3 (Operand.tmp 26)) 3 "law.go:99" #[Edge.mk 5 Ground.data, Edge.mk 8 (Ground.gcOnly Departure.lateStores)] none) (v := ?_) rfl (by kernel_rfl) (by kernel_rfl) (by kernel_rfl) (fun _ _ _ h => h) (Or.inl ⟨by rfl, ?_⟩) (by assumption) ?_
    rotate_left 1
    · (intro w hSw; (try dsimp only at hSw); go_simp; (try with_reducible rfl))
    try simp only [Act.put, List.setIfInBounds_toArray, List.set_cons_zero, List.set_cons_succ]
    refine wpAnyH_ready (rs := [2]) (by kernel_rfl) (by simp) ?_
    refine (AllReadyH.cons (o := Oper.mk (some 23) (Op.call (Call.mk (Callee.value (Operand.func 13)) #[Operand.tmp 22, Operand.const (Value.int IntKind.i64 20)] #[23, 3])) 23 "law.go:99" #[Edge.mk 1 Ground.data] none) rfl (fun K hK => ?_) AllReadyH.nil)
    go_simp
    go_at_call 13
    (with_reducible refine (C2.out _ HB0.out).mono ?_)
    rintro e9 X1 ⟨v9, rfl, ho, hb⟩
    obtain ⟨A1, c1, rfl, _, _⟩ := own_slice ho
    have HB1 := Lib.hid (HB0.out.trans (hb.mono HB0.out.size))
    have R1x1 := Lib.hid (own_mono ho HB0.out.size)
    clear ho hb HB0
    go_wp2_with fail
    refine hK.out _ _ ?_ (fun hH1 => ?_)
    · exact SH.out _ HB1.out
    clear hK K
    try clear hH0
    try simp only [Act.put, List.setIfInBounds_toArray, List.set_cons_zero, List.set_cons_succ]
    refine wpAnyH_take (i := 7) (oi := Oper.mk (some 5) (Op.assign (Operand.tmp 23)) 23 "law.go:99" #[Edge.mk 2 Ground.data, Edge.mk 2 Ground.chain, Edge.mk 0 Ground.phase, Edge.mk 1 Ground.phase, Edge.mk 2 Ground.phase, Edge.mk 3 (Ground.textOnly Departure.lateStores), Edge.mk 4 (Ground.textOnly Departure.lateStores), Edge.mk 5 (Ground.textOnly Departure.lateStores), Edge.mk 6 (Ground.textOnly Departure.lateStores)] none) (v := ?_) rfl (by kernel_rfl) (by kernel_rfl) (by kernel_rfl) (fun _ _ _ h => h) (Or.inl ⟨by rfl, ?_⟩) (by assumption) ?_
    rotate_left 1
    · (intro w hSw; (try dsimp only at hSw); go_simp; (try with_reducible rfl))
    try simp only [Act.put, List.setIfInBounds_toArray, List.set_cons_zero, List.set_cons_succ]
    refine wpAnyH_take (i := 8) (oi := Oper.mk (some 6) (Op.assign (Operand.tmp 25)) 3 "law.go:99" #[Edge.mk 4 Ground.data, Edge.mk 7 Ground.chain, Edge.mk 0 Ground.phase, Edge.mk 1 Ground.phase, Edge.mk 2 Ground.phase, Edge.mk 3 Ground.phase, Edge.mk 4 Ground.phase, Edge.mk 5 (Ground.textOnly Departure.lateStores), Edge.mk 6 (Ground.textOnly Departure.lateStores), Edge.mk 7 Ground.phase] none) (v := ?_) rfl (by kernel_rfl) (by kernel_rfl) (by kernel_rfl) (fun _ _ _ h => h) (Or.inl ⟨by rfl, ?_⟩) (by assumption) ?_
    rotate_left 1
    · (intro w hSw; (try dsimp only at hSw); go_simp; (try with_reducible rfl))
    try simp only [Act.put, List.setIfInBounds_toArray, List.set_cons_zero, List.set_cons_succ]
    refine wpAnyH_take (i := 9) (oi := Oper.mk (some 7) (Op.assign (Operand.tmp 27)) 3 "law.go:99" #[Edge.mk 6 Ground.data, Edge.mk 8 Ground.chain, Edge.mk 0 Ground.phase, Edge.mk 1 Ground.phase, Edge.mk 2 Ground.phase, Edge.mk 3 Ground.phase, Edge.mk 4 Ground.phase, Edge.mk 5 Ground.phase, Edge.mk 6 Ground.phase, Edge.mk 7 Ground.phase, Edge.mk 8 Ground.phase] none) (v := ?_) rfl (by kernel_rfl) (by kernel_rfl) (by kernel_rfl) (fun _ _ _ h => h) (Or.inl ⟨by rfl, ?_⟩) (by assumption) ?_
    rotate_left 1
    · (intro w hSw; (try dsimp only at hSw); go_simp; (try with_reducible rfl))
    try simp only [Act.put, List.setIfInBounds_toArray, List.set_cons_zero, List.set_cons_succ]
    refine wpAnyH_done (by kernel_rfl) ?_ _
    go_wp2_with fail
    go_meet
    exact ⟨A1, c1, rfl, rfl, rfl, R1x1, HB1⟩
  case' rest =>
    obtain ⟨A1, c1, rfl, rfl, rfl, R1, HBx⟩ := hcut
  rename World => wq
  obtain ⟨w3, hw3⟩ : ∃ W, W = wq := ⟨_, rfl⟩
  rw [← hw3] at R1 HBx ⊢
  have h11 := own_slice R1.out
  have hcap : M ≤ c1 ∧ c1 ≤ maxLen := by
    obtain ⟨_, _, e, h1, h2⟩ := h11
    injection e with _ _ e
    subst e
    exact ⟨h1, h2⟩
  have N1 := Lib.hid (own_addr R1.out)
  have U1 := Lib.hid (At.own R1.out)
  have U5 := Lib.hid (T5.out.below HBx.out)
  have U6 := Lib.hid (T6.out.below HBx.out)
  have HB3 := Lib.hid (HBV.out.trans ((HB2.out.trans (HBx.out.mono HB2.out.size)).mono HBV.out.size))
  obtain ⟨hc1, hm1⟩ := hcap
  have C3 := Lib.hid (of_any A5 N c5 X A1 M c1 Y w3 LX.out HM.out (by omega) (by omega) U5.out U1.out OX.out OY.out)
  clear hw3 R1 HBx T5 T6 C2 SH h11 HB2 K2 HBV
  go_wp2_with fail
  refine C3.out.mono ?_
  rintro e w4 ⟨v7, v8, rfl, ho7, ho8, hb4⟩
  obtain ⟨A7, c7, rfl, _, _⟩ := own_slice ho7
  obtain ⟨A8, c8, rfl, _, _⟩ := own_slice ho8
  generalize (leaves X (tks X Y)).length = NL at *
  obtain ⟨W5, hW5⟩ : ∃ W, W = w4.alloc (.cells #[.slice A7 NL c7, .slice A8 M c8] 31) := ⟨_, rfl⟩
  obtain ⟨gp, hgp⟩ : ∃ g, g = w4.heap.size := ⟨_, rfl⟩
  have hb5 : Below w4.heap.size w4 W5 := by rw [hW5]; exact below_alloc w4 _
  have hb35 : Below w3.heap.size w3 W5 := hb4.trans (hb5.mono hb4.size)
  have KP := Lib.hid (show Blk W5 gp 31 #[.slice A7 NL c7, .slice A8 M c8] by rw [hW5, hgp]; exact Blk.new w4 _ _)
  have V8 := Lib.hid ((At.own ho8).below hb5)
  have X6 := Lib.hid (U6.out.below hb35)
  have Y1 := Lib.hid (U1.out.below hb35)
  have HBU := Lib.hid (HB3.out.trans (hb35.mono HB3.out.size))
  have HW5 := Lib.hid hW5
  have HGP := Lib.hid hgp
  have p1 := KP.out.cell 1 (v := .slice A8 M c8) rfl
  clear ho7 ho8 hb4 hb5 hb35 hW5 hgp C3 HB3 U1 U5 U6
  go_upto_region 6 with fail
  rw [← HW5.out, ← HGP.out]
  have hMM : ((M : Int) != (M : Int)) = false := by simp
  go_upto_region 8 with fail
  by_cases h1 : x < 0
  · have q1 : decide (x < 0) = true := decide_eq_true h1
    clear h1
    go_wp2_with fail
    go_big_quiet (fail)
    go_wp2
    go_ret
    exact ⟨rfl, drewN_below HBU.out _⟩
  · by_cases h2 : (N : Int) ≤ x
    · have q1 : decide (x < 0) = false := decide_eq_false h1
      have q2 : decide (x ≥ (N : Int)) = true := decide_eq_true h2
      clear h1 h2
      go_wp2_with fail
      go_big_quiet (fail)
      go_wp2
      go_ret
      exact ⟨rfl, drewN_below HBU.out _⟩
    · by_cases h3 : y < 0
      · have q1 : decide (x < 0) = false := decide_eq_false h1
        have q2 : decide (x ≥ (N : Int)) = false := decide_eq_false h2
        have q3 : decide (y < 0) = true := decide_eq_true h3
        clear h1 h2 h3
        go_wp2_with fail
        go_big_quiet (fail)
        go_wp2
        go_ret
        exact ⟨rfl, drewN_below HBU.out _⟩
      · by_cases h4 : (M : Int) ≤ y
        · have q1 : decide (x < 0) = false := decide_eq_false h1
          have q2 : decide (x ≥ (N : Int)) = false := decide_eq_false h2
          have q3 : decide (y < 0) = false := decide_eq_false h3
          have q4 : decide (y ≥ (M : Int)) = true := decide_eq_true h4
          clear h1 h2 h3 h4
          go_wp2_with fail
          go_big_quiet (fail)
          go_wp2
          go_ret
          exact ⟨rfl, drewN_below HBU.out _⟩
        · obtain ⟨i, rfl⟩ : ∃ i : Nat, x = (i : Int) := ⟨x.toNat, by omega⟩
          obtain ⟨j, rfl⟩ : ∃ j : Nat, y = (j : Int) := ⟨y.toNat, by omega⟩
          have hiN : i < N := by omega
          have hjM : j < M := by omega
          have hiX : i < X.length := by have := LX.out; omega
          have hjY : j < Y.length := by have := HM.out; omega
          obtain ⟨b6, o6, hA6, hb6, hk0, hk1⟩ := at_gk X6.out hiX
          obtain ⟨b1, o1, hA1, hb1, hs1⟩ := Y1.out.one (sv_at Y j hjY)
          obtain ⟨kx, hkx⟩ : ∃ k, k = (gk X i).1 := ⟨_, rfl⟩
          obtain ⟨gx, hgx⟩ : ∃ k, k = (gk X i).2 := ⟨_, rfl⟩
          obtain ⟨s, hs⟩ : ∃ k, k = key Y j := ⟨_, rfl⟩
          rw [← hkx] at hk0
          rw [← hgx] at hk1
          rw [← key_eq Y j hjY, ← hs] at hs1
          have HKX := Lib.hid hkx
          have HGX := Lib.hid hgx
          have HS := Lib.hid hs
          have q1 : decide ((i : Int) < 0) = false := decide_eq_false h1
          have q3 : decide ((j : Int) < 0) = false := decide_eq_false h3
          have q2 : decide (N ≤ i) = false := decide_eq_false (by omega)
          have q4 : decide (M ≤ j) = false := decide_eq_false (by omega)
          clear h1 h2 h3 h4 hkx hgx hs hiX hjY
          subst hA6 hA1
          cases gx with
          | true =>
            go_wp2_with fail
            go_big_quiet (fail)
            go_wp2
            go_ret
            exact ⟨rfl, drewN_below HBU.out _⟩
          | false =>
            by_cases h6 : kx = s
            · subst h6
              have hstr : (kx.toList != kx.toList) = false := by simp
              go_wp2_with fail
              go_big_quiet (fail)
              obtain ⟨W6, hW6⟩ : ∃ W, W = W5.drewN nq := ⟨_, rfl⟩
              have hb6' : Below W5.heap.size W5 W6 := by rw [hW6]; exact drewN_below (Below.refl _ _) _
              have Z6 := Lib.hid (X6.out.below hb6')
              have Z1 := Lib.hid (Y1.out.below hb6')
              have Z8 := Lib.hid (V8.out.below hb6')
              have ZP := Lib.hid (KP.out.below hb6')
              have ZB := Lib.hid (HBU.out.trans (hb6'.mono HBU.out.size))
              rw [← hW6]
              clear hW6 hb6' q1 q2 q3 q4 hk0 hk1 hs1 hstr p1 X6 Y1 V8 KP HBU
              go_upto_region 11 with fail
              go_loopw [78] (fun u wr => ∃ q : Nat, q ≤ i ∧ u = .int .i64 q ∧ Hid (∀ p, p < q → ¬ ((gk X p).2 = false ∧ (gk X p).1 = kx)) ∧ Hid (Below W6.heap.size W6 wr)) (fun u _ => i - (intOf u).toNat)
              case atStart => exact ⟨0, Nat.zero_le _, rfl, Lib.hid (fun p h => absurd h (Nat.not_lt_zero _)), Below.refl _ _⟩
              case round =>
                obtain ⟨q, hq, rfl, hno, hbel⟩ := hrel
                by_cases hqi : q < i
                · obtain ⟨b2, o2, hA2, hb2', ht0, ht1⟩ := at_gk (Z6.out) (k := q) (by have := LX.out; omega)
                  injection hA2 with e2
                  injection e2 with e3 e4
                  subst e3 e4
                  obtain ⟨b3, o3, hA3, hb3, hv⟩ := Z1.out.one (sv_at Y j (by have := HM.out; omega))
                  injection hA3 with e2
                  injection e2 with e3 e4
                  subst e3 e4
                  rw [← key_eq Y j (by have := HM.out; omega), ← HS.out] at hv
                  have hd0 := (hbel.out.cell (p := ⟨b6, o6 + q * 2, none⟩) hb2').trans ht0
                  have hd1 := (hbel.out.cell (p := ⟨b6, o6 + q * 2 + 1, none⟩) hb2').trans ht1
                  have hdv := (hbel.out.cell (p := ⟨b1, o1 + j, none⟩) hb3).trans hv
                  have hcase : ((gk X q).2 = false ∧ (gk X q).1 = kx) ∨ ((gk X q).2 = false ∧ ¬ (gk X q).1 = kx) ∨ (gk X q).2 = true := by
                    by_cases z1 : (gk X q).2 = true
                    · exact .inr (.inr z1)
                    · have z1 : (gk X q).2 = false := by simpa using z1
                      by_cases z2 : (gk X q).1 = kx
                      · exact .inl ⟨z1, z2⟩
                      · exact .inr (.inl ⟨z1, z2⟩)
                  have hstep : ¬ ((gk X q).2 = false ∧ (gk X q).1 = kx) → ∀ p, p < q + 1 → ¬ ((gk X p).2 = false ∧ (gk X p).1 = kx) := fun h p hp => by
                    by_cases e : p = q
                    · subst e; exact h
                    · exact hno.out p (by omega)
                  obtain ⟨yk, hyk⟩ : ∃ k, k = (gk X q).1 := ⟨_, rfl⟩
                  obtain ⟨yg, hyg⟩ : ∃ k, k = (gk X q).2 := ⟨_, rfl⟩
                  rw [← hyk] at hd0 hcase hstep
                  rw [← hyg] at hd1 hcase hstep
                  have HSTEP := Lib.hid hstep
                  have hwr := hbel.out.size
                  obtain ⟨W7, hW7⟩ : ∃ W, W = wr.alloc (.cells #[.string yk, .bool yg] 35) := ⟨_, rfl⟩
                  have hb7 : Below wr.heap.size wr W7 := by rw [hW7]; exact below_alloc _ _
                  have K7 : Blk W7 wr.heap.size 35 #[.string yk, .bool yg] := by rw [hW7]; exact Blk.new wr _ _
                  have q0 := K7.cell 0 (v := .string yk) rfl
                  have q1 := K7.cell 1 (v := .bool yg) rfl
                  have qv := (hb7.cell (p := ⟨b1, o1 + j, none⟩) (Nat.lt_of_lt_of_le hb3 hwr)).trans hdv
                  have HB7 := Lib.hid (hbel.out.trans (hb7.mono hwr))
                  have HW7 := Lib.hid hW7
                  clear hyk hyg hstep hW7 hb7 K7 ht0 ht1 hv hno hbel
                  rcases hcase with ⟨hg7, hk7⟩ | ⟨hg7, z2⟩ | hg7
                  · subst hg7
                    have hst1 : (yk.toList == kx.toList) = true := by rw [hk7]; simp
                    clear hk7
                    go_upto_region 13 with fail
                    rw [← HW7.out]
                    go_wp2_with fail
                    go_big_quiet (fail)
                    go_wp2
                    go_ret
                    exact ⟨rfl, drewN_below (ZB.out.trans (HB7.out.mono ZB.out.size)) _⟩
                  · have hst1 : (yk.toList == kx.toList) = false := Go.Proofs.Ytjflmkeagheilaa.M.str_no z2
                    have HX := Lib.hid (HSTEP.out (fun h => z2 h.2))
                    subst hg7
                    clear z2
                    go_upto_region 13 with fail
                    rw [← HW7.out]
                    go_wp2_with fail
                    go_big_quiet (fail)
                    go_wp2
                    go_roundw
                    case rel => exact ⟨q + 1, by omega, by go_num, HX, drewN_below HB7.out _⟩
                    case measure => simp [intOf]; omega
                  · have HX := Lib.hid (HSTEP.out (fun h => by rw [hg7] at h; cases h.1))
                    subst hg7
                    go_upto_region 13 with fail
                    rw [← HW7.out]
                    go_wp2_with fail
                    go_big_quiet (fail)
                    go_wp2
                    go_roundw
                    case rel => exact ⟨q + 1, by omega, by go_num, HX, drewN_below HB7.out _⟩
                    case measure => simp [intOf]; omega
                · obtain rfl : q = i := by omega
                  have HNO := hno
                  have Q1 := Lib.hid (Z1.out.below hbel.out)
                  have Q8 := Lib.hid (Z8.out.below hbel.out)
                  have QP := Lib.hid (ZP.out.below hbel.out)
                  have QB := Lib.hid (ZB.out.trans (hbel.out.mono ZB.out.size))
                  clear hno hbel Z1 Z8 ZP ZB Z6
                  go_upto_region 17 with fail
                  go_loop [99] (fun u => ∃ t : Nat, t ≤ j ∧ u = .int .i64 t ∧ Hid (¬ kx ∈ Y.take t)) (fun u => j - (intOf u).toNat)
                  case atStart => exact ⟨0, Nat.zero_le _, rfl, by show ¬ _; simp⟩
                  case round =>
                    obtain ⟨t, ht, rfl, hnot⟩ := hrel
                    by_cases htj : t < j
                    · have htY : t < Y.length := by have := HM.out; omega
                      obtain ⟨b3, o3, hA3, hb3, hv⟩ := Q1.out.one (sv_at Y j (by have := HM.out; omega))
                      injection hA3 with e2
                      injection e2 with e3 e4
                      subst e3 e4
                      rw [← key_eq Y j (by have := HM.out; omega), ← HS.out] at hv
                      obtain ⟨b3, o3, hA3, _, hv2⟩ := Q1.out.one (sv_at Y t htY)
                      injection hA3 with e2
                      injection e2 with e3 e4
                      subst e3 e4
                      have htk := List.take_succ_eq_append_getElem htY
                      generalize Y[t] = yt at *
                      have HT := Lib.hid htk
                      by_cases hyt : yt = kx
                      · have hst1 : (yt.toList == kx.toList) = true := by rw [hyt]; simp
                        clear htk hyt
                        go_wp2
                        go_ret
                        exact ⟨rfl, QB.out⟩
                      · have hst1 : (yt.toList == kx.toList) = false := Go.Proofs.Ytjflmkeagheilaa.M.str_no hyt
                        have HY := Lib.hid hyt
                        clear htk hyt
                        go_wp2
                        go_round
                        case rel => exact ⟨t + 1, by omega, by go_num, by show ¬ _; rw [HT.out, List.mem_append, List.mem_singleton]; rintro (h | h); exact hnot.out h; exact HY.out h.symm⟩
                        case measure => simp [intOf]; omega
                    · obtain rfl : t = j := by omega
                      have HTQ : Hid (ats (tks X Y) t = (q : Int)) := by
                        show _ = _
                        rw [tks_at X Y (by have := HM.out; omega)]
                        exact keeps (by have := LX.out; omega) HGX.out.symm (by rw [← HKX.out, HS.out]) (fun p hp => by rw [← HS.out]; exact HNO.out p hp) (by rw [← HS.out]; exact hnot.out)
                      obtain ⟨b8, o8, rfl, _, hc8⟩ := Q8.out.one (iv_at (tks X Y) t (by rw [tks_len]; have := HM.out; omega))
                      rw [HTQ.out] at hc8
                      have p1 := QP.out.cell 1 (v := .slice (some ⟨b8, o8, none⟩) M c8) rfl
                      go_wp2
                      go_ret
                      exact ⟨ret_bool' (by simp), QB.out⟩
            · have hstr : (kx.toList == s.toList) = false := Go.Proofs.Ytjflmkeagheilaa.M.str_no h6
              have hstr2 : (kx.toList != s.toList) = true := by simp [bne, hstr]
              have H6 := Lib.hid h6
              clear h6
              go_wp2_with fail
              go_big_quiet (fail)
              go_wp2
              go_ret
              exact ⟨rfl, drewN_below HBU.out _⟩
end Go.Proofs.Ytjflmkeagheilaa
