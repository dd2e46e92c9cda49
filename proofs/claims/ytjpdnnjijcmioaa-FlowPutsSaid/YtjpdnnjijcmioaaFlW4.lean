/- Contracts of the statements' own fixed fact of flow and of its put. -/
import Derived.Test.YtjpdnnjijcmioaaFlW3
import Derived.Test.YtjpdnnjijcmioaaRcEq
import Derived.Laws.BitsLemmas
namespace Go.Proofs.Ytjpdnnjijcmioaa
open Go.RowKit M Fl
attribute [-go_sem] Builtin.append_
theorem mask_1 (n : Int) : bits .and .i64 n 1 = n % 2 := by
  have hm : (BitVec.ofInt 64 1).toNat = 2 ^ 1 - 1 := by decide
  have key : (BitVec.ofInt 64 n &&& BitVec.ofInt 64 1).toNat = (n % ((2 ^ 64 : Nat) : Int)).toNat % 2 ^ 1 := by
    rw [BitVec.toNat_and, BitVec.toNat_ofInt, hm, Nat.and_two_pow_sub_one_eq_mod]
  show IntKind.i64.wrap ((BitVec.ofInt 64 n &&& BitVec.ofInt 64 1).toNat : Nat) = n % 2
  rw [key, IntKind.wrap_i64]
  omega
theorem mask_7 (n : Int) : bits .and .i64 n 7 = n % 8 := by
  have hm : (BitVec.ofInt 64 7).toNat = 2 ^ 3 - 1 := by decide
  have key : (BitVec.ofInt 64 n &&& BitVec.ofInt 64 7).toNat = (n % ((2 ^ 64 : Nat) : Int)).toNat % 2 ^ 3 := by
    rw [BitVec.toNat_and, BitVec.toNat_ofInt, hm, Nat.and_two_pow_sub_one_eq_mod]
  show IntKind.i64.wrap ((BitVec.ofInt 64 n &&& BitVec.ofInt 64 7).toNat : Nat) = n % 8
  rw [key, IntKind.wrap_i64]
  omega
theorem mask_15 (n : Int) : bits .and .i64 n 15 = n % 16 := by
  have hm : (BitVec.ofInt 64 15).toNat = 2 ^ 4 - 1 := by decide
  have key : (BitVec.ofInt 64 n &&& BitVec.ofInt 64 15).toNat = (n % ((2 ^ 64 : Nat) : Int)).toNat % 2 ^ 4 := by
    rw [BitVec.toNat_and, BitVec.toNat_ofInt, hm, Nat.and_two_pow_sub_one_eq_mod]
  show IntKind.i64.wrap ((BitVec.ofInt 64 n &&& BitVec.ofInt 64 15).toNat : Nat) = n % 16
  rw [key, IntKind.wrap_i64]
  omega
theorem mask_1023 (n : Int) : bits .and .i64 n 1023 = n % 1024 := by
  have hm : (BitVec.ofInt 64 1023).toNat = 2 ^ 10 - 1 := by decide
  have key : (BitVec.ofInt 64 n &&& BitVec.ofInt 64 1023).toNat = (n % ((2 ^ 64 : Nat) : Int)).toNat % 2 ^ 10 := by
    rw [BitVec.toNat_and, BitVec.toNat_ofInt, hm, Nat.and_two_pow_sub_one_eq_mod]
  show IntKind.i64.wrap ((BitVec.ofInt 64 n &&& BitVec.ofInt 64 1023).toNat : Nat) = n % 1024
  rw [key, IntKind.wrap_i64]
  omega
theorem mask_2047 (n : Int) : bits .and .i64 n 2047 = n % 2048 := by
  have hm : (BitVec.ofInt 64 2047).toNat = 2 ^ 11 - 1 := by decide
  have key : (BitVec.ofInt 64 n &&& BitVec.ofInt 64 2047).toNat = (n % ((2 ^ 64 : Nat) : Int)).toNat % 2 ^ 11 := by
    rw [BitVec.toNat_and, BitVec.toNat_ofInt, hm, Nat.and_two_pow_sub_one_eq_mod]
  show IntKind.i64.wrap ((BitVec.ofInt 64 n &&& BitVec.ofInt 64 2047).toNat : Nat) = n % 2048
  rw [key, IntKind.wrap_i64]
  omega
theorem own_head {w : World} {base : Nat} {e : TypeId} {size n : Nat} {v : Value} {xs : List Value} (h : w.ownsRow base e size v n xs) (hn : 0 < n) : ∃ g c, v = .slice (some ⟨g, 0, none⟩) n c ∧ base ≤ g ∧ g < w.heap.size ∧ n ≤ c ∧ c ≤ maxLen := by
  obtain ⟨g, c, hv, h1, h2⟩ := h.form hn
  obtain ⟨A, c', hv', h3, h4⟩ := own_slice h
  rw [hv] at hv'
  injection hv' with _ _ hc
  exact ⟨g, c, hv, h1, h2, by omega, by omega⟩
def L14 : List Bx := [(4, 2), (5, 1), (3, 3)]
set_option maxHeartbeats 2000000 in
set_option maxRecDepth 100000 in
theorem awake14_any (w : World) : Calls Try.prog 33 #[] w fun e w' => e = .returned (.bool true) ∧ Below w.heap.size w w' := by
  have E1 : (run (ln 1) (bgW 10) L14 3).2.2.1 = 10 := by decide
  have E2 : (run (ln 1) (bgW 10) L14 3).2.2.2 = 6 := by decide
  have E3 : cc (pts (ln 1) (bgW 10) L14 3) = [.int .i64 0, .int .i64 0, .int .i64 5, .int .i64 0, .int .i64 0, .int .i64 3] := by
    show cc (pts (ln 1) (bgW 10) L14 3) = cc [(0, 0), (5, 0), (0, 3)]
    rw [show pts (ln 1) (bgW 10) L14 3 = [(0, 0), (5, 0), (0, 3)] by decide]
  have C := Lib.hid (wrap_any 10 1 (some ⟨w.heap.size, 0, none⟩) 3 3 L14 (w.alloc (.cells #[.int .i64 4, .int .i64 2, .int .i64 5, .int .i64 1, .int .i64 3, .int .i64 3] 64)) rfl (by omega) (at_new _ _ _ _ rfl _ rfl))
  go_enter Try.func33, Try.ntmps33
  go_wp2_with fail
  refine C.out.mono ?_
  rintro e W ⟨v, rfl, hown, hbel⟩
  rw [E1, E2]
  rw [E3] at hown
  obtain ⟨G, cG, rfl, hG1, hG2, hG3, hG4⟩ := own_head hown (by omega)
  have d2 := hown.cellAt 2 (by omega)
  have d3 := hown.cellAt 3 (by omega)
  have d4 := hown.cellAt 4 (by omega)
  have d5 := hown.cellAt 5 (by omega)
  simp only [List.getElem?_cons_succ, List.getElem?_cons_zero] at d2 d3 d4 d5
  have e2 := Lib.cell?_alloc_some (.cells #[.int .i64 10, .int .i64 6] 64) d2
  have e3 := Lib.cell?_alloc_some (.cells #[.int .i64 10, .int .i64 6] 64) d3
  have e4 := Lib.cell?_alloc_some (.cells #[.int .i64 10, .int .i64 6] 64) d4
  have e5 := Lib.cell?_alloc_some (.cells #[.int .i64 10, .int .i64 6] 64) d5
  have HB : Hid (Below w.heap.size w W) := (below_alloc w _).trans (hbel.mono (by rw [size_alloc]; omega))
  clear hown hbel C E1 E2 E3 d2 d3 d4 d5
  go_wp2
  go_ret
  exact ⟨rfl, HB.out.alloc HB.out.size _⟩
/-- what put does with boxes of a kind -/
def bgK (kind width cols : Int) : Nat → Int → Bool := if kind = 0 then bgS else if kind = 1 then bgW width else bgG (clp cols 1 64)
def bxK (kind width : Int) (L : List Bx) : List Bx := if kind = 0 ∨ kind = 1 then L else L.map fun b => (width, b.2)
theorem bgK0 (width cols : Int) : bgK 0 width cols = bgS := if_pos rfl
theorem bgK1 (width cols : Int) : bgK 1 width cols = bgW width := by unfold bgK; rw [if_neg (by omega), if_pos rfl]
theorem bgK2 {kind : Int} (width cols : Int) (h0 : ¬ kind = 0) (h1 : ¬ kind = 1) : bgK kind width cols = bgG (clp cols 1 64) := by unfold bgK; rw [if_neg h0, if_neg h1]
theorem bxK01 {kind : Int} (width : Int) (L : List Bx) (h : kind = 0 ∨ kind = 1) : bxK kind width L = L := if_pos h
theorem bxK2 {kind : Int} (width : Int) (L : List Bx) (h0 : ¬ kind = 0) (h1 : ¬ kind = 1) : bxK kind width L = L.map fun b => (width, b.2) := if_neg (by rintro (h | h); exact h0 h; exact h1 h)
theorem take_cc (L : List Bx) (k : Nat) (h : k < L.length) : cc (L.take (k + 1)) = cc (L.take k) ++ [.int .i64 (L.getD k (0, 0)).1, .int .i64 (L.getD k (0, 0)).2] := by
  rw [List.take_succ_eq_append_getElem h, cc_app]
  simp [cc, List.getD_eq_getElem?_getD, List.getElem?_eq_getElem h]
/-- a struct of four numbers and a slice in a block of its own -/
structure V5 (w : World) (g : Nat) (a b c d : Int) (x : Value) : Prop where
  c0 : w.cell? ⟨g, 0, none⟩ = some (.int .i64 a)
  c1 : w.cell? ⟨g, 1, none⟩ = some (.int .i64 b)
  c2 : w.cell? ⟨g, 2, none⟩ = some (.int .i64 c)
  c3 : w.cell? ⟨g, 3, none⟩ = some (.int .i64 d)
  c4 : w.cell? ⟨g, 4, none⟩ = some x
theorem V5.lt {w : World} {g : Nat} {a b c d : Int} {x : Value} (h : V5 w g a b c d x) : g < w.heap.size := World.block_lt_of_cell? w _ h.c0
theorem V5.below {w w' : World} {g : Nat} {a b c d : Int} {x : Value} (h : V5 w g a b c d x) (hb : Below w.heap.size w w') : V5 w' g a b c d x :=
  ⟨(hb.cell (p := ⟨g, 0, none⟩) h.lt).trans h.c0, (hb.cell (p := ⟨g, 1, none⟩) h.lt).trans h.c1, (hb.cell (p := ⟨g, 2, none⟩) h.lt).trans h.c2, (hb.cell (p := ⟨g, 3, none⟩) h.lt).trans h.c3, (hb.cell (p := ⟨g, 4, none⟩) h.lt).trans h.c4⟩
theorem V5.alloc {w : World} {g : Nat} {a b c d : Int} {x : Value} (h : V5 w g a b c d x) (o : Obj) : V5 (w.alloc o) g a b c d x := h.below (below_alloc w o)
theorem V5.new (w : World) (a b c d : Int) (x : Value) (t : TypeId) : V5 (w.alloc (.cells #[.int .i64 a, .int .i64 b, .int .i64 c, .int .i64 d, x] t)) w.heap.size a b c d x := by
  constructor <;> simp
set_option maxHeartbeats 4000000 in
set_option maxRecDepth 100000 in
theorem put_any (kind width cols gap : Int) (A : Option Addr) (n c : Nat) (L : List Bx) (w : World) (hn : n = L.length) (hb : n ≤ maxLen) (ha : At w A (cc L)) :
    Calls Try.prog 34 #[.agg #[.int .i64 kind, .int .i64 width, .int .i64 cols, .int .i64 gap, .slice A n c]] w fun e w' => Put w w' (ln gap) (bgK kind width cols) (bxK kind width (L.take 40)) (min n 40) e := by
  unfold maxLen at hb
  have HN := Lib.hid hn
  have HA := Lib.hid ha
  clear hn ha
  obtain ⟨i0, hi, hz0, hz1, hz2⟩ := info_parts infoSz
  go_enter Try.func34, Try.ntmps34
  go_wp2_with fail
  obtain ⟨W1, hW1⟩ : ∃ W1, W1 = (w.alloc (.cells #[.int .i64 kind, .int .i64 width, .int .i64 cols, .int .i64 gap, .slice A n c] 61)).alloc (.cells #[.int .i64 0, .int .i64 0] 64) := ⟨_, rfl⟩
  rw [← hW1]
  have hs1 : W1.heap.size = w.heap.size + 2 := by rw [hW1]; simp
  have hv5 : V5 W1 w.heap.size kind width cols gap (.slice A n c) := by rw [hW1]; exact (V5.new w _ _ _ _ _ _).alloc _
  have hv2 : V2 W1 (w.heap.size + 1) 0 0 := by
    rw [hW1]
    have h9 := V2.new (w.alloc (.cells #[.int .i64 kind, .int .i64 width, .int .i64 cols, .int .i64 gap, .slice A n c] 61)) 0 0 64
    rw [size_alloc] at h9
    exact h9
  have hb1 : Below w.heap.size w W1 := by rw [hW1]; exact (below_alloc w _).alloc (by simp) _
  have ha1 : At W1 A (cc L) := by rw [hW1]; exact (HA.out.alloc _).alloc _
  have H5 := Lib.hid hv5
  have H2 := Lib.hid hv2
  have H1 := Lib.hid hb1
  have HA1 := Lib.hid ha1
  clear hW1 hv5 hv2 hb1 ha1 HA
  generalize hgg : w.heap.size = g at H5 H2 hs1 ⊢
  have HG := Lib.hid hgg
  clear hgg
  go_loopw [4, 5] (fun v i wr => ∃ k : Nat, k ≤ n ∧ k ≤ 40 ∧ i = .int .i64 k ∧ Hid (wr.ownsRow (g + 2) 64 2 v k (cc (L.take k))) ∧ Hid (Below W1.heap.size W1 wr)) (fun _ i _ => 40 - (intOf i).toNat)
  case atStart => exact ⟨0, Nat.zero_le _, Nat.zero_le _, rfl, World.ownsRow_nil _ _ _ _, Below.refl _ _⟩
  case round =>
    obtain ⟨k, hk, hk40, rfl, hown, hbel⟩ := hrel
    obtain ⟨A7, c7, rfl, hc7, hm7⟩ := own_slice hown.out
    obtain ⟨d0, d1, d2, d3, d4⟩ := H5.out.below hbel.out
    have hszr := hbel.out.size
    by_cases hlt : k < n ∧ k < 40
    · obtain ⟨hl1, hl2⟩ := hlt
      have hkl : k < L.length := by have := HN.out; omega
      obtain ⟨b, off, rfl, hbl, hc0, hc1⟩ := at_box (HA1.out.below hbel.out) hkl
      have HT := Lib.hid (take_cc L k hkl)
      generalize L.getD k (0, 0) = bb at *
      obtain ⟨bx, bh⟩ := bb
      simp only at hc0 hc1
      obtain ⟨v1, w1, hrun, hown1, hgrow1, _, hat1⟩ := run_append_own_at (P := Try.prog) (wr.alloc (.cells #[.int .i64 bx, .int .i64 bh] 64)) (g + 2) 93 93 64 i0 _ 2 16 Try.underlying93 hi hz0 hz1 hz2 rfl (by decide) _ _ _ (hown.out.alloc (.cells #[.int .i64 bx, .int .i64 bh] 64)) ⟨wr.heap.size, 0, none⟩ 1 1 [.int .i64 bx, .int .i64 bh] rfl (cells_new' _ _ _ _ rfl _ rfl) (cc_one [(bx, bh)]) (by unfold maxLen; omega) (by omega) (by rw [size_alloc]; omega)
      have EO := Lib.hid (show w1.ownsRow (g + 2) 64 2 v1 (k + 1) (cc (L.take (k + 1))) by rw [HT.out]; exact hown1)
      have EB : Hid (Below W1.heap.size W1 w1) := Below.grown (hbel.out.alloc hszr (.cells #[.int .i64 bx, .int .i64 bh] 64)) hgrow1 (by rw [size_alloc]; omega) (fun q hq => by have := (hown.out.lt q hq).1; omega)
      clear hown1 hgrow1 hat1
      go_wp2_with fail
      clear hrun
      go_roundw
      case rel => exact ⟨k + 1, by omega, by omega, by go_num, EO, EB⟩
      case measure => simp [intOf]; omega
    · have hkm : k = min n 40 := by omega
      have hTK : L.take k = L.take 40 := by rw [hkm]; have := HN.out; by_cases h9 : n ≤ 40; · rw [Nat.min_eq_left h9, List.take_of_length_le (by omega), List.take_of_length_le (by omega)]
                                            · rw [Nat.min_eq_right (by omega)]
      have hkl : k = (L.take 40).length := by rw [List.length_take]; have := HN.out; omega
      have hT : At wr A7 (cc (L.take 40)) := by rw [← hTK]; exact At.own hown.out
      have CS := Lib.hid (fun w' (hw : Below wr.heap.size wr w') => stack_any gap A7 k c7 (L.take 40) w' hkl (by omega) (hT.below hw))
      have CW := Lib.hid (fun w' (hw : Below wr.heap.size wr w') => wrap_any width gap A7 k c7 (L.take 40) w' hkl (by omega) (hT.below hw))
      have CG := Lib.hid (fun w' (hw : Below wr.heap.size wr w') => grid_any cols width gap A7 k c7 (L.take 40) w' hkl (by omega) (hT.below hw))
      have HV2 : Hid (V2 wr (g + 1) 0 0) := H2.out.below hbel.out
      have HB : Hid (Below w.heap.size w wr) := H1.out.trans (hbel.out.mono H1.out.size)
      have hl3 : ¬ ((k : Int) < (n : Int) ∧ (k : Int) < 40) := by omega
      have HKM := Lib.hid hkm
      have hl9 : k ≤ 40 := hk40
      clear hTK hkl hT hown hbel hkm
      have hK : ((k : Int) < (n : Int) ∧ ¬ (k : Int) < 40) ∨ ¬ (k : Int) < (n : Int) := by omega
      by_cases h0 : kind = 0
      · subst h0
        have HE := Lib.hid (fun W e (h : Put w W (ln gap) bgS (L.take 40) k e) => (by rw [bgK0, bxK01 _ _ (.inl rfl), ← HKM.out]; exact h : Put w W (ln gap) (bgK 0 width cols) (bxK 0 width (L.take 40)) (min n 40) e))
        rcases hK with ⟨h6, h7⟩ | h6
        · go_wp2_with fail
          refine (CS.out wr (Below.refl _ _)).mono ?_
          rintro e W ⟨v, rfl, hown, hbel⟩
          have VR : V2 W (g + 1) 0 0 := HV2.out.below hbel
          have HO := Lib.hid hown
          have HB9 : Hid (Below w.heap.size w W) := HB.out.trans (hbel.mono HB.out.size)
          have HV9 := Lib.hid VR
          have hlt9 := VR.lt
          obtain ⟨p0, p1, q0, q1⟩ := VR
          clear hown
          have hsz9 := hbel.size
          clear hbel
          go_wp2_with fail
          clear p0 p1 q0 q1
          refine bodyPost_ret (results_tmp_mid rfl _ _ (g + 1) 0 [.int .i64 _, .int .i64 _] _ rfl (range2 ((HV9.out.set0 _).set1 _).c0 ((HV9.out.set0 _).set1 _).c1) Try.underlying64 rfl (by kernel_rfl)) rfl ?_
          refine HE.out _ _ ⟨_, rfl, own_mono (own_other (own_other HO.out _ 0 _ (by omega)) _ 1 _ (by omega)) HB.out.size, ?_⟩
          exact below_setg (below_setg HB9.out _ 0 _ (by have := HG.out; omega) (by have := HG.out; omega)) _ 1 _ (by have := HG.out; omega) (by rw [setCell_size']; have := HG.out; omega)
        · go_wp2_with fail
          refine (CS.out wr (Below.refl _ _)).mono ?_
          rintro e W ⟨v, rfl, hown, hbel⟩
          have VR : V2 W (g + 1) 0 0 := HV2.out.below hbel
          have HO := Lib.hid hown
          have HB9 : Hid (Below w.heap.size w W) := HB.out.trans (hbel.mono HB.out.size)
          have HV9 := Lib.hid VR
          have hlt9 := VR.lt
          obtain ⟨p0, p1, q0, q1⟩ := VR
          clear hown
          have hsz9 := hbel.size
          clear hbel
          go_wp2_with fail
          clear p0 p1 q0 q1
          refine bodyPost_ret (results_tmp_mid rfl _ _ (g + 1) 0 [.int .i64 _, .int .i64 _] _ rfl (range2 ((HV9.out.set0 _).set1 _).c0 ((HV9.out.set0 _).set1 _).c1) Try.underlying64 rfl (by kernel_rfl)) rfl ?_
          refine HE.out _ _ ⟨_, rfl, own_mono (own_other (own_other HO.out _ 0 _ (by omega)) _ 1 _ (by omega)) HB.out.size, ?_⟩
          exact below_setg (below_setg HB9.out _ 0 _ (by have := HG.out; omega) (by have := HG.out; omega)) _ 1 _ (by have := HG.out; omega) (by rw [setCell_size']; have := HG.out; omega)
      · by_cases h1 : kind = 1
        · subst h1
          have HE := Lib.hid (fun W e (h : Put w W (ln gap) (bgW width) (L.take 40) k e) => (by rw [bgK1, bxK01 _ _ (.inr rfl), ← HKM.out]; exact h : Put w W (ln gap) (bgK 1 width cols) (bxK 1 width (L.take 40)) (min n 40) e))
          rcases hK with ⟨h6, h7⟩ | h6
          · go_wp2_with fail
            refine (CW.out wr (Below.refl _ _)).mono ?_
            rintro e W ⟨v, rfl, hown, hbel⟩
            have VR : V2 W (g + 1) 0 0 := HV2.out.below hbel
            have HO := Lib.hid hown
            have HB9 : Hid (Below w.heap.size w W) := HB.out.trans (hbel.mono HB.out.size)
            have HV9 := Lib.hid VR
            have hlt9 := VR.lt
            obtain ⟨p0, p1, q0, q1⟩ := VR
            clear hown
            have hsz9 := hbel.size
            clear hbel
            go_wp2_with fail
            clear p0 p1 q0 q1
            refine bodyPost_ret (results_tmp_mid rfl _ _ (g + 1) 0 [.int .i64 _, .int .i64 _] _ rfl (range2 ((HV9.out.set0 _).set1 _).c0 ((HV9.out.set0 _).set1 _).c1) Try.underlying64 rfl (by kernel_rfl)) rfl ?_
            refine HE.out _ _ ⟨_, rfl, own_mono (own_other (own_other HO.out _ 0 _ (by omega)) _ 1 _ (by omega)) HB.out.size, ?_⟩
            exact below_setg (below_setg HB9.out _ 0 _ (by have := HG.out; omega) (by have := HG.out; omega)) _ 1 _ (by have := HG.out; omega) (by rw [setCell_size']; have := HG.out; omega)
          · go_wp2_with fail
            refine (CW.out wr (Below.refl _ _)).mono ?_
            rintro e W ⟨v, rfl, hown, hbel⟩
            have VR : V2 W (g + 1) 0 0 := HV2.out.below hbel
            have HO := Lib.hid hown
            have HB9 : Hid (Below w.heap.size w W) := HB.out.trans (hbel.mono HB.out.size)
            have HV9 := Lib.hid VR
            have hlt9 := VR.lt
            obtain ⟨p0, p1, q0, q1⟩ := VR
            clear hown
            have hsz9 := hbel.size
            clear hbel
            go_wp2_with fail
            clear p0 p1 q0 q1
            refine bodyPost_ret (results_tmp_mid rfl _ _ (g + 1) 0 [.int .i64 _, .int .i64 _] _ rfl (range2 ((HV9.out.set0 _).set1 _).c0 ((HV9.out.set0 _).set1 _).c1) Try.underlying64 rfl (by kernel_rfl)) rfl ?_
            refine HE.out _ _ ⟨_, rfl, own_mono (own_other (own_other HO.out _ 0 _ (by omega)) _ 1 _ (by omega)) HB.out.size, ?_⟩
            exact below_setg (below_setg HB9.out _ 0 _ (by have := HG.out; omega) (by have := HG.out; omega)) _ 1 _ (by have := HG.out; omega) (by rw [setCell_size']; have := HG.out; omega)
        · have HE := Lib.hid (fun W e (h : Put w W (ln gap) (bgG (clp cols 1 64)) ((L.take 40).map fun b => (width, b.2)) k e) => (by rw [bgK2 _ _ h0 h1, bxK2 _ _ h0 h1, ← HKM.out]; exact h : Put w W (ln gap) (bgK kind width cols) (bxK kind width (L.take 40)) (min n 40) e))
          generalize ((L.take 40).map fun b => (width, b.2)) = M at CG HE
          rcases hK with ⟨h6, h7⟩ | h6
          · go_wp2_with fail
            refine (CG.out wr (Below.refl _ _)).mono ?_
            rintro e W ⟨v, rfl, hown, hbel⟩
            have VR : V2 W (g + 1) 0 0 := HV2.out.below hbel
            have HO := Lib.hid hown
            have HB9 : Hid (Below w.heap.size w W) := HB.out.trans (hbel.mono HB.out.size)
            have HV9 := Lib.hid VR
            have hlt9 := VR.lt
            obtain ⟨p0, p1, q0, q1⟩ := VR
            clear hown
            have hsz9 := hbel.size
            clear hbel
            go_wp2_with fail
            clear p0 p1 q0 q1
            refine bodyPost_ret (results_tmp_mid rfl _ _ (g + 1) 0 [.int .i64 _, .int .i64 _] _ rfl (range2 ((HV9.out.set0 _).set1 _).c0 ((HV9.out.set0 _).set1 _).c1) Try.underlying64 rfl (by kernel_rfl)) rfl ?_
            refine HE.out _ _ ⟨_, rfl, own_mono (own_other (own_other HO.out _ 0 _ (by omega)) _ 1 _ (by omega)) HB.out.size, ?_⟩
            exact below_setg (below_setg HB9.out _ 0 _ (by have := HG.out; omega) (by have := HG.out; omega)) _ 1 _ (by have := HG.out; omega) (by rw [setCell_size']; have := HG.out; omega)
          · go_wp2_with fail
            refine (CG.out wr (Below.refl _ _)).mono ?_
            rintro e W ⟨v, rfl, hown, hbel⟩
            have VR : V2 W (g + 1) 0 0 := HV2.out.below hbel
            have HO := Lib.hid hown
            have HB9 : Hid (Below w.heap.size w W) := HB.out.trans (hbel.mono HB.out.size)
            have HV9 := Lib.hid VR
            have hlt9 := VR.lt
            obtain ⟨p0, p1, q0, q1⟩ := VR
            clear hown
            have hsz9 := hbel.size
            clear hbel
            go_wp2_with fail
            clear p0 p1 q0 q1
            refine bodyPost_ret (results_tmp_mid rfl _ _ (g + 1) 0 [.int .i64 _, .int .i64 _] _ rfl (range2 ((HV9.out.set0 _).set1 _).c0 ((HV9.out.set0 _).set1 _).c1) Try.underlying64 rfl (by kernel_rfl)) rfl ?_
            refine HE.out _ _ ⟨_, rfl, own_mono (own_other (own_other HO.out _ 0 _ (by omega)) _ 1 _ (by omega)) HB.out.size, ?_⟩
            exact below_setg (below_setg HB9.out _ 0 _ (by have := HG.out; omega) (by have := HG.out; omega)) _ 1 _ (by have := HG.out; omega) (by rw [setCell_size']; have := HG.out; omega)
end Go.Proofs.Ytjpdnnjijcmioaa
