/- Contract of the statement's stand. -/
import Derived.Test.YtfapghekakdpgaaSgW1
namespace Go.Proofs.Ytfapghekakdpgaa
open Go.RowKit We Gr Sg Go.Maps
set_option linter.unusedVariables false
set_option linter.unusedSimpArgs false
attribute [-go_sem] Builtin.append_
namespace Sg
def alive (K : List Mb) : List Int := (K.filter (fun m => !m.2.2)).map (·.1)
theorem alive_next (K : List Mb) (k : Nat) (h : k < K.length) : alive (K.take (k + 1)) = if (mb K k).2.2 = true then alive (K.take k) else alive (K.take k) ++ [(mb K k).1] := by
  unfold alive
  rw [List.take_succ_eq_append_getElem h, List.filter_append, List.map_append, mb_eq K k h]
  cases hg : (K[k]).2.2 <;> simp [hg]
theorem alive_len (K : List Mb) : (alive K).length ≤ K.length := by unfold alive; rw [List.length_map]; exact List.length_filter_le _ _
end Sg
set_option maxHeartbeats 8000000 in
set_option maxRecDepth 100000 in
theorem stand_any (A : Option Addr) (n c : Nat) (K : List Mb) (B : Option Addr) (m d : Nat) (Y : List Mb) (w : World) (hn : n = K.length) (hm : m = Y.length) (h1 : n ≤ 1000) (h2 : m ≤ 1000) (ha : At w A (mcs K)) (hb : At w B (mcs Y))
    (hs : ∀ i, i < m → (mb Y i).2.2 = true → nearF (alive Y) (mb Y i).1 (ids Y) (-1) = nearF (alive Y) (mb Y i).1 (ids K) (-1)) :
    Calls Try.prog 36 #[.slice A n c, .slice B m d] w fun e w' => e = .returned (.bool true) ∧ Below w.heap.size w w' := by
  obtain ⟨i0, hi, hz0, hz1, hz2⟩ := info_parts infoInt
  have HN := Lib.hid hn
  have HM := Lib.hid hm
  have HA := Lib.hid ha
  have HB := Lib.hid hb
  have HS := Lib.hid hs
  clear hn hm ha hb hs
  go_enter Try.func36, Try.ntmps36
  go_wp2_with fail
  go_loopw [5, 13] (fun v i wr => ∃ (k : Nat), k ≤ m ∧ i = .int .i64 k ∧ Hid (wr.ownsRow w.heap.size 3 1 v (alive (Y.take k)).length (iv (alive (Y.take k)))) ∧ Hid (Below w.heap.size w wr)) (fun _ i _ => m - (intOf i).toNat)
  case atStart => exact ⟨0, Nat.zero_le _, rfl, own_made w _ rfl (Nat.le_refl _), below_alloc w _⟩
  case round =>
    obtain ⟨k, hk, rfl, hO, hbel⟩ := hrel
    obtain ⟨A1, c1, rfl, hc1, hm1⟩ := own_slice hO.out
    by_cases hlt : k < m
    · have hk' : k < Y.length := by have := HM.out; omega
      obtain ⟨b1, o1, rfl, hb1, hc0, hc1', hc2⟩ := at_mb HB.out hk'
      have hd0 := (hbel.out.cell (p := ⟨b1, o1 + k * 3, none⟩) hb1).trans hc0
      have hd1 := (hbel.out.cell (p := ⟨b1, o1 + k * 3 + 1, none⟩) hb1).trans hc1'
      have hd2 := (hbel.out.cell (p := ⟨b1, o1 + k * 3 + 2, none⟩) hb1).trans hc2
      have hnx := alive_next Y k hk'
      have hll : (alive (Y.take k)).length ≤ 1000 := by have := alive_len (Y.take k); rw [List.length_take] at this; omega
      generalize (mb Y k).1 = x at *
      generalize (mb Y k).2.1 = s at *
      generalize (mb Y k).2.2 = z at *
      obtain ⟨al, hal⟩ : ∃ q, q = alive (Y.take k) := ⟨_, rfl⟩
      rw [← hal] at hO hnx hll
      rw [← hal]
      obtain ⟨gk, hgk⟩ : ∃ q, q = wr.heap.size := ⟨_, rfl⟩
      obtain ⟨W3, hW3⟩ : ∃ W, W = wr.alloc (.cells #[.int .i64 x, .string s, .bool z] 70) := ⟨_, rfl⟩
      have hb3 : Below wr.heap.size wr W3 := by rw [hW3]; exact below_alloc wr _
      have K3 := Lib.hid (show Blk W3 gk 70 #[.int .i64 x, .string s, .bool z] by rw [hW3, hgk]; exact Blk.new wr _ _)
      have O3 := Lib.hid (own_below hO.out hb3)
      have B3 := Lib.hid (hbel.out.trans (hb3.mono hbel.out.size))
      have HNX := Lib.hid hnx
      have HW3 := Lib.hid hW3
      have HGK := Lib.hid hgk
      have f0 := K3.out.cell 0 (v := .int .i64 x) rfl
      have f2 := K3.out.cell 2 (v := .bool z) rfl
      clear hc0 hc1' hc2 hW3 hgk hb3 hbel hO hnx hal
      go_upto_region 5 with fail
      rw [← HW3.out, ← HGK.out]
      clear hd0 hd1 hd2
      cases z with
      | true =>
        have HE : Hid (alive (Y.take (k + 1)) = al) := by have := HNX.out; rw [if_pos rfl] at this; exact this
        go_wp2_with fail
        go_roundw
        case rel => exact ⟨k + 1, by omega, by go_num, by rw [HE.out]; exact O3, B3⟩
        case measure => simp [intOf]; omega
      | false =>
        have HE : Hid (alive (Y.take (k + 1)) = al ++ [x]) := by have := HNX.out; rw [if_neg (by simp)] at this; exact this
        obtain ⟨v1, w1, hrun, hown1, hgrow1, _, hat1⟩ := run_append_own_at (P := Try.prog) (W3.alloc (.cells #[.int .i64 x] 3)) w.heap.size 29 29 3 i0 (.int .i64 0) 1 8 Try.underlying29 hi hz0 hz1 hz2 rfl (by decide) _ _ _ (O3.out.alloc (.cells #[.int .i64 x] 3)) ⟨W3.heap.size, 0, none⟩ 1 1 [.int .i64 x] rfl (cells_new' _ _ _ _ rfl _ rfl) (fun u hu => by simp at hu; subst hu; rfl) (by unfold maxLen; omega) (by omega) (by rw [size_alloc]; have := B3.out.size; omega)
        obtain ⟨A2, c2, rfl, hc2, hm2⟩ := own_slice hown1
        have OF : Hid (w1.ownsRow w.heap.size 3 1 (.slice A2 (al.length + 1) c2) (alive (Y.take (k + 1))).length (iv (alive (Y.take (k + 1))))) := by
          show World.ownsRow _ _ _ _ _ _ _
          rw [HE.out, List.length_append, iv_app]
          exact hown1
        have BF := Lib.hid (Below.grown (B3.out.alloc B3.out.size (.cells #[.int .i64 x] 3)) hgrow1 (by rw [size_alloc]; have := B3.out.size; omega) (fun j hj => by have := own_from O3.out j hj; omega))
        clear hown1 hgrow1 hat1
        go_wp2_with fail
        clear hrun
        go_roundw
        case rel => exact ⟨k + 1, by omega, by go_num, OF, BF⟩
        case measure => simp [intOf]; omega
    · obtain rfl : k = m := by omega
      rw [show Y.take k = Y by rw [HM.out, List.take_length]] at hO ⊢
      obtain ⟨al, hal⟩ : ∃ q, q = alive Y := ⟨_, rfl⟩
      have hll : al.length ≤ 1000 := by have := alive_len Y; rw [hal]; have := HM.out; omega
      rw [← hal] at hO HS ⊢
      clear hal
      have O1 := hO
      have B1 := hbel
      clear hO hbel
      go_wp2_with fail
      go_loopw [28] (fun i wr => ∃ (j : Nat), j ≤ k ∧ i = .int .i64 j ∧ Hid (wr.ownsRow w.heap.size 3 1 (.slice A1 al.length c1) al.length (iv al)) ∧ Hid (Below w.heap.size w wr)) (fun i _ => k - (intOf i).toNat)
      case atStart => exact ⟨0, Nat.zero_le _, rfl, O1, B1⟩
      case round =>
        clear O1 B1
        obtain ⟨q, hj, rfl, hO, hbel⟩ := hrel
        by_cases hjl : q < k
        · have hk' : q < Y.length := by have := HM.out; omega
          obtain ⟨b1, o1, rfl, hb1, hc0, hc1', hc2⟩ := at_mb HB.out hk'
          have hd0 := (hbel.out.cell (p := ⟨b1, o1 + q * 3, none⟩) hb1).trans hc0
          have hd1 := (hbel.out.cell (p := ⟨b1, o1 + q * 3 + 1, none⟩) hb1).trans hc1'
          have hd2 := (hbel.out.cell (p := ⟨b1, o1 + q * 3 + 2, none⟩) hb1).trans hc2
          have hsq := HS.out q hjl
          generalize (mb Y q).1 = x at *
          generalize (mb Y q).2.1 = s at *
          generalize (mb Y q).2.2 = z at *
          have HSQ := Lib.hid hsq
          obtain ⟨gk, hgk⟩ : ∃ q, q = wr.heap.size := ⟨_, rfl⟩
          obtain ⟨W3, hW3⟩ : ∃ W, W = wr.alloc (.cells #[.int .i64 x, .string s, .bool z] 70) := ⟨_, rfl⟩
          have hb3 : Below wr.heap.size wr W3 := by rw [hW3]; exact below_alloc wr _
          have K3 := Lib.hid (show Blk W3 gk 70 #[.int .i64 x, .string s, .bool z] by rw [hW3, hgk]; exact Blk.new wr _ _)
          have O3 := Lib.hid (own_below hO.out hb3)
          have B3 := Lib.hid (hbel.out.trans (hb3.mono hbel.out.size))
          have HW3 := Lib.hid hW3
          have HGK := Lib.hid hgk
          have f0 := K3.out.cell 0 (v := .int .i64 x) rfl
          have f2 := K3.out.cell 2 (v := .bool z) rfl
          clear hc0 hc1' hc2 hW3 hgk hb3 hbel hO hsq
          go_upto_region 11 with fail
          rw [← HW3.out, ← HGK.out]
          clear hd0 hd1 hd2
          cases z with
          | false =>
            have SH : Hid (∀ W, Below W3.heap.size W3 W → W.cell? ⟨gk, 0, none⟩ = some (.int .i64 x) ∧ W.cell? ⟨gk, 2, none⟩ = some (.bool false)) := fun W hW => ⟨(K3.out.below hW).cell 0 rfl, (K3.out.below hW).cell 2 rfl⟩
            clear f0 f2
            have HB0 := Lib.hid (show Below W3.heap.size W3 W3.drew from Below_drew (Below.refl _ _))
            obtain ⟨X0, hX0⟩ : ∃ X, X = W3.drew := ⟨_, rfl⟩
            refine wp_region_held_drew (S := (fun w' => w'.cell? ⟨gk, 0, none⟩ = some (.int .i64 x) ∧ w'.cell? ⟨gk, 2, none⟩ = some (.bool false))) (by kernel_rfl) (SH.out _ HB0.out) (fun hH0 => ?_)
            rw [← hX0] at HB0 hH0 ⊢
            clear hX0
            refine wpAnyH_take (i := 0) (oi := Oper.mk (some 32) (Op.fieldAddr 70 (Operand.tmp 9) 2) 0 "top13.go:85" #[] none) (v := ?_) rfl (by kernel_rfl) (by kernel_rfl) (by kernel_rfl) (fun _ _ _ h => h) (Or.inl ⟨by rfl, ?_⟩) (by assumption) ?_
            rotate_left 1
            · (intro w hSw; (try dsimp only at hSw); go_simp; (try with_reducible rfl))
            try simp only [Act.put, List.setIfInBounds_toArray, List.set_cons_zero, List.set_cons_succ]
            refine wpAnyH_take (i := 1) (oi := Oper.mk (some 33) (Op.load 4 (Operand.tmp 32)) 4 "top13.go:85" #[Edge.mk 0 Ground.data] none) (v := ?_) rfl (by kernel_rfl) (by kernel_rfl) (by kernel_rfl) (fun _ _ _ h => h) (Or.inl ⟨by rfl, ?_⟩) (by assumption) ?_
            rotate_left 1
            · (intro w hSw; (try dsimp only at hSw); go_simp; (try with_reducible rfl))
            try simp only [Act.put, List.setIfInBounds_toArray, List.set_cons_zero, List.set_cons_succ]
            refine wpAnyH_take (i := 2) (oi := Oper.mk (some 34) (Op.move (Operand.tmp 33)) 4 "top13.go:85" #[Edge.mk 1 Ground.data] none) (v := ?_) rfl (by kernel_rfl) (by kernel_rfl) (by kernel_rfl) (fun _ _ _ h => h) (Or.inl ⟨by rfl, ?_⟩) (by assumption) ?_
            rotate_left 1
            · (intro w hSw; (try dsimp only at hSw); go_simp; (try with_reducible rfl))
            try simp only [Act.put, List.setIfInBounds_toArray, List.set_cons_zero, List.set_cons_succ]
            refine wpAnyH_take (i := 3) (oi := Oper.mk (some 35) (Op.move (Operand.tmp 0)) 67 "top13.go:85" #[Edge.mk 2 Ground.guard] (some (2, true))) (v := undef) rfl (by kernel_rfl) (by kernel_rfl) (by kernel_rfl) (fun _ _ _ h => h) (Or.inr ⟨by rfl, rfl⟩) (by assumption) ?_
            try simp only [Act.put, List.setIfInBounds_toArray, List.set_cons_zero, List.set_cons_succ]
            refine wpAnyH_take (i := 4) (oi := Oper.mk (some 36) (Op.move (Operand.tmp 5)) 29 "top13.go:85" #[Edge.mk 2 Ground.guard] (some (2, true))) (v := undef) rfl (by kernel_rfl) (by kernel_rfl) (by kernel_rfl) (fun _ _ _ h => h) (Or.inr ⟨by rfl, rfl⟩) (by assumption) ?_
            try simp only [Act.put, List.setIfInBounds_toArray, List.set_cons_zero, List.set_cons_succ]
            refine wpAnyH_take (i := 5) (oi := Oper.mk (some 37) (Op.fieldAddr 70 (Operand.tmp 9) 0) 0 "top13.go:85" #[Edge.mk 2 Ground.guard] (some (2, true))) (v := undef) rfl (by kernel_rfl) (by kernel_rfl) (by kernel_rfl) (fun _ _ _ h => h) (Or.inr ⟨by rfl, rfl⟩) (by assumption) ?_
            try simp only [Act.put, List.setIfInBounds_toArray, List.set_cons_zero, List.set_cons_succ]
            refine wpAnyH_take (i := 6) (oi := Oper.mk (some 38) (Op.load 3 (Operand.tmp 37)) 3 "top13.go:85" #[Edge.mk 5 Ground.data, Edge.mk 2 Ground.guard] (some (2, true))) (v := undef) rfl (by kernel_rfl) (by kernel_rfl) (by kernel_rfl) (fun _ _ _ h => h) (Or.inr ⟨by rfl, rfl⟩) (by assumption) ?_
            try simp only [Act.put, List.setIfInBounds_toArray, List.set_cons_zero, List.set_cons_succ]
            refine wpAnyH_take (i := 7) (oi := Oper.mk (some 39) (Op.call (Call.mk (Callee.value (Operand.func 61)) #[Operand.tmp 35, Operand.tmp 36, Operand.tmp 38] #[67, 29, 3])) 3 "top13.go:85" #[Edge.mk 3 Ground.data, Edge.mk 4 Ground.data, Edge.mk 6 Ground.data, Edge.mk 2 Ground.chain, Edge.mk 2 Ground.guard] (some (2, true))) (v := undef) rfl (by kernel_rfl) (by kernel_rfl) (by kernel_rfl) (fun _ _ _ h => h) (Or.inr ⟨by rfl, rfl⟩) (by assumption) ?_
            try simp only [Act.put, List.setIfInBounds_toArray, List.set_cons_zero, List.set_cons_succ]
            refine wpAnyH_take (i := 8) (oi := Oper.mk (some 40) (Op.move (Operand.tmp 1)) 67 "top13.go:85" #[Edge.mk 2 Ground.guard] (some (2, true))) (v := undef) rfl (by kernel_rfl) (by kernel_rfl) (by kernel_rfl) (fun _ _ _ h => h) (Or.inr ⟨by rfl, rfl⟩) (by assumption) ?_
            try simp only [Act.put, List.setIfInBounds_toArray, List.set_cons_zero, List.set_cons_succ]
            refine wpAnyH_take (i := 9) (oi := Oper.mk (some 41) (Op.move (Operand.tmp 5)) 29 "top13.go:85" #[Edge.mk 2 Ground.guard] (some (2, true))) (v := undef) rfl (by kernel_rfl) (by kernel_rfl) (by kernel_rfl) (fun _ _ _ h => h) (Or.inr ⟨by rfl, rfl⟩) (by assumption) ?_
            try simp only [Act.put, List.setIfInBounds_toArray, List.set_cons_zero, List.set_cons_succ]
            refine wpAnyH_take (i := 10) (oi := Oper.mk (some 42) (Op.fieldAddr 70 (Operand.tmp 9) 0) 0 "top13.go:85" #[Edge.mk 2 Ground.guard] (some (2, true))) (v := undef) rfl (by kernel_rfl) (by kernel_rfl) (by kernel_rfl) (fun _ _ _ h => h) (Or.inr ⟨by rfl, rfl⟩) (by assumption) ?_
            try simp only [Act.put, List.setIfInBounds_toArray, List.set_cons_zero, List.set_cons_succ]
            refine wpAnyH_take (i := 11) (oi := Oper.mk (some 43) (Op.load 3 (Operand.tmp 42)) 3 "top13.go:85" #[Edge.mk 10 Ground.data, Edge.mk 2 Ground.guard] (some (2, true))) (v := undef) rfl (by kernel_rfl) (by kernel_rfl) (by kernel_rfl) (fun _ _ _ h => h) (Or.inr ⟨by rfl, rfl⟩) (by assumption) ?_
            try simp only [Act.put, List.setIfInBounds_toArray, List.set_cons_zero, List.set_cons_succ]
            refine wpAnyH_take (i := 12) (oi := Oper.mk (some 44) (Op.call (Call.mk (Callee.value (Operand.func 61)) #[Operand.tmp 40, Operand.tmp 41, Operand.tmp 43] #[67, 29, 3])) 3 "top13.go:85" #[Edge.mk 8 Ground.data, Edge.mk 9 Ground.data, Edge.mk 11 Ground.data, Edge.mk 7 Ground.chain, Edge.mk 2 Ground.guard] (some (2, true))) (v := undef) rfl (by kernel_rfl) (by kernel_rfl) (by kernel_rfl) (fun _ _ _ h => h) (Or.inr ⟨by rfl, rfl⟩) (by assumption) ?_
            try simp only [Act.put, List.setIfInBounds_toArray, List.set_cons_zero, List.set_cons_succ]
            refine wpAnyH_take (i := 13) (oi := Oper.mk (some 45) (Op.binOp BinOp.neq 3 (Operand.tmp 39) (Operand.tmp 44) 3) 4 "top13.go:85" #[Edge.mk 7 Ground.data, Edge.mk 12 Ground.data, Edge.mk 2 Ground.guard] (some (2, true))) (v := undef) rfl (by kernel_rfl) (by kernel_rfl) (by kernel_rfl) (fun _ _ _ h => h) (Or.inr ⟨by rfl, rfl⟩) (by assumption) ?_
            try simp only [Act.put, List.setIfInBounds_toArray, List.set_cons_zero, List.set_cons_succ]
            refine wpAnyH_take (i := 14) (oi := Oper.mk (some 46) (Op.pick (Operand.tmp 34) (Operand.tmp 45) (Operand.const (Value.bool false))) 4 "top13.go:85" #[Edge.mk 2 Ground.data, Edge.mk 13 Ground.data] none) (v := ?_) rfl (by kernel_rfl) (by kernel_rfl) (by kernel_rfl) (fun _ _ _ h => h) (Or.inl ⟨by rfl, ?_⟩) (by assumption) ?_
            rotate_left 1
            · (intro w hSw; (try dsimp only at hSw); go_simp; (try with_reducible rfl))
            try simp only [Act.put, List.setIfInBounds_toArray, List.set_cons_zero, List.set_cons_succ]
            refine wpAnyH_take (i := 15) (oi := Oper.mk (some 47) (Op.move (Operand.tmp 46)) 4 "top13.go:85" #[Edge.mk 14 Ground.data, Edge.mk 12 Ground.chain] none) (v := ?_) rfl (by kernel_rfl) (by kernel_rfl) (by kernel_rfl) (fun _ _ _ h => h) (Or.inl ⟨by rfl, ?_⟩) (by assumption) ?_
            rotate_left 1
            · (intro w hSw; (try dsimp only at hSw); go_simp; (try with_reducible rfl))
            try simp only [Act.put, List.setIfInBounds_toArray, List.set_cons_zero, List.set_cons_succ]
            refine wpAnyH_take (i := 16) (oi := Oper.mk (some 48) (Op.move (Operand.tmp 0)) 67 "top13.go:85" #[Edge.mk 15 Ground.guard] (some (15, true))) (v := undef) rfl (by kernel_rfl) (by kernel_rfl) (by kernel_rfl) (fun _ _ _ h => h) (Or.inr ⟨by rfl, rfl⟩) (by assumption) ?_
            try simp only [Act.put, List.setIfInBounds_toArray, List.set_cons_zero, List.set_cons_succ]
            refine wpAnyH_take (i := 17) (oi := Oper.mk (some 49) (Op.move (Operand.tmp 5)) 29 "top13.go:85" #[Edge.mk 15 Ground.guard] (some (15, true))) (v := undef) rfl (by kernel_rfl) (by kernel_rfl) (by kernel_rfl) (fun _ _ _ h => h) (Or.inr ⟨by rfl, rfl⟩) (by assumption) ?_
            try simp only [Act.put, List.setIfInBounds_toArray, List.set_cons_zero, List.set_cons_succ]
            refine wpAnyH_take (i := 18) (oi := Oper.mk (some 50) (Op.fieldAddr 70 (Operand.tmp 9) 0) 0 "top13.go:85" #[Edge.mk 15 Ground.guard] (some (15, true))) (v := undef) rfl (by kernel_rfl) (by kernel_rfl) (by kernel_rfl) (fun _ _ _ h => h) (Or.inr ⟨by rfl, rfl⟩) (by assumption) ?_
            try simp only [Act.put, List.setIfInBounds_toArray, List.set_cons_zero, List.set_cons_succ]
            refine wpAnyH_take (i := 19) (oi := Oper.mk (some 51) (Op.load 3 (Operand.tmp 50)) 3 "top13.go:85" #[Edge.mk 18 Ground.data, Edge.mk 15 Ground.guard] (some (15, true))) (v := undef) rfl (by kernel_rfl) (by kernel_rfl) (by kernel_rfl) (fun _ _ _ h => h) (Or.inr ⟨by rfl, rfl⟩) (by assumption) ?_
            try simp only [Act.put, List.setIfInBounds_toArray, List.set_cons_zero, List.set_cons_succ]
            refine wpAnyH_take (i := 20) (oi := Oper.mk (some 52) (Op.call (Call.mk (Callee.value (Operand.func 61)) #[Operand.tmp 48, Operand.tmp 49, Operand.tmp 51] #[67, 29, 3])) 3 "top13.go:85" #[Edge.mk 16 Ground.data, Edge.mk 17 Ground.data, Edge.mk 19 Ground.data, Edge.mk 15 Ground.chain, Edge.mk 15 Ground.guard] (some (15, true))) (v := undef) rfl (by kernel_rfl) (by kernel_rfl) (by kernel_rfl) (fun _ _ _ h => h) (Or.inr ⟨by rfl, rfl⟩) (by assumption) ?_
            try simp only [Act.put, List.setIfInBounds_toArray, List.set_cons_zero, List.set_cons_succ]
            refine wpAnyH_take (i := 21) (oi := Oper.mk (some 53) (Op.binOp BinOp.geq 3 (Operand.tmp 52) (Operand.const (Value.int IntKind.i64 0)) 3) 4 "top13.go:85" #[Edge.mk 20 Ground.data, Edge.mk 15 Ground.guard] (some (15, true))) (v := undef) rfl (by kernel_rfl) (by kernel_rfl) (by kernel_rfl) (fun _ _ _ h => h) (Or.inr ⟨by rfl, rfl⟩) (by assumption) ?_
            try simp only [Act.put, List.setIfInBounds_toArray, List.set_cons_zero, List.set_cons_succ]
            refine wpAnyH_take (i := 22) (oi := Oper.mk (some 54) (Op.pick (Operand.tmp 47) (Operand.tmp 53) (Operand.const (Value.bool false))) 4 "top13.go:85" #[Edge.mk 15 Ground.data, Edge.mk 21 Ground.data] none) (v := ?_) rfl (by kernel_rfl) (by kernel_rfl) (by kernel_rfl) (fun _ _ _ h => h) (Or.inl ⟨by rfl, ?_⟩) (by assumption) ?_
            rotate_left 1
            · (intro w hSw; (try dsimp only at hSw); go_simp; (try with_reducible rfl))
            try simp only [Act.put, List.setIfInBounds_toArray, List.set_cons_zero, List.set_cons_succ]
            refine wpAnyH_done (by kernel_rfl) ?_ _
            go_wp2_with fail
            go_roundw
            case rel => exact ⟨q + 1, by omega, by go_num, Lib.hid (own_below O3.out HB0.out), Lib.hid (B3.out.trans (HB0.out.mono B3.out.size))⟩
            case measure => simp [intOf]; omega
          | true =>
            obtain ⟨v, hv⟩ : ∃ v, nearF al x (ids K) (-1) = v := ⟨_, rfl⟩
            have hv2 : nearF al x (ids Y) (-1) = v := (HSQ.out rfl).trans hv
            have C1 := Lib.hid (fun W (hW : Below W3.heap.size W3 W) => near_any A n c K A1 al.length c1 al x v W HN.out rfl (by omega) (by omega) (HA.out.below (B3.out.trans (hW.mono B3.out.size))) (At.own (own_below O3.out hW)) hv)
            have C2 := Lib.hid (fun W (hW : Below W3.heap.size W3 W) => near_any (some ⟨b1, o1, none⟩) k d Y A1 al.length c1 al x v W HM.out rfl (by omega) (by omega) (HB.out.below (B3.out.trans (hW.mono B3.out.size))) (At.own (own_below O3.out hW)) hv2)
            clear hv hv2
            have SH : Hid (∀ W, Below W3.heap.size W3 W → W.cell? ⟨gk, 0, none⟩ = some (.int .i64 x) ∧ W.cell? ⟨gk, 2, none⟩ = some (.bool true)) := fun W hW => ⟨(K3.out.below hW).cell 0 rfl, (K3.out.below hW).cell 2 rfl⟩
            clear f0 f2
            have HB0 := Lib.hid (show Below W3.heap.size W3 W3.drew from Below_drew (Below.refl _ _))
            obtain ⟨X0, hX0⟩ : ∃ X, X = W3.drew := ⟨_, rfl⟩
            refine wp_region_held_drew (S := (fun w' => w'.cell? ⟨gk, 0, none⟩ = some (.int .i64 x) ∧ w'.cell? ⟨gk, 2, none⟩ = some (.bool true))) (by kernel_rfl) (SH.out _ HB0.out) (fun hH0 => ?_)
            rw [← hX0] at HB0 hH0 ⊢
            clear hX0
            refine wpAnyH_take (i := 0) (oi := Oper.mk (some 32) (Op.fieldAddr 70 (Operand.tmp 9) 2) 0 "top13.go:85" #[] none) (v := ?_) rfl (by kernel_rfl) (by kernel_rfl) (by kernel_rfl) (fun _ _ _ h => h) (Or.inl ⟨by rfl, ?_⟩) (by assumption) ?_
            rotate_left 1
            · (intro w hSw; (try dsimp only at hSw); go_simp; (try with_reducible rfl))
            try simp only [Act.put, List.setIfInBounds_toArray, List.set_cons_zero, List.set_cons_succ]
            refine wpAnyH_take (i := 1) (oi := Oper.mk (some 33) (Op.load 4 (Operand.tmp 32)) 4 "top13.go:85" #[Edge.mk 0 Ground.data] none) (v := ?_) rfl (by kernel_rfl) (by kernel_rfl) (by kernel_rfl) (fun _ _ _ h => h) (Or.inl ⟨by rfl, ?_⟩) (by assumption) ?_
            rotate_left 1
            · (intro w hSw; (try dsimp only at hSw); go_simp; (try with_reducible rfl))
            try simp only [Act.put, List.setIfInBounds_toArray, List.set_cons_zero, List.set_cons_succ]
            refine wpAnyH_take (i := 2) (oi := Oper.mk (some 34) (Op.move (Operand.tmp 33)) 4 "top13.go:85" #[Edge.mk 1 Ground.data] none) (v := ?_) rfl (by kernel_rfl) (by kernel_rfl) (by kernel_rfl) (fun _ _ _ h => h) (Or.inl ⟨by rfl, ?_⟩) (by assumption) ?_
            rotate_left 1
            · (intro w hSw; (try dsimp only at hSw); go_simp; (try with_reducible rfl))
            try simp only [Act.put, List.setIfInBounds_toArray, List.set_cons_zero, List.set_cons_succ]
            refine wpAnyH_take (i := 3) (oi := Oper.mk (some 35) (Op.move (Operand.tmp 0)) 67 "top13.go:85" #[Edge.mk 2 Ground.guard] (some (2, true))) (v := ?_) rfl (by kernel_rfl) (by kernel_rfl) (by kernel_rfl) (fun _ _ _ h => h) (Or.inl ⟨by rfl, ?_⟩) (by assumption) ?_
            rotate_left 1
            · (intro w hSw; (try dsimp only at hSw); go_simp; (try with_reducible rfl))
            try simp only [Act.put, List.setIfInBounds_toArray, List.set_cons_zero, List.set_cons_succ]
            refine wpAnyH_take (i := 4) (oi := Oper.mk (some 36) (Op.move (Operand.tmp 5)) 29 "top13.go:85" #[Edge.mk 2 Ground.guard] (some (2, true))) (v := ?_) rfl (by kernel_rfl) (by kernel_rfl) (by kernel_rfl) (fun _ _ _ h => h) (Or.inl ⟨by rfl, ?_⟩) (by assumption) ?_
            rotate_left 1
            · (intro w hSw; (try dsimp only at hSw); go_simp; (try with_reducible rfl))
            try simp only [Act.put, List.setIfInBounds_toArray, List.set_cons_zero, List.set_cons_succ]
            refine wpAnyH_take (i := 5) (oi := Oper.mk (some 37) (Op.fieldAddr 70 (Operand.tmp 9) 0) 0 "top13.go:85" #[Edge.mk 2 Ground.guard] (some (2, true))) (v := ?_) rfl (by kernel_rfl) (by kernel_rfl) (by kernel_rfl) (fun _ _ _ h => h) (Or.inl ⟨by rfl, ?_⟩) (by assumption) ?_
            rotate_left 1
            · (intro w hSw; (try dsimp only at hSw); go_simp; (try with_reducible rfl))
            try simp only [Act.put, List.setIfInBounds_toArray, List.set_cons_zero, List.set_cons_succ]
            refine wpAnyH_take (i := 6) (oi := Oper.mk (some 38) (Op.load 3 (Operand.tmp 37)) 3 "top13.go:85" #[Edge.mk 5 Ground.data, Edge.mk 2 Ground.guard] (some (2, true))) (v := ?_) rfl (by kernel_rfl) (by kernel_rfl) (by kernel_rfl) (fun _ _ _ h => h) (Or.inl ⟨by rfl, ?_⟩) (by assumption) ?_
            rotate_left 1
            · (intro w hSw; (try dsimp only at hSw); go_simp; (try with_reducible rfl))
            try simp only [Act.put, List.setIfInBounds_toArray, List.set_cons_zero, List.set_cons_succ]
            refine wpAnyH_take (i := 8) (oi := Oper.mk (some 40) (Op.move (Operand.tmp 1)) 67 "top13.go:85" #[Edge.mk 2 Ground.guard] (some (2, true))) (v := ?_) rfl (by kernel_rfl) (by kernel_rfl) (by kernel_rfl) (fun _ _ _ h => h) (Or.inl ⟨by rfl, ?_⟩) (by assumption) ?_
            rotate_left 1
            · (intro w hSw; (try dsimp only at hSw); go_simp; (try with_reducible rfl))
            try simp only [Act.put, List.setIfInBounds_toArray, List.set_cons_zero, List.set_cons_succ]
            refine wpAnyH_take (i := 9) (oi := Oper.mk (some 41) (Op.move (Operand.tmp 5)) 29 "top13.go:85" #[Edge.mk 2 Ground.guard] (some (2, true))) (v := ?_) rfl (by kernel_rfl) (by kernel_rfl) (by kernel_rfl) (fun _ _ _ h => h) (Or.inl ⟨by rfl, ?_⟩) (by assumption) ?_
            rotate_left 1
            · (intro w hSw; (try dsimp only at hSw); go_simp; (try with_reducible rfl))
            try simp only [Act.put, List.setIfInBounds_toArray, List.set_cons_zero, List.set_cons_succ]
            refine wpAnyH_take (i := 10) (oi := Oper.mk (some 42) (Op.fieldAddr 70 (Operand.tmp 9) 0) 0 "top13.go:85" #[Edge.mk 2 Ground.guard] (some (2, true))) (v := ?_) rfl (by kernel_rfl) (by kernel_rfl) (by kernel_rfl) (fun _ _ _ h => h) (Or.inl ⟨by rfl, ?_⟩) (by assumption) ?_
            rotate_left 1
            · (intro w hSw; (try dsimp only at hSw); go_simp; (try with_reducible rfl))
            try simp only [Act.put, List.setIfInBounds_toArray, List.set_cons_zero, List.set_cons_succ]
            refine wpAnyH_take (i := 11) (oi := Oper.mk (some 43) (Op.load 3 (Operand.tmp 42)) 3 "top13.go:85" #[Edge.mk 10 Ground.data, Edge.mk 2 Ground.guard] (some (2, true))) (v := ?_) rfl (by kernel_rfl) (by kernel_rfl) (by kernel_rfl) (fun _ _ _ h => h) (Or.inl ⟨by rfl, ?_⟩) (by assumption) ?_
            rotate_left 1
            · (intro w hSw; (try dsimp only at hSw); go_simp; (try with_reducible rfl))
            try simp only [Act.put, List.setIfInBounds_toArray, List.set_cons_zero, List.set_cons_succ]
            refine wpAnyH_ready (rs := [7]) (by kernel_rfl) (by simp) ?_
            refine (AllReadyH.cons (o := Oper.mk (some 39) (Op.call (Call.mk (Callee.value (Operand.func 61)) #[Operand.tmp 35, Operand.tmp 36, Operand.tmp 38] #[67, 29, 3])) 3 "top13.go:85" #[Edge.mk 3 Ground.data, Edge.mk 4 Ground.data, Edge.mk 6 Ground.data, Edge.mk 2 Ground.chain, Edge.mk 2 Ground.guard] (some (2, true))) rfl (fun K hK => ?_) AllReadyH.nil)
            go_simp
            go_at_call 61
            (with_reducible refine (C1.out _ HB0.out).mono ?_)
            rintro e9 X1 ⟨rfl, hb⟩
            have HB1 := Lib.hid (HB0.out.trans (hb.mono HB0.out.size))
            clear hb HB0
            go_wp2_with fail
            refine hK.out _ _ ?_ (fun hH1 => ?_)
            · exact SH.out _ HB1.out
            clear hK K
            try clear hH0
            try simp only [Act.put, List.setIfInBounds_toArray, List.set_cons_zero, List.set_cons_succ]
            refine wpAnyH_ready (rs := [12]) (by kernel_rfl) (by simp) ?_
            refine (AllReadyH.cons (o := Oper.mk (some 44) (Op.call (Call.mk (Callee.value (Operand.func 61)) #[Operand.tmp 40, Operand.tmp 41, Operand.tmp 43] #[67, 29, 3])) 3 "top13.go:85" #[Edge.mk 8 Ground.data, Edge.mk 9 Ground.data, Edge.mk 11 Ground.data, Edge.mk 7 Ground.chain, Edge.mk 2 Ground.guard] (some (2, true))) rfl (fun K hK => ?_) AllReadyH.nil)
            go_simp
            go_at_call 61
            (with_reducible refine (C2.out _ HB1.out).mono ?_)
            rintro e9 X2 ⟨rfl, hb⟩
            have HB2 := Lib.hid (HB1.out.trans (hb.mono HB1.out.size))
            clear hb HB1
            go_wp2_with fail
            refine hK.out _ _ ?_ (fun hH2 => ?_)
            · exact SH.out _ HB2.out
            clear hK K
            try clear hH1
            try simp only [Act.put, List.setIfInBounds_toArray, List.set_cons_zero, List.set_cons_succ]
            refine wpAnyH_take (i := 13) (oi := Oper.mk (some 45) (Op.binOp BinOp.neq 3 (Operand.tmp 39) (Operand.tmp 44) 3) 4 "top13.go:85" #[Edge.mk 7 Ground.data, Edge.mk 12 Ground.data, Edge.mk 2 Ground.guard] (some (2, true))) (v := ?_) rfl (by kernel_rfl) (by kernel_rfl) (by kernel_rfl) (fun _ _ _ h => h) (Or.inl ⟨by rfl, ?_⟩) (by assumption) ?_
            rotate_left 1
            · (intro w hSw; (try dsimp only at hSw); go_simp; (try with_reducible rfl))
            try simp only [Act.put, List.setIfInBounds_toArray, List.set_cons_zero, List.set_cons_succ]
            refine wpAnyH_take (i := 14) (oi := Oper.mk (some 46) (Op.pick (Operand.tmp 34) (Operand.tmp 45) (Operand.const (Value.bool false))) 4 "top13.go:85" #[Edge.mk 2 Ground.data, Edge.mk 13 Ground.data] none) (v := ?_) rfl (by kernel_rfl) (by kernel_rfl) (by kernel_rfl) (fun _ _ _ h => h) (Or.inl ⟨by rfl, ?_⟩) (by assumption) ?_
            rotate_left 1
            · (intro w hSw; (try dsimp only at hSw); go_simp; (try with_reducible rfl))
            try simp only [Act.put, List.setIfInBounds_toArray, List.set_cons_zero, List.set_cons_succ]
            refine wpAnyH_take (i := 15) (oi := Oper.mk (some 47) (Op.move (Operand.tmp 46)) 4 "top13.go:85" #[Edge.mk 14 Ground.data, Edge.mk 12 Ground.chain] none) (v := ?_) rfl (by kernel_rfl) (by kernel_rfl) (by kernel_rfl) (fun _ _ _ h => h) (Or.inl ⟨by rfl, ?_⟩) (by assumption) ?_
            rotate_left 1
            · (intro w hSw; (try dsimp only at hSw); go_simp; (try with_reducible rfl))
            try simp only [Act.put, List.setIfInBounds_toArray, List.set_cons_zero, List.set_cons_succ]
            refine wpAnyH_take (i := 16) (oi := Oper.mk (some 48) (Op.move (Operand.tmp 0)) 67 "top13.go:85" #[Edge.mk 15 Ground.guard] (some (15, true))) (v := undef) rfl (by kernel_rfl) (by kernel_rfl) (by kernel_rfl) (fun _ _ _ h => h) (Or.inr ⟨by rfl, rfl⟩) (by assumption) ?_
            try simp only [Act.put, List.setIfInBounds_toArray, List.set_cons_zero, List.set_cons_succ]
            refine wpAnyH_take (i := 17) (oi := Oper.mk (some 49) (Op.move (Operand.tmp 5)) 29 "top13.go:85" #[Edge.mk 15 Ground.guard] (some (15, true))) (v := undef) rfl (by kernel_rfl) (by kernel_rfl) (by kernel_rfl) (fun _ _ _ h => h) (Or.inr ⟨by rfl, rfl⟩) (by assumption) ?_
            try simp only [Act.put, List.setIfInBounds_toArray, List.set_cons_zero, List.set_cons_succ]
            refine wpAnyH_take (i := 18) (oi := Oper.mk (some 50) (Op.fieldAddr 70 (Operand.tmp 9) 0) 0 "top13.go:85" #[Edge.mk 15 Ground.guard] (some (15, true))) (v := undef) rfl (by kernel_rfl) (by kernel_rfl) (by kernel_rfl) (fun _ _ _ h => h) (Or.inr ⟨by rfl, rfl⟩) (by assumption) ?_
            try simp only [Act.put, List.setIfInBounds_toArray, List.set_cons_zero, List.set_cons_succ]
            refine wpAnyH_take (i := 19) (oi := Oper.mk (some 51) (Op.load 3 (Operand.tmp 50)) 3 "top13.go:85" #[Edge.mk 18 Ground.data, Edge.mk 15 Ground.guard] (some (15, true))) (v := undef) rfl (by kernel_rfl) (by kernel_rfl) (by kernel_rfl) (fun _ _ _ h => h) (Or.inr ⟨by rfl, rfl⟩) (by assumption) ?_
            try simp only [Act.put, List.setIfInBounds_toArray, List.set_cons_zero, List.set_cons_succ]
            refine wpAnyH_take (i := 20) (oi := Oper.mk (some 52) (Op.call (Call.mk (Callee.value (Operand.func 61)) #[Operand.tmp 48, Operand.tmp 49, Operand.tmp 51] #[67, 29, 3])) 3 "top13.go:85" #[Edge.mk 16 Ground.data, Edge.mk 17 Ground.data, Edge.mk 19 Ground.data, Edge.mk 15 Ground.chain, Edge.mk 15 Ground.guard] (some (15, true))) (v := undef) rfl (by kernel_rfl) (by kernel_rfl) (by kernel_rfl) (fun _ _ _ h => h) (Or.inr ⟨by rfl, rfl⟩) (by assumption) ?_
            try simp only [Act.put, List.setIfInBounds_toArray, List.set_cons_zero, List.set_cons_succ]
            refine wpAnyH_take (i := 21) (oi := Oper.mk (some 53) (Op.binOp BinOp.geq 3 (Operand.tmp 52) (Operand.const (Value.int IntKind.i64 0)) 3) 4 "top13.go:85" #[Edge.mk 20 Ground.data, Edge.mk 15 Ground.guard] (some (15, true))) (v := undef) rfl (by kernel_rfl) (by kernel_rfl) (by kernel_rfl) (fun _ _ _ h => h) (Or.inr ⟨by rfl, rfl⟩) (by assumption) ?_
            try simp only [Act.put, List.setIfInBounds_toArray, List.set_cons_zero, List.set_cons_succ]
            refine wpAnyH_take (i := 22) (oi := Oper.mk (some 54) (Op.pick (Operand.tmp 47) (Operand.tmp 53) (Operand.const (Value.bool false))) 4 "top13.go:85" #[Edge.mk 15 Ground.data, Edge.mk 21 Ground.data] none) (v := ?_) rfl (by kernel_rfl) (by kernel_rfl) (by kernel_rfl) (fun _ _ _ h => h) (Or.inl ⟨by rfl, ?_⟩) (by assumption) ?_
            rotate_left 1
            · (intro w hSw; (try dsimp only at hSw); go_simp; (try with_reducible rfl))
            try simp only [Act.put, List.setIfInBounds_toArray, List.set_cons_zero, List.set_cons_succ]
            refine wpAnyH_done (by kernel_rfl) ?_ _
            go_wp2_with fail
            go_roundw
            case rel => exact ⟨q + 1, by omega, by go_num, Lib.hid (own_below O3.out HB2.out), Lib.hid (B3.out.trans (HB2.out.mono B3.out.size))⟩
            case measure => simp [intOf]; omega
        · obtain rfl : q = k := by omega
          have BF := hbel
          go_wp2_with fail
          go_ret
          exact ⟨rfl, BF.out⟩
end Go.Proofs.Ytfapghekakdpgaa
