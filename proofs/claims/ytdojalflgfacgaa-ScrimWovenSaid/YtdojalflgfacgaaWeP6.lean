/- weave's Step.on. -/
import Derived.Test.YtdojalflgfacgaaWeP5
import Derived.Test.YtdojalflgfacgaaWeP3
import Derived.Test.YtdojalflgfacgaaWeT2
namespace Go.Proofs.Ytdojalflgfacgaa
open Go.RowKit We
theorem own_len {w : World} {base : Nat} {e : TypeId} {size n m : Nat} {v : Value} {xs : List Value} (h : w.ownsRow base e size v n xs) (hm : m = n) : w.ownsRow base e size v m xs := hm ▸ h
theorem insert_any (v : Value) (n i vb base : Nat) (l : List Int) (x : Int) (w : World) (hn : n = l.length) (hi : i ≤ n) (hb : n ≤ 2000) (h : w.ownsRow base 3 1 v n (iv l)) (hbs : base ≤ w.heap.size) (hvb : w.heap[vb]? = some (.cells #[.int .i64 x] 3 (0, 0))) (hne : v.ownBlock ≠ some vb) :
    Calls Try.prog 39 #[v, .int .i64 i, .slice (some ⟨vb, 0, none⟩) 1 1] w fun e w' => ∃ v', e = .returned v' ∧ w'.ownsRow base 3 1 v' (n + 1) (iv (putAt l i x)) ∧ Beside (fun y => v.ownBlock = some y) w w' := by
  by_cases hin : i = n
  · subst hin
    have e : putAt l i x = l ++ [x] := by unfold putAt; rw [List.take_of_length_le (by omega), List.drop_eq_nil_of_le (by omega)]
    rw [e]
    exact insert_end v i vb base l x w hn hb h hbs (by rw [cell_of_row w vb 0 _ _ (0, 0) hvb]; rfl)
  · obtain ⟨g, c, rfl, _, hg, _, _⟩ := own_hd h (by omega)
    by_cases hc : n + 1 ≤ c
    · refine (insert_room g n c i vb base l x w hn (by omega) hb hc h hvb (fun e => hne (by rw [e]; rfl))).mono ?_
      rintro e w' ⟨rfl, h1, h2⟩
      exact ⟨_, rfl, h1, h2.mono (fun y hy => by rw [hy]; rfl)⟩
    · refine (insert_grow g n c i vb base l x w hn (by omega) hb hc h hbs hvb).mono ?_
      rintro e w' ⟨v', rfl, h1, h2⟩
      exact ⟨_, rfl, h1, Beside.ofBelow h2⟩
set_option maxHeartbeats 8000000 in
set_option maxRecDepth 100000 in
theorem on_any (v : Value) (n base : Nat) (out : List Int) (x y z : Int) (w : World) (hn : n = out.length) (hb : n ≤ 1999) (hnd : out.Nodup) (h : w.ownsRow base 3 1 v n (iv out)) (hbs : base ≤ w.heap.size) :
    Calls Try.prog 31 #[.agg #[.int .i64 x, .int .i64 y, .int .i64 z], v] w fun e w' => ∃ v' ok, e = .returned (.tuple #[v', .bool ok]) ∧ ApD w' base v' ok (stepD out (x, y, z)) ∧ Beside (fun b => v.ownBlock = some b) w w' := by
  obtain ⟨A, c, rfl, hc1, hc2⟩ := own_slice h
  subst hn
  have O1 := Lib.hid (h.alloc (.cells #[.int .i64 x, .int .i64 y, .int .i64 z] 31))
  have hlt := Lib.hid (fun g e => (h.lt g e).2)
  have B1 := Lib.hid ((Beside.refl (fun b => (Value.slice A out.length c).ownBlock = some b) w).alloc (.cells #[.int .i64 x, .int .i64 y, .int .i64 z] 31))
  have CI := Lib.hid (fun v hv => index_any A out.length c out y v (w.alloc (.cells #[.int .i64 x, .int .i64 y, .int .i64 z] 31)) rfl (by omega) (At.own O1.out) hv)
  have HND := Lib.hid hnd
  have hwl := without_len out y
  clear h hnd
  by_cases hy : y ∈ out
  · have hia := ix_lt hy
    have hpos : 0 < out.length := by omega
    have AT := Lib.hid (rAt_yes hy)
    obtain ⟨ia, hiae⟩ : ∃ ia, ia = ix out y := ⟨_, rfl⟩
    rw [← hiae] at AT hia
    by_cases hx1 : x < 1
    · have HN := Lib.hid (stepD_bad (out := out) (x := x) (y := y) (z := z) (.inl hx1))
      go_enter Try.func31, Try.ntmps31
      go_wp2_with fail
      refine (CI.out _ AT.out).mono ?_
      rintro e w9 ⟨rfl, rfl⟩
      go_wp2_with fail
      go_ret2
      exact ⟨_, _, rfl, by rw [HN.out]; exact ⟨rfl, rfl⟩, B1.out⟩
    · by_cases hx3 : x > 3
      · have HN := Lib.hid (stepD_bad (out := out) (x := x) (y := y) (z := z) (.inr (.inl hx3)))
        go_enter Try.func31, Try.ntmps31
        go_wp2_with fail
        refine (CI.out _ AT.out).mono ?_
        rintro e w9 ⟨rfl, rfl⟩
        go_wp2_with fail
        go_ret2
        exact ⟨_, _, rfl, by rw [HN.out]; exact ⟨rfl, rfl⟩, B1.out⟩
      · have hx : x = 1 ∨ x = 2 ∨ x = 3 := by omega
        clear hx1 hx3
        rcases hx with rfl | rfl | rfl
        · have HN := Lib.hid (stepD_drop (z := z) hy)
          subst hiae
          obtain ⟨g, c9, he, _, hg, _, _⟩ := own_hd O1.out hpos
          injection he with he1 _ he2
          subst he1 he2
          have CD := Lib.hid (delete_any g out.length c (ix out y) base out _ rfl hia (by omega) O1.out)
          rw [without_ix HND.out hy, show (((ix out y) + 1 : Nat) : Int) = ((ix out y) : Int) + 1 by omega] at CD
          have hgw := hlt.out g rfl
          have hwn : out.length - 1 = (without out y).length := by rw [← without_ix HND.out hy, List.length_append, List.length_take, List.length_drop]; omega
          rw [hwn] at CD
          have hwc : (without out y).length ≤ c := by omega
          clear hwn HND
          go_enter Try.func31, Try.ntmps31
          go_wp2_with fail
          refine (CI.out _ AT.out).mono ?_
          rintro e w9 ⟨rfl, rfl⟩
          go_wp2_with fail
          refine CD.out.mono ?_
          rintro e w2 ⟨rfl, ho2, hb2⟩
          have k0 : w2.cell? ⟨w.heap.size, 0, none⟩ = some (.int .i64 1) := (World.cell?_of_block (hb2.block w.heap.size (by simp) (by omega))).trans (cells_new' w #[.int .i64 1, .int .i64 y, .int .i64 z] 31 [.int .i64 1, .int .i64 y, .int .i64 z] rfl _ rfl 0 (.int .i64 1) rfl)
          have k1 : w2.cell? ⟨w.heap.size, 1, none⟩ = some (.int .i64 y) := (World.cell?_of_block (hb2.block w.heap.size (by simp) (by omega))).trans (cells_new' w #[.int .i64 1, .int .i64 y, .int .i64 z] 31 [.int .i64 1, .int .i64 y, .int .i64 z] rfl _ rfl 1 (.int .i64 y) rfl)
          have k2 : w2.cell? ⟨w.heap.size, 2, none⟩ = some (.int .i64 z) := (World.cell?_of_block (hb2.block w.heap.size (by simp) (by omega))).trans (cells_new' w #[.int .i64 1, .int .i64 y, .int .i64 z] 31 [.int .i64 1, .int .i64 y, .int .i64 z] rfl _ rfl 2 (.int .i64 z) rfl)
          have O2 := Lib.hid ho2
          have B2 := Lib.hid (B1.out.trans (hb2.mono (fun q hq => by rw [hq]; rfl)))
          have hs2 : base ≤ w2.heap.size := by have := B2.out.size; omega
          clear ho2 hb2 CD
          go_wp2_with fail
          go_ret2
          exact ⟨_, _, rfl, by rw [HN.out]; exact ⟨rfl, O2.out⟩, B2.out⟩
        · have HN := Lib.hid (stepD_bad (out := out) (x := 2) (y := y) (z := z) (.inr (.inr ⟨fun _ => rfl, fun _ => hy⟩)))
          go_enter Try.func31, Try.ntmps31
          go_wp2_with fail
          refine (CI.out _ AT.out).mono ?_
          rintro e w9 ⟨rfl, rfl⟩
          go_wp2_with fail
          go_ret2
          exact ⟨_, _, rfl, by rw [HN.out]; exact ⟨rfl, rfl⟩, B1.out⟩
        · have hnb : ¬ (y ∈ out ↔ (3 : Int) = 2) := fun h => absurd (h.1 hy) (by omega)
          subst hiae
          obtain ⟨g, c9, he, _, hg, _, _⟩ := own_hd O1.out hpos
          injection he with he1 _ he2
          subst he1 he2
          have CD := Lib.hid (delete_any g out.length c (ix out y) base out _ rfl hia (by omega) O1.out)
          rw [without_ix HND.out hy, show (((ix out y) + 1 : Nat) : Int) = ((ix out y) : Int) + 1 by omega] at CD
          have hgw := hlt.out g rfl
          have hwn : out.length - 1 = (without out y).length := by rw [← without_ix HND.out hy, List.length_append, List.length_take, List.length_drop]; omega
          rw [hwn] at CD
          have hwc : (without out y).length ≤ c := by omega
          clear hwn HND
          go_enter Try.func31, Try.ntmps31
          go_wp2_with fail
          refine (CI.out _ AT.out).mono ?_
          rintro e w9 ⟨rfl, rfl⟩
          go_wp2_with fail
          refine CD.out.mono ?_
          rintro e w2 ⟨rfl, ho2, hb2⟩
          have k0 : w2.cell? ⟨w.heap.size, 0, none⟩ = some (.int .i64 3) := (World.cell?_of_block (hb2.block w.heap.size (by simp) (by omega))).trans (cells_new' w #[.int .i64 3, .int .i64 y, .int .i64 z] 31 [.int .i64 3, .int .i64 y, .int .i64 z] rfl _ rfl 0 (.int .i64 3) rfl)
          have k1 : w2.cell? ⟨w.heap.size, 1, none⟩ = some (.int .i64 y) := (World.cell?_of_block (hb2.block w.heap.size (by simp) (by omega))).trans (cells_new' w #[.int .i64 3, .int .i64 y, .int .i64 z] 31 [.int .i64 3, .int .i64 y, .int .i64 z] rfl _ rfl 1 (.int .i64 y) rfl)
          have k2 : w2.cell? ⟨w.heap.size, 2, none⟩ = some (.int .i64 z) := (World.cell?_of_block (hb2.block w.heap.size (by simp) (by omega))).trans (cells_new' w #[.int .i64 3, .int .i64 y, .int .i64 z] 31 [.int .i64 3, .int .i64 y, .int .i64 z] rfl _ rfl 2 (.int .i64 z) rfl)
          have O2 := Lib.hid ho2
          have B2 := Lib.hid (B1.out.trans (hb2.mono (fun q hq => by rw [hq]; rfl)))
          have hs2 : base ≤ w2.heap.size := by have := B2.out.size; omega
          clear ho2 hb2 CD
          by_cases hz : z < 0 ∨ z > ((without out y).length : Int)
          · have HN := Lib.hid (stepD_far (.inr rfl) hnb hz)
            rcases hz with hz | hz
            · go_wp2_with fail
              go_ret2
              exact ⟨_, _, rfl, by rw [HN.out]; exact ⟨rfl, rfl⟩, B2.out⟩
            · have hz0 : ¬ z < 0 := by omega
              go_wp2_with fail
              go_ret2
              exact ⟨_, _, rfl, by rw [HN.out]; exact ⟨rfl, rfl⟩, B2.out⟩
          · obtain ⟨q, rfl⟩ : ∃ q : Nat, z = (q : Int) := ⟨z.toNat, by omega⟩
            have hq : q ≤ (without out y).length := by omega
            have HN := Lib.hid (stepD_put (.inr rfl) hnb hq)
            have CN := Lib.hid (insert_any (.slice (some ⟨g, 0, none⟩) (without out y).length c) _ q w2.heap.size base (without out y) y (w2.alloc (.cells #[.int .i64 y] 3)) rfl hq (by omega) (O2.out.alloc _) (by simp; omega) (heap_alloc_new _ _) (fun e => by have := (O2.out.lt _ e).2; omega))
            have B3 := Lib.hid (B2.out.alloc (.cells #[.int .i64 y] 3))
            clear hz
            go_wp2_with fail
            refine CN.out.mono ?_
            rintro e w4 ⟨v4, rfl, ho4, hb4⟩
            obtain ⟨A4, c4, rfl, _, _⟩ := own_slice ho4
            have O4 := Lib.hid ho4
            have B4 := Lib.hid (B3.out.trans hb4)
            clear ho4 hb4 CN
            go_wp2_with fail
            go_ret2
            have h9 : w4.ownsRow base 3 1 (.slice A4 ((without out y).length + 1) c4) (putAt (without out y) q y).length (iv (putAt (without out y) q y)) := own_len O4.out (putAt_len (without out y) q y)
            have h8 : ApD w4 base (.slice A4 ((without out y).length + 1) c4) true (some (putAt (without out y) q y)) := ⟨rfl, h9⟩
            have h7 : stepD out (3, y, (q : Int)) = some (putAt (without out y) q y) := HN.out
            rw [← h7] at h8
            exact ⟨_, _, rfl, h8, B4.out⟩
  · have AT := Lib.hid (rAt_no hy)
    have hno : without out y = out := without_none hy
    by_cases hx1 : x < 1
    · have HN := Lib.hid (stepD_bad (out := out) (x := x) (y := y) (z := z) (.inl hx1))
      go_enter Try.func31, Try.ntmps31
      go_wp2_with fail
      refine (CI.out _ AT.out).mono ?_
      rintro e w9 ⟨rfl, rfl⟩
      go_wp2_with fail
      go_ret2
      exact ⟨_, _, rfl, by rw [HN.out]; exact ⟨rfl, rfl⟩, B1.out⟩
    · by_cases hx3 : x > 3
      · have HN := Lib.hid (stepD_bad (out := out) (x := x) (y := y) (z := z) (.inr (.inl hx3)))
        go_enter Try.func31, Try.ntmps31
        go_wp2_with fail
        refine (CI.out _ AT.out).mono ?_
        rintro e w9 ⟨rfl, rfl⟩
        go_wp2_with fail
        go_ret2
        exact ⟨_, _, rfl, by rw [HN.out]; exact ⟨rfl, rfl⟩, B1.out⟩
      · have hx : x = 1 ∨ x = 2 ∨ x = 3 := by omega
        clear hx1 hx3
        rcases hx with rfl | rfl | rfl
        · have HN := Lib.hid (stepD_bad (out := out) (x := 1) (y := y) (z := z) (.inr (.inr ⟨fun h => absurd h hy, fun h => absurd h (by omega)⟩)))
          go_enter Try.func31, Try.ntmps31
          go_wp2_with fail
          refine (CI.out _ AT.out).mono ?_
          rintro e w9 ⟨rfl, rfl⟩
          go_wp2_with fail
          go_ret2
          exact ⟨_, _, rfl, by rw [HN.out]; exact ⟨rfl, rfl⟩, B1.out⟩
        · have hnb : ¬ (y ∈ out ↔ (2 : Int) = 2) := fun h => hy (h.2 rfl)
          have HNB := Lib.hid hnb
          clear hnb
          have HNO := Lib.hid hno
          clear hno hwl
          go_enter Try.func31, Try.ntmps31
          go_wp2_with fail
          refine (CI.out _ AT.out).mono ?_
          rintro e w9 ⟨rfl, rfl⟩
          by_cases hz : z < 0 ∨ z > ((out).length : Int)
          · have HN := Lib.hid (stepD_far (.inl rfl) (fun h => hy (h.2 rfl)) (by rw [HNO.out]; exact hz))
            rcases hz with hz | hz
            · go_wp2_with fail
              go_ret2
              exact ⟨_, _, rfl, by rw [HN.out]; exact ⟨rfl, rfl⟩, B1.out⟩
            · have hz0 : ¬ z < 0 := by omega
              go_wp2_with fail
              go_ret2
              exact ⟨_, _, rfl, by rw [HN.out]; exact ⟨rfl, rfl⟩, B1.out⟩
          · obtain ⟨q, rfl⟩ : ∃ q : Nat, z = (q : Int) := ⟨z.toNat, by omega⟩
            have hq : q ≤ (out).length := by omega
            have HN := Lib.hid (show stepD out (2, y, (q : Int)) = some (putAt out q y) from by have h9 := stepD_put (x := 2) (.inl rfl) (fun h => hy (h.2 rfl)) (show q ≤ (without out y).length by rw [HNO.out]; exact hq); rw [HNO.out] at h9; exact h9)
            have CN := Lib.hid (insert_any (.slice A (out).length c) _ q (w.heap.size + 1) base (out) y ((w.alloc (.cells #[.int .i64 2, .int .i64 y, .int .i64 (q : Int)] 31)).alloc (.cells #[.int .i64 y] 3)) rfl hq (by omega) (O1.out.alloc _) (by simp; omega) (by have h9 := heap_alloc_new (w.alloc (.cells #[.int .i64 2, .int .i64 y, .int .i64 (q : Int)] 31)) (.cells #[.int .i64 y] 3); rw [size_alloc] at h9; exact h9) (fun e => by have := (O1.out.lt _ e).2; rw [size_alloc] at this; omega))
            have B3 := Lib.hid (B1.out.alloc (.cells #[.int .i64 y] 3))
            clear hz
            go_wp2_with fail
            refine CN.out.mono ?_
            rintro e w4 ⟨v4, rfl, ho4, hb4⟩
            obtain ⟨A4, c4, rfl, _, _⟩ := own_slice ho4
            have O4 := Lib.hid ho4
            have B4 := Lib.hid (B3.out.trans hb4)
            clear ho4 hb4 CN
            go_wp2_with fail
            go_ret2
            have h9 : w4.ownsRow base 3 1 (.slice A4 ((out).length + 1) c4) (putAt (out) q y).length (iv (putAt (out) q y)) := own_len O4.out (putAt_len (out) q y)
            have h8 : ApD w4 base (.slice A4 ((out).length + 1) c4) true (some (putAt (out) q y)) := ⟨rfl, h9⟩
            have h7 : stepD out (2, y, (q : Int)) = some (putAt (out) q y) := HN.out
            rw [← h7] at h8
            exact ⟨_, _, rfl, h8, B4.out⟩
        · have HN := Lib.hid (stepD_bad (out := out) (x := 3) (y := y) (z := z) (.inr (.inr ⟨fun h => absurd h hy, fun h => absurd h (by omega)⟩)))
          go_enter Try.func31, Try.ntmps31
          go_wp2_with fail
          refine (CI.out _ AT.out).mono ?_
          rintro e w9 ⟨rfl, rfl⟩
          go_wp2_with fail
          go_ret2
          exact ⟨_, _, rfl, by rw [HN.out]; exact ⟨rfl, rfl⟩, B1.out⟩
end Go.Proofs.Ytdojalflgfacgaa
