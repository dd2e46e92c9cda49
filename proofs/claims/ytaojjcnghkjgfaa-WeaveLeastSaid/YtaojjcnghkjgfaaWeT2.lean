/- Contract of the document's Apply. -/
import Derived.Test.YtaojjcnghkjgfaaWeT1
import Derived.Test.YtaojjcnghkjgfaaWeL3
namespace Go.Proofs.Ytaojjcnghkjgfaa
open Go.RowKit We
attribute [-go_sem] Builtin.append_
def ApD (w' : World) (base : Nat) (v : Value) (ok : Bool) : Option (List Int) → Prop
  | none => v = .slice none 0 0 ∧ ok = false
  | some o => ok = true ∧ w'.ownsRow base 3 1 v o.length (iv o)
set_option maxHeartbeats 4000000 in
theorem rapply_any (A B : Option Addr) (n c m d : Nat) (l : List Int) (L : List Stp) (w : World) (hn : n = l.length) (hm : m = L.length) (h1 : n ≤ 1000) (h2 : m ≤ 1000) (ha : At w A (iv l)) (hb : At w B (sc L)) :
    Calls Try.prog 30 #[.slice A n c, .slice B m d] w fun e w' => ∃ v ok, e = .returned (.tuple #[v, .bool ok]) ∧ ApD w' w.heap.size v ok (appD (once l) L) ∧ Below w.heap.size w w' := by
  have hol : (once l).length ≤ 1000 := by have := once_len l; omega
  have C1 := Lib.hid (ronce_any A n c l w hn (by omega) ha)
  have HM := Lib.hid hm
  have HB := Lib.hid hb
  clear hn ha hm hb
  generalize once l = O at *
  go_enter Try.func30, Try.ntmps30
  go_wp2_with fail
  refine C1.out.mono ?_
  rintro e w1 ⟨v1, rfl, ho1, hb1⟩
  have HO := Lib.hid ho1
  have HB1 := Lib.hid hb1
  obtain ⟨A1, c1, rfl, _, _⟩ := own_slice ho1
  clear ho1 hb1 C1
  go_wp2_with fail
  go_loopw [6, 14] (fun v i wr => ∃ k : Nat, k ≤ m ∧ i = .int .i64 k ∧ ∃ out, Hid (appD O (L.take k) = some out) ∧ Hid (wr.ownsRow w.heap.size 3 1 v out.length (iv out)) ∧ Hid (Below w.heap.size w wr)) (fun _ i _ => m - (intOf i).toNat)
  case atStart => exact ⟨0, Nat.zero_le _, rfl, O, by show appD O (L.take 0) = _; rw [List.take_zero]; rfl, HO, HB1⟩
  case round =>
    obtain ⟨k, hk, rfl, out, hap, hown, hbel⟩ := hrel
    by_cases hlt : k < m
    · have hkl : k < L.length := by have := HM.out; omega
      obtain ⟨b1, o1, rfl, hbb, hc1, hc2, hc3⟩ := at_three (HB.out.below hbel.out) hkl
      have hle : out.length ≤ 2000 := by have h9 := appD_len hap.out; rw [List.length_take] at h9; omega
      have HSTOP := Lib.hid (fun h => appD_stop hkl hap.out h)
      have HGO := Lib.hid (fun o' h => appD_go (out' := o') hkl hap.out h)
      rw [show L[k] = (L[k].1, L[k].2.1, L[k].2.2) from rfl] at HSTOP HGO
      generalize L[k].1 = x at *
      generalize L[k].2.1 = y at *
      generalize L[k].2.2 = z at *
      have hszr := hbel.out.size
      have B2 := Lib.hid (hbel.out.alloc hszr (.cells #[.int .i64 x, .int .i64 y, .int .i64 z] 44))
      have O2 := Lib.hid (hown.out.alloc (.cells #[.int .i64 x, .int .i64 y, .int .i64 z] 44))
      obtain ⟨A2, k2, rfl, hk2, hk2'⟩ := own_slice hown.out
      have CA := Lib.hid (fun v (hv : rAt out y = v) => rat_any A2 out.length k2 out y v (wr.alloc (.cells #[.int .i64 x, .int .i64 y, .int .i64 z] 44)) rfl (by omega) (At.own O2.out) hv)
      have CW := Lib.hid (rwithout_any A2 out.length k2 out y (wr.alloc (.cells #[.int .i64 x, .int .i64 y, .int .i64 z] 44)) rfl (by omega) (At.own O2.out))
      have hwl := without_len out y
      by_cases hy : y ∈ out
      · have AT := rAt_yes hy
        have hq0 : (0 : Int) ≤ (ix out y : Int) := by omega
        generalize (ix out y : Int) = ia at *
        by_cases hx1 : x < 1
        · have HN := Lib.hid (HSTOP.out (stepD_bad (.inl hx1)))
          go_wp2_with fail
          refine (CA.out _ AT).mono ?_
          rintro e w9 ⟨rfl, rfl⟩
          go_wp2_with fail
          go_ret2
          exact ⟨_, _, rfl, by rw [HN.out]; exact ⟨rfl, rfl⟩, B2.out⟩
        · by_cases hx3 : x > 3
          · have HN := Lib.hid (HSTOP.out (stepD_bad (.inr (.inl hx3))))
            go_wp2_with fail
            refine (CA.out _ AT).mono ?_
            rintro e w9 ⟨rfl, rfl⟩
            go_wp2_with fail
            go_ret2
            exact ⟨_, _, rfl, by rw [HN.out]; exact ⟨rfl, rfl⟩, B2.out⟩
          · have hx : x = 1 ∨ x = 2 ∨ x = 3 := by omega
            clear hx1 hx3
            rcases hx with rfl | rfl | rfl
            · have HN := Lib.hid (HGO.out _ (stepD_drop hy))
              go_wp2_with fail
              refine (CA.out _ AT).mono ?_
              rintro e w9 ⟨rfl, rfl⟩
              go_wp2_with fail
              refine CW.out.mono ?_
              rintro e w3 ⟨v3, rfl, ho3, hb3⟩
              have g0 := (hb3.cell (p := ⟨wr.heap.size, 0, none⟩) (by simp)).trans (cells_new' wr #[.int .i64 1, .int .i64 y, .int .i64 z] 44 [.int .i64 1, .int .i64 y, .int .i64 z] rfl _ rfl 0 (.int .i64 1) rfl)
              have g1 := (hb3.cell (p := ⟨wr.heap.size, 1, none⟩) (by simp)).trans (cells_new' wr #[.int .i64 1, .int .i64 y, .int .i64 z] 44 [.int .i64 1, .int .i64 y, .int .i64 z] rfl _ rfl 1 (.int .i64 y) rfl)
              have g2 := (hb3.cell (p := ⟨wr.heap.size, 2, none⟩) (by simp)).trans (cells_new' wr #[.int .i64 1, .int .i64 y, .int .i64 z] 44 [.int .i64 1, .int .i64 y, .int .i64 z] rfl _ rfl 2 (.int .i64 z) rfl)
              obtain ⟨A3, k3, rfl, hk3, hk3'⟩ := own_slice ho3
              have O3 := Lib.hid (own_mono ho3 B2.out.size)
              have B3 := Lib.hid (B2.out.trans (hb3.mono B2.out.size))
              clear hb3 ho3
              go_wp2_with fail
              go_roundw
              case rel => exact ⟨k + 1, by omega, by go_num, _, HN, O3, B3⟩
              case measure => simp [intOf]; omega
            · have HN := Lib.hid (HSTOP.out (stepD_bad (.inr (.inr ⟨fun _ => rfl, fun _ => hy⟩))))
              go_wp2_with fail
              refine (CA.out _ AT).mono ?_
              rintro e w9 ⟨rfl, rfl⟩
              go_wp2_with fail
              go_ret2
              exact ⟨_, _, rfl, by rw [HN.out]; exact ⟨rfl, rfl⟩, B2.out⟩
            · go_wp2_with fail
              refine (CA.out _ AT).mono ?_
              rintro e w9 ⟨rfl, rfl⟩
              go_wp2_with fail
              refine CW.out.mono ?_
              rintro e w3 ⟨v3, rfl, ho3, hb3⟩
              have g0 := (hb3.cell (p := ⟨wr.heap.size, 0, none⟩) (by simp)).trans (cells_new' wr #[.int .i64 3, .int .i64 y, .int .i64 z] 44 [.int .i64 3, .int .i64 y, .int .i64 z] rfl _ rfl 0 (.int .i64 3) rfl)
              have g1 := (hb3.cell (p := ⟨wr.heap.size, 1, none⟩) (by simp)).trans (cells_new' wr #[.int .i64 3, .int .i64 y, .int .i64 z] 44 [.int .i64 3, .int .i64 y, .int .i64 z] rfl _ rfl 1 (.int .i64 y) rfl)
              have g2 := (hb3.cell (p := ⟨wr.heap.size, 2, none⟩) (by simp)).trans (cells_new' wr #[.int .i64 3, .int .i64 y, .int .i64 z] 44 [.int .i64 3, .int .i64 y, .int .i64 z] rfl _ rfl 2 (.int .i64 z) rfl)
              obtain ⟨A3, k3, rfl, hk3, hk3'⟩ := own_slice ho3
              have O3 := Lib.hid (own_mono ho3 B2.out.size)
              have B3 := Lib.hid (B2.out.trans (hb3.mono B2.out.size))
              clear hb3 ho3
              by_cases hz : z < 0 ∨ z > ((without out y).length : Int)
              · have HN := Lib.hid (HSTOP.out (stepD_far (by omega) (fun h => absurd (h.1 hy) (by omega)) hz))
                rcases hz with hz | hz
                · go_wp2_with fail
                  go_ret2
                  exact ⟨_, _, rfl, by rw [HN.out]; exact ⟨rfl, rfl⟩, B3.out⟩
                · have hz0 : ¬ z < 0 := by omega
                  go_wp2_with fail
                  go_ret2
                  exact ⟨_, _, rfl, by rw [HN.out]; exact ⟨rfl, rfl⟩, B3.out⟩
              · obtain ⟨q, rfl⟩ : ∃ q : Nat, z = (q : Int) := ⟨z.toNat, by omega⟩
                have hq : q ≤ (without out y).length := by omega
                have HN := Lib.hid (HGO.out _ (stepD_put (by omega) (fun h => absurd (h.1 hy) (by omega)) hq))
                have CP := Lib.hid (rput_any A3 _ k3 q (without out y) y w3 rfl (by omega) hk3 hk3' (own_none O3.out) (At.own O3.out) hq)
                clear hz
                go_wp2_with fail
                refine CP.out.mono ?_
                rintro e w4 ⟨v4, rfl, ho4, hb4⟩
                have O4 := Lib.hid (own_mono ho4 B3.out.size)
                have B4 := Lib.hid (B3.out.trans (hb4.mono B3.out.size))
                obtain ⟨A4, k4, rfl, _, _⟩ := own_slice ho4
                clear ho4 hb4
                go_wp2_with fail
                go_roundw
                case rel => exact ⟨k + 1, by omega, by go_num, _, HN, O4, B4⟩
                case measure => simp [intOf]; omega
      · have AT := rAt_no hy
        by_cases hx1 : x < 1
        · have HN := Lib.hid (HSTOP.out (stepD_bad (.inl hx1)))
          go_wp2_with fail
          refine (CA.out _ AT).mono ?_
          rintro e w9 ⟨rfl, rfl⟩
          go_wp2_with fail
          go_ret2
          exact ⟨_, _, rfl, by rw [HN.out]; exact ⟨rfl, rfl⟩, B2.out⟩
        · by_cases hx3 : x > 3
          · have HN := Lib.hid (HSTOP.out (stepD_bad (.inr (.inl hx3))))
            go_wp2_with fail
            refine (CA.out _ AT).mono ?_
            rintro e w9 ⟨rfl, rfl⟩
            go_wp2_with fail
            go_ret2
            exact ⟨_, _, rfl, by rw [HN.out]; exact ⟨rfl, rfl⟩, B2.out⟩
          · have hx : x = 1 ∨ x = 2 ∨ x = 3 := by omega
            clear hx1 hx3
            rcases hx with rfl | rfl | rfl
            · have HN := Lib.hid (HSTOP.out (stepD_bad (.inr (.inr ⟨fun h => absurd h hy, fun h => absurd h (by omega)⟩))))
              go_wp2_with fail
              refine (CA.out _ AT).mono ?_
              rintro e w9 ⟨rfl, rfl⟩
              go_wp2_with fail
              go_ret2
              exact ⟨_, _, rfl, by rw [HN.out]; exact ⟨rfl, rfl⟩, B2.out⟩
            · go_wp2_with fail
              refine (CA.out _ AT).mono ?_
              rintro e w9 ⟨rfl, rfl⟩
              go_wp2_with fail
              refine CW.out.mono ?_
              rintro e w3 ⟨v3, rfl, ho3, hb3⟩
              have g0 := (hb3.cell (p := ⟨wr.heap.size, 0, none⟩) (by simp)).trans (cells_new' wr #[.int .i64 2, .int .i64 y, .int .i64 z] 44 [.int .i64 2, .int .i64 y, .int .i64 z] rfl _ rfl 0 (.int .i64 2) rfl)
              have g1 := (hb3.cell (p := ⟨wr.heap.size, 1, none⟩) (by simp)).trans (cells_new' wr #[.int .i64 2, .int .i64 y, .int .i64 z] 44 [.int .i64 2, .int .i64 y, .int .i64 z] rfl _ rfl 1 (.int .i64 y) rfl)
              have g2 := (hb3.cell (p := ⟨wr.heap.size, 2, none⟩) (by simp)).trans (cells_new' wr #[.int .i64 2, .int .i64 y, .int .i64 z] 44 [.int .i64 2, .int .i64 y, .int .i64 z] rfl _ rfl 2 (.int .i64 z) rfl)
              obtain ⟨A3, k3, rfl, hk3, hk3'⟩ := own_slice ho3
              have O3 := Lib.hid (own_mono ho3 B2.out.size)
              have B3 := Lib.hid (B2.out.trans (hb3.mono B2.out.size))
              clear hb3 ho3
              by_cases hz : z < 0 ∨ z > ((without out y).length : Int)
              · have HN := Lib.hid (HSTOP.out (stepD_far (by omega) (fun h => hy (h.2 rfl)) hz))
                rcases hz with hz | hz
                · go_wp2_with fail
                  go_ret2
                  exact ⟨_, _, rfl, by rw [HN.out]; exact ⟨rfl, rfl⟩, B3.out⟩
                · have hz0 : ¬ z < 0 := by omega
                  go_wp2_with fail
                  go_ret2
                  exact ⟨_, _, rfl, by rw [HN.out]; exact ⟨rfl, rfl⟩, B3.out⟩
              · obtain ⟨q, rfl⟩ : ∃ q : Nat, z = (q : Int) := ⟨z.toNat, by omega⟩
                have hq : q ≤ (without out y).length := by omega
                have HN := Lib.hid (HGO.out _ (stepD_put (by omega) (fun h => hy (h.2 rfl)) hq))
                have CP := Lib.hid (rput_any A3 _ k3 q (without out y) y w3 rfl (by omega) hk3 hk3' (own_none O3.out) (At.own O3.out) hq)
                clear hz
                go_wp2_with fail
                refine CP.out.mono ?_
                rintro e w4 ⟨v4, rfl, ho4, hb4⟩
                have O4 := Lib.hid (own_mono ho4 B3.out.size)
                have B4 := Lib.hid (B3.out.trans (hb4.mono B3.out.size))
                obtain ⟨A4, k4, rfl, _, _⟩ := own_slice ho4
                clear ho4 hb4
                go_wp2_with fail
                go_roundw
                case rel => exact ⟨k + 1, by omega, by go_num, _, HN, O4, B4⟩
                case measure => simp [intOf]; omega
            · have HN := Lib.hid (HSTOP.out (stepD_bad (.inr (.inr ⟨fun h => absurd h hy, fun h => absurd h (by omega)⟩))))
              go_wp2_with fail
              refine (CA.out _ AT).mono ?_
              rintro e w9 ⟨rfl, rfl⟩
              go_wp2_with fail
              go_ret2
              exact ⟨_, _, rfl, by rw [HN.out]; exact ⟨rfl, rfl⟩, B2.out⟩
    · obtain rfl : k = m := by omega
      have HT : L.take k = L := List.take_of_length_le (by have := HM.out; omega)
      rw [HT] at hap
      obtain ⟨A2, k2, rfl, hk2, hk2'⟩ := own_slice hown.out
      go_wp2
      go_ret2
      exact ⟨_, _, rfl, by rw [hap.out]; exact ⟨rfl, hown.out⟩, hbel.out⟩
end Go.Proofs.Ytaojjcnghkjgfaa
