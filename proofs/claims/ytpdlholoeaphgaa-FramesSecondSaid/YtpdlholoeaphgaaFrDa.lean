/- Contract of the statements' do, whatever the call; of their fixed facts; a slice of calls as an argument. -/
import Derived.Test.YtpdlholoeaphgaaFrD1
namespace Go.Proofs.Ytpdlholoeaphgaa
open Go.RowKit
namespace Fr
theorem do_any (w W : World) (gw b : Nat) (r1 r2 : Value) (last most : Int) (a1 a2 : List Wt) (A : Option Addr) (n c : Nat) (a : Tm) (hD : Fk w W gw b r1 r2 last most a1 a2 A n c) (hl : last ≤ 1000000) :
    Calls Try.prog 12 #[.pointer (some ⟨b, 0, none⟩), rv16 most last A n c, tmv a] W fun e Z => ∃ last' A' n' c' r1' r2' a1' a2', e = .returned (.tuple #[rv16 most last' A' n' c', .bool true]) ∧ Fk w Z gw b r1' r2' last' most a1' a2' A' n' c' ∧ Way W Z b r1 r2 r1' r2' ∧ last' ≤ last + 1 := by
  by_cases h0 : a.tok = 0
  · by_cases hf : most ≤ ((a1.length + a2.length : Nat) : Int)
    · refine (do_full w W gw b r1 r2 last most a1 a2 A n c a hD h0 hf).mono ?_
      rintro e Z ⟨rfl, h1, h2⟩
      exact ⟨last, A, n, c, r1, r2, a1, a2, rfl, h1, h2, by omega⟩
    · refine (do_ok w W gw b r1 r2 last most a1 a2 A n c a hD h0 (by omega) hl).mono ?_
      rintro e Z ⟨A', c', r2', rfl, h1, h2⟩
      exact ⟨_, A', _, c', r1, r2', a1, _, rfl, h1, h2, Int.le_refl _⟩
  · by_cases h1 : a.tok = 1
    · refine (do_can w W gw b r1 r2 last most a1 a2 A n c a hD h1).mono ?_
      rintro e Z ⟨A', c', r1', r2', rfl, h3, h4⟩
      exact ⟨_, A', _, c', r1', r2', _, _, rfl, h3, h4, by omega⟩
    · refine (do_frm w W gw b r1 r2 last most a1 a2 A n c a hD h0 h1).mono ?_
      rintro e Z ⟨A', c', r1', r2', rfl, h3, h4⟩
      exact ⟨_, A', _, c', r1', r2', _, _, rfl, h3, h4, by omega⟩
set_option maxHeartbeats 4000000 in
set_option maxRecDepth 100000 in
theorem awake_any (w : World) : Calls Try.prog 9 #[] w fun e w' => e = .returned (.bool true) ∧ Below w.heap.size w w' := by
  have C1 := fnew_any 9 w
  rw [show clp 9 1 65536 = 9 from rfl] at C1
  have C1 := Lib.hid C1
  go_enter Try.func9, Try.ntmps9
  go_wp2_with fail
  refine C1.out.mono ?_
  rintro e w1 ⟨rfl, hq1, hb1, hl1⟩
  have C2 := Lib.hid (fask_ok w.heap.size 0 78 [] [] (.slice none 0 0) (.slice none 0 0) 0 9 1 0 [] [] w1 hq1 rfl (by decide) (by omega) (by omega) (by decide) (by omega) (by omega))
  have HB1 := Lib.hid hb1
  clear hq1 hb1 hl1 C1
  go_wp2_with fail
  refine C2.out.mono ?_
  rintro e w2 ⟨rfl, r2', hq2, hb2, hf2⟩
  have C3 := Lib.hid (fframe_any w.heap.size 0 78 [] [] (.slice none 0 0) r2' (0 + 1) 9 [] ([] ++ [⟨0 + 1, 1, 0⟩]) w2 hq2 rfl (by decide))
  have HB2 : Hid (Below w.heap.size w w2) := hb2.below HB1.out HB1.out.size (fun q h => by
    rcases h with h | h | h
    · omega
    · cases h
    · cases h)
  have HQ2 := Lib.hid hq2
  clear hq2 hb2 hf2 C2
  go_wp2_with fail
  refine C3.out.mono ?_
  rintro e w3 ⟨rfl, hq3, hb3⟩
  have C4 := Lib.hid (fframe_any w.heap.size 0 78 [] [] r2' (.slice none 0 0) (0 + 1) 9 ([] ++ [⟨0 + 1, 1, 0⟩]) [] w3 hq3 rfl (by decide))
  have HB3 : Hid (Below w.heap.size w w3) := hb3.below HB2.out HB2.out.size (fun q h => by omega)
  have hrb := Fr.row_ne_blk hq3.row1 hq3.blk (by decide)
  obtain ⟨g, c, hr, _, _, _, _⟩ := own_head hq3.row1 (by decide)
  have HR1 := Lib.hid hq3.row1
  clear hq3 hb3 C3 HQ2
  go_wp2_with fail
  refine C4.out.mono ?_
  rintro e w4 ⟨rfl, hq4, hb4⟩
  have C5 := Lib.hid (hq4.len (o := 0) rfl)
  have HB4 : Hid (Below w.heap.size w w4) := hb4.below HB3.out HB3.out.size (fun q h => by omega)
  have ho := hb4.keepsOwn HR1.out (fun q hq e => hrb (by rw [hq, e]))
  have hat := At.own (hr ▸ ho)
  obtain ⟨b1, o1, e1, hb1l, c0, c1, c2, c3⟩ := at_wt hat (k := 0) (by decide)
  injection e1 with e1
  injection e1 with e1 e2 _
  subst e1 e2
  have c0' : w4.cell? ⟨g, 0, none⟩ = some (.int .i64 1) := c0
  have c1' : w4.cell? ⟨g, 1, none⟩ = some (.int .i64 0) := c1
  have c2' : w4.cell? ⟨g, 2, none⟩ = some (.int .i64 1) := c2
  have c3' : w4.cell? ⟨g, 3, none⟩ = some (.int .i64 0) := c3
  subst hr
  clear c0 c1 c2 c3 hat ho hq4 hb4 C4 hrb hb1l HR1
  go_wp2_with fail
  refine C5.out.mono ?_
  rintro e w5 ⟨rfl, rfl⟩
  go_wp2
  go_ret
  exact ⟨by simp, HB4.out⟩
end Fr
end Go.Proofs.Ytpdlholoeaphgaa
