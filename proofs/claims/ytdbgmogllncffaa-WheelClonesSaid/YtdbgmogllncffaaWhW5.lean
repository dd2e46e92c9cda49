/- Contracts of the library heap's up and down at a heap of timers. -/
import Derived.Test.YtdbgmogllncffaaWhW4
import Derived.Handy
namespace Go.Proofs.Ytdbgmogllncffaa
open Go.RowKit Go.Sort Wh
theorem less_pl (b : Nat) (rv mv : Value) (last most : Int) (xs : List Tm) (i j : Nat) (r : Bool) (w : World) (h : Pl w b rv mv last most xs) (hi : i < xs.length) (hj : j < xs.length) (hr : decide (lt (g xs i) (g xs j)) = r) :
    Calls Try.prog 71 #[.pointer (some ⟨b, 0, none⟩), .int .i64 i, .int .i64 j] w fun e w' => e = .returned (.bool r) ∧ Below w.heap.size w w' := by
  subst hr
  exact (less_any b rv mv last most xs i j w h hi hj).mono fun _ _ ⟨he, hw⟩ => ⟨he, gr_below hw⟩
/-- what the loops keep. -/
structure Up (w W : World) (b : Nat) (rv mv : Value) (last most : Int) (n : Nat) (xs xs1 : List Tm) : Prop where
  pl : Pl W b rv mv last most xs1
  perm : xs1.Perm xs
  far : ∀ k, n ≤ k → g xs1 k = g xs k
  beside : Beside (Bad b rv mv) w W
theorem Up.below {w W W' : World} {b : Nat} {rv mv : Value} {last most : Int} {n : Nat} {xs xs1 : List Tm} (h : Up w W b rv mv last most n xs xs1) (hb : Below W.heap.size W W') : Up w W' b rv mv last most n xs xs1 :=
  ⟨h.pl.below hb, h.perm, h.far, h.beside.trans (.ofBelow hb)⟩
theorem Up.swap {w W W' : World} {b : Nat} {rv mv : Value} {last most : Int} {n : Nat} {xs xs1 : List Tm} (h : Up w W b rv mv last most n xs xs1) {i j : Nat} (hi : i < n) (hj : j < n) (hn : n ≤ xs.length) (hp : Pl W' b rv mv last most (swp xs1 i j)) (hb : Beside (Bad b rv mv) W W') : Up w W' b rv mv last most n xs (swp xs1 i j) :=
  have hl : xs1.length = xs.length := h.perm.length_eq
  ⟨hp, (swp_perm xs1 i j (by omega) (by omega)).trans h.perm, fun k hk => by rw [g_swp xs1 i j (by omega) (by omega), if_neg (by omega), if_neg (by omega)]; exact h.far k hk, h.beside.trans hb⟩
set_option maxHeartbeats 4000000 in
set_option maxRecDepth 100000 in
theorem up_any (b : Nat) (rv mv : Value) (last most : Int) (xs : List Tm) (n j0 : Nat) (w : World) (h : Pl w b rv mv last most xs) (hn : n ≤ xs.length) (hj : j0 < n) (hx : HeapX n (g xs) j0) :
    Calls Try.prog 35 #[.iface 72 (.pointer (some ⟨b, 0, none⟩)), .int .i64 j0] w fun e w' => e = .returned (.tuple #[]) ∧ ∃ xs', Up w w' b rv mv last most n xs xs' ∧ Heap n (g xs') := by
  have hf : n ≤ 65536 := Nat.le_trans hn h.few
  have HN := Lib.hid hn
  have H0 : Hid (Up w w b rv mv last most n xs xs) := ⟨h, List.Perm.refl _, fun _ _ => rfl, Beside.refl _ _⟩
  have HX := Lib.hid hx
  clear h hn hx
  go_enter Try.func35, Try.ntmps35
  go_wp2
  go_loopw [1] (fun vj wr => ∃ (j : Nat) (xs1 : List Tm), vj = .int .i64 j ∧ j < n ∧ Hid (Up w wr b rv mv last most n xs xs1) ∧ Hid (HeapX n (g xs1) j)) (fun vj _ => (intOf vj).toNat)
  case atStart => exact ⟨j0, xs, rfl, hj, H0, HX⟩
  case round =>
    obtain ⟨j, xs1, rfl, hjn, HU, HXj⟩ := hrel
    have hlen : xs1.length = xs.length := HU.out.perm.length_eq
    have hN := HN.out
    by_cases h0 : j = 0
    · subst h0
      have HE : Hid (Heap n (g xs1)) := up_stop HXj.out (.inl rfl)
      clear hlen hN
      go_wp2
      go_end0
      exact ⟨rfl, xs1, HU.out, HE.out⟩
    · obtain ⟨p, hp⟩ : ∃ p, p = (j - 1) / 2 := ⟨_, rfl⟩
      have hpj : p < j := by omega
      have e1 : ((j : Int) - 1) / 2 = (p : Int) := by omega
      have HP := Lib.hid hp
      clear hp
      have hne : ¬ ((p : Int) = (j : Int)) := by omega
      have hj1 : (0 : Int) ≤ (j : Int) - 1 := by omega
      by_cases hlt : lt (g xs1 j) (g xs1 p)
      · have CL := Lib.hid (less_pl b rv mv last most xs1 j p true wr HU.out.pl (by omega) (by omega) (by simpa using hlt))
        have CS : Hid (∀ W, Pl W b rv mv last most xs1 → Calls Try.prog 74 #[.pointer (some ⟨b, 0, none⟩), .int .i64 p, .int .i64 j] W fun e w' => e = .returned (.tuple #[]) ∧ Pl w' b rv mv last most (swp xs1 p j) ∧ Beside (Bad b rv mv) W w') := fun W hW => swap_any b rv mv last most xs1 p j W hW (by omega) (by omega)
        have HS : Hid (HeapX n (g (swp xs1 p j)) p) := by
          show HeapX _ _ _
          rw [sw_g xs1 p j (by omega) (by omega)]
          exact up_step HXj.out (by omega) hjn HP.out hlt
        clear hlt hlen hN
        go_wp2_with fail
        refine CL.out.mono ?_
        rintro e w1 ⟨rfl, hb1⟩
        have HU1 := Lib.hid (HU.out.below hb1)
        clear hb1 CL
        go_wp2_with fail
        refine (CS.out _ HU1.out.pl).mono ?_
        rintro e w2 ⟨rfl, hp2, hb2⟩
        have HU2 := Lib.hid (HU1.out.swap (i := p) (j := j) (by omega) hjn HN.out hp2 hb2)
        clear hp2 hb2 CS
        go_wp2
        exact ⟨⟨p, swp xs1 p j, rfl, by omega, HU2, HS⟩, by show (Int.toNat (p : Int)) < Int.toNat (j : Int); omega⟩
      · have CL := Lib.hid (less_pl b rv mv last most xs1 j p false wr HU.out.pl (by omega) (by omega) (by simpa using hlt))
        have HE : Hid (Heap n (g xs1)) := up_stop HXj.out (.inr (by rw [← HP.out]; exact hlt))
        clear hlt hlen hN
        go_wp2_with fail
        refine CL.out.mono ?_
        rintro e w1 ⟨rfl, hb1⟩
        have HU1 := Lib.hid (HU.out.below hb1)
        clear hb1 CL
        go_wp2
        go_end0
        exact ⟨rfl, xs1, HU1.out, HE.out⟩
theorem kid_of {k i : Nat} (hk : 0 < k) (h : (k - 1) / 2 = i) : k = 2 * i + 1 ∨ k = 2 * i + 2 := by omega
set_option maxHeartbeats 8000000 in
set_option maxRecDepth 100000 in
theorem down_any (b : Nat) (rv mv : Value) (last most : Int) (xs : List Tm) (n i0 : Nat) (w : World) (h : Pl w b rv mv last most xs) (hn : n ≤ xs.length) (hi1 : i0 < 65536) (hx : HeapD n (g xs) i0 False) :
    Calls Try.prog 34 #[.iface 72 (.pointer (some ⟨b, 0, none⟩)), .int .i64 i0, .int .i64 n] w fun e w' => ∃ (r : Bool) (xs' : List Tm), e = .returned (.bool r) ∧ Up w w' b rv mv last most n xs xs' ∧ (r = true → Heap n (g xs')) ∧ (r = false → xs' = xs ∧ HeapX n (g xs) i0) := by
  have hf : n ≤ 65536 := Nat.le_trans hn h.few
  have HN := Lib.hid hn
  have H0 : Hid (Up w w b rv mv last most n xs xs) := ⟨h, List.Perm.refl _, fun _ _ => rfl, Beside.refl _ _⟩
  have HX : Hid (HeapD n (g xs) i0 (i0 ≠ i0)) := ⟨fun k h1 h2 h3 h4 => hx.1 k h1 h2 h3 (by rcases h4 with h4 | h4; exact .inl h4; exact absurd rfl h4), hx.2⟩
  clear h hn hx
  go_enter Try.func34, Try.ntmps34
  go_wp2
  go_loopw [7] (fun vi wr => ∃ (i : Nat) (xs1 : List Tm), vi = .int .i64 i ∧ i0 ≤ i ∧ i < 65536 ∧ (i = i0 ∨ i < n) ∧ Hid (Up w wr b rv mv last most n xs xs1) ∧ Hid (HeapD n (g xs1) i (i ≠ i0)) ∧ Hid (i = i0 → xs1 = xs)) (fun vi _ => n - (intOf vi).toNat)
  case atStart => exact ⟨i0, xs, rfl, Nat.le_refl _, hi1, .inl rfl, H0, HX, Lib.hid fun _ => rfl⟩
  case round =>
    obtain ⟨i, xs1, rfl, hii, hi6, hin, HU, HD, HI⟩ := hrel
    have hlen : xs1.length = xs.length := HU.out.perm.length_eq
    have hN := HN.out
    have FIN : Hid (∀ w', Up w w' b rv mv last most n xs xs1 → (∀ k, 0 < k → k < n → (k - 1) / 2 = i → ¬ lt (g xs1 k) (g xs1 i)) → ∀ r : Bool, r = decide (i0 < i) → ∃ (r' : Bool) (xs' : List Tm), Ending.returned (.bool r) = .returned (.bool r') ∧ Up w w' b rv mv last most n xs xs' ∧ (r' = true → Heap n (g xs')) ∧ (r' = false → xs' = xs ∧ HeapX n (g xs) i0)) := by
      intro w' hu hs r hr
      obtain ⟨k1, k2⟩ := down_stop HD.out hs
      refine ⟨r, xs1, rfl, hu, fun h1 => k1 ?_, fun h1 => ?_⟩
      · rw [hr] at h1; have := of_decide_eq_true h1; omega
      · rw [hr] at h1
        have h2 := of_decide_eq_false h1
        have h3 : i = i0 := by omega
        have h4 := HI.out h3
        refine ⟨h4, ?_⟩
        rw [← h3, ← h4]; exact k2
    by_cases hc1 : n ≤ 2 * i + 1
    · have hz1 : (n : Int) ≤ 2 * (i : Int) + 1 := by omega
      have HE := Lib.hid (FIN.out _ HU.out (fun k h1 h2 h3 => by rcases kid_of h1 h3 with h4 | h4 <;> omega))
      clear hlen hN FIN
      go_wp2
      go_ret
      exact HE.out _ (by first | rfl | (rw [Bool.eq_iff_iff]; simp))
    · have hz1 : ¬ ((n : Int) ≤ 2 * (i : Int) + 1) := by omega
      have hz0 : ¬ (2 * (i : Int) + 1 < 0) := by omega
      have hw1 : IntKind.i64.wrap (2 * (i : Int)) = 2 * (i : Int) := by rw [IntKind.wrap_i64]; omega
      have hw2 : IntKind.i64.wrap (2 * (i : Int) + 1) = 2 * (i : Int) + 1 := by rw [IntKind.wrap_i64]; omega
      have hw3 : IntKind.i64.wrap (2 * (i : Int) + 1 + 1) = 2 * (i : Int) + 1 + 1 := by rw [IntKind.wrap_i64]; omega
      have C1 : Hid (∀ r, decide (lt (g xs1 (2 * i + 2)) (g xs1 (2 * i + 1))) = r → 2 * i + 2 < n → Calls Try.prog 71 #[.pointer (some ⟨b, 0, none⟩), .int .i64 (2 * (i : Int) + 1 + 1), .int .i64 (2 * (i : Int) + 1)] wr fun e w' => e = .returned (.bool r) ∧ Below wr.heap.size wr w') := fun r hr hk => by
        have := less_pl b rv mv last most xs1 (2 * i + 2) (2 * i + 1) r wr HU.out.pl (by omega) (by omega) hr
        rw [show ((2 * i + 2 : Nat) : Int) = 2 * (i : Int) + 1 + 1 by omega, show ((2 * i + 1 : Nat) : Int) = 2 * (i : Int) + 1 by omega] at this
        exact this
      have C2 : Hid (∀ (j : Nat) (J : Int) r W, (j : Int) = J → j < n → Up w W b rv mv last most n xs xs1 → decide (lt (g xs1 j) (g xs1 i)) = r → Calls Try.prog 71 #[.pointer (some ⟨b, 0, none⟩), .int .i64 J, .int .i64 i] W fun e w' => e = .returned (.bool r) ∧ Below W.heap.size W w') := fun j J r W hJ hj hu hr => by
        rw [← hJ]
        exact less_pl b rv mv last most xs1 j i r W hu.pl (by omega) (by omega) hr
      have C3 : Hid (∀ (j : Nat) (J : Int) W, (j : Int) = J → j < n → Up w W b rv mv last most n xs xs1 → Calls Try.prog 74 #[.pointer (some ⟨b, 0, none⟩), .int .i64 i, .int .i64 J] W fun e w' => e = .returned (.tuple #[]) ∧ Up w w' b rv mv last most n xs (swp xs1 i j)) := fun j J W hJ hj hu => by
        rw [← hJ]
        exact (swap_any b rv mv last most xs1 i j W hu.pl (by omega) (by omega)).mono fun _ _ ⟨he, hp, hb⟩ => ⟨he, hu.swap (by omega) hj HN.out hp hb⟩
      have ST : Hid (∀ j, 0 < j → j < n → (j - 1) / 2 = i → (∀ k, 0 < k → k < n → (k - 1) / 2 = i → ¬ lt (g xs1 k) (g xs1 j)) → lt (g xs1 j) (g xs1 i) → HeapD n (g (swp xs1 i j)) j (j ≠ i0)) := fun j h1 h2 h3 h4 h5 => by
        rw [sw_g xs1 i j (by omega) (by omega)]
        have h6 := down_step HD.out h1 h2 h3 h4 h5
        exact ⟨fun k a1 a2 a3 _ => h6.1 k a1 a2 a3 (.inr trivial), h6.2⟩
      have hgl := hlen
      clear hlen hN
      by_cases hc2 : 2 * i + 2 < n
      · have hz2 : 2 * (i : Int) + 1 + 1 < (n : Int) := by omega
        by_cases hl : lt (g xs1 (2 * i + 2)) (g xs1 (2 * i + 1))
        · have HM : Hid (∀ k, 0 < k → k < n → (k - 1) / 2 = i → ¬ lt (g xs1 k) (g xs1 (2 * i + 2))) := fun k h1 h2 h3 => by
            rcases kid_of h1 h3 with h4 | h4
            · rw [h4]; exact lt_asymm hl
            · rw [h4]; unfold lt; omega
          have CL1 := Lib.hid (C1.out true (by simpa using hl) (by omega))
          go_wp2_with fail
          refine CL1.out.mono ?_
          rintro e W1 ⟨rfl, hb1⟩
          have HU1 := Lib.hid (HU.out.below hb1)
          clear hb1 CL1
          clear hl
          by_cases hlt : lt (g xs1 (2 * i + 2)) (g xs1 i)
          · have CL := Lib.hid (C2.out (2 * i + 2) (2 * (i : Int) + 1 + 1) true W1 (by omega) (by omega) HU1.out (by simpa using hlt))
            have CS : Hid (∀ W, Up w W b rv mv last most n xs xs1 → _) := fun W hW => C3.out (2 * i + 2) (2 * (i : Int) + 1 + 1) W (by omega) (by omega) hW
            have HS := Lib.hid (ST.out (2 * i + 2) (by omega) (by omega) (by omega) HM.out hlt)
            clear hlt FIN
            go_wp2_with fail
            refine CL.out.mono ?_
            rintro e w2 ⟨rfl, hb2⟩
            have HU2 := Lib.hid (HU1.out.below hb2)
            clear hb2 CL
            go_wp2_with fail
            refine (CS.out _ HU2.out).mono ?_
            rintro e w3 ⟨rfl, hu3⟩
            have HU3 := Lib.hid hu3
            clear hu3 CS
            go_wp2
            exact ⟨⟨2 * i + 2, swp xs1 i (2 * i + 2), by first | rfl | (congr 1), by omega, by omega, .inr (by omega), HU3, HS, Lib.hid fun e => absurd e (by omega)⟩, by simp only [intOf]; omega⟩
          · have CL := Lib.hid (C2.out (2 * i + 2) (2 * (i : Int) + 1 + 1) false W1 (by omega) (by omega) HU1.out (by simpa using hlt))
            have HE := Lib.hid (fun w' hu => FIN.out w' hu (fun k h1 h2 h3 => le_trans hlt (HM.out k h1 h2 h3)))
            clear hlt FIN
            go_wp2_with fail
            refine CL.out.mono ?_
            rintro e w2 ⟨rfl, hb2⟩
            have HU2 := Lib.hid (HU1.out.below hb2)
            clear hb2 CL
            go_wp2
            go_ret
            exact HE.out _ HU2.out _ (by first | rfl | (rw [Bool.eq_iff_iff]; simp))
        · have HM : Hid (∀ k, 0 < k → k < n → (k - 1) / 2 = i → ¬ lt (g xs1 k) (g xs1 (2 * i + 1))) := fun k h1 h2 h3 => by
            rcases kid_of h1 h3 with h4 | h4
            · rw [h4]; unfold lt; omega
            · rw [h4]; exact hl
          have CL1 := Lib.hid (C1.out false (by simpa using hl) (by omega))
          go_wp2_with fail
          refine CL1.out.mono ?_
          rintro e W1 ⟨rfl, hb1⟩
          have HU1 := Lib.hid (HU.out.below hb1)
          clear hb1 CL1
          clear hl
          by_cases hlt : lt (g xs1 (2 * i + 1)) (g xs1 i)
          · have CL := Lib.hid (C2.out (2 * i + 1) (2 * (i : Int) + 1) true W1 (by omega) (by omega) HU1.out (by simpa using hlt))
            have CS : Hid (∀ W, Up w W b rv mv last most n xs xs1 → _) := fun W hW => C3.out (2 * i + 1) (2 * (i : Int) + 1) W (by omega) (by omega) hW
            have HS := Lib.hid (ST.out (2 * i + 1) (by omega) (by omega) (by omega) HM.out hlt)
            clear hlt FIN
            go_wp2_with fail
            refine CL.out.mono ?_
            rintro e w2 ⟨rfl, hb2⟩
            have HU2 := Lib.hid (HU1.out.below hb2)
            clear hb2 CL
            go_wp2_with fail
            refine (CS.out _ HU2.out).mono ?_
            rintro e w3 ⟨rfl, hu3⟩
            have HU3 := Lib.hid hu3
            clear hu3 CS
            go_wp2
            exact ⟨⟨2 * i + 1, swp xs1 i (2 * i + 1), by first | rfl | (congr 1), by omega, by omega, .inr (by omega), HU3, HS, Lib.hid fun e => absurd e (by omega)⟩, by simp only [intOf]; omega⟩
          · have CL := Lib.hid (C2.out (2 * i + 1) (2 * (i : Int) + 1) false W1 (by omega) (by omega) HU1.out (by simpa using hlt))
            have HE := Lib.hid (fun w' hu => FIN.out w' hu (fun k h1 h2 h3 => le_trans hlt (HM.out k h1 h2 h3)))
            clear hlt FIN
            go_wp2_with fail
            refine CL.out.mono ?_
            rintro e w2 ⟨rfl, hb2⟩
            have HU2 := Lib.hid (HU1.out.below hb2)
            clear hb2 CL
            go_wp2
            go_ret
            exact HE.out _ HU2.out _ (by first | rfl | (rw [Bool.eq_iff_iff]; simp))
      · have hz2 : ¬ (2 * (i : Int) + 1 + 1 < (n : Int)) := by omega
        have HM : Hid (∀ k, 0 < k → k < n → (k - 1) / 2 = i → ¬ lt (g xs1 k) (g xs1 (2 * i + 1))) := fun k h1 h2 h3 => by
          rcases kid_of h1 h3 with h4 | h4
          · rw [h4]; unfold lt; omega
          · omega
        obtain ⟨W1, hW1⟩ : ∃ W1, W1 = wr := ⟨_, rfl⟩
        have HU1 := Lib.hid HU.out
        rw [← hW1] at HU1 ⊢
        clear hW1 C1
        by_cases hlt : lt (g xs1 (2 * i + 1)) (g xs1 i)
        · have CL := Lib.hid (C2.out (2 * i + 1) (2 * (i : Int) + 1) true W1 (by omega) (by omega) HU1.out (by simpa using hlt))
          have CS : Hid (∀ W, Up w W b rv mv last most n xs xs1 → _) := fun W hW => C3.out (2 * i + 1) (2 * (i : Int) + 1) W (by omega) (by omega) hW
          have HS := Lib.hid (ST.out (2 * i + 1) (by omega) (by omega) (by omega) HM.out hlt)
          clear hlt FIN
          go_wp2_with fail
          refine CL.out.mono ?_
          rintro e w2 ⟨rfl, hb2⟩
          have HU2 := Lib.hid (HU1.out.below hb2)
          clear hb2 CL
          go_wp2_with fail
          refine (CS.out _ HU2.out).mono ?_
          rintro e w3 ⟨rfl, hu3⟩
          have HU3 := Lib.hid hu3
          clear hu3 CS
          go_wp2
          exact ⟨⟨2 * i + 1, swp xs1 i (2 * i + 1), by first | rfl | (congr 1), by omega, by omega, .inr (by omega), HU3, HS, Lib.hid fun e => absurd e (by omega)⟩, by simp only [intOf]; omega⟩
        · have CL := Lib.hid (C2.out (2 * i + 1) (2 * (i : Int) + 1) false W1 (by omega) (by omega) HU1.out (by simpa using hlt))
          have HE := Lib.hid (fun w' hu => FIN.out w' hu (fun k h1 h2 h3 => le_trans hlt (HM.out k h1 h2 h3)))
          clear hlt FIN
          go_wp2_with fail
          refine CL.out.mono ?_
          rintro e w2 ⟨rfl, hb2⟩
          have HU2 := Lib.hid (HU1.out.below hb2)
          clear hb2 CL
          go_wp2
          go_ret
          exact HE.out _ HU2.out _ (by first | rfl | (rw [Bool.eq_iff_iff]; simp))
end Go.Proofs.Ytdbgmogllncffaa
