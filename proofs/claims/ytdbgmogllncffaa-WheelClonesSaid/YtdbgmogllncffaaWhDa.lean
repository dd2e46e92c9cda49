/- Contract of the statements' do, whatever the call. -/
import Derived.Test.YtdbgmogllncffaaWhD4
namespace Go.Proofs.Ytdbgmogllncffaa
open Go.RowKit Go.Sort Wh
theorem do_any (w W : World) (gw b : Nat) (rv mv : Value) (last most : Int) (xs : List Tm) (A : Option Addr) (n c : Nat) (L : List Tm) (a : Tm) (hD : Dk w W gw b rv mv last most xs A n c L) (ha : OkI a.dl) (hl : last ≤ 1000000) :
    Calls Try.prog 9 #[.pointer (some ⟨b, 0, none⟩), rv16 most last A n c, tmv a] W fun e Z => ∃ last' A' n' c' rv' mv' xs' L', e = .returned (.tuple #[rv16 most last' A' n' c', .bool true]) ∧ Dk w Z gw b rv' mv' last' most xs' A' n' c' L' ∧ Way1 W Z b rv mv rv' mv' ∧ last' ≤ last + 1 := by
  by_cases h0 : a.tok = 0
  · by_cases hf : most ≤ (xs.length : Int)
    · refine (do_full w W gw b rv mv last most xs A n c L a hD h0 hf).mono ?_
      rintro e Z ⟨rfl, h1, h2⟩
      exact ⟨last, A, n, c, rv, mv, xs, L, rfl, h1, ⟨.ofBelow h2, .refl _ _ _⟩, by omega⟩
    · refine (do_ok w W gw b rv mv last most xs A n c L a hD h0 (by omega) hl).mono ?_
      rintro e Z ⟨A', n', c', rv', mv', xs', L', rfl, h1, h2⟩
      exact ⟨_, A', n', c', rv', mv', xs', L', rfl, h1, h2, Int.le_refl _⟩
  · by_cases h1 : a.tok = 1
    · rcases find_tok xs a.dl with h2 | ⟨i, hi, hit⟩
      · refine (do_cno w W gw b rv mv last most xs A n c L a hD h1 ha h2).mono ?_
        rintro e Z ⟨A', n', c', rv', mv', xs', L', rfl, h1, h2⟩
        exact ⟨_, A', n', c', rv', mv', xs', L', rfl, h1, h2, by omega⟩
      · refine (do_can w W gw b rv mv last most xs A n c L a hD h1 i hi hit).mono ?_
        rintro e Z ⟨A', n', c', rv', mv', xs', L', rfl, h1, h2⟩
        exact ⟨_, A', n', c', rv', mv', xs', L', rfl, h1, h2, by omega⟩
    · by_cases h2 : xs = [] ∨ a.dl < (g xs 0).dl
      · refine (do_dno w W gw b rv mv last most xs A n c L a hD h0 h1 h2).mono ?_
        rintro e Z ⟨A', n', c', rv', mv', xs', L', rfl, h1, h2⟩
        exact ⟨_, A', n', c', rv', mv', xs', L', rfl, h1, h2, by omega⟩
      · have h3 : xs ≠ [] := fun e => h2 (.inl e)
        obtain ⟨k, hk⟩ : ∃ k, xs.length = k + 1 := ⟨xs.length - 1, by have : xs.length ≠ 0 := fun e => h3 (List.eq_nil_of_length_eq_zero e); omega⟩
        refine (do_dyes w W gw b rv mv last most xs A n c L a hD h0 h1 k hk (by have : ¬ a.dl < (g xs 0).dl := fun e => h2 (.inr e); omega)).mono ?_
        rintro e Z ⟨A', n', c', rv', mv', xs', L', rfl, h1, h2⟩
        exact ⟨_, A', n', c', rv', mv', xs', L', rfl, h1, h2, by omega⟩
end Go.Proofs.Ytdbgmogllncffaa
