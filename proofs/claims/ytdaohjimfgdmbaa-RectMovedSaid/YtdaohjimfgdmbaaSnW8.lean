/- Contract of rect.SnapOf: the one snapshot of the entries. -/
import Derived.Test.YtdaohjimfgdmbaaSnW7
namespace Go.Proofs.Ytdaohjimfgdmbaa
open Go.Shelf Go.RowKit Go.Lib Go.Sort Go.Proofs Sn
theorem reverse_none (w : World) : Calls Try.prog 36 #[.slice none 0 0] w fun e w' => e = .returned (.tuple #[]) ∧ w' = w := by
  go_enter Try.func36, Try.ntmps36
  go_wp2
  refine wp_loop_rounds 1 ?_
  rw [rounds_succ]
  go_wp2
  go_end0
  exact ⟨rfl, rfl⟩
theorem compact_none (v : Value) (w : World) : Calls Try.prog 40 #[.slice none 0 0, v] w fun e w' => e = .returned (.slice none 0 0) ∧ w' = w := by
  go_enter Try.func40, Try.ntmps40
  go_wp2
  go_ret
  exact ⟨rfl, rfl⟩
/-- the three calls at a row of the call's own. -/
theorem reverse_own (g c : Nat) (l : List En) (w : World) (hb : l.length ≤ 10000000000) (hH : HoldsK ec 5 w g 0 l.toArray) (hg : g < w.heap.size) (D : Nat) (hD : D ≤ g) :
    Calls Try.prog 36 #[.slice (some ⟨g, 0, none⟩) l.length c] w fun e w' => e = .returned (.tuple #[]) ∧ HoldsK ec 5 w' g 0 l.reverse.toArray ∧ g < w'.heap.size ∧ RowKit.Below D w w' := by
  have h := reverse_row g 0 c l.toArray w ⟨ec_len, ec_one, hH, hg⟩ (by simp; omega)
  rw [show l.toArray.size = l.length from by simp] at h
  refine h.mono ?_
  rintro e w' ⟨rfl, hS⟩
  rw [show l.toArray.reverse = l.reverse.toArray from by simp] at hS
  exact ⟨rfl, hS.holds hg hH (by simp), hS.lt hg, St.swk_below hS hD (by omega)⟩
theorem sort_own (g c : Nat) (l : List En) (w : World) (hb : l.length ≤ 10000000000) (hH : HoldsK ec 5 w g 0 l.reverse.toArray) (hg : g < w.heap.size) (D : Nat) (hD : D ≤ g) :
    Calls Try.prog 37 #[.slice (some ⟨g, 0, none⟩) l.length c, .func (.func 38) #[] #[]] w fun e w' => e = .returned (.tuple #[]) ∧ ∃ d' : Array En, d'.size = l.length ∧ Is En.id l (comp En.id d'.toList) ∧ HoldsK ec 5 w' g 0 d' ∧ g < w'.heap.size ∧ RowKit.Below D w w' := by
  have h := sort_row g c l.reverse.toArray w ⟨ec_len, ec_one, hH, hg⟩ (by simp; omega)
  rw [show l.reverse.toArray.size = l.length from by simp] at h
  refine h.mono ?_
  rintro e w' ⟨rfl, d', hk, hs, hS⟩
  have hz : d'.size = l.length := by have := hk.size; simpa using this
  refine ⟨rfl, d', hz, sorted_is (d := l.reverse.toArray) (by simp) (by simpa using hk) (by simpa using hs), hS.holds hg hH (by simpa using hz), hS.lt hg, St.swk_below hS hD (by omega)⟩
theorem compact_own (g c n : Nat) (d : Array En) (w : World) (hn : d.size = n) (hc : n ≤ c) (hb : n ≤ 10000000000) (hH : HoldsK ec 5 w g 0 d) (hg : g < w.heap.size) (D : Nat) (hD : D ≤ g) :
    Calls Try.prog 40 #[.slice (some ⟨g, 0, none⟩) n c, .func (.func 41) #[] #[]] w fun e w' => e = .returned (.slice (some ⟨g, 0, none⟩) (comp En.id d.toList).length c) ∧ At w' (some ⟨g, 0, none⟩) (ecs (comp En.id d.toList)) ∧ RowKit.Below D w w' ∧ g < w'.heap.size := by
  subst hn
  have R : RowK ec 5 w g 0 d := ⟨ec_len, ec_one, hH, hg⟩
  refine (compact_row g c d w hc R (by omega)).mono ?_
  rintro e w' ⟨rfl, h⟩
  exact ⟨rfl, h.cells R hD (by omega)⟩
set_option maxHeartbeats 4000000 in
set_option maxRecDepth 100000 in
theorem snapOf_any (A : Option Addr) (n c : Nat) (l : List En) (w : World) (hn : n = l.length) (hb : n ≤ 1000000) (hA0 : A = none → n = 0 ∧ c = 0) (ha : At w A (ecs l)) :
    Calls Try.prog 15 #[.slice A n c] w fun e w' => ∃ (r : List En) (A1 : Option Addr) (c1 : Nat), e = .returned (.slice A1 r.length c1) ∧ Is En.id l r ∧ At w' A1 (ecs r) ∧ (A1 = none → c1 = 0 ∧ r = []) ∧ r.length ≤ n ∧ RowKit.Below w.heap.size w w' := by
  have HC := Lib.hid (cloneE_any A n c l w hn (by omega) hA0 ha)
  have HN := Lib.hid hn
  clear ha hn
  go_enter Try.func15, Try.ntmps15
  go_wp2_with (go_at_call 35; refine HC.out.mono ?_; rintro e9 w1 ⟨v, rfl, hown, hbel⟩; have HO := Lib.hid hown; have HB := Lib.hid hbel; clear hown hbel HC)
  rcases HO.out.2 with ⟨rfl, h0⟩ | ⟨g, c', cur, rfl, hg, hh, hc', hx⟩
  · have hl : l = [] := List.eq_nil_of_length_eq_zero (by rw [← HN.out]; exact h0)
    subst h0
    go_wp2_with (first | (go_at_call 36; refine (reverse_none _).mono ?_; rintro e9 w2 ⟨rfl, rfl⟩) | (go_at_call 37; refine (St.EN.sorts_none _ _ _ _).mono ?_; rintro e9 w2 ⟨rfl, rfl⟩) | (go_at_call 40; refine (compact_none _ _).mono ?_; rintro e9 w2 ⟨rfl, rfl⟩))
    go_ret
    subst hl
    exact ⟨[], none, 0, rfl, ⟨List.Pairwise.nil, fun _ => rfl⟩, At.nil _ _, fun _ => ⟨rfl, rfl⟩, Nat.le_refl _, HB.out⟩
  · have hlt : g < w1.heap.size := by
      rcases Nat.lt_or_ge g w1.heap.size with h1 | h1
      · exact h1
      · rw [Array.getElem?_eq_none h1] at hh; cases hh
    have HH1 := Lib.hid (St.holds_of_own (enc := ec) (k := 5) ec_len HO.out).1
    have hnl : n = l.length := HN.out
    clear hh hx cur
    have HR := Lib.hid (reverse_own g c' l w1 (by omega) HH1.out hlt w.heap.size hg)
    rw [← hnl] at HR
    clear hnl
    go_wp2_with (go_at_call 36; refine HR.out.mono ?_; rintro e9 w2 ⟨rfl, hH2, hl2, hB2⟩; have HH2 := Lib.hid hH2; have HB2 := Lib.hid hB2; clear hH2 hB2 HR)
    have hnl : n = l.length := HN.out
    have HS := Lib.hid (sort_own g c' l w2 (by omega) HH2.out hl2 w.heap.size hg)
    rw [← hnl] at HS
    clear hnl
    go_wp2_with (go_at_call 37; refine HS.out.mono ?_; rintro e9 w3 ⟨rfl, d', hz, hI, hH3, hl3, hB3⟩; have HH3 := Lib.hid hH3; have HB3 := Lib.hid hB3; have HI := Lib.hid hI; have HZ := Lib.hid hz; clear hH3 hB3 hI hz HS)
    have HK := Lib.hid (compact_own g c' n d' w3 HZ.out hc' (by omega) HH3.out hl3 w.heap.size hg)
    go_wp2_with (go_at_call 40; refine HK.out.mono ?_; rintro e9 w4 ⟨rfl, hat, hB4, hl4⟩; have HA4 := Lib.hid hat; have HB4 := Lib.hid hB4; clear hat hB4 HK)
    go_ret
    exact ⟨comp En.id d'.toList, _, c', rfl, HI.out, HA4.out, (fun h => nomatch h), by have := comp_len (nm := En.id) d'.toList none; have h2 := HZ.out; simp at this; exact Nat.le_trans this (by omega), HB.out.trans (HB2.out.trans (HB3.out.trans HB4.out))⟩
end Go.Proofs.Ytdaohjimfgdmbaa
