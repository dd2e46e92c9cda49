/- rect.SnapOf once more: its row may be written. -/
import Derived.Test.YtdaohjimfgdmbaaSnW8
import Derived.Test.YtdaohjimfgdmbaaSpSame
import Derived.Laws.IdiomCopy
namespace Go.Proofs.Ytdaohjimfgdmbaa
open Go.Shelf Go.RowKit Go.Lib Go.Sort Go.Proofs Sn
/-- cells that lie where a slice begins, and may be written. -/
def AtW (w : World) (A : Option Addr) (xs : List Value) : Prop := At w A xs ∧ ∀ b o p j u, A = some ⟨b, o, p⟩ → xs[j]? = some u → w.frozen? ⟨b, o + j, none⟩ = false
theorem Compacted.thaw {d : Array En} {w w' : World} {blk : Nat} (h : Compacted En.id ec 5 zE0 blk 0 d w w') (R : RowK ec 5 w blk 0 d) :
    ∀ b o p j u, (some ⟨blk, 0, none⟩ : Option Addr) = some ⟨b, o, p⟩ → (ecs (comp En.id d.toList))[j]? = some u → w'.frozen? ⟨b, o + j, none⟩ = false := by
  intro b o p j u e hj
  injection e with e
  injection e with e1 e2 _
  subst e1 e2
  obtain ⟨dk, W1, hs, hm, hS, ht, hw⟩ := h
  have hj' := (List.getElem?_eq_some_iff.1 hj).1
  rw [ecs_len] at hj'
  have h1 := (hS.holds R.hblk R.hH hs j (by rw [size_flatK, hs]; exact Nat.lt_of_lt_of_le hj' (Nat.mul_le_mul_right 5 hm))).2
  rcases hw with rfl | rfl
  · exact h1
  · rw [World.frozen?_setCells]; exact h1
theorem compact_ownW (g c n : Nat) (d : Array En) (w : World) (hn : d.size = n) (hc : n ≤ c) (hb : n ≤ 10000000000) (hH : HoldsK ec 5 w g 0 d) (hg : g < w.heap.size) (D : Nat) (hD : D ≤ g) :
    Calls Try.prog 40 #[.slice (some ⟨g, 0, none⟩) n c, .func (.func 41) #[] #[]] w fun e w' => e = .returned (.slice (some ⟨g, 0, none⟩) (comp En.id d.toList).length c) ∧ AtW w' (some ⟨g, 0, none⟩) (ecs (comp En.id d.toList)) ∧ RowKit.Below D w w' ∧ g < w'.heap.size := by
  subst hn
  have R : RowK ec 5 w g 0 d := ⟨ec_len, ec_one, hH, hg⟩
  refine (compact_row g c d w hc R (by omega)).mono ?_
  rintro e w' ⟨rfl, h⟩
  have h2 := h.cells R hD (by omega)
  exact ⟨rfl, ⟨h2.1, h.thaw R⟩, h2.2⟩
set_option maxHeartbeats 4000000 in
set_option maxRecDepth 100000 in
theorem snapOf_w (A : Option Addr) (n c : Nat) (l : List En) (w : World) (hn : n = l.length) (hb : n ≤ 1000000) (hA0 : A = none → n = 0 ∧ c = 0) (ha : At w A (ecs l)) :
    Calls Try.prog 15 #[.slice A n c] w fun e w' => ∃ (r : List En) (A1 : Option Addr) (c1 : Nat), e = .returned (.slice A1 r.length c1) ∧ Is En.id l r ∧ AtW w' A1 (ecs r) ∧ (∀ b o p, A1 = some ⟨b, o, p⟩ → w.heap.size ≤ b) ∧ (A1 = none → c1 = 0 ∧ r = []) ∧ r.length ≤ n ∧ RowKit.Below w.heap.size w w' := by
  have HC := Lib.hid (cloneE_any A n c l w hn (by omega) hA0 ha)
  have HN := Lib.hid hn
  clear ha hn
  go_enter Try.func15, Try.ntmps15
  go_wp2_with (go_at_call 35; refine HC.out.mono ?_; rintro e9 w1 ⟨v, rfl, hown, hbel⟩; have HO := Lib.hid hown; have HB := Lib.hid hbel; clear hown hbel HC)
  rcases HO.out.2 with ⟨rfl, h0⟩ | ⟨g, c', cur, rfl, hg, hh, hc', hx⟩
  · have hl : l = [] := List.eq_nil_of_length_eq_zero (by rw [← HN.out]; exact h0)
    subst h0
    go_wp2_with (first | (go_at_call 36; refine (reverse_none _).mono ?_; rintro e9 w2 ⟨rfl, rfl⟩) | (go_at_call 37; refine (St.EN.sorts_none _ _ _ _).mono ?_; rintro e9 w2 ⟨rfl, rfl⟩) | (go_at_call 40; refine (compact_none _ _).mono ?_; rintro e9 w2 ⟨rfl, rfl⟩))
    go_ret
    subst hl
    exact ⟨[], none, 0, rfl, ⟨List.Pairwise.nil, fun _ => rfl⟩, ⟨At.nil _ _, fun b o p j u e => nomatch e⟩, (fun b o p e => nomatch e), fun _ => ⟨rfl, rfl⟩, Nat.le_refl _, HB.out⟩
  · have hlt : g < w1.heap.size := by
      rcases Nat.lt_or_ge g w1.heap.size with h1 | h1
      · exact h1
      · rw [Array.getElem?_eq_none h1] at hh; cases hh
    have HH1 := Lib.hid (St.holds_of_own (enc := ec) (k := 5) ec_len HO.out).1
    have hnl : n = l.length := HN.out
    clear hh hx cur
    have HR := Lib.hid (reverse_own g c' l w1 (by omega) HH1.out hlt w.heap.size hg)
    rw [← hnl] at HR
    clear hnl
    go_wp2_with (go_at_call 36; refine HR.out.mono ?_; rintro e9 w2 ⟨rfl, hH2, hl2, hB2⟩; have HH2 := Lib.hid hH2; have HB2 := Lib.hid hB2; clear hH2 hB2 HR)
    have hnl : n = l.length := HN.out
    have HS := Lib.hid (sort_own g c' l w2 (by omega) HH2.out hl2 w.heap.size hg)
    rw [← hnl] at HS
    clear hnl
    go_wp2_with (go_at_call 37; refine HS.out.mono ?_; rintro e9 w3 ⟨rfl, d', hz, hI, hH3, hl3, hB3⟩; have HH3 := Lib.hid hH3; have HB3 := Lib.hid hB3; have HI := Lib.hid hI; have HZ := Lib.hid hz; clear hH3 hB3 hI hz HS)
    have HK := Lib.hid (compact_ownW g c' n d' w3 HZ.out hc' (by omega) HH3.out hl3 w.heap.size hg)
    go_wp2_with (go_at_call 40; refine HK.out.mono ?_; rintro e9 w4 ⟨rfl, hat, hB4, hl4⟩; have HA4 := Lib.hid hat; have HB4 := Lib.hid hB4; clear hat hB4 HK)
    go_ret
    exact ⟨comp En.id d'.toList, _, c', rfl, HI.out, HA4.out, (fun b o p e => by injection e with e; injection e with e1 _; omega), (fun h => nomatch h), by have := comp_len (nm := En.id) d'.toList none; have h2 := HZ.out; simp at this; exact Nat.le_trans this (by omega), HB.out.trans (HB2.out.trans (HB3.out.trans HB4.out))⟩

/-- SnapOf, the snapshot being known, its row writable. -/
theorem snapOf_isW (A : Option Addr) (n c : Nat) (l r : List En) (w : World) (hn : n = l.length) (hb : n ≤ 1000000) (hA0 : A = none → n = 0 ∧ c = 0) (ha : At w A (ecs l)) (hr : Is En.id l r) :
    Calls Try.prog 15 #[.slice A n c] w fun e w' => ∃ (A1 : Option Addr) (c1 : Nat), e = .returned (.slice A1 r.length c1) ∧ AtW w' A1 (ecs r) ∧ (∀ b o p, A1 = some ⟨b, o, p⟩ → w.heap.size ≤ b) ∧ (A1 = none → r.length = 0 ∧ c1 = 0) ∧ RowKit.Below w.heap.size w w' := by
  refine (snapOf_w A n c l w hn hb hA0 ha).mono ?_
  rintro e w' ⟨r', A1, c1, rfl, hi, hat, hfr, hA1, _, hbel⟩
  obtain rfl : r' = r := hi.uniq hr
  exact ⟨A1, c1, rfl, hat, hfr, fun e => ⟨by rw [(hA1 e).2]; rfl, (hA1 e).1⟩, hbel⟩
end Go.Proofs.Ytdaohjimfgdmbaa
