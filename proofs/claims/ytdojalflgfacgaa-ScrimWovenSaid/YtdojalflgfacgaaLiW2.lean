/- Contracts of the library's search at numbers, with lis's comparison at its calls, and of chained. -/
import Derived.Test.YtdojalflgfacgaaLiW1
import Derived.Laws.OwnMore
namespace Go.Proofs.Ytdojalflgfacgaa
open Go.RowKit Li
theorem own_hd {w : World} {base : Nat} {e : TypeId} {size n : Nat} {v : Value} {xs : List Value} (h : w.ownsRow base e size v n xs) (hn : 0 < n) :
    ∃ g cap, v = .slice (some ⟨g, 0, none⟩) n cap ∧ base ≤ g ∧ g < w.heap.size ∧ n ≤ cap ∧ cap ≤ maxLen := by
  rcases h.2 with ⟨_, h0⟩ | ⟨g, c, cur, hv, hb, hh, h1, h2, _⟩
  · omega
  · refine ⟨g, c, hv, hb, ?_, h1, h2⟩
    rcases Nat.lt_or_ge g w.heap.size with hx | hx
    · exact hx
    · rw [Array.getElem?_eq_none hx] at hh; cases hh
theorem nv_set (l : List Nat) (a x : Nat) : nv (l.set a x) = (nv l).set a (.int .i64 (x : Int)) := by simp [nv, List.map_set]
set_option maxHeartbeats 1000000 in
set_option maxRecDepth 100000 in
theorem search_any (A B : Option Addr) (n c m d lb : Nat) (es : List Nat) (l : List Int) (x : Int) (w : World) (hn : n = es.length) (hb : n ≤ 100000) (ha : At w A (nv es)) (hm : m = l.length) (hl : w.cell? ⟨lb, 0, none⟩ = some (.slice B m d)) (hB : At w B (iv l))
    (hlt : ∀ k, k < es.length → es.getD k 0 < l.length) (hmono : ∀ a b, a < b → b < es.length → ats l (es.getD a 0) < ats l (es.getD b 0)) :
    Calls Try.prog 40 #[.slice A n c, .int .i64 x, .func (.func 41) #[] #[.pointer (some ⟨lb, 0, none⟩)]] w fun e w' =>
      ∃ k : Nat, e = .returned (.tuple #[.int .i64 k, .bool (decide (k < n ∧ ats l (es.getD k 0) = x))]) ∧ Hid (Spot (ats l) es x k) ∧ w = w' := by
  have HN := Lib.hid hn
  have HA := Lib.hid ha
  have HL := Lib.hid hlt
  have HM := Lib.hid hmono
  have HC := fun i (hi : i < l.length) => of1_any B m d lb l i x w hm hl hB hi
  clear hn ha hmono hlt hm hl hB
  go_enter Try.func40, Try.ntmps40
  go_wp2
  go_loop [9, 10] (fun i j => ∃ a b : Nat, a ≤ b ∧ b ≤ n ∧ i = .int .i64 a ∧ j = .int .i64 b ∧ Hid (∀ q, q < a → ats l (es.getD q 0) < x) ∧ Hid (∀ q, b ≤ q → q < es.length → x ≤ ats l (es.getD q 0))) (fun i j => (intOf j).toNat - (intOf i).toNat)
  case atStart => exact ⟨0, n, Nat.zero_le _, Nat.le_refl _, rfl, rfl, Lib.hid (fun q hq => absurd hq (Nat.not_lt_zero _)), Lib.hid (fun q h1 h2 => absurd h2 (by have := HN.out; omega))⟩
  case round =>
    obtain ⟨a, b, hab, hbn, rfl, rfl, hlo, hhi⟩ := hrel
    by_cases hlt : a < b
    · obtain ⟨p, hmid⟩ : ∃ p, p = (a + b) / 2 := ⟨_, rfl⟩
      have hma : a ≤ p := by omega
      have hmb : p < b := by omega
      have he : ((a : Int) + (b : Int)) / 2 = (p : Int) := by omega
      have hm1 : p < es.length := by have := HN.out; omega
      obtain ⟨b1, o1, hA, hb1, hc1⟩ := HA.out.one (nv_at es p hm1)
      obtain ⟨y, hy⟩ : ∃ y, y = es.getD p 0 := ⟨_, rfl⟩
      have hyl := HL.out p hm1
      rw [← hy] at hc1 hyl
      have HK := Lib.hid (HC y hyl)
      have HY := Lib.hid hy
      clear hy hyl hmid
      have hmn : p < n := by omega
      subst hA
      by_cases hcl : ats l y < x
      · have hci : cmpI (ats l y) x < 0 := (cmpI_lt _ _).2 hcl
        have HX := Lib.hid hcl
        clear hcl
        go_wp2_with (first | (go_at_call 41; refine HK.out.mono ?_; rintro e w6 ⟨rfl, rfl⟩))
        go_round
        case rel => exact ⟨p + 1, b, by omega, hbn, by go_num, rfl, Lib.hid (fun q hq => by
          have h2 := HX.out
          rw [HY.out] at h2
          by_cases hqp : q = p
          · rw [hqp]; exact h2
          · have := HM.out q p (by omega) hm1; omega), hhi⟩
        case measure => simp [intOf]; omega
      · have hci : ¬ cmpI (ats l y) x < 0 := fun h => hcl ((cmpI_lt _ _).1 h)
        have HX := Lib.hid hcl
        clear hcl
        go_wp2_with (first | (go_at_call 41; refine HK.out.mono ?_; rintro e w6 ⟨rfl, rfl⟩))
        go_round
        case rel => exact ⟨a, p, by omega, by omega, rfl, rfl, hlo, Lib.hid (fun q h1 h3 => by
          have h2 := HX.out
          rw [HY.out] at h2
          by_cases hqp : q = p
          · rw [hqp]; exact h2
          · have := HM.out p q (by omega) h3; omega)⟩
        case measure => simp [intOf]; omega
    · obtain rfl : a = b := by omega
      have hS : Spot (ats l) es x a := ⟨by have := HN.out; omega, hlo.out, fun q h1 h2 => Int.not_lt.mpr (hhi.out q h1 h2)⟩
      by_cases han : a < n
      · have hm1 : a < es.length := by have := HN.out; omega
        obtain ⟨b1, o1, rfl, hb1, hc1⟩ := HA.out.one (nv_at es a hm1)
        obtain ⟨y, hy⟩ : ∃ y, y = es.getD a 0 := ⟨_, rfl⟩
        have hyl := HL.out a hm1
        rw [← hy] at hc1 hyl
        have HK := Lib.hid (HC y hyl)
        have HY := Lib.hid hy
        clear hy hyl
        go_wp2_with (first | (go_at_call 41; refine HK.out.mono ?_; rintro e w6 ⟨rfl, rfl⟩))
        go_ret2
        refine ⟨a, ?_, hS, rfl⟩
        have hbq : ∀ z : Int, (z == 0) = decide (z = 0) := fun z => by by_cases h : z = 0 <;> simp [h]
        simp [han, hbq, cmpI_eq, HY.out]
      · go_wp2
        go_ret2
        refine ⟨a, ?_, hS, rfl⟩
        simp [han]
/-- ends become the row, from the last one on, in place. -/
theorem chained_any (gE nE cE gB nB cB baseE baseB : Nat) (es bs : List Nat) (L : Nat → Int) (len : Nat) (w : World) (hne : gE ≠ gB) (hE : w.ownsRow baseE 3 1 (.slice (some ⟨gE, 0, none⟩) nE cE) nE (nv es)) (hB : w.ownsRow baseB 3 1 (.slice (some ⟨gB, 0, none⟩) nB cB) nB (nv bs))
    (h0 : 0 < nE) (hb : nE ≤ 100000) (hends : Li.Ends L len es) (hbef : Befores L len bs) (hlen : len ≤ bs.length) :
    Calls Try.prog 43 #[.slice (some ⟨gE, 0, none⟩) nE cE, .slice (some ⟨gB, 0, none⟩) nB cB] w fun e w' => e = .returned (.slice (some ⟨gE, 0, none⟩) nE cE) ∧ ∃ r, Hid (IsRow L len r) ∧ w'.ownsRow baseE 3 1 (.slice (some ⟨gE, 0, none⟩) nE cE) nE (nv r) ∧ w.grownBy w' (some gE) := by
  have hnE : nE = es.length := by have := hE.1; rw [nv_len] at this; omega
  have hnB : nB = bs.length := by have := hB.1; rw [nv_len] at this; omega
  have HN := Lib.hid hnE
  have HNB := Lib.hid hnB
  have HB := Lib.hid hB
  have HS := Lib.hid (Half.start hends)
  have HF := Lib.hid hbef
  have HEN := Lib.hid hends
  have HLE := Lib.hid hlen
  have HE := Lib.hid hE
  clear hnE hnB hB hends hbef hlen hE
  go_enter Try.func43, Try.ntmps43
  go_wp2
  go_loopw [5] (fun i wr => ∃ (q : Nat) (es' : List Nat), (q : Int) ≤ nE ∧ i = .int .i64 ((q : Int) - 1) ∧ (q + 1 ≤ nE ∨ q = 0) ∧ Hid (Half L len es q es') ∧ Hid (wr.ownsRow baseE 3 1 (.slice (some ⟨gE, 0, none⟩) nE cE) nE (nv es')) ∧ Hid (w.grownBy wr (some gE))) (fun i _ => ((intOf i) + 1).toNat)
  case atStart => exact ⟨nE - 1, es, by omega, by rw [show ((nE - 1 : Nat) : Int) - 1 = (nE : Int) - 2 by omega], by omega, by show Half _ _ _ _ _; rw [HN.out]; exact HS.out, HE, World.grownBy.refl _ _⟩
  case round =>
    obtain ⟨q, es', hq, rfl, hq2, hhalf, hown, hgrown⟩ := hrel
    have hnE' : nE = es'.length := by have := hown.out.1; rw [nv_len] at this; omega
    rcases Nat.eq_zero_or_pos q with h0 | h0
    · subst h0
      clear hnE'
      go_wp2
      go_ret
      exact ⟨rfl, es', hhalf.out.row, hown.out, hgrown.out⟩
    · obtain ⟨p, rfl⟩ : ∃ p, q = p + 1 := ⟨q - 1, by omega⟩
      have hp1 : p + 1 < es'.length := by omega
      have hlev := hhalf.out.level (p + 1) (Nat.le_refl _) hp1
      obtain ⟨y, hy⟩ : ∃ y, y = es'.getD (p + 1) 0 := ⟨_, rfl⟩
      have c1 : wr.cell? ⟨gE, p + 1, none⟩ = some (.int .i64 (y : Int)) := by rw [hown.out.cellAt _ (by omega), nv_at _ _ hp1, hy]
      have c0 : wr.cell? ⟨gE, p, none⟩ = some (.int .i64 ((es'.getD p 0 : Nat) : Int)) := by rw [hown.out.cellAt _ (by omega), nv_at _ _ (by omega)]
      have z0 := hown.out.frozenAt p
      have hyB : y < bs.length := by have := HLE.out; rw [hy]; omega
      have hyn : y < nB := by have := HNB.out; omega
      have HBr := Lib.hid (HB.out.kept hgrown.out (.inr fun e => hne (by simpa [Value.ownBlock] using e.symm)))
      obtain ⟨z, hz⟩ : ∃ z, z = bs.getD y 0 := ⟨_, rfl⟩
      have cB1 : wr.cell? ⟨gB, y, none⟩ = some (.int .i64 (z : Int)) := by rw [HBr.out.cellAt _ (by omega), nv_at _ _ hyB, hz]
      have HSt := Lib.hid (hhalf.out.step HF.out hp1)
      have HY := Lib.hid hy
      have HZ := Lib.hid hz
      have HST := Lib.hid (hown.out.stored p (.int .i64 (z : Int)))
      clear hy hz hlev hnE' hyB hp1
      have e1 : ((p + 1 : Nat) : Int) - 1 = (p : Int) := by omega
      rw [e1]
      go_wp2
      go_roundw
      case rel => exact ⟨p, es'.set p z, by omega, by go_num, by omega, by show Half _ _ _ _ _; have h5 := HSt.out; rw [← HY.out, ← HZ.out] at h5; exact h5, by show World.ownsRow _ _ _ _ _ _ _; rw [nv_set]; exact HST.out.1, hgrown.out.trans HST.out.2⟩
      case measure => simp [intOf]
theorem chained_none (A B : Option Addr) (c nB cB : Nat) (w : World) : Calls Try.prog 43 #[.slice A 0 c, .slice B nB cB] w fun e w' => e = .returned (.slice A 0 c) ∧ w = w' := by
  go_enter Try.func43, Try.ntmps43
  go_wp2
  go_loop [5] (fun i => i = .int .i64 (-2)) (fun _ => 0)
  case atStart => rfl
  case round =>
    subst hrel
    go_wp2
    go_ret
    exact ⟨rfl, rfl⟩
end Go.Proofs.Ytdojalflgfacgaa
