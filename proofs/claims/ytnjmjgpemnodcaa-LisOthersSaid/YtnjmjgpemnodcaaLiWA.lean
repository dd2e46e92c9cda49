/- Contract of lis.Others. -/
import Derived.Test.YtnjmjgpemnodcaaLiW7
namespace Go.Proofs.Ytnjmjgpemnodcaa
open Go.RowKit Li
theorem rest_yes (r : List Nat) (k : Nat) (h : k ∈ r) : rest r (k + 1) = rest r k := by
  unfold rest; rw [List.range_succ, List.filter_append]; simp [h]
theorem rest_no (r : List Nat) (k : Nat) (h : ¬ k ∈ r) : rest r (k + 1) = rest r k ++ [k] := by
  unfold rest; rw [List.range_succ, List.filter_append]; simp [h]
theorem rest_le (r : List Nat) (k : Nat) : (rest r k).length ≤ k := by
  unfold rest; have := List.length_filter_le (fun i => !decide (i ∈ r)) (List.range k); simpa using this
/-- a row that rises, parted at k. -/
def Parted (r : List Nat) (q k : Nat) : Prop := q ≤ r.length ∧ (∀ j, j < q → r.getD j 0 < k) ∧ ∀ j, q ≤ j → j < r.length → k ≤ r.getD j 0
theorem rises2 {L : Nat → Int} {n : Nat} {r : List Nat} (h : IsRow L n r) : ∀ b a, a < b → b < r.length → r.getD a 0 < r.getD b 0 := by
  intro b
  induction b with
  | zero => intro a h1; omega
  | succ b ih =>
    intro a h1 h2
    have h3 := (h.rises b h2).1
    by_cases he : a = b
    · subst he; exact h3
    · have := ih a (by omega) (by omega); omega
theorem Parted.yes {L : Nat → Int} {n : Nat} {r : List Nat} {q k : Nat} (h : Parted r q k) (hr : IsRow L n r) (hq : q < r.length) (he : r.getD q 0 = k) : Parted r (q + 1) (k + 1) ∧ k ∈ r := by
  refine ⟨⟨by omega, fun j hj => ?_, fun j h1 h2 => ?_⟩, ?_⟩
  · by_cases hjq : j < q
    · have := h.2.1 j hjq; omega
    · have : j = q := by omega
      subst this; omega
  · have := rises2 hr j q (by omega) h2; omega
  · rw [← he, List.getD_eq_getElem?_getD, List.getElem?_eq_getElem hq]
    exact List.getElem_mem hq
theorem Parted.no {L : Nat → Int} {n : Nat} {r : List Nat} {q k : Nat} (h : Parted r q k) (hr : IsRow L n r) (hne : q < r.length → r.getD q 0 ≠ k) : Parted r q (k + 1) ∧ ¬ k ∈ r := by
  refine ⟨⟨h.1, fun j hj => by have := h.2.1 j hj; omega, fun j h1 h2 => ?_⟩, fun hm => ?_⟩
  · have h3 := h.2.2 j h1 h2
    have h4 := h.2.2 q (Nat.le_refl _) (by omega)
    have h5 := hne (by omega)
    by_cases hjq : j = q
    · subst hjq; omega
    · have := rises2 hr j q (by omega) h2; omega
  · obtain ⟨j, hj, he⟩ := List.getElem_of_mem hm
    have hg : r.getD j 0 = k := by rw [List.getD_eq_getElem?_getD, List.getElem?_eq_getElem hj]; exact he
    rcases Nat.lt_trichotomy j q with h1 | h1 | h1
    · have := h.2.1 j h1; omega
    · subst h1; exact hne hj hg
    · have h2 := h.2.2 q (Nat.le_refl _) (by omega)
      have h3 := rises2 hr j q h1 hj
      omega
theorem nv_drop (l : List Nat) (k : Nat) : nv (l.drop k) = (nv l).drop k := by simp [nv, List.map_drop]
set_option maxHeartbeats 4000000 in
set_option maxRecDepth 100000 in
theorem others_any (A : Option Addr) (n c : Nat) (l : List Int) (w : World) (hn : n = l.length) (hm : n ≤ 1000) (ha : At w A (iv l)) (r0 : List Nat) (hr0 : IsRow (ats l) n r0) :
    Calls Try.prog 14 #[.slice A n c] w fun e w' => ∃ v, e = .returned v ∧ w'.ownsRow w.heap.size 3 1 v (rest r0 n).length (nv (rest r0 n)) ∧ Below w.heap.size w w' := by
  have HO := Lib.hid (of_any A n c l w hn hm ha)
  obtain ⟨i0, hi, hz0, hz1, hz2⟩ := info_parts infoInt
  have HR0 := Lib.hid hr0
  clear hn ha hr0
  go_enter Try.func14, Try.ntmps14
  go_wp2_with (go_at_call 10; (with_reducible refine HO.out.mono ?_); rintro e w2 ⟨v, r, rfl, hr, hown, hb2⟩; have hrs := hr.out.uniq HR0.out; rw [hrs] at hown; clear hrs hr; obtain ⟨A2, c2, rfl, hc2, hm2⟩ := own_slice hown; have HT2 := Lib.hid (At.own hown); have HB2 := Lib.hid hb2; clear hown hb2)
  go_loopw [3, 4, 10] (fun ch v i wr => ∃ (k q m c' : Nat) (A' : Option Addr), k ≤ n ∧ i = .int .i64 k ∧ ch = .slice A' m c' ∧ m ≤ c' ∧ c' ≤ maxLen ∧ Hid (m = r0.length - q) ∧ Hid (At w2 A' (nv (r0.drop q))) ∧ Hid (Parted r0 q k) ∧ Hid (wr.ownsRow w2.heap.size 3 1 v (rest r0 k).length (nv (rest r0 k))) ∧ Hid (Below w2.heap.size w2 wr)) (fun _ _ i _ => n - (intOf i).toNat)
  case atStart => exact ⟨0, 0, _, c2, A2, Nat.zero_le _, rfl, rfl, hc2, hm2, rfl, HT2, ⟨Nat.zero_le _, fun _ h => absurd h (Nat.not_lt_zero _), fun _ _ _ => Nat.zero_le _⟩, World.ownsRow_nil _ _ _ _, Below.refl _ _⟩
  case round =>
    obtain ⟨k, q, m, c', A', hk, rfl, rfl, hmc, hcm, hme, hat, hpart, hown, hbel⟩ := hrel
    have hwr : w.heap.size ≤ w2.heap.size := HB2.out.size
    have hwr2 : w2.heap.size ≤ wr.heap.size := hbel.out.size
    have hrl := rest_le r0 k
    by_cases hlt : k < n
    · by_cases hm0 : 0 < m
      · have hq : q < r0.length := by have := hme.out; omega
        obtain ⟨b1, o1, rfl, hb1, hc1⟩ := hat.out.one (nv_at (r0.drop q) 0 (by simp; omega))
        have hd1 := (below_cells hbel.out).1 b1 (o1 + 0) hb1
        rw [hc1, Nat.add_zero] at hd1
        have hg : (r0.drop q).getD 0 0 = r0.getD q 0 := by simp [List.getD_eq_getElem?_getD]
        rw [hg] at hd1
        have HD := Lib.hid hc1
        clear hc1 hg
        obtain ⟨y, hy⟩ : ∃ y, y = r0.getD q 0 := ⟨_, rfl⟩
        rw [← hy] at hd1
        have HY := Lib.hid hy
        clear hy
        have hm1 : ((0 : Int) < (m : Int)) := by omega
        by_cases hyk : y = k
        · subst hyk
          have HP := Lib.hid (hpart.out.yes HR0.out hq HY.out.symm)
          have HCUT : Hid (At w2 (if c' = 1 then some ⟨b1, o1, none⟩ else some ⟨b1, o1 + 1, none⟩) (nv (r0.drop (q + 1)))) := by
            show At _ _ _
            have h5 := hat.out.cut' 1 c' (by rw [nv_len, List.length_drop]; have := hme.out; omega)
            rw [← nv_drop, List.drop_drop] at h5
            exact h5
          go_wp2
          go_roundw
          case rel => exact ⟨y + 1, q + 1, m - 1, c' - 1, _, by omega, by go_num, by go_num, by omega, by omega, by show _ = _; have := hme.out; omega, HCUT, HP.out.1, by show World.ownsRow _ _ _ _ _ _ _; rw [rest_yes _ _ HP.out.2]; exact hown.out, hbel⟩
          case measure => simp [intOf]; omega
        · have HP := Lib.hid (hpart.out.no HR0.out (fun _ => by rw [← HY.out]; exact hyk))
          have hykb : ((y : Int) == (k : Int)) = false := by rw [beq_eq_false_iff_ne]; omega
          have hyki : ¬ (y : Int) = (k : Int) := by omega
          clear hyk
          go_wp2_with (at_builtin; refine wpList_append_own _ rfl _ _ 22 rfl w2.heap.size 3 i0 (.int .i64 0) 1 8 Try.underlying22 hi hz0 hz1 hz2 rfl (by decide) _ _ _ rfl (hown.out.alloc _) ⟨_, 0, none⟩ 1 1 [.int .i64 (k : Int)] rfl rfl (cell_one_new _ _ _) (nv_one [k]) (by unfold maxLen; omega) (by omega) (by simp; omega) ?_; intro v1 w1 hown1 hgrow1 _hnil1; have HO1 := Lib.hid hown1; have HG1 := Lib.hid hgrow1; clear hown1 hgrow1 _hnil1)
          go_roundw
          case rel => exact ⟨k + 1, q, m, c', _, by omega, by go_num, rfl, hmc, hcm, hme, hat, HP.out.1, by show World.ownsRow _ _ _ _ _ _ _; rw [rest_no _ _ HP.out.2, List.length_append, nv_app]; exact HO1.out, (hbel.out.alloc hwr2 _).grown HG1.out (by simp; omega) (own_from hown.out)⟩
          case measure => simp [intOf]; omega
      · have HP := Lib.hid (hpart.out.no HR0.out (fun h => by have := hme.out; omega))
        obtain rfl : m = 0 := by omega
        go_wp2_with (at_builtin; refine wpList_append_own _ rfl _ _ 22 rfl w2.heap.size 3 i0 (.int .i64 0) 1 8 Try.underlying22 hi hz0 hz1 hz2 rfl (by decide) _ _ _ rfl (hown.out.alloc _) ⟨_, 0, none⟩ 1 1 [.int .i64 (k : Int)] rfl rfl (cell_one_new _ _ _) (nv_one [k]) (by unfold maxLen; omega) (by omega) (by simp; omega) ?_; intro v1 w1 hown1 hgrow1 _hnil1; have HO1 := Lib.hid hown1; have HG1 := Lib.hid hgrow1; clear hown1 hgrow1 _hnil1)
        go_roundw
        case rel => exact ⟨k + 1, q, 0, c', _, by omega, by go_num, rfl, hmc, hcm, hme, hat, HP.out.1, by show World.ownsRow _ _ _ _ _ _ _; rw [rest_no _ _ HP.out.2, List.length_append, nv_app]; exact HO1.out, (hbel.out.alloc hwr2 _).grown HG1.out (by simp; omega) (own_from hown.out)⟩
        case measure => simp [intOf]; omega
    · obtain rfl : k = n := by omega
      go_wp2
      go_ret
      exact ⟨_, rfl, own_mono hown.out hwr, HB2.out.trans (hbel.out.mono HB2.out.size)⟩
theorem mem_rest (r : List Nat) (k i : Nat) : i ∈ rest r k ↔ i < k ∧ ¬ i ∈ r := by unfold rest; simp
theorem rest_app (r : List Nat) (k n : Nat) (h : k ≤ n) : ∃ t, rest r n = rest r k ++ t := by
  induction n with
  | zero => exact ⟨[], by rw [show k = 0 by omega]; simp⟩
  | succ n ih =>
    by_cases hk : k = n + 1
    · exact ⟨[], by rw [hk]; simp⟩
    · obtain ⟨t, ht⟩ := ih (by omega)
      by_cases hm : n ∈ r
      · exact ⟨t, by rw [rest_yes _ _ hm, ht]⟩
      · exact ⟨t ++ [n], by rw [rest_no _ _ hm, ht]; simp⟩
set_option maxHeartbeats 4000000 in
set_option maxRecDepth 100000 in
theorem lisOthers_any (A : Option Addr) (n c : Nat) (l : List Int) (w : World) (hn : n = l.length) (hb : n ≤ maxLen) (hc : n ≤ c) (hc2 : c ≤ maxLen) (ha : At w A (iv l)) (hA : A = none → n = 0 ∧ c = 0) :
    Calls Try.prog 6 #[.slice A n c] w fun e w' => e = .returned (.bool true) ∧ Below w.heap.size w w' := by
  have HF := fun W => few_any A n c 60 60 W rfl hb hc hc2 hA (by omega)
  obtain ⟨ha2, hn2⟩ := few_at (m := 60) ha hn
  have HA := Lib.hid ha2
  have hm1 : min n 60 ≤ 1000 := by omega
  generalize l.take 60 = L at HA hn2
  generalize min n 60 = N at HF hn2 hm1
  have HN := Lib.hid hn2
  have h1 := fun W (hb : Below w.heap.size w W) => of_any A N c L W HN.out hm1 (HA.out.below hb)
  have h2 := fun W (hb : Below w.heap.size w W) => others_any A N c L W HN.out hm1 (HA.out.below hb)
  clear hn hb hc hc2 ha hA ha2 hn2
  go_enter Try.func6, Try.ntmps6
  go_wp2_with (first
  | (go_at_call 7; (with_reducible refine (awake_any _).mono ?_); rintro e w1 ⟨rfl, hb1⟩; have HB1 := Lib.hid hb1; clear hb1)
  | (go_at_call 8; (with_reducible refine (HF _).mono ?_); rintro e w1' ⟨rfl, rfl⟩)
  | (go_at_call 10; (with_reducible refine (h1 _ HB1.out).mono ?_); rintro e w2 ⟨v, r, rfl, hr, hown, hb2⟩; obtain ⟨A2, c2, rfl, _, _⟩ := own_slice hown; have HT2 := Lib.hid (At.own hown); have HB2 := Lib.hid (HB1.out.trans (hb2.mono HB1.out.size)); clear hown hb2)
  | (go_at_call 14; (with_reducible refine (h2 _ HB2.out r hr.out).mono ?_); rintro e w3 ⟨v, rfl, hown, hb3⟩; obtain ⟨A3, c3, rfl, _, _⟩ := own_slice hown; have HT3 := Lib.hid (At.own hown); have HT23 := Lib.hid (HT2.out.below hb3); have HB3 := Lib.hid (HB2.out.trans (hb3.mono HB2.out.size)); clear hown hb3))
  have hrl : r.length ≤ N := by have := hr.out.1; have := top_le (ats L) N; omega
  have hol : (rest r N).length ≤ N := rest_le r N
  obtain ⟨m, hm⟩ : ∃ m, m = r.length := ⟨_, rfl⟩
  obtain ⟨o, ho⟩ : ∃ o, o = (rest r N).length := ⟨_, rfl⟩
  have HM := Lib.hid hm
  have HO := Lib.hid ho
  rw [← hm, ← ho]
  rw [← hm] at hrl
  rw [← ho] at hol
  clear hm ho
  go_loop [5, 6, 18] (fun a b i => ∃ (k q s : Nat), k ≤ N ∧ i = .int .i64 k ∧ a = .int .i64 q ∧ b = .int .i64 s ∧ Hid (Parted r q k) ∧ Hid (s = (rest r k).length)) (fun _ _ i => N - (intOf i).toNat)
  case atStart => exact ⟨0, 0, 0, Nat.zero_le _, rfl, rfl, rfl, ⟨Nat.zero_le _, fun _ h => absurd h (Nat.not_lt_zero _), fun _ _ _ => Nat.zero_le _⟩, rfl⟩
  case round =>
    obtain ⟨k, q, s, hk, rfl, rfl, rfl, hpart, hs⟩ := hrel
    have hsk : s ≤ k := by have := hs.out; have := rest_le r k; omega
    have hqm : q ≤ m := by have := hpart.out.1; have := HM.out; omega
    by_cases hlt : k < N
    · by_cases hmem : k ∈ r
      · have hq : q < r.length := by
          rcases Nat.lt_or_ge q r.length with h | h
          · exact h
          · exact absurd hmem (hpart.out.no hr.out (fun h2 => by omega)).2
        have hyk : r.getD q 0 = k := by
          rcases Nat.decEq (r.getD q 0) k with h | h
          · exact absurd hmem (hpart.out.no hr.out (fun _ => h)).2
          · exact h
        obtain ⟨b1, o1, rfl, hb1, hc1⟩ := HT23.out.one (nv_at r q hq)
        rw [hyk] at hc1
        have HP := Lib.hid (hpart.out.yes hr.out hq hyk)
        have hqm2 : q < m := by have := HM.out; omega
        clear hyk hmem hq
        go_wp2
        go_round
        case rel => exact ⟨k + 1, q + 1, s, by omega, by go_num, by go_num, rfl, HP.out.1, by show _ = _; rw [rest_yes _ _ HP.out.2]; exact hs.out⟩
        case measure => simp [intOf]; omega
      · have HP := Lib.hid (hpart.out.no hr.out (fun hq he => hmem (hpart.out.yes hr.out hq he).2))
        have hso : s < o := by
          obtain ⟨t, ht⟩ := rest_app r (k + 1) N (by omega)
          have h1 := HO.out
          rw [ht, rest_no _ _ hmem] at h1
          have h2 := hs.out
          simp at h1
          omega
        have hsl : s < (rest r N).length := by have := HO.out; omega
        obtain ⟨b2, o2, rfl, hb2, hc2⟩ := HT3.out.one (nv_at (rest r N) s hsl)
        have hsg : (rest r N).getD s 0 = k := by
          obtain ⟨t, ht⟩ := rest_app r (k + 1) N (by omega)
          rw [ht, rest_no _ _ hmem, hs.out]
          simp
        rw [hsg] at hc2
        clear hsg hsl hmem
        have HS2 : Hid (s + 1 = (rest r (k + 1)).length) := by show _ = _; rw [rest_no _ _ HP.out.2, hs.out]; simp
        by_cases hq : q < m
        · have hqr : q < r.length := by have := HM.out; omega
          obtain ⟨b1, o1, rfl, hb1, hc1⟩ := HT23.out.one (nv_at r q hqr)
          have hyk : r.getD q 0 ≠ k := fun he => HP.out.2 (hpart.out.yes hr.out hqr he).2
          generalize r.getD q 0 = y at hc1 hyk
          have hykb : ((y : Int) == (k : Int)) = false := by rw [beq_eq_false_iff_ne]; omega
          have hyki : ¬ (y : Int) = (k : Int) := by omega
          clear hyk hqr
          go_wp2
          go_round
          case rel => exact ⟨k + 1, q, s + 1, by omega, by go_num, rfl, by go_num, HP.out.1, HS2⟩
          case measure => simp [intOf]; omega
        · have hq2 : ¬ (q : Int) < (m : Int) := by omega
          go_wp2
          go_round
          case rel => exact ⟨k + 1, q, s + 1, by omega, by go_num, rfl, by go_num, HP.out.1, HS2⟩
          case measure => simp [intOf]; omega
    · obtain rfl : k = N := by omega
      have hse : s = o := by have := hs.out; have := HO.out; omega
      have hqe : q = m := by
        have h1 := HM.out
        rcases Nat.lt_or_ge q r.length with h | h
        · have h2 := hpart.out.2.2 q (Nat.le_refl _) h
          have h3 := hr.out.lt q h
          omega
        · omega
      subst hse hqe
      go_wp2
      go_ret
      exact ⟨ret_bool' (by simp), HB3.out⟩
end Go.Proofs.Ytnjmjgpemnodcaa
