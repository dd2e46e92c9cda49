/- The document's in and Take: by searching. -/
import Derived.Test.YtfapghekakdpgaaGrOwn
namespace Go.Proofs.Ytfapghekakdpgaa
open Go.RowKit Gr
set_option linter.unusedVariables false
namespace Gr
def pa (L : List Gk) (s : ByteArray) (b : Bool) (j : Nat) : Option Nat := if b = true then (scan L s false L.length).or (scan L s true j) else scan L s false j
theorem pa_some {L : List Gk} {s : ByteArray} {b : Bool} {j i : Nat} (h : pa L s b j = some i) : pa L s b (j + 1) = some i := by
  unfold pa at h ⊢
  cases b with
  | false =>
    rw [if_neg (by simp)] at h ⊢
    rw [scan_succ, h]
    rfl
  | true =>
    rw [if_pos rfl] at h ⊢
    rw [scan_succ, ← Option.or_assoc, h]
    rfl
theorem pa_hit {L : List Gk} {s : ByteArray} {b : Bool} {j : Nat} (h : pa L s b j = none) (h1 : (gk L j).1 = s) (h2 : (gk L j).2 = b) : pa L s b (j + 1) = some j := by
  unfold pa at h ⊢
  cases b with
  | false =>
    rw [if_neg (by simp)] at h ⊢
    rw [scan_succ, h, if_pos ⟨h1, h2⟩]
    rfl
  | true =>
    rw [if_pos rfl] at h ⊢
    rw [scan_succ, ← Option.or_assoc, h, if_pos ⟨h1, h2⟩]
    rfl
theorem pa_miss {L : List Gk} {s : ByteArray} {b : Bool} {j : Nat} (h : pa L s b j = none) (h1 : ¬ ((gk L j).1 = s ∧ (gk L j).2 = b)) : pa L s b (j + 1) = none := by
  unfold pa at h ⊢
  cases b with
  | false =>
    rw [if_neg (by simp)] at h ⊢
    rw [scan_succ, h, if_neg h1]
    rfl
  | true =>
    rw [if_pos rfl] at h ⊢
    rw [scan_succ, ← Option.or_assoc, h, if_neg h1]
    rfl
theorem pa_zero (L : List Gk) (s : ByteArray) : pa L s false 0 = none := rfl
theorem pa_mid (L : List Gk) (s : ByteArray) : pa L s true 0 = pa L s false L.length := by simp [pa, scan]
theorem pa_end (L : List Gk) (s : ByteArray) : pa L s true L.length = first L L.length s := rfl
def dropO (keys : List ByteArray) (t : Nat) (s : ByteArray) (o : Option Nat) : Int := if s ∈ keys.take t then -1 else oI o
theorem dropO_zero (keys : List ByteArray) (s : ByteArray) (o : Option Nat) : dropO keys 0 s o = oI o := by simp [dropO]
theorem dropO_yes {keys : List ByteArray} {t : Nat} {s : ByteArray} (o : Option Nat) (h : t < keys.length) (e : keys[t] = s) : dropO keys (t + 1) s o = -1 := by
  unfold dropO
  rw [List.take_succ_eq_append_getElem h, e, if_pos (by simp)]
theorem dropO_no {keys : List ByteArray} {t : Nat} {s : ByteArray} (o : Option Nat) (h : t < keys.length) (e : ¬ keys[t] = s) : dropO keys (t + 1) s o = dropO keys t s o := by
  have e2 : s ∈ keys.take (t + 1) ↔ s ∈ keys.take t := by
    rw [List.take_succ_eq_append_getElem h, List.mem_append, List.mem_singleton]
    exact ⟨fun x => x.resolve_right (fun y => e y.symm), .inl⟩
  unfold dropO
  simp only [e2]
theorem dropO_take (L : List Gk) (keys : List ByteArray) (k : Nat) : dropO keys k (key keys k) (first L L.length (key keys k)) = takeI L keys k := by
  unfold dropO takeI takeO
  split <;> rfl
def tkTo (L : List Gk) (keys : List ByteArray) (k : Nat) : List Int := (List.range k).map (takeI L keys)
theorem tkTo_len (L : List Gk) (keys : List ByteArray) (k : Nat) : (tkTo L keys k).length = k := by simp [tkTo]
theorem tkTo_next (L : List Gk) (keys : List ByteArray) (k : Nat) : tkTo L keys (k + 1) = tkTo L keys k ++ [takeI L keys k] := by simp [tkTo, List.range_succ]
end Gr
theorem iv_app (a b : List Int) : iv (a ++ b) = iv a ++ iv b := by simp [iv]
theorem iv_one (l : List Int) : ∀ u ∈ iv l, u.oneCell' = true := by
  intro u hu
  simp only [iv, List.mem_map] at hu
  obtain ⟨s, _, rfl⟩ := hu
  rfl
theorem in_any (A : Option Addr) (n c : Nat) (xs : List Int) (x : Int) (w : World) (hn : n = xs.length) (hb : n ≤ 100000) (ha : At w A (iv xs)) :
    Calls Try.prog 42 #[.slice A n c, .int .i64 x] w fun e w' => e = .returned (.bool (decide (x ∈ xs))) ∧ Below w.heap.size w w' := by
  have HN := Lib.hid hn
  have HA := Lib.hid ha
  clear hn ha
  go_enter Try.func42, Try.ntmps42
  go_wp2
  go_loop [9] (fun i => ∃ k : Nat, k ≤ n ∧ i = .int .i64 k ∧ Hid (¬ x ∈ xs.take k)) (fun i => n - (intOf i).toNat)
  case atStart => exact ⟨0, Nat.zero_le _, rfl, by show ¬ _; simp⟩
  case round =>
    obtain ⟨k, hk, rfl, hx⟩ := hrel
    by_cases hlt : k < n
    · have hk1 : k < xs.length := by have := HN.out; omega
      obtain ⟨b1, o1, rfl, hb1, hc1⟩ := HA.out.one (iv_at xs k hk1)
      have hy : ats xs k = xs[k] := by simp [ats, hk1]
      have htk := List.take_succ_eq_append_getElem hk1
      rw [← hy] at htk
      have hmem : ats xs k ∈ xs := by rw [hy]; exact List.getElem_mem hk1
      generalize ats xs k = y at *
      by_cases hxy : y = x
      · subst hxy
        have HM := Lib.hid hmem
        clear hmem htk hy
        go_wp2
        go_ret
        exact ⟨ret_bool' (by rw [decide_eq_true HM.out]), Below.refl _ _⟩
      · have HT := Lib.hid htk
        have HXY := Lib.hid hxy
        have hne : (y == x) = false := beq_eq_false_iff_ne.2 hxy
        clear htk hmem hy hxy
        go_wp2
        go_round
        case rel => exact ⟨k + 1, by omega, by go_num, by show ¬ _; rw [HT.out, List.mem_append, List.mem_singleton]; rintro (h | h); exact hx.out h; exact HXY.out h.symm⟩
        case measure => simp [intOf]; omega
    · obtain rfl : k = n := by omega
      have HX : Hid (¬ x ∈ xs) := by show ¬ _; have := hx.out; rw [HN.out, List.take_length] at this; exact this
      go_wp2
      go_ret
      exact ⟨ret_bool' (by rw [decide_eq_false HX.out]), Below.refl _ _⟩
set_option maxHeartbeats 8000000 in
set_option maxRecDepth 100000 in
theorem rtake_any (A : Option Addr) (n c : Nat) (L : List Gk) (B : Option Addr) (m d : Nat) (keys : List ByteArray) (w : World) (hn : n = L.length) (hm : m = keys.length) (h1 : n ≤ 1000) (h2 : m ≤ 1000) (hmd : m ≤ d) (hd : d ≤ maxLen) (hnB : B = none → m = 0 ∧ d = 0) (ha : At w A (gcs L)) (hb : At w B (sv keys)) :
    Calls Try.prog 15 #[.slice A n c, .slice B m d] w fun e w' => ∃ v, e = .returned v ∧ w'.ownsRow w.heap.size 3 1 v m (iv (tks L keys)) ∧ Below w.heap.size w w' := by
  unfold maxLen at hd
  have HN := Lib.hid hn
  have HM := Lib.hid hm
  have HA := Lib.hid ha
  have HB := Lib.hid hb
  have HNB := Lib.hid hnB
  obtain ⟨i0, hi, hz0, hz1, hz2⟩ := info_parts infoInt
  clear hn hm ha hb hnB
  go_enter Try.func15, Try.ntmps15
  go_wp2_with fail
  go_loopw [5, 18] (fun v i wr => ∃ k : Nat, k ≤ m ∧ i = .int .i64 k ∧ Hid (wr.ownsRow w.heap.size 3 1 v k (iv (tkTo L keys k))) ∧ Hid (Below w.heap.size w wr)) (fun _ i _ => m - (intOf i).toNat)
  case atStart => exact ⟨0, Nat.zero_le _, rfl, own_made w _ rfl (Nat.le_refl _), below_alloc _ _⟩
  case round =>
    obtain ⟨k, hk, rfl, hown, hbel⟩ := hrel
    by_cases hlt : k < m
    · have hkl : k < keys.length := by have := HM.out; omega
      obtain ⟨b2, o2, hBe, hb2, hc2⟩ := HB.out.one (sv_at keys k hkl)
      have hd2 := ((below_cells hbel.out).1 b2 (o2 + k) hb2).trans hc2
      have hdt := dropO_take L keys k
      have hnxt := tkTo_next L keys k
      obtain ⟨s, hs⟩ : ∃ s, s = keys[k] := ⟨_, rfl⟩
      rw [key_eq keys k hkl, ← hs] at hdt
      rw [← hs] at hd2
      have HDT := Lib.hid hdt
      have HNX := Lib.hid hnxt
      have HS := Lib.hid hs
      obtain ⟨AE, cE, rfl, hcE, hcE2⟩ := own_slice hown.out
      have hwr := hbel.out.size
      obtain ⟨W1, hW1⟩ : ∃ W, W = wr.alloc (.cells #[.bool false, .bool true] 4) := ⟨_, rfl⟩
      obtain ⟨gb, hgb⟩ : ∃ g, g = wr.heap.size := ⟨_, rfl⟩
      have HKb := Lib.hid (show Blk W1 gb 4 #[.bool false, .bool true] by rw [hW1, hgb]; exact Blk.new wr _ _)
      have HB1 := Lib.hid (show Below wr.heap.size wr W1 by rw [hW1]; exact below_alloc wr _)
      have HA1 := Lib.hid ((HA.out.below hbel.out).below HB1.out)
      have HST0 := Lib.hid (show oI (pa L s false L.length) = oI (pa L s false L.length) from rfl)
      have HBe := Lib.hid hBe
      have HW1 := Lib.hid hW1
      have HGB := Lib.hid hgb
      subst hBe
      clear hdt hnxt hs hc2 hW1 hgb HST0 HBe
      go_upto_region 7 with fail
      rw [← HW1.out, ← HGB.out]
      have z0 := HKb.out.cell 0 (v := .bool false) rfl
      have z1 := HKb.out.cell 1 (v := .bool true) rfl
      clear z0 z1
      go_loopw [8, 25] (fun p i wy => ∃ q : Nat, q ≤ 2 ∧ i = .int .i64 q ∧ p = .int .i64 (if q = 0 then -1 else if q = 1 then oI (pa L s false L.length) else oI (first L L.length s)) ∧ Hid (Below W1.heap.size W1 wy)) (fun _ i _ => 2 - (intOf i).toNat)
      case atStart => exact ⟨0, by omega, rfl, rfl, Below.refl _ _⟩
      case round =>
        obtain ⟨q, hq, rfl, rfl, HBy⟩ := hrel
        have K := HKb.out.below HBy.out
        have z0 := K.cell 0 (v := .bool false) rfl
        have z1 := K.cell 1 (v := .bool true) rfl
        clear K
        obtain rfl | rfl | rfl : q = 0 ∨ q = 1 ∨ q = 2 := by omega
        · have HST0 : Hid (oI (pa L s false n) = oI (pa L s false L.length)) := by show _ = _; rw [HN.out]
          clear z1
          go_wp2_with fail
          go_loopw [8, 31] (fun p i wz => ∃ j : Nat, j ≤ n ∧ i = .int .i64 j ∧ p = .int .i64 (oI (pa L s false j)) ∧ Hid (Below W1.heap.size W1 wz)) (fun _ i _ => n - (intOf i).toNat)
          case atStart => exact ⟨0, Nat.zero_le _, rfl, rfl, HBy⟩
          case round =>
            obtain ⟨j, hj, rfl, rfl, hbz⟩ := hrel
            by_cases hjn : j < n
            · have hjl : j < L.length := by have := HN.out; omega
              obtain ⟨b1, o1, hAe, hb1, hc0, hc1⟩ := at_gk HA1.out hjl
              have hd0 := ((below_cells hbz.out).1 b1 (o1 + j * 2) hb1).trans hc0
              have hd1 := ((below_cells hbz.out).1 b1 (o1 + j * 2 + 1) hb1).trans hc1
              have hcase : (∃ i, pa L s false j = some i ∧ pa L s false (j + 1) = some i) ∨ (pa L s false j = none ∧ (gk L j).1 = s ∧ (gk L j).2 = false ∧ pa L s false (j + 1) = some j) ∨ (pa L s false j = none ∧ (gk L j).1 = s ∧ (gk L j).2 = true ∧ pa L s false (j + 1) = none) ∨ (pa L s false j = none ∧ ¬ (gk L j).1 = s ∧ pa L s false (j + 1) = none) := by
                cases hp : pa L s false j with
                | some i => exact .inl ⟨i, rfl, pa_some hp⟩
                | none =>
                  by_cases h1 : (gk L j).1 = s
                  · by_cases h2 : (gk L j).2 = false
                    · exact .inr (.inl ⟨rfl, h1, h2, pa_hit hp h1 h2⟩)
                    · exact .inr (.inr (.inl ⟨rfl, h1, by simpa using h2, pa_miss hp (fun h => h2 h.2)⟩))
                  · exact .inr (.inr (.inr ⟨rfl, h1, pa_miss hp (fun h => h1 h.1)⟩))
              have HP := Lib.hid (show pa L s false (j + 1) = pa L s false (j + 1) from rfl)
              obtain ⟨x1, hx1⟩ : ∃ x, x = (gk L j).1 := ⟨_, rfl⟩
              obtain ⟨g1, hg1⟩ : ∃ x, x = (gk L j).2 := ⟨_, rfl⟩
              rw [← hx1] at hd0 hcase
              rw [← hg1] at hd1 hcase
              clear hx1 hg1 hc0 hc1 HP
              subst hAe
              have hszz := hbz.out.size
              obtain ⟨W3, hW3⟩ : ∃ W, W = wr.alloc (.cells #[.string x1, .bool g1] 35) := ⟨_, rfl⟩
              have K3 : Blk W3 wr.heap.size 35 #[.string x1, .bool g1] := by rw [hW3]; exact Blk.new wr _ _
              have HB3 := Lib.hid (show Below W1.heap.size W1 W3 by rw [hW3]; exact hbz.out.alloc hszz _)
              have q0 := K3.cell 0 (v := .string x1) rfl
              have q1 := K3.cell 1 (v := .bool g1) rfl
              have HW3 := Lib.hid hW3
              clear hW3 K3
              rcases hcase with ⟨i, hp, hp2⟩ | ⟨hp, rfl, rfl, hp2⟩ | ⟨hp, rfl, rfl, hp2⟩ | ⟨hp, hne, hp2⟩
              · have HP2 := Lib.hid hp2
                have hneg : ¬ ((i : Int) < 0) := by omega
                rw [hp]
                clear hp hp2
                rw [show oI (some i) = (i : Int) from rfl]
                go_upto_region 12 with fail
                rw [← HW3.out]
                go_wp2
                go_roundw
                case rel => exact ⟨j + 1, by omega, by go_num, by rw [HP2.out]; rfl, HB3⟩
                case measure => simp [intOf]; omega
              · have HP2 := Lib.hid hp2
                have hneg : ((-1 : Int) < 0) := by decide
                rw [hp]
                clear hp hp2
                rw [show oI none = -1 from rfl]
                go_upto_region 12 with fail
                rw [← HW3.out]
                go_wp2
                go_roundw
                case rel => exact ⟨j + 1, by omega, by go_num, by rw [HP2.out]; rfl, HB3⟩
                case measure => simp [intOf]; omega
              · have HP2 := Lib.hid hp2
                have hneg : ((-1 : Int) < 0) := by decide
                rw [hp]
                clear hp hp2
                rw [show oI none = -1 from rfl]
                go_upto_region 12 with fail
                rw [← HW3.out]
                go_wp2
                go_roundw
                case rel => exact ⟨j + 1, by omega, by go_num, by rw [HP2.out]; rfl, HB3⟩
                case measure => simp [intOf]; omega
              · have HNE := Lib.hid hne
                have hstr : (x1.toList == s.toList) = false := M.str_no hne
                have HP2 := Lib.hid hp2
                have hneg : ((-1 : Int) < 0) := by decide
                rw [hp]
                clear hp hp2
                rw [show oI none = -1 from rfl]
                go_upto_region 12 with fail
                rw [← HW3.out]
                go_wp2
                go_roundw
                case rel => exact ⟨j + 1, by omega, by go_num, by rw [HP2.out]; rfl, HB3⟩
                case measure => simp [intOf]; omega
            · obtain rfl : j = n := by omega
              have HBz := hbz
              go_wp2_with fail
              go_roundw
              case rel => exact ⟨1, by omega, by go_num, by rw [HST0.out]; rfl, HBz⟩
              case measure => simp [intOf]
        · have HST1 : Hid (oI (pa L s true n) = oI (first L L.length s)) := by show _ = _; rw [HN.out, pa_end]
          have HMID : Hid (oI (pa L s false L.length) = oI (pa L s true 0)) := by show _ = _; rw [pa_mid]
          rw [if_neg (by omega), if_pos rfl, HMID.out]
          clear z0
          go_wp2_with fail
          go_loopw [8, 31] (fun p i wz => ∃ j : Nat, j ≤ n ∧ i = .int .i64 j ∧ p = .int .i64 (oI (pa L s true j)) ∧ Hid (Below W1.heap.size W1 wz)) (fun _ i _ => n - (intOf i).toNat)
          case atStart => exact ⟨0, Nat.zero_le _, rfl, rfl, HBy⟩
          case round =>
            obtain ⟨j, hj, rfl, rfl, hbz⟩ := hrel
            by_cases hjn : j < n
            · have hjl : j < L.length := by have := HN.out; omega
              obtain ⟨b1, o1, hAe, hb1, hc0, hc1⟩ := at_gk HA1.out hjl
              have hd0 := ((below_cells hbz.out).1 b1 (o1 + j * 2) hb1).trans hc0
              have hd1 := ((below_cells hbz.out).1 b1 (o1 + j * 2 + 1) hb1).trans hc1
              have hcase : (∃ i, pa L s true j = some i ∧ pa L s true (j + 1) = some i) ∨ (pa L s true j = none ∧ (gk L j).1 = s ∧ (gk L j).2 = true ∧ pa L s true (j + 1) = some j) ∨ (pa L s true j = none ∧ (gk L j).1 = s ∧ (gk L j).2 = false ∧ pa L s true (j + 1) = none) ∨ (pa L s true j = none ∧ ¬ (gk L j).1 = s ∧ pa L s true (j + 1) = none) := by
                cases hp : pa L s true j with
                | some i => exact .inl ⟨i, rfl, pa_some hp⟩
                | none =>
                  by_cases h1 : (gk L j).1 = s
                  · by_cases h2 : (gk L j).2 = true
                    · exact .inr (.inl ⟨rfl, h1, h2, pa_hit hp h1 h2⟩)
                    · exact .inr (.inr (.inl ⟨rfl, h1, by simpa using h2, pa_miss hp (fun h => h2 h.2)⟩))
                  · exact .inr (.inr (.inr ⟨rfl, h1, pa_miss hp (fun h => h1 h.1)⟩))
              have HP := Lib.hid (show pa L s true (j + 1) = pa L s true (j + 1) from rfl)
              obtain ⟨x1, hx1⟩ : ∃ x, x = (gk L j).1 := ⟨_, rfl⟩
              obtain ⟨g1, hg1⟩ : ∃ x, x = (gk L j).2 := ⟨_, rfl⟩
              rw [← hx1] at hd0 hcase
              rw [← hg1] at hd1 hcase
              clear hx1 hg1 hc0 hc1 HP
              subst hAe
              have hszz := hbz.out.size
              obtain ⟨W3, hW3⟩ : ∃ W, W = wr.alloc (.cells #[.string x1, .bool g1] 35) := ⟨_, rfl⟩
              have K3 : Blk W3 wr.heap.size 35 #[.string x1, .bool g1] := by rw [hW3]; exact Blk.new wr _ _
              have HB3 := Lib.hid (show Below W1.heap.size W1 W3 by rw [hW3]; exact hbz.out.alloc hszz _)
              have q0 := K3.cell 0 (v := .string x1) rfl
              have q1 := K3.cell 1 (v := .bool g1) rfl
              have HW3 := Lib.hid hW3
              clear hW3 K3
              rcases hcase with ⟨i, hp, hp2⟩ | ⟨hp, rfl, rfl, hp2⟩ | ⟨hp, rfl, rfl, hp2⟩ | ⟨hp, hne, hp2⟩
              · have HP2 := Lib.hid hp2
                have hneg : ¬ ((i : Int) < 0) := by omega
                rw [hp]
                clear hp hp2
                rw [show oI (some i) = (i : Int) from rfl]
                go_upto_region 12 with fail
                rw [← HW3.out]
                go_wp2
                go_roundw
                case rel => exact ⟨j + 1, by omega, by go_num, by rw [HP2.out]; rfl, HB3⟩
                case measure => simp [intOf]; omega
              · have HP2 := Lib.hid hp2
                have hneg : ((-1 : Int) < 0) := by decide
                rw [hp]
                clear hp hp2
                rw [show oI none = -1 from rfl]
                go_upto_region 12 with fail
                rw [← HW3.out]
                go_wp2
                go_roundw
                case rel => exact ⟨j + 1, by omega, by go_num, by rw [HP2.out]; rfl, HB3⟩
                case measure => simp [intOf]; omega
              · have HP2 := Lib.hid hp2
                have hneg : ((-1 : Int) < 0) := by decide
                rw [hp]
                clear hp hp2
                rw [show oI none = -1 from rfl]
                go_upto_region 12 with fail
                rw [← HW3.out]
                go_wp2
                go_roundw
                case rel => exact ⟨j + 1, by omega, by go_num, by rw [HP2.out]; rfl, HB3⟩
                case measure => simp [intOf]; omega
              · have HNE := Lib.hid hne
                have hstr : (x1.toList == s.toList) = false := M.str_no hne
                have HP2 := Lib.hid hp2
                have hneg : ((-1 : Int) < 0) := by decide
                rw [hp]
                clear hp hp2
                rw [show oI none = -1 from rfl]
                go_upto_region 12 with fail
                rw [← HW3.out]
                go_wp2
                go_roundw
                case rel => exact ⟨j + 1, by omega, by go_num, by rw [HP2.out]; rfl, HB3⟩
                case measure => simp [intOf]; omega
            · obtain rfl : j = n := by omega
              have HBz := hbz
              go_wp2_with fail
              go_roundw
              case rel => exact ⟨2, by omega, by go_num, by rw [HST1.out]; rfl, HBz⟩
              case measure => simp [intOf]
        · clear z0 z1
          rw [if_neg (by omega), if_neg (by omega)]
          have HBY := Lib.hid (HB1.out.trans (HBy.out.mono HB1.out.size))
          have HBX := Lib.hid (hbel.out.trans (HBY.out.mono hwr))
          have HOX := Lib.hid (own_below hown.out HBY.out)
          have hsx := HBX.out.size
          have HOB := Lib.hid (HB.out.below HBX.out)
          generalize first L L.length s = fo at *
          clear hown hbel
          go_wp2_with fail
          have HDZ := dropO_zero keys s fo
          have HZ := Lib.hid HDZ
          clear HDZ
          go_loop [8, 57] (fun p i => ∃ t : Nat, t ≤ k ∧ i = .int .i64 t ∧ p = .int .i64 (dropO keys t s fo)) (fun _ i => k - (intOf i).toNat)
          case atStart => exact ⟨0, Nat.zero_le _, rfl, by rw [HZ.out]⟩
          case round =>
            obtain ⟨t, ht, rfl, rfl⟩ := hrel
            by_cases htk : t < k
            · have htl : t < keys.length := by have := HM.out; omega
              obtain ⟨b3, o3, hBe3, _, hc3⟩ := HOB.out.one (sv_at keys t htl)
              injection hBe3 with e3
              injection e3 with e4 e5
              subst e4 e5
              have hyes := dropO_yes (keys := keys) (s := s) fo htl
              have hno := dropO_no (keys := keys) (s := s) fo htl
              generalize keys[t] = y at *
              by_cases hys : y = s
              · subst hys
                have HY := Lib.hid (hyes rfl)
                clear hyes hno
                go_wp2
                go_round
                case rel => exact ⟨t + 1, by omega, by go_num, by rw [HY.out]⟩
                case measure => simp [intOf]; omega
              · have HY := Lib.hid (hno hys)
                have hstr : (y.toList == s.toList) = false := M.str_no hys
                have HYS := Lib.hid hys
                clear hyes hno hys
                go_wp2
                go_round
                case rel => exact ⟨t + 1, by omega, by go_num, by rw [HY.out]⟩
                case measure => simp [intOf]; omega
            · obtain rfl : t = k := by omega
              rw [HDT.out]
              have HOX2 := HOX
              obtain ⟨z, hz⟩ : ∃ z, z = takeI L keys t := ⟨_, rfl⟩
              rw [← hz]
              have HZZ := Lib.hid hz
              clear hz
              go_wp2_with (at_builtin; refine wpList_append_own _ rfl _ _ 29 rfl w.heap.size 3 i0 (.int .i64 0) 1 8 Try.underlying29 hi hz0 hz1 hz2 rfl (by decide) _ _ _ rfl (HOX.out.alloc _) ⟨_, 0, none⟩ 1 1 [.int .i64 z] rfl rfl (cell_one_new _ _ _) (iv_one [z]) (by unfold maxLen; omega) (by omega) (by simp; omega) ?_; intro v1 w1 hown1 hgrow1 _hnil1; have HO1 := Lib.hid hown1; have HG1 := Lib.hid hgrow1; clear hown1 hgrow1 _hnil1)
              go_roundw
              case rel => exact ⟨t + 1, by omega, by go_num, by show World.ownsRow _ _ _ _ _ _ _; rw [HNX.out, iv_app, ← HZZ.out]; exact HO1.out, (HBX.out.alloc hsx _).grown HG1.out (by simp; omega) (own_from HOX.out)⟩
              case measure => simp [intOf]; omega
    · obtain rfl : k = m := by omega
      go_wp2
      go_ret
      exact ⟨_, rfl, by rw [HM.out]; have h9 := hown.out; rw [HM.out] at h9; exact h9, hbel.out⟩
end Go.Proofs.Ytfapghekakdpgaa
