/- Contracts of the statement's near, once, stand. -/
import Derived.Test.YtfapghekakdpgaaSgMath
import Derived.Test.YtfapghekakdpgaaGrN
import Derived.Deep.DeepCutAuto
import Derived.Handy
namespace Go.Proofs.Ytfapghekakdpgaa
open Go.RowKit We Gr Sg Go.Maps
set_option linter.unusedVariables false
set_option linter.unusedSimpArgs false
attribute [-go_sem] Builtin.append_
theorem mcs_len (K : List Mb) : (mcs K).length = K.length * 3 := Op.flat_len mc 3 (fun _ => rfl) K
theorem mcs_one (K : List Mb) : ∀ u ∈ mcs K, u.oneCell' = true := by
  intro u hu
  simp only [mcs, mc, List.mem_flatMap, List.mem_cons, List.not_mem_nil, or_false] at hu
  obtain ⟨k, _, rfl | rfl | rfl⟩ := hu <;> rfl
theorem at_mb {w : World} {A : Option Addr} {K : List Mb} (h : At w A (mcs K)) {k : Nat} (hk : k < K.length) :
    ∃ b off, A = some ⟨b, off, none⟩ ∧ b < w.heap.size ∧ w.cell? ⟨b, off + k * 3, none⟩ = some (.int .i64 (mb K k).1) ∧ w.cell? ⟨b, off + k * 3 + 1, none⟩ = some (.string (mb K k).2.1) ∧ w.cell? ⟨b, off + k * 3 + 2, none⟩ = some (.bool (mb K k).2.2) := by
  have h0 : (mcs K)[k * 3]? = some (.int .i64 (mb K k).1) := by rw [mb_eq K k hk]; exact Op.flat_at mc 3 (fun _ => rfl) K k hk 0 (by omega)
  have h1 : (mcs K)[k * 3 + 1]? = some (.string (mb K k).2.1) := by rw [mb_eq K k hk]; exact Op.flat_at mc 3 (fun _ => rfl) K k hk 1 (by omega)
  have h2 : (mcs K)[k * 3 + 2]? = some (.bool (mb K k).2.2) := by rw [mb_eq K k hk]; exact Op.flat_at mc 3 (fun _ => rfl) K k hk 2 (by omega)
  obtain ⟨b, off, e, hb, hc⟩ := h (fun e => by rw [e] at h0; cases h0)
  exact ⟨b, off, e, hb, hc _ _ h0, hc _ _ h1, hc _ _ h2⟩
set_option maxHeartbeats 8000000 in
set_option maxRecDepth 100000 in
theorem near_any (A : Option Addr) (n c : Nat) (K : List Mb) (B : Option Addr) (m d : Nat) (al : List Int) (g v : Int) (w : World) (hn : n = K.length) (hm : m = al.length) (h1 : n ≤ 1000) (h2 : m ≤ 1000) (ha : At w A (mcs K)) (hb : At w B (iv al)) (hv : nearF al g (ids K) (-1) = v) :
    Calls Try.prog 61 #[.slice A n c, .slice B m d, .int .i64 g] w fun e w' => e = .returned (.int .i64 v) ∧ Below w.heap.size w w' := by
  have HN := Lib.hid hn
  have HM := Lib.hid hm
  have HA := Lib.hid ha
  have HB := Lib.hid hb
  have HV := Lib.hid hv
  clear hn hm ha hb hv
  go_enter Try.func61, Try.ntmps61
  go_wp2
  go_loopw [7, 12] (fun u i wr => ∃ (k : Nat) (acc : Int), k ≤ n ∧ i = .int .i64 k ∧ u = .int .i64 acc ∧ Hid (nearF al g ((ids K).drop k) acc = v) ∧ Hid (Below w.heap.size w wr)) (fun _ i _ => n - (intOf i).toNat)
  case atStart => exact ⟨0, -1, Nat.zero_le _, rfl, rfl, HV, Below.refl _ _⟩
  case round =>
    obtain ⟨k, acc, hk, rfl, rfl, hq, hbel⟩ := hrel
    by_cases hlt : k < n
    · have hk' : k < K.length := by have := HN.out; omega
      obtain ⟨b1, o1, rfl, hb1, hc0, hc1, hc2⟩ := at_mb HA.out hk'
      have hd0 := (hbel.out.cell (p := ⟨b1, o1 + k * 3, none⟩) hb1).trans hc0
      have hd1 := (hbel.out.cell (p := ⟨b1, o1 + k * 3 + 1, none⟩) hb1).trans hc1
      have hd2 := (hbel.out.cell (p := ⟨b1, o1 + k * 3 + 2, none⟩) hb1).trans hc2
      have hq2 : Hid ((if (mb K k).1 = g then acc else nearF al g ((ids K).drop (k + 1)) (if (mb K k).1 ∈ al then (mb K k).1 else acc)) = v) := by
        have h9 := hq.out
        rw [We.drop_next (show k < (ids K).length by rw [ids_len]; exact hk'), ids_at K hk'] at h9
        exact h9
      generalize (mb K k).1 = x at *
      generalize (mb K k).2.1 = s at *
      generalize (mb K k).2.2 = z at *
      obtain ⟨gk, hgk⟩ : ∃ q, q = wr.heap.size := ⟨_, rfl⟩
      obtain ⟨W3, hW3⟩ : ∃ W, W = wr.alloc (.cells #[.int .i64 x, .string s, .bool z] 70) := ⟨_, rfl⟩
      have hb3 : Below wr.heap.size wr W3 := by rw [hW3]; exact below_alloc wr _
      have K3 := Lib.hid (show Blk W3 gk 70 #[.int .i64 x, .string s, .bool z] by rw [hW3, hgk]; exact Blk.new wr _ _)
      have B3 := Lib.hid (hbel.out.trans (hb3.mono hbel.out.size))
      have HW3 := Lib.hid hW3
      have HGK := Lib.hid hgk
      have f0 := K3.out.cell 0 (v := .int .i64 x) rfl
      clear hc0 hc1 hc2 hW3 hgk hb3 hbel hq
      go_upto_region 5 with fail
      rw [← HW3.out, ← HGK.out]
      clear hd0 hd1 hd2
      by_cases hx : x = g
      · have hxg : (x == g) = true := by simpa using hx
        have HE : Hid (acc = v) := by have := hq2.out; rw [if_pos hx] at this; exact this
        clear hx
        go_wp2_with fail
        go_ret
        exact ⟨by rw [HE.out]; rfl, B3.out⟩
      · have hxg : (x == g) = false := by simpa using hx
        have HE : Hid (nearF al g ((ids K).drop (k + 1)) (if x ∈ al then x else acc) = v) := by have := hq2.out; rw [if_neg hx] at this; exact this
        have CA := Lib.hid (rat_any B m d al x (rAt al x) W3 HM.out (by omega) (HB.out.below B3.out) rfl)
        clear hx hq2
        by_cases hxa : x ∈ al
        · rw [rAt_yes hxa] at CA
          have HE2 : Hid (nearF al g ((ids K).drop (k + 1)) x = v) := by have := HE.out; rw [if_pos hxa] at this; exact this
          have hi0 : (0 : Int) ≤ (ix al x : Int) := by omega
          generalize (ix al x : Int) = q at *
          clear hxa HE
          go_wp2_with fail
          refine CA.out.mono ?_
          rintro e w5 ⟨rfl, rfl⟩
          have f0 := K3.out.cell 0 (v := .int .i64 x) rfl
          go_wp2_with fail
          go_roundw
          case rel => exact ⟨k + 1, x, by omega, by go_num, rfl, HE2, B3⟩
          case measure => simp [intOf]; omega
        · rw [rAt_no hxa] at CA
          have HE2 : Hid (nearF al g ((ids K).drop (k + 1)) acc = v) := by have := HE.out; rw [if_neg hxa] at this; exact this
          clear hxa HE
          go_wp2_with fail
          refine CA.out.mono ?_
          rintro e w5 ⟨rfl, rfl⟩
          go_wp2_with fail
          go_roundw
          case rel => exact ⟨k + 1, acc, by omega, by go_num, rfl, HE2, B3⟩
          case measure => simp [intOf]; omega
    · obtain rfl : k = n := by omega
      have HE : Hid (acc = v) := by
        have h9 := hq.out
        rw [List.drop_eq_nil_of_le (by rw [ids_len]; exact Nat.le_of_eq HN.out.symm)] at h9
        exact h9
      have HF := hbel
      clear hq hbel
      go_wp2_with fail
      go_ret
      exact ⟨by rw [HE.out]; rfl, HF.out⟩
set_option maxHeartbeats 8000000 in
set_option maxRecDepth 100000 in
theorem sonce_any (A : Option Addr) (n c : Nat) (K : List Mb) (w : World) (hn : n = K.length) (h1 : n ≤ 1000) (hnc : n ≤ c) (hc : c ≤ maxLen) (ha : At w A (mcs K)) (hk : ∀ i j, i < n → j < n → (mb K i).2.1 = (mb K j).2.1 → i = j) :
    Calls Try.prog 37 #[.slice A n c] w fun e w' => e = .returned (.bool true) ∧ Below w.heap.size w w' := by
  unfold maxLen at hc
  have HN := Lib.hid hn
  have HA := Lib.hid ha
  have HK := Lib.hid hk
  clear hn ha hk
  go_enter Try.func37, Try.ntmps37
  go_wp2
  go_loopw [9] (fun i wr => ∃ (k : Nat), k ≤ n ∧ i = .int .i64 k ∧ Hid (Below w.heap.size w wr)) (fun i _ => n - (intOf i).toNat)
  case atStart => exact ⟨0, Nat.zero_le _, rfl, Below.refl _ _⟩
  case round =>
    obtain ⟨k, hk, rfl, hbel⟩ := hrel
    by_cases hlt : k < n
    · have hk' : k < K.length := by have := HN.out; omega
      have hkd : decide ((k : Int) < (n : Int)) = true := decide_eq_true (by omega)
      obtain ⟨b1, o1, rfl, hb1, hc0, hc1, hc2⟩ := at_mb HA.out hk'
      have hd0 := (hbel.out.cell (p := ⟨b1, o1 + k * 3, none⟩) hb1).trans hc0
      have hd1 := (hbel.out.cell (p := ⟨b1, o1 + k * 3 + 1, none⟩) hb1).trans hc1
      have hd2 := (hbel.out.cell (p := ⟨b1, o1 + k * 3 + 2, none⟩) hb1).trans hc2
      have HKK : Hid (∀ j, j < k → (mb K j).2.1 ≠ (mb K k).2.1) := fun j hj e => absurd (HK.out j k (by omega) hlt e) (by omega)
      generalize (mb K k).1 = x at *
      generalize (mb K k).2.1 = s at *
      generalize (mb K k).2.2 = z at *
      obtain ⟨gk, hgk⟩ : ∃ q, q = wr.heap.size := ⟨_, rfl⟩
      obtain ⟨W3, hW3⟩ : ∃ W, W = wr.alloc (.cells #[.int .i64 x, .string s, .bool z] 70) := ⟨_, rfl⟩
      have hb3 : Below wr.heap.size wr W3 := by rw [hW3]; exact below_alloc wr _
      have K3 := Lib.hid (show Blk W3 gk 70 #[.int .i64 x, .string s, .bool z] by rw [hW3, hgk]; exact Blk.new wr _ _)
      have B3 := Lib.hid (hbel.out.trans (hb3.mono hbel.out.size))
      have HW3 := Lib.hid hW3
      have HGK := Lib.hid hgk
      clear hc0 hc1 hc2 hW3 hgk hb3 hbel
      go_upto_region 4 with fail
      rw [← HW3.out, ← HGK.out]
      clear hd0 hd1 hd2
      go_wp2_with fail
      go_loopw [18] (fun i wr => ∃ (j : Nat), j ≤ k ∧ i = .int .i64 j ∧ Hid (Blk wr gk 70 #[.int .i64 x, .string s, .bool z]) ∧ Hid (Below w.heap.size w wr)) (fun i _ => k - (intOf i).toNat)
      case atStart => exact ⟨0, Nat.zero_le _, rfl, K3, B3⟩
      case round =>
        clear K3 B3 HW3 HGK
        obtain ⟨j, hj, rfl, K3, hbel⟩ := hrel
        by_cases hjl : j < k
        · obtain ⟨b2, o2, e5, hb2, hc0, hc1, hc2⟩ := at_mb HA.out (k := j) (by have := HN.out; omega)
          injection e5 with e5
          injection e5 with e6 e7
          subst e6 e7
          have hd0 := (hbel.out.cell (p := ⟨b1, o1 + j * 3, none⟩) hb1).trans hc0
          have hd1 := (hbel.out.cell (p := ⟨b1, o1 + j * 3 + 1, none⟩) hb1).trans hc1
          have hd2 := (hbel.out.cell (p := ⟨b1, o1 + j * 3 + 2, none⟩) hb1).trans hc2
          have hne : ((mb K j).2.1.toList == s.toList) = false := M.str_no (HKK.out j hjl)
          generalize (mb K j).1 = x' at *
          generalize (mb K j).2.1 = s' at *
          generalize (mb K j).2.2 = z' at *
          have hb4 := below_alloc wr (.cells #[.int .i64 x', .string s', .bool z'] 70)
          have K4 := Lib.hid (K3.out.below hb4)
          have B4 := Lib.hid (hbel.out.trans (hb4.mono hbel.out.size))
          have f1 := K3.out.cell 1 (v := .string s) rfl
          have hlt3 := K3.out.lt
          have hjd : decide ((j : Int) < (k : Int)) = true := decide_eq_true (by omega)
          clear hc0 hc1 hc2 hb4
          go_wp2_with fail
          go_roundw
          case rel => exact ⟨j + 1, by omega, by go_num, K4, B4⟩
          case measure => simp [intOf]; omega
        · obtain rfl : j = k := by omega
          have BF := hbel
          go_wp2_with fail
          go_roundw
          case rel => exact ⟨j + 1, by omega, by go_num, BF⟩
          case measure => simp [intOf]; omega
    · obtain rfl : k = n := by omega
      have HF := hbel
      go_wp2_with fail
      go_ret
      exact ⟨rfl, HF.out⟩
end Go.Proofs.Ytfapghekakdpgaa
