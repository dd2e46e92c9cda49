/- The walk of WeaveLeast. -/
import Derived.Test.YtaojjcnghkjgfaaWeT2
import Derived.Test.YtaojjcnghkjgfaaWeL5
namespace Go.Proofs.Ytaojjcnghkjgfaa
open Go.RowKit We
namespace We
def m2 (F : List Int) (L : List Stp) : Nat := (L.filter (fun t => decide (t.1 = 2) && decide (t.2.1 ∈ F))).length
theorem cost_sum (F : List Int) (L : List Stp) : cost F L = mvs L + m2 F L := by
  unfold cost mvs m2
  induction L with
  | nil => rfl
  | cons t L ih =>
    by_cases h3 : t.1 = 3
    · rw [List.filter_cons_of_pos (by simp [moved, h3]), List.filter_cons_of_pos (by simpa using h3), List.filter_cons_of_neg (by simp [h3])]
      simp only [List.length_cons]
      omega
    · by_cases h2 : t.1 = 2 ∧ t.2.1 ∈ F
      · rw [List.filter_cons_of_pos (by simp [moved, h2]), List.filter_cons_of_neg (by simpa using h3), List.filter_cons_of_pos (by simp [h2])]
        simp only [List.length_cons]
        omega
      · rw [List.filter_cons_of_neg (by simp [moved, h3]; exact fun h => fun h4 => h2 ⟨h, h4⟩), List.filter_cons_of_neg (by simpa using h3), List.filter_cons_of_neg (by simp; exact fun h => fun h4 => h2 ⟨h, h4⟩)]
        exact ih
theorem m2_next (F : List Int) (L : List Stp) {k : Nat} (hk : k < L.length) : m2 F (L.take (k + 1)) = m2 F (L.take k) + if L[k].1 = 2 ∧ L[k].2.1 ∈ F then 1 else 0 := by
  unfold m2
  rw [List.take_succ_eq_append_getElem hk, List.filter_append, List.length_append]
  by_cases h : L[k].1 = 2 ∧ L[k].2.1 ∈ F
  · rw [List.filter_cons_of_pos (by simp [h]), if_pos h]; rfl
  · rw [List.filter_cons_of_neg (by simp; exact fun h1 h2 => h ⟨h1, h2⟩), if_neg h]; rfl
theorem m2_le (F : List Int) (L : List Stp) : m2 F L ≤ L.length := List.length_filter_le _ _
end We
theorem sc_take (L : List Stp) (k : Nat) : (sc L).take (k * 3) = sc (L.take k) := by
  induction L generalizing k with
  | nil => simp [sc]
  | cons c L ih =>
    cases k with
    | zero => simp [sc]
    | succ k =>
      show (Value.int .i64 c.1 :: .int .i64 c.2.1 :: .int .i64 c.2.2 :: sc L).take ((k + 1) * 3) = .int .i64 c.1 :: .int .i64 c.2.1 :: .int .i64 c.2.2 :: sc (L.take k)
      rw [show (k + 1) * 3 = k * 3 + 1 + 1 + 1 by omega, List.take_succ_cons, List.take_succ_cons, List.take_succ_cons, ih k]
set_option maxHeartbeats 8000000 in
set_option maxRecDepth 100000 in
theorem weaveLeast_any (A B D : Option Addr) (n c m d p e0 : Nat) (fl tl : List Int) (tr : List Stp) (w : World) (hn : n = fl.length) (hm : m = tl.length) (hb1 : n ≤ maxLen) (hb2 : m ≤ maxLen) (hc1 : n ≤ c) (hc2 : m ≤ d) (hd1 : c ≤ maxLen) (hd2 : d ≤ maxLen)
    (ha : At w A (iv fl)) (hb : At w B (iv tl)) (hof : ∀ x ∈ fl, OkI x) (hot : ∀ x ∈ tl, OkI x) (hA : A = none → n = 0 ∧ c = 0) (hB : B = none → m = 0 ∧ d = 0)
    (hp : p = tr.length) (hp1 : p ≤ e0) (hS : At w D (sc tr)) (hD : D = none → p = 0 ∧ e0 = 0) :
    Calls Try.prog 8 #[.slice A n c, .slice B m d, .slice D p e0] w fun e w' => e = .returned (.bool true) ∧ Below w.heap.size w w' := by
  have F1 := fun W => few_any A n c 10 10 W rfl hb1 hc1 hd1 hA (by omega)
  have F2 := fun W => few_any B m d 10 10 W rfl hb2 hc2 hd2 hB (by omega)
  obtain ⟨ha', hn', hof'⟩ := few_ok (m := 10) ha hn hof
  obtain ⟨hb', hm', hot'⟩ := few_ok (m := 10) hb hm hot
  clear ha hn hof hb hm hot
  have hn2 : min n 10 ≤ 10 := by omega
  have hm2 : min m 10 ≤ 10 := by omega
  generalize fl.take 10 = F at *
  generalize tl.take 10 = T at *
  generalize min n 10 = N at *
  generalize min m 10 = M at *
  have C2 := Lib.hid (fun W (hW : Below w.heap.size w W) => ronce_any B M d T W hm' (by omega) (hb'.below hW))
  have C3 := Lib.hid (fun a b r W (hW : Below w.heap.size w W) => steps_any A B N c M d F T a b r W hn' hm' (by omega) (by omega) (ha'.below hW) (hb'.below hW) hof' hot')
  have C4 := Lib.hid (fun y v W (hW : Below w.heap.size w W) (hv : rAt F y = v) => rat_any A N c F y v W hn' (by omega) (ha'.below hW) hv)
  have C5 := Lib.hid (fun Dq Ns q S W (hW : Below w.heap.size w W) (hNs : Ns = S.length) (h20 : Ns ≤ 20) (hat : At W Dq (sc S)) => rapply_any A Dq N c Ns q F S W hn' hNs (by omega) (by omega) (ha'.below hW) hat)
  obtain ⟨a, hea⟩ : ∃ a, a = once F := ⟨_, rfl⟩
  obtain ⟨b, heb⟩ : ∃ b, b = once T := ⟨_, rfl⟩
  have la : a.length ≤ 10 := by have := once_len F; rw [hea]; omega
  have lb : b.length ≤ 10 := by have := once_len T; rw [heb]; omega
  have HNA := Lib.hid (show a.Nodup from hea ▸ once_nodup F)
  have HNB := Lib.hid (show b.Nodup from heb ▸ once_nodup T)
  have HAF := Lib.hid (show ∀ x ∈ a, x ∈ F from fun x hx => (once_mem F x).1 (hea ▸ hx))
  rw [← heb] at C2
  rw [← hea] at C5
  obtain ⟨r, hr⟩ := Li.row_ex (ats (olds a b)) (comm a b).length
  have C3 := Lib.hid (fun W (hW : Below w.heap.size w W) => C3.out a b r W hW hea heb hr)
  have hsa := stay_in (rises_of hr)
  have hsc := stay_comm (rises_of hr)
  have q1 := count_moves HNB.out (rises_of hr) hsa hsc
  have q2 := count_all HNA.out HNB.out (rises_of hr) hsa (fun x hx => (comm_mem.1 (hsc x hx)).1)
  have q3 := hr.1
  have q4 := comm_le a b
  generalize steps a b (stayIds a b r) = L at *
  have hLL : L.length ≤ 20 := by omega
  have hmb : mvs L ≤ b.length := by omega
  have HLE : Hid (∀ S : List Stp, appD a S = some b → mvs L ≤ mvs S + m2 F S) := by
    intro S hS
    have h9 := least HNA.out HNB.out HAF.out hS
    rw [cost_sum] at h9
    omega
  clear hn' hm' hb1 hb2 hc1 hc2 hd1 hd2 ha' hb' hof' hot' hA hB hea heb hr hsa hsc q1 q2 q3 q4 HAF HNA HNB
  obtain ⟨i0, hi, hz0, hz1, hz2⟩ := info_parts infoIntW
  have HSS := Lib.hid hS
  have HPP := Lib.hid hp
  clear hS hp
  go_enter Try.func8, Try.ntmps8
  go_wp2_with fail
  refine (awake12_any _).mono ?_
  rintro e w1 ⟨rfl, hb1⟩
  have HB1 := Lib.hid hb1
  clear hb1
  by_cases hp20 : p ≤ 20
  · obtain ⟨S, hS1, hS2, hS3⟩ : ∃ S, p = S.length ∧ p ≤ 20 ∧ At w1 D (sc S) := ⟨tr, HPP.out, hp20, HSS.out.below HB1.out⟩
    have HS1 := Lib.hid hS1
    have HS3 := Lib.hid hS3
    clear hS1 hS3 HSS HPP hD
    go_wp2_with (first | ((with_reducible refine (F1 _).mono ?_); rintro e w1' ⟨rfl, rfl⟩) | ((with_reducible refine (F2 _).mono ?_); rintro e w1' ⟨rfl, rfl⟩))
    refine (C3.out _ HB1.out).mono ?_
    rintro e w2 ⟨v2, rfl, ho2, hb2⟩
    obtain ⟨A2, c2, rfl, _, _⟩ := own_slice ho2
    have HB2 := Lib.hid (HB1.out.trans (hb2.mono HB1.out.size))
    have CM := Lib.hid (moves_any A2 L.length c2 L w2 rfl (by omega) (At.own ho2))
    have HS3 := Lib.hid (HS3.out.below hb2)
    clear ho2 hb2 C3
    go_wp2_with fail
    refine CM.out.mono ?_
    rintro e w3 ⟨rfl, hb3⟩
    have HB3 := Lib.hid (HB2.out.trans (hb3.mono HB2.out.size))
    have HS3 := Lib.hid (HS3.out.below hb3)
    clear hb3 CM
    generalize mvs L = mv at *
    go_wp2_with fail
    go_loopw [9, 10, 33] (fun u v i wr => ∃ k : Nat, k ≤ p ∧ i = .int .i64 k ∧ u = .int .i64 (mvs (S.take k)) ∧ v = .int .i64 (m2 F (S.take k)) ∧ Hid (Below w3.heap.size w3 wr)) (fun _ _ i _ => p - (intOf i).toNat)
    case atStart => exact ⟨0, Nat.zero_le _, rfl, rfl, rfl, Below.refl _ _⟩
    case round =>
      obtain ⟨k, hk, rfl, rfl, rfl, hbel⟩ := hrel
      have hszr := hbel.out.size
      by_cases hlt : k < p
      · have hkl : k < S.length := by have := HS1.out; omega
        obtain ⟨b1, o1, rfl, hbb, hc1, hc2, hc3⟩ := at_three (HS3.out.below hbel.out) hkl
        have E1 := Lib.hid (mvs_next S hkl)
        have E2 := Lib.hid (m2_next F S hkl)
        have t1 := mvs_le (S.take k)
        have t2 := m2_le F (S.take k)
        rw [List.length_take] at t1 t2
        generalize S[k].1 = x at *
        generalize S[k].2.1 = y at *
        generalize S[k].2.2 = z at *
        generalize mvs (S.take k) = u at *
        generalize m2 F (S.take k) = v at *
        have t3 : u ≤ 20 := by omega
        have t4 : v ≤ 20 := by omega
        clear t1 t2
        have BX := Lib.hid (hbel.out.alloc hszr (.cells #[.int .i64 x, .int .i64 y, .int .i64 z] 44))
        have CA := Lib.hid (fun v => C4.out y v (wr.alloc (.cells #[.int .i64 x, .int .i64 y, .int .i64 z] 44)) (HB3.out.trans (BX.out.mono HB3.out.size)))
        by_cases hx3 : x = 3
        · subst hx3
          go_wp2_with fail
          go_roundw
          case rel => exact ⟨k + 1, by omega, by go_num, by rw [E1.out, if_pos rfl]; go_num, by rw [E2.out, if_neg (by omega), Nat.add_zero], BX⟩
          case measure => simp [intOf]; omega
        · by_cases hx2 : x = 2
          · subst hx2
            by_cases hy : y ∈ F
            · have hq0 : (0 : Int) ≤ (ix F y : Int) := by omega
              have AT := Lib.hid (rAt_yes hy)
              have E3 : Hid (m2 F (S.take (k + 1)) = v + 1) := by show _ = _; rw [E2.out, if_pos ⟨rfl, hy⟩]
              clear E2
              generalize (ix F y : Int) = ia at *
              clear hy
              go_wp2_with fail
              refine (CA.out _ AT.out).mono ?_
              rintro e w9 ⟨rfl, rfl⟩
              go_wp2_with fail
              go_roundw
              case rel => exact ⟨k + 1, by omega, by go_num, by rw [E1.out, if_neg hx3, Nat.add_zero], by rw [E3.out]; go_num, BX⟩
              case measure => simp [intOf]; omega
            · have AT := Lib.hid (rAt_no hy)
              have E3 : Hid (m2 F (S.take (k + 1)) = v) := by show _ = _; rw [E2.out, if_neg (fun h => hy h.2), Nat.add_zero]
              clear E2
              clear hy
              go_wp2_with fail
              refine (CA.out _ AT.out).mono ?_
              rintro e w9 ⟨rfl, rfl⟩
              go_wp2_with fail
              go_roundw
              case rel => exact ⟨k + 1, by omega, by go_num, by rw [E1.out, if_neg hx3, Nat.add_zero], by rw [E3.out], BX⟩
              case measure => simp [intOf]; omega
          · have E3 : Hid (m2 F (S.take (k + 1)) = v) := by show _ = _; rw [E2.out, if_neg (fun h => hx2 h.1), Nat.add_zero]
            clear E2
            go_wp2_with fail
            go_roundw
            case rel => exact ⟨k + 1, by omega, by go_num, by rw [E1.out, if_neg hx3, Nat.add_zero], by rw [E3.out], BX⟩
            case measure => simp [intOf]; omega
      · obtain rfl : p = k := by omega
        have HT : S.take p = S := List.take_of_length_le (by have := HS1.out; omega)
        rw [HT]
        have t1 := mvs_le S
        have t2 := m2_le F S
        have t5 := HS1.out
        have LE := Lib.hid (HLE.out S)
        have HB4 := Lib.hid (HB3.out.trans (hbel.out.mono HB3.out.size))
        have CP := Lib.hid (C5.out D p e0 S wr HB4.out HS1.out hS2 (HS3.out.below hbel.out))
        generalize mvs S = u at *
        generalize m2 F S = v at *
        have t3 : u ≤ 20 := by omega
        have t4 : v ≤ 20 := by omega
        clear HT t1 t2 t5 HS3 HLE C4 C5 hlt hbel
        go_wp2_with fail
        refine CP.out.mono ?_
        rintro e w5 ⟨v5, ok, rfl, hap, hb5⟩
        have HB5 := Lib.hid (HB4.out.trans (hb5.mono HB4.out.size))
        clear hb5
        cases hres : appD a S with
        | none =>
          rw [hres] at hap
          obtain ⟨rfl, rfl⟩ := hap
          clear hres LE CP
          go_wp2_with fail
          refine (C2.out _ HB5.out).mono ?_
          rintro e w6 ⟨v6, rfl, ho6, hb6⟩
          obtain ⟨A6, c6, rfl, _, _⟩ := own_slice ho6
          have HB6 := Lib.hid (HB5.out.trans (hb6.mono HB5.out.size))
          clear ho6 hb6
          go_wp2_with fail
          go_ret
          exact ⟨ret_bool' (by simp), HB6.out⟩
        | some o =>
          rw [hres] at hap
          obtain ⟨rfl, ho5⟩ := hap
          have hol := appD_len hres
          have hso := HS1.out
          have hle : o.length ≤ 100 := by omega
          obtain ⟨A5, c5, rfl, _, _⟩ := own_slice ho5
          have T5 := Lib.hid (At.own ho5)
          have HRS := Lib.hid hres
          clear hres CP ho5 hol hso
          go_wp2_with fail
          refine (C2.out _ HB5.out).mono ?_
          rintro e w6 ⟨v6, rfl, ho6, hb6⟩
          obtain ⟨A6, c6, rfl, _, _⟩ := own_slice ho6
          have HB6 := Lib.hid (HB5.out.trans (hb6.mono HB5.out.size))
          have CN := Lib.hid (numbersI_any A5 A6 o.length c5 b.length c6 o b w6 rfl rfl (by omega) (by omega) (T5.out.below hb6) (At.own ho6))
          clear ho6 hb6 T5
          go_wp2_with fail
          by_cases hob : o = b
          · have hfin := LE.out (by rw [← hob]; exact HRS.out)
            have CN := Lib.hid (show Calls _ _ _ _ (fun e w' => e = .returned (.bool true) ∧ ∃ q, w' = w6.drewN q) by have h9 := CN.out; rw [decide_eq_true hob] at h9; exact h9)
            clear hob HRS LE
            refine CN.out.mono ?_
            rintro e w7 ⟨rfl, q, rfl⟩
            have hfin2 : (mv : Int) ≤ (u : Int) + (v : Int) := by omega
            go_wp2_with fail
            go_ret
            exact ⟨ret_bool' (by simp), drewN_below HB6.out _⟩
          · have CN := Lib.hid (show Calls _ _ _ _ (fun e w' => e = .returned (.bool false) ∧ ∃ q, w' = w6.drewN q) by have h9 := CN.out; rw [decide_eq_false hob] at h9; exact h9)
            clear hob HRS LE
            refine CN.out.mono ?_
            rintro e w7 ⟨rfl, q, rfl⟩
            have HB7 := Lib.hid (drewN_below HB6.out q)
            go_wp2_with fail
            refine (C2.out _ HB7.out).mono ?_
            rintro e w8 ⟨v8, rfl, ho8, hb8⟩
            obtain ⟨A8, c8, rfl, _, _⟩ := own_slice ho8
            have HB8 := Lib.hid (HB7.out.trans (hb8.mono HB7.out.size))
            clear ho8 hb8
            go_wp2_with fail
            go_ret
            exact ⟨ret_bool' (by simp), HB8.out⟩
  · obtain ⟨S, hS1, hS2, hS3⟩ : ∃ S : List Stp, 20 = S.length ∧ 20 ≤ 20 ∧ At w1 D (sc S) := ⟨tr.take 20, by have := HPP.out; rw [List.length_take]; omega, by omega, by rw [← sc_take]; exact (HSS.out.below HB1.out).take _⟩
    obtain ⟨dd, rfl⟩ : ∃ dd, D = some dd := by cases D with
      | none => have := hD rfl; omega
      | some dd => exact ⟨dd, rfl⟩
    have HS1 := Lib.hid hS1
    have HS3 := Lib.hid hS3
    clear hS1 hS3 HSS HPP hD
    go_wp2_with (first | ((with_reducible refine (F1 _).mono ?_); rintro e w1' ⟨rfl, rfl⟩) | ((with_reducible refine (F2 _).mono ?_); rintro e w1' ⟨rfl, rfl⟩))
    refine (C3.out _ HB1.out).mono ?_
    rintro e w2 ⟨v2, rfl, ho2, hb2⟩
    obtain ⟨A2, c2, rfl, _, _⟩ := own_slice ho2
    have HB2 := Lib.hid (HB1.out.trans (hb2.mono HB1.out.size))
    have CM := Lib.hid (moves_any A2 L.length c2 L w2 rfl (by omega) (At.own ho2))
    have HS3 := Lib.hid (HS3.out.below hb2)
    clear ho2 hb2 C3
    go_wp2_with fail
    refine CM.out.mono ?_
    rintro e w3 ⟨rfl, hb3⟩
    have HB3 := Lib.hid (HB2.out.trans (hb3.mono HB2.out.size))
    have HS3 := Lib.hid (HS3.out.below hb3)
    clear hb3 CM
    generalize mvs L = mv at *
    go_wp2_with fail
    go_loopw [9, 10, 33] (fun u v i wr => ∃ k : Nat, k ≤ 20 ∧ i = .int .i64 k ∧ u = .int .i64 (mvs (S.take k)) ∧ v = .int .i64 (m2 F (S.take k)) ∧ Hid (Below w3.heap.size w3 wr)) (fun _ _ i _ => 20 - (intOf i).toNat)
    case atStart => exact ⟨0, Nat.zero_le _, rfl, rfl, rfl, Below.refl _ _⟩
    case round =>
      obtain ⟨k, hk, rfl, rfl, rfl, hbel⟩ := hrel
      have hszr := hbel.out.size
      by_cases hlt : k < 20
      · have hkl : k < S.length := by have := HS1.out; omega
        obtain ⟨b1, o1, he1, hbb, hc1, hc2, hc3⟩ := at_three (HS3.out.below hbel.out) hkl
        injection he1 with he1
        subst he1
        have E1 := Lib.hid (mvs_next S hkl)
        have E2 := Lib.hid (m2_next F S hkl)
        have t1 := mvs_le (S.take k)
        have t2 := m2_le F (S.take k)
        rw [List.length_take] at t1 t2
        generalize S[k].1 = x at *
        generalize S[k].2.1 = y at *
        generalize S[k].2.2 = z at *
        generalize mvs (S.take k) = u at *
        generalize m2 F (S.take k) = v at *
        have t3 : u ≤ 20 := by omega
        have t4 : v ≤ 20 := by omega
        clear t1 t2
        have BX := Lib.hid (hbel.out.alloc hszr (.cells #[.int .i64 x, .int .i64 y, .int .i64 z] 44))
        have CA := Lib.hid (fun v => C4.out y v (wr.alloc (.cells #[.int .i64 x, .int .i64 y, .int .i64 z] 44)) (HB3.out.trans (BX.out.mono HB3.out.size)))
        by_cases hx3 : x = 3
        · subst hx3
          go_wp2_with fail
          go_roundw
          case rel => exact ⟨k + 1, by omega, by go_num, by rw [E1.out, if_pos rfl]; go_num, by rw [E2.out, if_neg (by omega), Nat.add_zero], BX⟩
          case measure => simp [intOf]; omega
        · by_cases hx2 : x = 2
          · subst hx2
            by_cases hy : y ∈ F
            · have hq0 : (0 : Int) ≤ (ix F y : Int) := by omega
              have AT := Lib.hid (rAt_yes hy)
              have E3 : Hid (m2 F (S.take (k + 1)) = v + 1) := by show _ = _; rw [E2.out, if_pos ⟨rfl, hy⟩]
              clear E2
              generalize (ix F y : Int) = ia at *
              clear hy
              go_wp2_with fail
              refine (CA.out _ AT.out).mono ?_
              rintro e w9 ⟨rfl, rfl⟩
              go_wp2_with fail
              go_roundw
              case rel => exact ⟨k + 1, by omega, by go_num, by rw [E1.out, if_neg hx3, Nat.add_zero], by rw [E3.out]; go_num, BX⟩
              case measure => simp [intOf]; omega
            · have AT := Lib.hid (rAt_no hy)
              have E3 : Hid (m2 F (S.take (k + 1)) = v) := by show _ = _; rw [E2.out, if_neg (fun h => hy h.2), Nat.add_zero]
              clear E2
              clear hy
              go_wp2_with fail
              refine (CA.out _ AT.out).mono ?_
              rintro e w9 ⟨rfl, rfl⟩
              go_wp2_with fail
              go_roundw
              case rel => exact ⟨k + 1, by omega, by go_num, by rw [E1.out, if_neg hx3, Nat.add_zero], by rw [E3.out], BX⟩
              case measure => simp [intOf]; omega
          · have E3 : Hid (m2 F (S.take (k + 1)) = v) := by show _ = _; rw [E2.out, if_neg (fun h => hx2 h.1), Nat.add_zero]
            clear E2
            go_wp2_with fail
            go_roundw
            case rel => exact ⟨k + 1, by omega, by go_num, by rw [E1.out, if_neg hx3, Nat.add_zero], by rw [E3.out], BX⟩
            case measure => simp [intOf]; omega
      · obtain rfl : k = 20 := by omega
        have HT : S.take 20 = S := List.take_of_length_le (by have := HS1.out; omega)
        rw [HT]
        have t1 := mvs_le S
        have t2 := m2_le F S
        have t5 := HS1.out
        have LE := Lib.hid (HLE.out S)
        have HB4 := Lib.hid (HB3.out.trans (hbel.out.mono HB3.out.size))
        have CP := Lib.hid (C5.out (some dd) 20 e0 S wr HB4.out HS1.out hS2 (HS3.out.below hbel.out))
        generalize mvs S = u at *
        generalize m2 F S = v at *
        have t3 : u ≤ 20 := by omega
        have t4 : v ≤ 20 := by omega
        clear HT t1 t2 t5 HS3 HLE C4 C5 hlt hbel
        go_wp2_with fail
        refine CP.out.mono ?_
        rintro e w5 ⟨v5, ok, rfl, hap, hb5⟩
        have HB5 := Lib.hid (HB4.out.trans (hb5.mono HB4.out.size))
        clear hb5
        cases hres : appD a S with
        | none =>
          rw [hres] at hap
          obtain ⟨rfl, rfl⟩ := hap
          clear hres LE CP
          go_wp2_with fail
          refine (C2.out _ HB5.out).mono ?_
          rintro e w6 ⟨v6, rfl, ho6, hb6⟩
          obtain ⟨A6, c6, rfl, _, _⟩ := own_slice ho6
          have HB6 := Lib.hid (HB5.out.trans (hb6.mono HB5.out.size))
          clear ho6 hb6
          go_wp2_with fail
          go_ret
          exact ⟨ret_bool' (by simp), HB6.out⟩
        | some o =>
          rw [hres] at hap
          obtain ⟨rfl, ho5⟩ := hap
          have hol := appD_len hres
          have hso := HS1.out
          have hle : o.length ≤ 100 := by omega
          obtain ⟨A5, c5, rfl, _, _⟩ := own_slice ho5
          have T5 := Lib.hid (At.own ho5)
          have HRS := Lib.hid hres
          clear hres CP ho5 hol hso
          go_wp2_with fail
          refine (C2.out _ HB5.out).mono ?_
          rintro e w6 ⟨v6, rfl, ho6, hb6⟩
          obtain ⟨A6, c6, rfl, _, _⟩ := own_slice ho6
          have HB6 := Lib.hid (HB5.out.trans (hb6.mono HB5.out.size))
          have CN := Lib.hid (numbersI_any A5 A6 o.length c5 b.length c6 o b w6 rfl rfl (by omega) (by omega) (T5.out.below hb6) (At.own ho6))
          clear ho6 hb6 T5
          go_wp2_with fail
          by_cases hob : o = b
          · have hfin := LE.out (by rw [← hob]; exact HRS.out)
            have CN := Lib.hid (show Calls _ _ _ _ (fun e w' => e = .returned (.bool true) ∧ ∃ q, w' = w6.drewN q) by have h9 := CN.out; rw [decide_eq_true hob] at h9; exact h9)
            clear hob HRS LE
            refine CN.out.mono ?_
            rintro e w7 ⟨rfl, q, rfl⟩
            have hfin2 : (mv : Int) ≤ (u : Int) + (v : Int) := by omega
            go_wp2_with fail
            go_ret
            exact ⟨ret_bool' (by simp), drewN_below HB6.out _⟩
          · have CN := Lib.hid (show Calls _ _ _ _ (fun e w' => e = .returned (.bool false) ∧ ∃ q, w' = w6.drewN q) by have h9 := CN.out; rw [decide_eq_false hob] at h9; exact h9)
            clear hob HRS LE
            refine CN.out.mono ?_
            rintro e w7 ⟨rfl, q, rfl⟩
            have HB7 := Lib.hid (drewN_below HB6.out q)
            go_wp2_with fail
            refine (C2.out _ HB7.out).mono ?_
            rintro e w8 ⟨v8, rfl, ho8, hb8⟩
            obtain ⟨A8, c8, rfl, _, _⟩ := own_slice ho8
            have HB8 := Lib.hid (HB7.out.trans (hb8.mono HB7.out.size))
            clear ho8 hb8
            go_wp2_with fail
            go_ret
            exact ⟨ret_bool' (by simp), HB8.out⟩
end Go.Proofs.Ytaojjcnghkjgfaa
