/- Contract of WeaveSteps. -/
import Derived.Test.YtdojalflgfacgaaWeP7
import Derived.Test.YtdojalflgfacgaaWeT4
import Derived.Test.YtdojalflgfacgaaWeEq
import Derived.BigQuiet
namespace Go.Proofs.Ytdojalflgfacgaa
open Go.RowKit We
set_option maxHeartbeats 4000000 in
set_option maxRecDepth 100000 in
theorem weaveSteps_any (A B : Option Addr) (n c m d : Nat) (fl tl : List Int) (w : World) (hn : n = fl.length) (hm : m = tl.length) (hb1 : n ≤ maxLen) (hb2 : m ≤ maxLen) (hc1 : n ≤ c) (hc2 : m ≤ d) (hd1 : c ≤ maxLen) (hd2 : d ≤ maxLen)
    (ha : At w A (iv fl)) (hb : At w B (iv tl)) (hof : ∀ x ∈ fl, OkI x) (hot : ∀ x ∈ tl, OkI x) (hA : A = none → n = 0 ∧ c = 0) (hB : B = none → m = 0 ∧ d = 0) :
    Calls Try.prog 3 #[.slice A n c, .slice B m d] w fun e w' => e = .returned (.bool true) ∧ Below w.heap.size w w' := by
  have F1 := fun W => few_any A n c 15 15 W rfl hb1 hc1 hd1 hA (by omega)
  have F2 := fun W => few_any B m d 15 15 W rfl hb2 hc2 hd2 hB (by omega)
  obtain ⟨ha', hn', hof'⟩ := few_ok (m := 15) ha hn hof
  obtain ⟨hb', hm', hot'⟩ := few_ok (m := 15) hb hm hot
  clear ha hn hof hb hm hot
  have hn2 : min n 15 ≤ 15 := by omega
  have hm2 : min m 15 ≤ 15 := by omega
  generalize fl.take 15 = F at *
  generalize tl.take 15 = T at *
  generalize min n 15 = N at *
  generalize min m 15 = M at *
  have C2 := Lib.hid (fun W (hW : Below w.heap.size w W) => ronce_any B M d T W hm' (by omega) (hb'.below hW))
  have C3 := Lib.hid (fun a b r W (hW : Below w.heap.size w W) => steps_any A B N c M d F T a b r W hn' hm' (by omega) (by omega) (ha'.below hW) (hb'.below hW) hof' hot')
  have C4 := Lib.hid (fun a b r W (hW : Below w.heap.size w W) => rsteps_any A B N c M d F T a b r W hn' hm' (by omega) (by omega) (ha'.below hW) (hb'.below hW))
  obtain ⟨a, hea⟩ : ∃ a, a = once F := ⟨_, rfl⟩
  obtain ⟨b, heb⟩ : ∃ b, b = once T := ⟨_, rfl⟩
  have la : a.length ≤ 15 := by have := once_len F; rw [hea]; omega
  have lb : b.length ≤ 15 := by have := once_len T; rw [heb]; omega
  have hNA : a.Nodup := hea ▸ once_nodup F
  have hNB : b.Nodup := heb ▸ once_nodup T
  obtain ⟨r, hr⟩ := Li.row_ex (ats (olds a b)) (comm a b).length
  have hRI := rises_of hr
  have C3 := Lib.hid (fun W (hW : Below w.heap.size w W) => C3.out a b r W hW hea heb hr)
  have C4 := Lib.hid (fun W (hW : Below w.heap.size w W) => C4.out a b r W hW hea heb hr)
  have hsa : ∀ x ∈ stayIds a b r, x ∈ a := fun x hx => (comm_mem.1 (stay_comm hRI x hx)).2
  have hsb : ∀ x ∈ stayIds a b r, x ∈ b := fun x hx => (comm_mem.1 (stay_comm hRI x hx)).1
  have hAP := appD_steps hNA hNB hRI hsa
  have hSL := count_all hNA hNB hRI hsa hsb
  have C5 := Lib.hid (fun W (P : Option Addr) (p cp : Nat) (hp : p = (steps a b (stayIds a b r)).length) (hp2 : p ≤ 900) (hat : At W P (sc (steps a b (stayIds a b r)))) (hW : Below w.heap.size w W) => apply_any A P N c p cp F (steps a b (stayIds a b r)) W hn' hp (by omega) hp2 (ha'.below hW) hat hof')
  rw [← hea] at C5
  rw [hAP] at C5
  rw [← heb] at C2
  clear hn' hm' hb1 hb2 hc1 hc2 hd1 hd2 ha' hb' hof' hot' hA hB hea heb hr hRI hsa hsb hAP hNA hNB
  generalize steps a b (stayIds a b r) = SS at *
  have HSL : Hid (SS.length ≤ 900) := by show _ ≤ _; omega
  have HLB := Lib.hid lb
  clear hSL la lb
  go_enter Try.func3, Try.ntmps3
  go_wp2_with fail
  refine (awake12_any _).mono ?_
  rintro e w1 ⟨rfl, hb1⟩
  have HB1 := Lib.hid hb1
  clear hb1
  go_wp2_with (first | ((with_reducible refine (F1 _).mono ?_); rintro e w1' ⟨rfl, rfl⟩) | ((with_reducible refine (F2 _).mono ?_); rintro e w1' ⟨rfl, rfl⟩))
  refine (C3.out _ HB1.out).mono ?_
  rintro e w2 ⟨v5, rfl, ho5, hb2⟩
  obtain ⟨A5, c5, rfl, hc5, hd5⟩ := own_slice ho5
  have T5 := Lib.hid (At.own ho5)
  have HB2 := Lib.hid (HB1.out.trans (hb2.mono HB1.out.size))
  clear ho5 hb2 C3
  go_wp2_with fail
  refine (C4.out _ HB2.out).mono ?_
  rintro e w3 ⟨v6, rfl, ho6, hb3⟩
  obtain ⟨A6, c6, rfl, hc6, hd6⟩ := own_slice ho6
  have T6 := Lib.hid (At.own ho6)
  have U5 := Lib.hid (T5.out.below hb3)
  have HB3 := Lib.hid (HB2.out.trans (hb3.mono HB2.out.size))
  clear ho6 hb3 C4 T5
  obtain ⟨p, hp⟩ : ∃ p, p = SS.length := ⟨_, rfl⟩
  rw [← hp] at hc5 hc6 HSL ⊢
  have HP := Lib.hid hp
  clear hp
  have hp9 : p ≤ 900 := HSL.out
  go_wp2_with fail
  go_loopw [29] (fun i wr => ∃ (k q : Nat), k ≤ p ∧ i = .int .i64 k ∧ wr = w3.drewN q) (fun i _ => p - (intOf i).toNat)
  case atStart => exact ⟨0, 0, Nat.zero_le _, rfl, rfl⟩
  case round =>
    obtain ⟨k, q, hk, rfl, rfl⟩ := hrel
    by_cases hlt : k < p
    · have hkl : k < SS.length := by have := HP.out; omega
      obtain ⟨b1, o1, rfl, _, x0, x1, x2⟩ := at_three U5.out hkl
      obtain ⟨b2, o2, rfl, _, y0, y1, y2⟩ := at_three T6.out hkl
      generalize SS[k].1 = x at *
      generalize SS[k].2.1 = y at *
      generalize SS[k].2.2 = z at *
      have e3 : (x == x) = true := by simp
      have e4 : (y == y) = true := by simp
      have e5 : (z == z) = true := by simp
      have hkc5 : k < c5 := by omega
      have hkc6 : k < c6 := by omega
      go_wp2_with fail
      go_big_quiet (fail)
      go_wp2_with fail
      go_roundw
      case rel => exact ⟨k + 1, _, by omega, by go_num, rfl⟩
      case measure => simp [intOf]; omega
    · obtain rfl : k = p := by omega
      have D5 := Lib.hid (C5.out (w3.drewN q) A5 k c5 HP.out HSL.out U5.out (drewN_below HB3.out _))
      have BD := Lib.hid (drewN_below HB3.out q)
      generalize w3.drewN q = w4 at *
      clear C5
      go_wp2_with fail
      refine D5.out.mono ?_
      rintro e w5 ⟨v5, ok5, rfl, ⟨rfl, ho5⟩, hb5⟩
      obtain ⟨A7, c7, rfl, hc7, hd7⟩ := own_slice ho5
      have T7 := Lib.hid (At.own ho5)
      have HB5 := Lib.hid (BD.out.trans (hb5.mono BD.out.size))
      clear ho5 hb5 D5
      have D6 := Lib.hid (C2.out w5 HB5.out)
      clear C2
      go_wp2_with fail
      refine D6.out.mono ?_
      rintro e w6 ⟨v8, rfl, ho8, hb8⟩
      obtain ⟨A8, c8, rfl, hc8, hd8⟩ := own_slice ho8
      have T8 := Lib.hid (At.own ho8)
      have S7 := Lib.hid (T7.out.below hb8)
      have HB8 := Lib.hid (HB5.out.trans (hb8.mono HB5.out.size))
      clear ho8 hb8 D6
      have D7 := Lib.hid (numbersI_any A7 A8 b.length c7 b.length c8 b b w6 rfl rfl (by have := HLB.out; omega) (by have := HLB.out; omega) S7.out T8.out)
      go_wp2_with fail
      refine D7.out.mono ?_
      rintro e w9 ⟨rfl, q9, rfl⟩
      go_wp2_with fail
      go_ret
      exact ⟨ret_bool' (by simp), drewN_below HB8.out _⟩
end Go.Proofs.Ytdojalflgfacgaa
