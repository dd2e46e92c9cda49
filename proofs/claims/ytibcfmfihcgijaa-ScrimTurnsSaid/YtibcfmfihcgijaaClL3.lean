/- The walk of ClassesTurns. -/
import Derived.Test.YtibcfmfihcgijaaClL2
namespace Go.Proofs.Ytibcfmfihcgijaa
open Go.RowKit M
theorem two_steps {w : World} {A : Option Addr} {L : List Stp} (h : At w A (stv L)) {k : Nat} (hk : k < L.length) :
    ∃ b off, A = some ⟨b, off, none⟩ ∧ b < w.heap.size ∧ w.cell? ⟨b, off + k * 2, none⟩ = some (.bool L[k].1) ∧ w.cell? ⟨b, off + k * 2 + 1, none⟩ = some (.string L[k].2) := at_step h hk
set_option maxHeartbeats 4000000 in
set_option maxRecDepth 100000 in
theorem classesTurns_any (A B : Option Addr) (n c m d : Nat) (a b : List ByteArray) (w : World) (hn : n = a.length) (hm : m = b.length) (hb : n ≤ maxLen) (hb2 : m ≤ maxLen) (ha : At w A (sv a)) (hb' : At w B (sv b)) :
    Calls Try.prog 5 #[.slice A n c, .slice B m d] w fun e w' => e = .returned (.bool true) ∧ Below w.heap.size w w' := by
  have HF1 : Hid (∀ w1 : World, Below w.heap.size w w1 → Calls Try.prog 12 #[.slice A n c, .int .i64 15] w1 fun e w' => ∃ v, e = .returned v ∧ w'.ownsRow w1.heap.size 9 1 v (few a 15).length (sv (few a 15)) ∧ Below w1.heap.size w1 w') := fun w1 h => few_any A n c 15 a w1 hn hb (by omega) (by omega) (ha.below h)
  have HF2 : Hid (∀ w1 : World, Below w.heap.size w w1 → Calls Try.prog 12 #[.slice B m d, .int .i64 15] w1 fun e w' => ∃ v, e = .returned v ∧ w'.ownsRow w1.heap.size 9 1 v (few b 15).length (sv (few b 15)) ∧ Below w1.heap.size w1 w') := fun w1 h => few_any B m d 15 b w1 hm hb2 (by omega) (by omega) (hb'.below h)
  have hl1 := few_len a 15
  have hl2 := few_len b 15
  have HSM1 := Lib.hid (few_small a 15)
  have HSM2 := Lib.hid (few_small b 15)
  clear ha hb' hn hm hb hb2
  generalize few a 15 = X at hl1 HF1 HSM1
  generalize few b 15 = Y at hl2 HF2 HSM2
  have htl := turn_len X Y
  have hcx := clean_len X
  have hcy := clean_len Y
  have HTS : Hid (∀ s ∈ turn X Y, s.2.size ≤ maxLen) := turn_small HSM1.out HSM2.out
  have HAT : Hid (apply X (turn X Y) = clean Y) := apply_turn X Y
  have htl2 : (turn X Y).length ≤ 30 := by omega
  clear htl
  go_enter Try.func5, Try.ntmps5
  go_wp2_with (first | (go_at_call 11; refine (awake_any _).mono ?_; rintro e w1 ⟨rfl, hb⟩; have HB1 := Lib.hid hb; clear hb) | (go_at_call 12; (with_reducible refine (HF1.out _ HB1.out).mono ?_); rintro e w2 ⟨v2, rfl, hown, hb⟩; obtain ⟨A2, c2, rfl, hc2, hm2, hat2⟩ := at_of_own hown; have HAT2 := Lib.hid hat2; have HB2 := Lib.hid (HB1.out.trans (hb.mono HB1.out.size)); clear hown hat2 hb) | (go_at_call 12; (with_reducible refine (HF2.out _ HB2.out).mono ?_); rintro e w3 ⟨v3, rfl, hown, hb⟩; obtain ⟨A3, c3, rfl, hc3, hm3, hat3⟩ := at_of_own hown; have HAT3 := Lib.hid hat3; have HAT4 := Lib.hid (HAT2.out.below hb); have HB3 := Lib.hid (HB2.out.trans (hb.mono HB2.out.size)); clear hown hat3 hb) | (go_at_call 25; (with_reducible refine (cturn_any A2 A3 _ c2 _ c3 X Y _ rfl rfl (by omega) (by omega) HAT4.out HAT3.out HSM1.out HSM2.out).mono ?_); rintro e w5 ⟨v5, rfl, hown, hb⟩; obtain ⟨A5, c5, rfl, hc5, hm5, hat5⟩ := at_of_own hown; have HAN5 := Lib.hid (own_addr hown); have HAT5 := Lib.hid hat5; have HB5 := Lib.hid hb; clear hown hat5 hb) | (go_at_call 26; (with_reducible refine (rturn_any A2 A3 _ c2 _ c3 X Y _ rfl hc2 hm2 rfl hc3 hm3 (by omega) (by omega) (HAT4.out.below HB5.out) (HAT3.out.below HB5.out)).mono ?_); rintro e w6 ⟨v6, rfl, hown, hb⟩; obtain ⟨A6, c6, rfl, hc6, hm6, hat6⟩ := at_of_own hown; have HAT6 := Lib.hid hat6; have HAT7 := Lib.hid (HAT5.out.below hb); have HB6 := Lib.hid (HB5.out.trans (hb.mono HB5.out.size)); clear hown hat6 hb))
  go_loopw [27] (fun i wr => ∃ k q : Nat, k ≤ (turn X Y).length ∧ i = .int .i64 k ∧ wr = w6.drewN q) (fun i _ => (turn X Y).length - (intOf i).toNat)
  case atStart => exact ⟨0, 0, Nat.zero_le _, rfl, rfl⟩
  case round =>
    obtain ⟨k, q, hk, rfl, rfl⟩ := hrel
    by_cases hlt : k < (turn X Y).length
    · obtain ⟨b5, o5, rfl, hlb5, hc50, hc51⟩ := at_step HAT7.out hlt
      obtain ⟨b6, o6, rfl, hlb6, hc60, hc61⟩ := at_step HAT6.out hlt
      obtain ⟨x, hx⟩ : ∃ x, x = (turn X Y)[k].2 := ⟨_, rfl⟩
      obtain ⟨y, hy⟩ : ∃ y, y = (turn X Y)[k].1 := ⟨_, rfl⟩
      rw [← hy] at hc50 hc60
      rw [← hx] at hc51 hc61
      clear hx hy
      have h1 : (x.toList == x.toList) = true := str_yes rfl
      go_wp2
      go_quiet (fail)
      go_wp2
      go_roundw
      case rel => exact ⟨k + 1, _, by omega, by go_num, rfl⟩
      case measure => simp [intOf]; omega
    · have HCY : Hid (clean Y = apply X (turn X Y)) := HAT.out.symm
      have hcl2 : (apply X (turn X Y)).length ≤ Y.length := by rw [HAT.out]; exact hcy
      go_wp2_with (first | (go_at_call 27; (with_reducible refine (capply_any A2 A5 _ c2 _ c5 X (turn X Y) _ rfl rfl (by omega) (by omega) (At.drewN (HAT4.out.below HB6.out) _) (At.drewN HAT7.out _) HAN5.out HSM1.out HTS.out).mono ?_); rintro e w7 ⟨v7, rfl, hown, hb⟩; obtain ⟨A7, c7, rfl, hc7, hm7, hat7⟩ := at_of_own hown; have HAT8 := Lib.hid hat7; have HB7 := Lib.hid (HB6.out.trans ((drewN_left hb).mono HB6.out.size)); clear hown hat7 hb) | (go_at_call 17; (with_reducible refine (rclean_any A3 _ c3 Y _ rfl hc3 hm3 (by omega) (HAT3.out.below HB7.out)).mono ?_); rintro e w8 ⟨v8, rfl, hown, hb⟩; obtain ⟨A8, c8, rfl, hc8, hm8, hat8⟩ := at_of_own hown; have HAT9 := Lib.hid hat8; have HAT10 := Lib.hid (HAT8.out.below hb); have HB8 := Lib.hid (HB7.out.trans (hb.mono HB7.out.size)); clear hown hat8 hb) | (go_at_call 15; (with_reducible refine (same_any A7 A8 _ _ _ _ (apply X (turn X Y)) (clean Y) _ rfl rfl (by unfold maxLen; omega) (by unfold maxLen; omega) HAT10.out HAT9.out).mono ?_); rintro e w' ⟨rfl, q9, rfl⟩; rw [HCY.out]))
      go_ret
      exact ⟨ret_bool' (by simp), drewN_below (HB3.out.trans (HB8.out.mono HB3.out.size)) _⟩
end Go.Proofs.Ytibcfmfihcgijaa
