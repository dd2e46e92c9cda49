/- The walk of FlipApplies. -/
import Derived.Test.YtdaohjimfgdmbaaFpB3
import Derived.Test.YtdaohjimfgdmbaaFpP
import Derived.Test.YtdaohjimfgdmbaaSpR1
namespace Go.Proofs.Ytdaohjimfgdmbaa
open Go.RowKit Go.Maps Sn M
attribute [-go_sem] Builtin.append_
structure Rs3 (w W : World) (A7 A8 AE B : Option Addr) (X : List En) (P : List Sh) : Prop where
  a : At W A7 (ecs X)
  b : At W A8 (ecs X)
  s : At W AE (shcs P)
  t : At W B (shcs P)
  k : Below w.heap.size w W
theorem Rs3.below {w W W' : World} {A7 A8 AE B : Option Addr} {X : List En} {P : List Sh} (h : Rs3 w W A7 A8 AE B X P) (hb : Below W.heap.size W W') : Rs3 w W' A7 A8 AE B X P := ⟨h.a.below hb, h.b.below hb, h.s.below hb, h.t.below hb, h.k.trans (hb.mono h.k.size)⟩
theorem Rs3.drew {w W : World} {A7 A8 AE B : Option Addr} {X : List En} {P : List Sh} (h : Rs3 w W A7 A8 AE B X P) : Rs3 w W.drew A7 A8 AE B X P := ⟨h.a, h.b, h.s, h.t, Below_drew h.k⟩
theorem Rs3.drewN {w W : World} {A7 A8 AE B : Option Addr} {X : List En} {P : List Sh} (h : Rs3 w W A7 A8 AE B X P) (q : Nat) : Rs3 w (W.drewN q) A7 A8 AE B X P := ⟨h.a, h.b, h.s, h.t, drewN_belowS h.k q⟩
theorem shcs_take : ∀ (S : List Sh) (k : Nat), shcs (S.take k) = (shcs S).take (k * 3)
  | [], k => by simp [shcs]
  | x :: S, 0 => by simp [shcs]
  | x :: S, k + 1 => by
    have ih := shcs_take S k
    rw [List.take_succ_cons, show (k + 1) * 3 = 3 + k * 3 by omega]
    show shc x ++ shcs (S.take k) = (shc x ++ shcs S).take (3 + k * 3)
    rw [ih, List.take_append, List.take_of_length_le (l := shc x) (by show 3 ≤ 3 + k * 3; omega), show (shc x).length = 3 from rfl, Nat.add_sub_cancel_left]
theorem appS_id (R : List En) (S : List Sh) : (appS R S).length = R.length := appS_len S R
set_option maxHeartbeats 8000000 in
set_option maxRecDepth 100000 in
theorem flipApplies_any (w : World) (v0 v1 : Value) (h0 : EnsArg w v0) (h1 : ShsArg w v1) :
    Calls Try.prog 6 #[v0, v1] w fun e w' => e = .returned (.bool true) ∧ Below w.heap.size w w' := by
  obtain ⟨A, n, c, L, rfl, hn, hnc, hcm, hat, _, hA0⟩ := h0
  obtain ⟨B, m, d, S, rfl, hm, hmd, hdm, hbt, _, hB0⟩ := h1
  obtain ⟨X, hX⟩ : ∃ X, X = L.take 20 := ⟨_, rfl⟩
  obtain ⟨r, hr⟩ := snap_ex X
  have hXl : X.length ≤ 20 := by rw [hX, List.length_take]; omega
  unfold maxLen at hcm hdm
  have COwn : Hid (∀ W, Below w.heap.size w W → Calls Try.prog 11 #[.slice A n c, .int .i64 20] W fun e w' => ∃ v u, e = .returned (.tuple #[v, u]) ∧ w'.ownsRow W.heap.size 74 5 v X.length (ecs X) ∧ w'.ownsRow W.heap.size 44 5 u X.length (ecs X) ∧ Below W.heap.size W w') := fun W hW => by
    have := own13_any A n c 20 L W hn (by unfold maxLen; omega) (by omega) (hat.below hW)
    rw [← hX] at this
    exact this
  have HR := Lib.hid hr
  have HRL := Lib.hid (is_len hr)
  have HXL := Lib.hid hXl
  have HM := Lib.hid hm
  have HBT := Lib.hid (show At w B (shcs S) from hbt)
  obtain ⟨i0, hi, hz0, hz1, hz2⟩ := info_parts infoShP
  clear hX hr hn hat hnc hcm hA0 hXl hm hbt hB0
  obtain ⟨q, hq⟩ : ∃ q, q = X.length := ⟨_, rfl⟩
  have HQ := Lib.hid hq
  rw [← hq] at COwn HXL HRL
  clear hq
  go_enter Try.func6, Try.ntmps6
  go_wp2_with fail
  refine (awake23_any _).mono ?_
  rintro e w1 ⟨rfl, hb1⟩
  have HB1 := Lib.hid hb1
  clear hb1
  go_wp2_with fail
  refine (COwn.out _ HB1.out).mono ?_
  rintro e w2 ⟨v, u, rfl, hv, hu, hb2⟩
  obtain ⟨A7, c7, rfl, hc7, hm7, hat7⟩ := at_of_own' hv
  obtain ⟨A8, c8, rfl, hc8, hm8, hat8⟩ := at_of_own' hu
  have HN7 := Lib.hid (own_addr hv)
  have HK := Lib.hid (show RsK w w2 A7 A8 X from ⟨hat7, hat8, HB1.out.trans (hb2.mono HB1.out.size)⟩)
  clear hv hu hb2 hat7 hat8 HB1 COwn
  go_wp2_with fail
  go_loopw [7, 8] (fun v i wr => ∃ k : Nat, k ≤ m ∧ k ≤ 20 ∧ i = .int .i64 k ∧ Hid (wr.ownsRow w2.heap.size 59 3 v k (shcs (S.take k))) ∧ Hid (Below w2.heap.size w2 wr)) (fun _ i _ => 20 - (intOf i).toNat)
  case atStart => exact ⟨0, Nat.zero_le _, Nat.zero_le _, rfl, Lib.hid (World.ownsRow_nil _ _ _ _), Lib.hid (Below.refl _ _)⟩
  case round =>
    obtain ⟨k, hk, hk20, rfl, hown, hbel⟩ := hrel
    obtain ⟨AE, cE, rfl, hcE, hcE2⟩ := own_slice hown.out
    by_cases hlt : k < m ∧ k < 20
    · obtain ⟨hlt1, hlt2⟩ := hlt
      have hkS : k < S.length := by have := HM.out; omega
      obtain ⟨b1, o1, hBq, hlb, hc0, hc1, hc2⟩ := at_sh (HBT.out.below (HK.out.k.trans (hbel.out.mono HK.out.k.size))) hkS
      subst hBq
      have hnx := take_nextS S k hkS
      generalize S[k] = s at *
      have HNX : Hid (shcs (S.take (k + 1)) = shcs (S.take k) ++ shc s) := by show shcs (S.take (k + 1)) = _; rw [hnx, shcs_app]; simp [shcs]
      clear hnx hkS
      obtain ⟨sid, dx, dy⟩ := s
      dsimp only at hc0 hc1 hc2
      generalize shcs (S.take k) = P at *
      obtain ⟨v1, w6, hrun, hown1, hgrow1, _, hat1⟩ := run_append_own_at (P := Try.prog) (wr.alloc (.cells #[.int .i64 sid, .int .i64 dx, .int .i64 dy] 59)) w2.heap.size 53 53 59 i0 _ 3 24 Try.underlying53 hi hz0 hz1 hz2 rfl (by decide) _ _ _ (hown.out.alloc (.cells #[.int .i64 sid, .int .i64 dx, .int .i64 dy] 59))
        ⟨wr.heap.size, 0, none⟩ 1 1 [.int .i64 sid, .int .i64 dx, .int .i64 dy] rfl (cells_new' _ _ _ _ rfl _ rfl) (fun u hu => shc_one ⟨sid, dx, dy⟩ u hu) (by unfold maxLen; omega) (by omega) (by have := hbel.out.size; simp; omega)
      obtain ⟨A9, c9, rfl, hc9, hm9⟩ := own_slice hown1
      have HO9 := Lib.hid hown1
      have HB9 := Lib.hid ((hbel.out.alloc hbel.out.size (.cells #[.int .i64 sid, .int .i64 dx, .int .i64 dy] 59)).grown hgrow1 (by have := hbel.out.size; simp; omega) (fun j hj => own_from hown.out j hj))
      clear hown1 hgrow1 hat1 hown hbel
      go_wp2
      go_roundw
      case rel => exact ⟨k + 1, by omega, by omega, by go_num, Lib.hid (by rw [HNX.out]; exact HO9.out), HB9⟩
      case measure => simp [intOf]; omega
    · have hkm : Hid (k ≤ m) := hk
      have HTK : Hid (k = (S.take k).length) := by show k = (S.take k).length; rw [List.length_take]; have := HM.out; omega
      have HK3 := Lib.hid (show Rs3 w wr A7 A8 AE B X (S.take k) from ⟨HK.out.a.below hbel.out, HK.out.b.below hbel.out, At.own hown.out, by rw [shcs_take]; exact (HBT.out.below (HK.out.k.trans (hbel.out.mono HK.out.k.size))).take _, HK.out.k.trans (hbel.out.mono HK.out.k.size)⟩)
      have CA := Lib.hid (fun W (h : Rs3 w W A7 A8 AE B X (S.take k)) => apply_any A7 AE q c7 k cE X r (S.take k) W HQ.out (by have := HXL.out; omega) HN7.out h.a HTK.out (by omega) h.s HR.out)
      have CR := Lib.hid (fun W (h : Rs3 w W A7 A8 AE B X (S.take k)) => rapply_any A8 B q c8 k d X r (S.take k) W HQ.out (by have := HXL.out; omega) h.b HTK.out (by omega) h.t HR.out)
      have CI := Lib.hid (fun W A5 c5 A6 c6 (h5 : At W A5 (ecs (appS r (S.take k)))) (h6 : At W A6 (ecs (appS r (S.take k)))) => isE_any A5 A6 r.length c5 r.length c6 (appS r (S.take k)) (appS r (S.take k)) W (appS_id r _).symm (appS_id r _).symm (by have := HRL.out; have := HXL.out; omega) (by have := HRL.out; have := HXL.out; omega) h5 h6)
      rw [show decide (appS r (S.take k) = appS r (S.take k)) = true from decide_eq_true rfl] at CI
      generalize S.take k = P at *
      generalize appS r P = Q at *
      generalize r.length = rl at *
      have hkd : k ≤ d := by omega
      by_cases hlt1 : k < m
      · have hlt2 : ¬ k < 20 := fun h => hlt ⟨hlt1, h⟩
        clear hlt hown
        go_upto_region 9 with fail
        go_region_held3 (fun w' => Rs3 w w' A7 A8 AE B X P) (first | with_reducible assumption | exact Rs3.drew HK3.out) (first
          | (go_at_call 26; (with_reducible refine (CA.out _ ?_).mono ?_); (first | with_reducible assumption | exact Rs3.drew HK3.out); rintro e9 w5 ⟨A5, c5, rfl, hat5, _, hb5⟩; have HAT5 := Lib.hid hat5; have K5 : Rs3 w w5 A7 A8 AE B X P := Rs3.below (by first | with_reducible assumption | exact Rs3.drew HK3.out) hb5)
          | (go_at_call 27; (with_reducible refine (CR.out _ ?_).mono ?_); (first | with_reducible assumption | exact Rs3.drew HK3.out); rintro e9 w6 ⟨A6, c6, rfl, hat6, hb6⟩; have HAT6 := Lib.hid hat6; have HAT56 := Lib.hid (HAT5.out.below hb6); have K6 : Rs3 w w6 A7 A8 AE B X P := Rs3.below (by first | with_reducible assumption | exact Rs3.drew HK3.out) hb6)
          | (go_at_call 14; (with_reducible refine (CI.out _ A5 c5 A6 c6 HAT56.out HAT6.out).mono ?_); rintro e9 w7 ⟨rfl, q7, rfl⟩; have K7 : Rs3 w (w6.drewN q7) A7 A8 AE B X P := Rs3.drewN (by with_reducible assumption) q7))
        all_goals
          have HF := Lib.hid (Rs3.k (by assumption : Rs3 w (w6.drewN q7) A7 A8 AE B X P))
          go_wp2
          go_ret
          exact ⟨rfl, HF.out⟩
      · clear hlt hown
        go_upto_region 9 with fail
        go_region_held3 (fun w' => Rs3 w w' A7 A8 AE B X P) (first | with_reducible assumption | exact Rs3.drew HK3.out) (first
          | (go_at_call 26; (with_reducible refine (CA.out _ ?_).mono ?_); (first | with_reducible assumption | exact Rs3.drew HK3.out); rintro e9 w5 ⟨A5, c5, rfl, hat5, _, hb5⟩; have HAT5 := Lib.hid hat5; have K5 : Rs3 w w5 A7 A8 AE B X P := Rs3.below (by first | with_reducible assumption | exact Rs3.drew HK3.out) hb5)
          | (go_at_call 27; (with_reducible refine (CR.out _ ?_).mono ?_); (first | with_reducible assumption | exact Rs3.drew HK3.out); rintro e9 w6 ⟨A6, c6, rfl, hat6, hb6⟩; have HAT6 := Lib.hid hat6; have HAT56 := Lib.hid (HAT5.out.below hb6); have K6 : Rs3 w w6 A7 A8 AE B X P := Rs3.below (by first | with_reducible assumption | exact Rs3.drew HK3.out) hb6)
          | (go_at_call 14; (with_reducible refine (CI.out _ A5 c5 A6 c6 HAT56.out HAT6.out).mono ?_); rintro e9 w7 ⟨rfl, q7, rfl⟩; have K7 : Rs3 w (w6.drewN q7) A7 A8 AE B X P := Rs3.drewN (by with_reducible assumption) q7))
        all_goals
          have HF := Lib.hid (Rs3.k (by assumption : Rs3 w (w6.drewN q7) A7 A8 AE B X P))
          go_wp2
          go_ret
          exact ⟨rfl, HF.out⟩
end Go.Proofs.Ytdaohjimfgdmbaa
