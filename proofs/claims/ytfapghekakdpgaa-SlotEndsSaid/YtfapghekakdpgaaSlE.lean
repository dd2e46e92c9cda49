/- SlotEnds. -/
import Derived.Test.YtfapghekakdpgaaSlME
import Derived.Test.YtfapghekakdpgaaSlO
import Derived.Deep.DeepCutAuto
import Derived.Deep.CutBlock
import Derived.Handy
namespace Go.Proofs.Ytfapghekakdpgaa
open Go.RowKit Gr Go.Maps Sl
open M (cutS)
set_option linter.unusedVariables false
set_option linter.unusedSimpArgs false
attribute [-go_sem] Builtin.append_
theorem erow_addr {w : World} {base s n c : Nat} {e : TypeId} {A : Option Addr} {xs : List Value} (h : w.ownsRow base e s (.slice A n c) n xs) (hn : 0 < n) : ∃ eb, A = some ⟨eb, 0, none⟩ ∧ base ≤ eb ∧ eb < w.heap.size := by
  rcases h.2 with ⟨hv, h0⟩ | ⟨g, c', cur, hv, hb, hh, _⟩
  · omega
  · injection hv with hv _ _
    refine ⟨g, hv, hb, ?_⟩
    rcases Nat.lt_or_ge g w.heap.size with h1 | h1
    · exact h1
    · rw [Array.getElem?_eq_none h1] at hh; cases hh
theorem scs_at (x : List Sk) {k : Nat} (hk : k < x.length) : (scs x)[k * 2]? = some (.string (sk x k).1) ∧ (scs x)[k * 2 + 1]? = some (.int .i64 (sk x k).2) := by
  constructor
  · rw [sk_eq x k hk]; exact Op.flat_at sc 2 (fun _ => rfl) x k hk 0 (by omega)
  · rw [sk_eq x k hk]; exact Op.flat_at sc 2 (fun _ => rfl) x k hk 1 (by omega)
theorem own_sk {w : World} {base n c eb : Nat} {e : TypeId} {x : List Sk} (h : w.ownsRow base e 2 (.slice (some ⟨eb, 0, none⟩) n c) n (scs x)) (hn : n = x.length) {k : Nat} (hk : k < n) :
    w.cell? ⟨eb, k * 2, none⟩ = some (.string (sk x k).1) ∧ w.cell? ⟨eb, k * 2 + 1, none⟩ = some (.int .i64 (sk x k).2) ∧ w.frozen? ⟨eb, k * 2 + 1, none⟩ = false := by
  obtain ⟨h0, h1⟩ := scs_at x (k := k) (by omega)
  exact ⟨by rw [h.cellAt _ (by omega)]; exact h0, by rw [h.cellAt _ (by omega)]; exact h1, h.frozenAt _⟩
theorem own_put {w : World} {base n c eb : Nat} {e : TypeId} {x : List Sk} (h : w.ownsRow base e 2 (.slice (some ⟨eb, 0, none⟩) n c) n (scs x)) (hn : n = x.length) {k : Nat} (hk : k < n) (z : Int) :
    (w.setCell ⟨eb, k * 2 + 1, none⟩ (.int .i64 z)).ownsRow base e 2 (.slice (some ⟨eb, 0, none⟩) n c) n (scs (x.set k ((sk x k).1, z))) := by
  rw [← scs_set x k z (by omega)]
  exact (h.stored (k * 2 + 1) _).1
theorem plan_step (x : List Sk) (N : Nat) (kq : ByteArray) (mode : Int) (hr : Right x) (hk : KeyOk x) (hN : N = (sownK x 15).length) (hq : cutS kq 20 = kq) : ∃ E tk st R Y,
    (∀ A c W, At W A (scs (sownK x 15)) → Calls Try.prog 26 #[.slice A N c, .string kq, .int .i64 mode] W fun e w' => ∃ v1 v2, e = .returned (.agg #[v1, .int .i64 tk, .int .i64 st, v2]) ∧ w'.ownsRow W.heap.size 3 1 v1 N (iv E) ∧ w'.ownsRow W.heap.size 3 1 v2 R.length (nv R) ∧ Below W.heap.size W w') ∧
    N = E.length ∧ R.length ≤ N ∧ (st = 0 ∨ st = 1 ∨ st = 2) ∧ Y = aftL (sownK x 15) kq E tk st R ∧ Y.length ≤ 16 ∧ Right Y ∧ KeyOk Y ∧ Cur kq Y := by
  have hl : (sownK x 15).length ≤ 15 := by rw [sownK_len]; omega
  obtain ⟨E, tk, st, R, Y, h1, h2, h3, h4, h5, h6, _, h7⟩ := plan_facts N (sownK x 15) kq mode hN (by omega)
  have hr2 : Right (sownK x 15) := by rw [sown_take hk]; exact right_take hr 15
  obtain ⟨h8, h9, _⟩ := h7 hr2
  refine ⟨E, tk, st, R, Y, h1, h2, h3, h4, h5, by omega, h8, ?_, ?_⟩
  · rw [h5]; exact aft_key (sown_key x 15) hq
  · rcases h9 with ⟨a, b⟩ | ⟨_, b⟩
    · exact .inl ⟨a, b⟩
    · exact .inr b
def Fit (last : ByteArray) (i : Nat) (x : List Sk) : Prop := Right x ∧ KeyOk x ∧ (i = 0 ∨ Cur last x)
def FitX (x : List Sk) : Prop := Right x ∧ KeyOk x
theorem right_nil : Right [] := ⟨fun i hi => absurd hi (Nat.not_lt_zero _), by simp [wh]⟩
set_option maxHeartbeats 16000000 in
set_option maxRecDepth 100000 in
theorem slotEnds_any (A : Option Addr) (n c : Nat) (L : List Sk) (KA : Option Addr) (kn kc : Nat) (KS : List ByteArray) (MA : Option Addr) (mn mc : Nat) (MS : List Int) (w : World) (hn : n = L.length) (hb : n ≤ maxLen) (ha : At w A (scs L)) (hkn : kn = KS.length) (hka : At w KA (sv KS)) (hmn : mn = MS.length) (hma : At w MA (iv MS)) :
    Calls Try.prog 9 #[.slice A n c, .slice KA kn kc, .slice MA mn mc] w fun e w' => e = .returned (.bool true) ∧ Below w.heap.size w w' := by
  have C1 := Lib.hid (fun W (hW : Below w.heap.size w W) => sown_any A n c L W hn hb (ha.below hW))
  have LX : Hid (min 15 n = (sownK L 15).length) := by show _ = _; rw [sownK_len, hn]
  have hx1 : min 15 n ≤ 15 := by omega
  have KX : Hid (KeyOk (sownK L 15)) := sown_key L 15
  generalize sownK L 15 = X at *
  generalize min 15 n = N at *
  have HKN := Lib.hid hkn
  have HKA := Lib.hid hka
  have HMN := Lib.hid hmn
  have HMA := Lib.hid hma
  clear hn hb ha hkn hka hmn hma
  go_enter Try.func9, Try.ntmps9
  go_wp2_with fail
  refine (awake26_any _).mono ?_
  rintro e w1 ⟨rfl, hb1⟩
  have HB1 := Lib.hid hb1
  clear hb1
  go_wp2_with fail
  refine (C1.out _ HB1.out).mono ?_
  rintro e w2 ⟨v5, v6, rfl, ho5, ho6, hb2⟩
  obtain ⟨A5, c5, rfl, hc5, hm5⟩ := own_slice ho5
  obtain ⟨A6, c6, rfl, hc6, hm6⟩ := own_slice ho6
  have T6 := Lib.hid (At.own ho6)
  have O6 := Lib.hid (own_mono ho6 HB1.out.size)
  have HB2 := Lib.hid (HB1.out.trans (hb2.mono HB1.out.size))
  clear ho5 ho6 hb2 C1 hc5 hm5
  go_wp2_with fail
  refine (right_any A6 N c6 X w2 LX.out (by omega) hc6 hm6 T6.out).mono ?_
  rintro e w3 ⟨rfl, hb3⟩
  have O63 := Lib.hid (own_below O6.out hb3)
  have HB3 := Lib.hid (HB2.out.trans (hb3.mono HB2.out.size))
  clear hb3 T6 O6 HB2 HB1
  go_upto_if 35 with fail
  go_cut [8] (fun p wx => ∃ (B : Option Addr) (m d : Nat) (x : List Sk), p = .slice B m d ∧ m ≤ 16 ∧ m ≤ d ∧ d ≤ maxLen ∧ Hid (m = x.length) ∧ Hid (FitX x) ∧ Hid (wx.ownsRow w.heap.size 63 2 (.slice B m d) m (scs x)) ∧ Hid (Below w.heap.size w wx))
  case first =>
    by_cases hr : Right X
    · rw [decide_eq_true hr]
      have HR := Lib.hid hr
      clear hr
      go_wp2_with fail
      go_meet
      exact ⟨A6, N, c6, X, rfl, by omega, hc6, hm6, LX, ⟨HR.out, KX.out⟩, O63, HB3⟩
    · rw [decide_eq_false hr]
      clear hr
      go_wp2_with fail
      go_meet
      exact ⟨none, 0, 0, [], rfl, by omega, by omega, by omega, rfl, ⟨right_nil, fun k hk => by cases hk⟩, World.ownsRow_nil _ _ _ _, HB3⟩
  case rest =>
    obtain ⟨B, m, d, x, rfl, hm16, hmd, hdm, hm, hF, hO, hbel⟩ := hcut
    rename World => W3
    clear O63 HB3 LX KX hc6 hm6
    go_upto_block 0 with fail
    go_cut [8, 9] (fun p q wx => ∃ (B : Option Addr) (m d : Nat) (x : List Sk) (last : ByteArray), p = .slice B m d ∧ q = .string last ∧ m ≤ 16 ∧ m ≤ d ∧ d ≤ maxLen ∧ Hid (m = x.length) ∧ Hid (∃ i, (Fit last i x ∧ (i = 0 → last = ByteArray.empty)) ∧ (kn ≠ 0 → i ≠ 0) ∧ i ≤ kn) ∧ Hid (wx.ownsRow w.heap.size 63 2 (.slice B m d) m (scs x)) ∧ Hid (Below w.heap.size w wx))
    case first =>
      go_wp2_with fail
      go_loopw [8, 9, 10] (fun x8 x9 x10 wr => ∃ (B : Option Addr) (m d : Nat) (x : List Sk) (last : ByteArray) (i : Nat), x8 = .slice B m d ∧ x9 = .string last ∧ x10 = .int .i64 i ∧ i ≤ 12 ∧ i ≤ kn ∧ m ≤ 16 ∧ m ≤ d ∧ d ≤ maxLen ∧ Hid (m = x.length) ∧ Hid (Fit last i x ∧ (i = 0 → last = ByteArray.empty)) ∧ Hid (wr.ownsRow w.heap.size 63 2 (.slice B m d) m (scs x)) ∧ Hid (Below w.heap.size w wr)) (fun _ _ i _ => 12 - (intOf i).toNat)
      case atStart => exact ⟨B, m, d, x, ByteArray.empty, 0, rfl, rfl, rfl, by omega, by omega, hm16, hmd, hdm, hm, Lib.hid ⟨⟨hF.out.1, hF.out.2, .inl rfl⟩, fun _ => rfl⟩, hO, hbel⟩
      case round =>
        clear hm hF hO hbel hm16 hmd hdm
        clear B m d x
        obtain ⟨B, m, d, x, last, i, rfl, rfl, rfl, hi12, hik, hm16, hmd, hdm, hm, hF, hO, hbel⟩ := hrel
        by_cases h1 : i < kn
        · by_cases h2 : i < 12
          ·
            have hki : (sv KS)[i]? = some (.string (KS[i]'(by have := HKN.out; omega))) := by unfold sv; rw [List.getElem?_map, List.getElem?_eq_getElem (by have := HKN.out; omega)]; rfl
            obtain ⟨kb, ko, rfl, hkb, hkc⟩ := HKA.out.one hki
            have HK := Lib.hid hkc
            generalize KS[i]'_ = key at *
            have hkd := (hbel.out.cell (p := ⟨kb, ko + i, none⟩) hkb).trans hkc
            clear hki hkc
            go_upto_if 49 with fail
            go_cut [11] (fun p wx => ∃ md : Int, p = .int .i64 md ∧ wx = wr)
            case first =>
              by_cases hmi : i < mn
              · have hmm : (iv MS)[i]? = some (.int .i64 (ats MS i)) := iv_at MS i (by have := HMN.out; omega)
                obtain ⟨mb, mo, rfl, hmb, hmc⟩ := HMA.out.one hmm
                have hmd2 := (hbel.out.cell (p := ⟨mb, mo + i, none⟩) hmb).trans hmc
                generalize ats MS i = md at *
                clear hmm hmc
                go_wp2_with fail
                go_meet
                exact ⟨_, rfl, rfl⟩
              · go_wp2_with fail
                go_meet
                exact ⟨0, rfl, rfl⟩
            case rest =>
              obtain ⟨md, rfl, rfl⟩ := hcut
              rename World => wr
              go_wp2_with fail
              refine (cut_any key 20 _ (by omega) (by omega)).mono ?_
              rintro e w5 ⟨rfl, rfl⟩
              rw [show (20 : Int).toNat = 20 from rfl]
              have HKQ : Hid (cutS (cutS key 20) 20 = cutS key 20) := cut_again key
              generalize cutS key 20 = kq at *
              have T := Lib.hid (At.own hO.out)
              go_wp2_with fail
              refine (sown_any B m d x _ hm.out (by unfold maxLen; omega) T.out).mono ?_
              rintro e w5 ⟨v5, v6, rfl, ho5, ho6, hb5⟩
              obtain ⟨E, tk, st, R, Y, C3, hE, hR, hst, hY, hYl, hYr, hYk, hYc⟩ := plan_step x (min 15 m) kq md hF.out.1.1 hF.out.1.2.1 (by rw [sownK_len, hm.out]) HKQ.out
              have LX : Hid (min 15 m = (sownK x 15).length) := by show _ = _; rw [sownK_len, hm.out]
              have hx1 : min 15 m ≤ 15 := by omega
              generalize sownK x 15 = X at *
              generalize min 15 m = N at *
              obtain ⟨A5, c5, rfl, hc5, hm5⟩ := own_slice ho5
              obtain ⟨A6, c6, rfl, hc6, hm6⟩ := own_slice ho6
              obtain ⟨RN, hRN⟩ : ∃ y, y = R.length := ⟨_, rfl⟩
              obtain ⟨M, hM⟩ : ∃ y, y = Y.length := ⟨_, rfl⟩
              rw [← hRN] at C3 hR
              rw [← hM] at hYl
              have C3 := Lib.hid C3
              have HE := Lib.hid hE
              have HRN := Lib.hid hRN
              have HST := Lib.hid hst
              have HY := Lib.hid hY
              have HM := Lib.hid hM
              have HF := Lib.hid (show Fit kq (i + 1) Y ∧ (i + 1 = 0 → kq = ByteArray.empty) from ⟨⟨hYr, hYk, .inr hYc⟩, fun e => by omega⟩)
              have T5 := Lib.hid (At.own ho5)
              have T6 := Lib.hid (At.own ho6)
              have HB5 := Lib.hid (hbel.out.trans (hb5.mono hbel.out.size))
              clear ho5 ho6 hb5 hE hRN hst hY hM hYr hYk hYc hO hbel hF hm T hkd hc5 hm5
              go_wp2_with fail
              refine (C3.out A5 c5 _ T5.out).mono ?_
              rintro e w6 ⟨v1, v2, rfl, o1, o2, hb6⟩
              obtain ⟨EA, ec, rfl, _, _⟩ := own_slice o1
              obtain ⟨RA, rc, rfl, _, _⟩ := own_slice o2
              have TE := Lib.hid (At.own o1)
              have TR := Lib.hid (At.own o2)
              have T66 := Lib.hid (T6.out.below hb6)
              have HB6 := Lib.hid (HB5.out.trans (hb6.mono HB5.out.size))
              clear o1 o2 hb6 T5 T6 C3 HB5
              go_wp2_with fail
              refine (after_any A6 N c6 X kq EA ec E tk st RA RN rc R w6 LX.out (by omega) HE.out HRN.out (by omega) HST.out T66.out TE.out TR.out).mono ?_
              rintro e w7 ⟨v8, rfl, ho8, hb7⟩
              rw [← HY.out, ← HM.out] at ho8
              obtain ⟨A8, c8, rfl, hc8, hm8⟩ := own_slice ho8
              have T8 := Lib.hid (At.own ho8)
              have O8 := Lib.hid (own_mono ho8 HB6.out.size)
              have HB7 := Lib.hid (HB6.out.trans (hb7.mono HB6.out.size))
              clear ho8 hb7 T66 TE TR HB6
              go_wp2_with fail
              refine (right_any A8 M c8 Y w7 HM.out (by omega) hc8 hm8 T8.out).mono ?_
              rintro e w8 ⟨rfl, hb8⟩
              rw [decide_eq_true HF.out.1.1]
              have O88 := Lib.hid (own_below O8.out hb8)
              have HB8 := Lib.hid (HB7.out.trans (hb8.mono HB7.out.size))
              clear hb8 O8 HB7 T8
              go_wp2_with fail
              go_roundw
              case rel => exact ⟨A8, M, c8, Y, kq, i + 1, rfl, rfl, by go_num, by omega, by omega, by omega, hc8, hm8, HM, HF, O88, HB8⟩
              case measure => simp [intOf]; omega
          · obtain rfl : i = 12 := by omega
            have HI : Hid (∃ i, (Fit last i x ∧ (i = 0 → last = ByteArray.empty)) ∧ (kn ≠ 0 → i ≠ 0) ∧ i ≤ kn) := ⟨12, hF.out, by omega, hik⟩
            go_wp2_with fail
            go_meet
            exact ⟨B, m, d, x, last, rfl, rfl, hm16, hmd, hdm, hm, HI, hO, hbel⟩
        · obtain rfl : kn = i := by omega
          have HI : Hid (∃ i, (Fit last i x ∧ (i = 0 → last = ByteArray.empty)) ∧ (kn ≠ 0 → i ≠ 0) ∧ i ≤ kn) := ⟨kn, hF.out, id, hik⟩
          go_wp2_with fail
          go_meet
          exact ⟨B, m, d, x, last, rfl, rfl, hm16, hmd, hdm, hm, HI, hO, hbel⟩
    case rest =>
      clear hm hF hO hbel hm16 hmd hdm
      clear B m d x
      obtain ⟨B, m, d, x, last, rfl, rfl, hm16, hmd, hdm, hm, hI, hO, hbel⟩ := hcut
      rename World => W4
      obtain ⟨i, hF0, HI0, hik⟩ := hI.out
      have hF := Lib.hid hF0
      have HI := Lib.hid HI0
      clear hI hF0 HI0
      go_upto_region 19 with fail
      go_cut [89] (fun p wx => p = .bool (decide (kn = 0) && (cur x).isSome) ∧ Hid (wx.ownsRow w.heap.size 63 2 (.slice B m d) m (scs x)) ∧ Hid (Below w.heap.size w wx))
      case first =>
        obtain hcn | ⟨a, hca⟩ : cur x = none ∨ ∃ a, cur x = some a := by
          cases cur x with
          | none => exact .inl rfl
          | some a => exact .inr ⟨a, rfl⟩
        · have T := Lib.hid (At.own hO.out)
          have C2 := Lib.hid (rcurrent_any B m d x W4 hm.out (by omega) T.out)
          rw [hcn, show oI2 none = -2 from rfl] at C2
          have HN : Hid ((cur x).isSome = false) := by show _ = _; rw [hcn]; rfl
          clear hcn
          by_cases hk0 : kn = 0
          · have HK0 : Hid (decide (kn = 0) = true) := decide_eq_true hk0
            subst hk0
            go_wp2_with fail
            refine C2.out.mono ?_
            rintro e W5 ⟨rfl, hb5⟩
            have O5 := Lib.hid (own_below hO.out hb5)
            have B5 := Lib.hid (hbel.out.trans (hb5.mono hbel.out.size))
            clear hb5 C2
            go_wp2_with fail
            go_meet
            exact ⟨by rw [HN.out]; simp, O5, B5⟩
          · have HK0 : Hid (decide (kn = 0) = false) := decide_eq_false hk0
            have hk1 : ¬ (kn : Int) = 0 := by omega
            have hk2 : ((kn : Int) == 0) = false := by simpa using hk1
            clear hk0
            go_wp2_with fail
            go_meet
            exact ⟨by rw [HK0.out]; rfl, hO, hbel⟩
        · have T := Lib.hid (At.own hO.out)
          have C2 := Lib.hid (rcurrent_any B m d x W4 hm.out (by omega) T.out)
          rw [hca, show oI2 (some a) = (a : Int) from rfl] at C2
          have HN : Hid ((cur x).isSome = true) := by show _ = _; rw [hca]; rfl
          have ha0 : (0 : Int) ≤ (a : Int) := by omega
          clear hca
          by_cases hk0 : kn = 0
          · have HK0 : Hid (decide (kn = 0) = true) := decide_eq_true hk0
            subst hk0
            go_wp2_with fail
            refine C2.out.mono ?_
            rintro e W5 ⟨rfl, hb5⟩
            have O5 := Lib.hid (own_below hO.out hb5)
            have B5 := Lib.hid (hbel.out.trans (hb5.mono hbel.out.size))
            clear hb5 C2
            go_wp2_with fail
            go_meet
            exact ⟨by rw [HN.out]; simp, O5, B5⟩
          · have HK0 : Hid (decide (kn = 0) = false) := decide_eq_false hk0
            have hk1 : ¬ (kn : Int) = 0 := by omega
            have hk2 : ((kn : Int) == 0) = false := by simpa using hk1
            clear hk0
            go_wp2_with fail
            go_meet
            exact ⟨by rw [HK0.out]; rfl, hO, hbel⟩
      case rest =>
       obtain ⟨rfl, hO2, hbel2⟩ := hcut
       clear hO hbel
       rename World => W4
       have hO := hO2
       have hbel := hbel2
       clear hO2 hbel2
       go_upto_if 89 with fail
       go_cut [9] (fun p wx => ∃ lst : ByteArray, p = .string lst ∧ Hid (Stage lst 0 x) ∧ Hid (wx.ownsRow w.heap.size 63 2 (.slice B m d) m (scs x)) ∧ Hid (Below w.heap.size w wx))
       case first =>
         by_cases hb : (decide (kn = 0) && (cur x).isSome) = true
         · rw [hb]
           rw [Bool.and_eq_true] at hb
           obtain ⟨a, hca⟩ := Option.isSome_iff_exists.mp hb.2
           clear hb
           have T := Lib.hid (At.own hO.out)
           have C2 := Lib.hid (rcurrent_any B m d x W4 hm.out (by omega) T.out)
           rw [hca, show oI2 (some a) = (a : Int) from rfl] at C2
           have hal := (cur_some hca).1
           rw [← hm.out] at hal
           obtain ⟨eb, rfl, heb, hebl⟩ := erow_addr hO.out (by omega)
           have ha0 : (0 : Int) ≤ (a : Int) := by omega
           have ha1 : (a : Int) < (m : Int) := by omega
           have HS : Hid (Stage (sk x a).1 0 x) := stage0 hF.out.1.1 (by have := hm.out; omega) (.inr ⟨a, hca, by have := hm.out; omega, rfl⟩)
           have HKC := Lib.hid (own_sk hO.out hm.out hal).1
           generalize (sk x a).1 = s at *
           clear hca
           go_wp2_with fail
           refine C2.out.mono ?_
           rintro e W5 ⟨rfl, hb5⟩
           have O5 := Lib.hid (own_below hO.out hb5)
           have B5 := Lib.hid (hbel.out.trans (hb5.mono hbel.out.size))
           have hc6 := (hb5.cell (p := ⟨eb, a * 2, none⟩) hebl).trans HKC.out
           clear hb5
           go_wp2_with fail
           go_meet
           exact ⟨s, rfl, HS, O5, B5⟩
         · have hbf : (decide (kn = 0) && (cur x).isSome) = false := by simpa using hb
           rw [hbf]
           have HS : Hid (Stage last 0 x) := stage0 hF.out.1.1 (by have := hm.out; omega) (by
             rcases hF.out.1.2.2 with e | e
             · refine .inl ⟨hF.out.2 e, ?_⟩
               by_cases hk : kn = 0
               · rw [decide_eq_true hk, Bool.true_and] at hbf
                 cases h : cur x with
                 | none => rfl
                 | some a => rw [h] at hbf; cases hbf
               · exact absurd e (HI.out hk)
             · exact e)
           clear hb hbf
           go_wp2_with fail
           go_meet
           exact ⟨last, rfl, HS, hO, hbel⟩
       case rest =>
         obtain ⟨lst, rfl, hS, hO2, hbel2⟩ := hcut
         rename World => W5
         clear hF hO hbel HI
         go_wp2_with fail
         go_loopw [8, 96] (fun x8 x96 wr => ∃ (B : Option Addr) (m d : Nat) (x : List Sk) (k : Nat), x8 = .slice B m d ∧ x96 = .int .i64 k ∧ k ≤ 3 ∧ m ≤ 16 ∧ m ≤ d ∧ d ≤ maxLen ∧ Hid (m = x.length) ∧ Hid (Stage lst k x) ∧ Hid (wr.ownsRow w.heap.size 63 2 (.slice B m d) m (scs x)) ∧ Hid (Below w.heap.size w wr)) (fun _ i _ => 3 - (intOf i).toNat)
         case atStart => exact ⟨B, m, d, x, 0, rfl, rfl, by omega, hm16, hmd, hdm, hm, hS, hO2, hbel2⟩
         case round =>
           clear hm hS hO2 hbel2 hm16 hmd hdm hik
           clear B m d x
           obtain ⟨B, m, d, x, k, rfl, rfl, hk3, hm16, hmd, hdm, hm, hS, hO, hbel⟩ := hrel
           by_cases hlt : k < 3
           · have HLT := Lib.hid hlt
             have hkl : decide ((k : Int) < 3) = true := decide_eq_true (by omega)
             go_wp2_with fail
             go_loopw [98] (fun x98 wr => ∃ (j : Nat), x98 = .int .i64 j ∧ j ≤ 2 ∧ Hid (wr.ownsRow w.heap.size 63 2 (.slice B m d) m (scs (stepN j x))) ∧ Hid (Below w.heap.size w wr)) (fun i _ => 2 - (intOf i).toNat)
             case atStart => exact ⟨0, rfl, by omega, hO, hbel⟩
             case round =>
               clear hO hbel
               obtain ⟨j, rfl, hj2, hO, hbel⟩ := hrel
               have HML : Hid (m = (stepN j x).length) := by show _ = _; rw [stepN_len]; exact hm.out
               by_cases hjl : j < 2
               · obtain ⟨y, hy⟩ : ∃ y, y = stepN j x := ⟨_, rfl⟩
                 have HNX : Hid (stepN (j + 1) x = enterAt (goes y (nextL (y.take 15))) (nextB (y.take 15))) := by show stepL (stepN j x) = _; rw [← hy]; rfl
                 rw [← hy] at hO HML
                 clear hy
                 have T := Lib.hid (At.own hO.out)
                 have hjd : decide ((j : Int) < 2) = true := decide_eq_true (by omega)
                 go_wp2_with fail
                 refine (sown_any B m d y _ HML.out (by unfold maxLen; omega) T.out).mono ?_
                 rintro e w5 ⟨v5, v6, rfl, ho5, ho6, hb5⟩
                 obtain ⟨A5, c5, rfl, hc5, hm5⟩ := own_slice ho5
                 obtain ⟨A6, c6, rfl, hc6, hm6⟩ := own_slice ho6
                 have T5 := Lib.hid (At.own ho5)
                 have O5 := Lib.hid (own_below hO.out hb5)
                 have B5 := Lib.hid (hbel.out.trans (hb5.mono hbel.out.size))
                 have LX : Hid (min 15 m = (sownK y 15).length) := by show _ = _; rw [sownK_len, HML.out]
                 have hx1 : min 15 m ≤ 15 := by omega
                 have C4 := Lib.hid (fun W (hW : Below w5.heap.size w5 W) => snext_any A5 (min 15 m) c5 (sownK y 15) W LX.out (by omega) (T5.out.below hW))
                 rw [(sown_next y 15).1, (sown_next y 15).2] at C4
                 generalize sownK y 15 = X at *
                 generalize min 15 m = N at *
                 obtain ⟨l, hl⟩ : ∃ l, l = nextL (y.take 15) := ⟨_, rfl⟩
                 obtain ⟨b, hbb⟩ : ∃ b, b = nextB (y.take 15) := ⟨_, rfl⟩
                 rw [← hl, ← hbb] at C4 HNX
                 have HLL : Hid (l.length ≤ 15 ∧ ∀ i (h : i < l.length), l[i] < y.length) := by
                   constructor
                   · rw [hl]; have := next_len (y.take 15); rw [List.length_take] at this; omega
                   · intro i h
                     have h2 : l[i] ∈ nextL (y.take 15) := by rw [← hl]; exact List.getElem_mem h
                     have := next_lt h2
                     rw [List.length_take] at this
                     omega
                 clear ho5 ho6 hb5 hl hbb hc5 hm5 hc6 hm6 hO hbel T
                 go_wp2_with fail
                 refine (C4.out _ (Below.refl _ _)).mono ?_
                 rintro e w6 ⟨v7, rfl, ho7, hb6⟩
                 obtain ⟨ln, hln⟩ : ∃ q, q = l.length := ⟨_, rfl⟩
                 rw [← hln] at ho7
                 have HLN := Lib.hid hln
                 obtain ⟨A7, c7, rfl, hc7, hm7⟩ := own_slice ho7
                 have O6 := Lib.hid (own_below O5.out hb6)
                 have O7 := Lib.hid ho7
                 have HL7 : Hid (ln ≤ 15) := by show _ ≤ _; rw [hln]; exact HLL.out.1
                 have hl7 := HL7.out
                 have B6 := Lib.hid (B5.out.trans (hb6.mono B5.out.size))
                 obtain ⟨g7, hg7⟩ : ∃ g, g = w5.heap.size := ⟨_, rfl⟩
                 rw [← hg7] at O7
                 have HG7 : Hid (∀ q, (Value.slice B m d).ownBlock = some q → q < g7) := fun q hq => by have := (O5.out.lt q hq).2; omega
                 have HW7 : Hid (w.heap.size ≤ g7) := by have := B5.out.size; show _ ≤ _; omega
                 clear ho7 hb6 hln C4 T5 O5 B5 hg7 HL7
                 go_wp2_with fail
                 go_loopw [112] (fun x112 wr => ∃ (q : Nat), x112 = .int .i64 q ∧ q ≤ ln ∧ Hid (wr.ownsRow w.heap.size 63 2 (.slice B m d) m (scs (goes y (l.take q)))) ∧ Hid (wr.ownsRow g7 3 1 (.slice A7 ln c7) ln (nv l)) ∧ Hid (Below w.heap.size w wr)) (fun i _ => ln - (intOf i).toNat)
                 case atStart => exact ⟨0, rfl, by omega, by rw [goes_zero]; exact O6, O7, B6⟩
                 case round =>
                   clear O6 O7 B6
                   obtain ⟨q, rfl, hq, hO, hO7, hbel⟩ := hrel
                   obtain ⟨yq, hyq⟩ : ∃ yq, yq = goes y (l.take q) := ⟨_, rfl⟩
                   have HLQ : Hid (m = yq.length) := by show _ = _; rw [hyq, goes_len]; exact HML.out
                   by_cases hql : q < ln
                   · have hq2 : q < l.length := by have := HLN.out; omega
                     obtain ⟨p, hp⟩ : ∃ p, p = l[q] := ⟨_, rfl⟩
                     have hpm : p < m := by rw [hp, HML.out]; exact HLL.out.2 q hq2
                     have HMO : Hid (goes y (l.take (q + 1)) = yq.set p ((sk yq p).1, 6)) := by show _ = _; rw [goes_more y l q hq2 (HLL.out.2 q hq2), ← hyq, ← hp]
                     rw [← hyq] at hO
                     obtain ⟨eb, rfl, heb, hebl⟩ := erow_addr hO.out (by omega)
                     obtain ⟨lb, rfl, hlb, hlbl⟩ := erow_addr hO7.out (by omega)
                     have hc7 : wr.cell? ⟨lb, q, none⟩ = some (.int .i64 (p : Int)) := by
                       rw [hO7.out.cellAt q (by omega)]
                       unfold nv
                       rw [List.getElem?_map, List.getElem?_eq_getElem hq2, hp]
                       rfl
                     obtain ⟨_, hk1, hk2⟩ := own_sk hO.out HLQ.out hpm
                     have HOP := Lib.hid (own_put hO.out HLQ.out hpm 6)
                     have HO7 := Lib.hid (hO7.out.kept (grown_set wr ⟨eb, p * 2 + 1, none⟩ (.int .i64 6)) (.inr (by intro e; have e2 : some lb = some eb := e; injection e2 with e2; have := HG7.out eb rfl; omega)))
                     have BF := Lib.hid (hbel.out.setCell (p := ⟨eb, p * 2 + 1, none⟩) heb (.int .i64 6))
                     rw [← HMO.out] at HOP
                     generalize (sk yq p).2 = z at *
                     clear hyq hp hq2 hO hO7 hbel HMO HLQ
                     have hp0 : (0 : Int) ≤ (p : Int) := by omega
                     have hp1 : (p : Int) < (m : Int) := by omega
                     have hp2 : decide ((p : Int) < 0) = false := decide_eq_false (by omega)
                     have hp3 : decide ((m : Int) ≤ (p : Int)) = false := decide_eq_false (by omega)
                     have hp4 : decide (m ≤ p) = false := decide_eq_false (by omega)
                     go_wp2_with fail
                     go_roundw
                     case rel => exact ⟨q + 1, by go_num, by omega, HOP, HO7, BF⟩
                     case measure => simp [intOf]; omega
                   · obtain rfl : ln = q := by omega
                     rw [HLN.out, List.take_length] at hyq
                     rw [show l.take ln = l by rw [HLN.out, List.take_length], ← hyq] at hO
                     rw [← hyq] at HNX
                     have T7 := Lib.hid (At.own hO.out)
                     have C5 := Lib.hid (rcurrent_any B m d yq wr HLQ.out (by omega) T7.out)
                     clear hyq T7 hO7
                     go_wp2_with fail
                     refine C5.out.mono ?_
                     rintro e w8 ⟨rfl, hb8⟩
                     have O8 := Lib.hid (own_below hO.out hb8)
                     have B8 := Lib.hid (hbel.out.trans (hb8.mono hbel.out.size))
                     clear hb8 hO hbel C5
                     cases b with
                     | false =>
                       have HE : Hid (stepN (j + 1) x = yq) := by show _ = _; rw [HNX.out, enterAt_false]
                       generalize oI2 (cur yq) = aa at *
                       go_wp2_with fail
                       go_roundw
                       case rel => exact ⟨j + 1, by go_num, by omega, by rw [HE.out]; exact O8, B8⟩
                       case measure => simp [intOf]; omega
                     | true =>
                       obtain hcn | ⟨a, hca⟩ : cur yq = none ∨ ∃ a, cur yq = some a := by
                         cases cur yq with
                         | none => exact .inl rfl
                         | some a => exact .inr ⟨a, rfl⟩
                       · have HE : Hid (stepN (j + 1) x = yq) := by show _ = _; rw [HNX.out]; unfold enterAt; rw [if_pos rfl, hcn]
                         rw [hcn, show oI2 none = -2 from rfl]
                         clear hcn
                         go_wp2_with fail
                         go_roundw
                         case rel => exact ⟨j + 1, by go_num, by omega, by rw [HE.out]; exact O8, B8⟩
                         case measure => simp [intOf]; omega
                       · have HE : Hid (stepN (j + 1) x = yq.set a ((sk yq a).1, 3)) := by show _ = _; rw [HNX.out]; unfold enterAt; rw [if_pos rfl, hca]
                         have ham := (cur_some hca).1
                         rw [← HLQ.out] at ham
                         rw [hca, show oI2 (some a) = (a : Int) from rfl]
                         clear hca
                         obtain ⟨eb, rfl, heb, hebl⟩ := erow_addr O8.out (by omega)
                         obtain ⟨_, hk1, hk2⟩ := own_sk O8.out HLQ.out ham
                         have HOP := Lib.hid (own_put O8.out HLQ.out ham 3)
                         have BF := Lib.hid (B8.out.setCell (p := ⟨eb, a * 2 + 1, none⟩) heb (.int .i64 3))
                         rw [← HE.out] at HOP
                         generalize (sk yq a).2 = z at *
                         clear HE O8 B8 HNX
                         have ha0 : (0 : Int) ≤ (a : Int) := by omega
                         have ha1 : (a : Int) < (m : Int) := by omega
                         go_wp2_with fail
                         go_roundw
                         case rel => exact ⟨j + 1, by go_num, by omega, HOP, BF⟩
                         case measure => simp [intOf]; omega
               · obtain rfl : j = 2 := by omega
                 obtain ⟨y, hy⟩ : ∃ y, y = stepN 2 x := ⟨_, rfl⟩
                 have HSN : Hid (Stage lst (k + 1) (filtL y)) := by rw [hy]; exact stage_next HLT.out hS.out
                 rw [← hy] at hO HML
                 obtain ⟨g2, hg2⟩ : ∃ g, g = wr.heap.size := ⟨_, rfl⟩
                 have HG2 := Lib.hid hg2
                 have HXL : Hid (∀ q, (Value.slice B m d).ownBlock = some q → q < g2) := fun q hq => by have := (hO.out.lt q hq).2; omega
                 have HWG : Hid (w.heap.size ≤ g2) := by have := hbel.out.size; show _ ≤ _; omega
                 clear hy hg2 hm hS
                 go_wp2_with fail
                 go_loopw [23, 143] (fun x23 x143 wr => ∃ (i : Nat) (v : Value), x23 = v ∧ x143 = .int .i64 i ∧ i ≤ m ∧ Hid (wr.ownsRow w.heap.size 63 2 (.slice B m d) m (scs y)) ∧ Hid (wr.ownsRow g2 63 2 v (filtL (y.take i)).length (scs (filtL (y.take i)))) ∧ Hid (g2 ≤ wr.heap.size) ∧ Hid (Below w.heap.size w wr)) (fun _ i _ => m - (intOf i).toNat)
                 case atStart => exact ⟨0, .slice none 0 0, rfl, rfl, by omega, hO, World.ownsRow_nil _ _ _ _, Lib.hid (Nat.le_of_eq HG2.out), hbel⟩
                 case round =>
                   clear hO hbel HG2
                   obtain ⟨i, v, rfl, rfl, hi, hO, hO2, hg2, hbel⟩ := hrel
                   obtain ⟨F, hFq⟩ : ∃ F, F = filtL (y.take i) := ⟨_, rfl⟩
                   rw [← hFq] at hO2
                   obtain ⟨B2, d2, rfl, hd2, hm2⟩ := own_slice hO2.out
                   have hFl : F.length ≤ i := by rw [hFq]; have := filt_le (y.take i); rw [List.length_take] at this; omega
                   by_cases hil : i < m
                   · have HFN := filt_next y i (by have := HML.out; omega)
                     rw [← hFq] at HFN
                     have HFN := Lib.hid HFN
                     obtain ⟨eb, rfl, heb, hebl⟩ := erow_addr hO.out (by omega)
                     obtain ⟨hc0, hc1, _⟩ := own_sk hO.out HML.out hil
                     have hou : outL (sk y i) = if fixK (sk y i).2 = 5 ∨ fixK (sk y i).2 = 6 then none else some ((sk y i).1, fixK (sk y i).2) := rfl
                     generalize outL (sk y i) = ou at *
                     generalize (sk y i).1 = s at *
                     generalize (sk y i).2 = z at *
                     have HOU := Lib.hid hou
                     obtain ⟨gk, hgk⟩ : ∃ g, g = wr.heap.size := ⟨_, rfl⟩
                     obtain ⟨W3, hW3⟩ : ∃ W, W = wr.alloc (.cells #[.string s, .int .i64 z] 63) := ⟨_, rfl⟩
                     have hb3 : Below wr.heap.size wr W3 := by rw [hW3]; exact below_alloc wr _
                     have K3 := Lib.hid (show Blk W3 gk 63 #[.string s, .int .i64 z] by rw [hW3, hgk]; exact Blk.new wr _ _)
                     have O3 := Lib.hid (own_below hO.out hb3)
                     have O23 := Lib.hid (own_below hO2.out hb3)
                     have B3 := Lib.hid (hbel.out.trans (hb3.mono hbel.out.size))
                     have HW3 := Lib.hid hW3
                     have HGK := Lib.hid hgk
                     have HLK : Hid (g2 ≤ gk ∧ (∀ q, (Value.slice B2 F.length d2).ownBlock = some q → q < gk) ∧ W3.heap.size = gk + 1) := ⟨by rw [hgk]; exact hg2.out, fun q hq => by have := (hO2.out.lt q hq).2; omega, by rw [hW3, hgk]; simp⟩
                     clear hou hFq hW3 hgk hb3 hO hO2 hbel hg2
                     go_upto_region 42 with fail
                     rw [← HW3.out, ← HGK.out]
                     clear hc0 hc1
                     have f1 := K3.out.cell 1 (v := .int .i64 z) rfl
                     have p1 := K3.out.frozen 1
                     go_cut [154] (fun p wx => p = .bool (decide (z = 2) || decide (z = 3)) ∧ wx = W3)
                     case first =>
                       by_cases z2 : z = 2
                       · have q2 : (z == 2) = true := by simpa using z2
                         have HZ : Hid ((decide (z = 2) || decide (z = 3)) = true) := by show _ = _; rw [decide_eq_true z2]; rfl
                         clear z2
                         go_wp2_with fail
                         go_meet
                         exact ⟨by rw [HZ.out], rfl⟩
                       · have q2 : (z == 2) = false := by simpa using z2
                         by_cases z3 : z = 3
                         · have q3 : (z == 3) = true := by simpa using z3
                           have HZ : Hid ((decide (z = 2) || decide (z = 3)) = true) := by show _ = _; rw [decide_eq_true z3]; simp
                           clear z2 z3
                           go_wp2_with fail
                           go_meet
                           exact ⟨by rw [HZ.out], rfl⟩
                         · have q3 : (z == 3) = false := by simpa using z3
                           have HZ : Hid ((decide (z = 2) || decide (z = 3)) = false) := by show _ = _; rw [decide_eq_false z2, decide_eq_false z3]; rfl
                           clear z2 z3
                           go_wp2_with fail
                           go_meet
                           exact ⟨by rw [HZ.out], rfl⟩
                     case rest =>
                      obtain ⟨rfl, rfl⟩ := hcut
                      rename World => W3
                      have f1 := K3.out.cell 1 (v := .int .i64 z) rfl
                      have p1 := K3.out.frozen 1
                      go_upto_if 154 with fail
                      go_cut [] (fun wx => Hid (Blk wx gk 63 #[.string s, .int .i64 (fixK z)]) ∧ Hid (wx.ownsRow w.heap.size 63 2 (.slice (some ⟨eb, 0, none⟩) m d) m (scs y)) ∧ Hid (wx.ownsRow g2 63 2 (.slice B2 F.length d2) F.length (scs F)) ∧ Hid (wx.heap.size = gk + 1) ∧ Hid (Below w.heap.size w wx))
                      case first =>
                        by_cases hz : (decide (z = 2) || decide (z = 3)) = true
                        · rw [hz]
                          have HFX : Hid (fixK z = 0) := by
                            show _ = _
                            unfold fixK
                            rw [if_pos (by simpa using hz)]
                          obtain ⟨U3, hU3⟩ : ∃ U, U = W3.setCell ⟨gk, 1, none⟩ (.int .i64 0) := ⟨_, rfl⟩
                          have KU : Hid (Blk U3 gk 63 #[.string s, .int .i64 0]) := by rw [hU3]; exact K3.out.set 1 _
                          have OU := Lib.hid (show U3.ownsRow w.heap.size 63 2 _ m (scs y) by rw [hU3]; exact O3.out.kept (grown_set W3 ⟨gk, 1, none⟩ _) (.inr (by intro e; have e2 : some eb = some gk := e; injection e2 with e2; have := HXL.out eb rfl; have := HLK.out.1; omega)))
                          have OU2 := Lib.hid (show U3.ownsRow g2 63 2 (.slice B2 F.length d2) F.length (scs F) by rw [hU3]; exact O23.out.kept (grown_set W3 ⟨gk, 1, none⟩ _) (.inr (by intro e; have := HLK.out.2.1 gk e; omega)))
                          have SU : Hid (U3.heap.size = gk + 1) := by show _ = _; rw [hU3]; simp; exact HLK.out.2.2
                          have BU := Lib.hid (show Below w.heap.size w U3 by rw [hU3]; exact B3.out.setCell (p := ⟨gk, 1, none⟩) (by have := HWG.out; have := HLK.out.1; show _ ≤ gk; omega) _)
                          have HU3 := Lib.hid hU3
                          clear hU3 hz
                          go_wp2_with fail
                          rw [← HU3.out]
                          go_meet
                          exact ⟨by rw [HFX.out]; exact KU, OU, OU2, SU, BU⟩
                        · have hz2 : (decide (z = 2) || decide (z = 3)) = false := by simpa using hz
                          rw [hz2]
                          have HFX : Hid (fixK z = z) := by
                            show _ = _
                            unfold fixK
                            rw [if_neg (by simpa using hz)]
                          have SU : Hid (W3.heap.size = gk + 1) := HLK.out.2.2
                          clear hz hz2
                          go_wp2_with fail
                          go_meet
                          exact ⟨by rw [HFX.out]; exact K3, O3, O23, SU, B3⟩
                      case rest =>
                        obtain ⟨K4, O4, O24, hsz, B4⟩ := hcut
                        rename World => W4
                        clear K3 O3 O23 B3 f1 p1 HW3
                        obtain ⟨u, hu⟩ : ∃ u, u = fixK z := ⟨_, rfl⟩
                        rw [← hu] at K4
                        have HOU2 : Hid (ou = if u = 5 ∨ u = 6 then none else some (s, u)) := by show _ = _; rw [HOU.out, hu]
                        clear hu HOU
                        have f0 := K4.out.cell 0 (v := .string s) rfl
                        have f1 := K4.out.cell 1 (v := .int .i64 u) rfl
                        by_cases u5 : u = 5
                        · have q5 : (u != 5) = false := by simpa using u5
                          have HFE : Hid (filtL (y.take (i + 1)) = F) := by show _ = _; rw [HFN.out, HOU2.out, if_pos (.inl u5)]; simp
                          clear u5
                          go_wp2_with fail
                          go_roundw
                          case rel => exact ⟨i + 1, .slice B2 F.length d2, rfl, by go_num, by omega, O4, by rw [HFE.out]; exact O24, Lib.hid (by have := hsz.out; have := HLK.out.1; omega), B4⟩
                          case measure => simp [intOf]; omega
                        · have q5 : (u != 5) = true := by simpa using u5
                          by_cases u6 : u = 6
                          · have q6 : (u != 6) = false := by simpa using u6
                            have HFE : Hid (filtL (y.take (i + 1)) = F) := by show _ = _; rw [HFN.out, HOU2.out, if_pos (.inr u6)]; simp
                            clear u5 u6
                            go_wp2_with fail
                            go_roundw
                            case rel => exact ⟨i + 1, .slice B2 F.length d2, rfl, by go_num, by omega, O4, by rw [HFE.out]; exact O24, Lib.hid (by have := hsz.out; have := HLK.out.1; omega), B4⟩
                            case measure => simp [intOf]; omega
                          · have q6 : (u != 6) = true := by simpa using u6
                            have HFE : Hid (filtL (y.take (i + 1)) = F ++ [(s, u)]) := by show _ = _; rw [HFN.out, HOU2.out, if_neg (fun h => h.elim u5 u6)]; rfl
                            clear u5 u6
                            obtain ⟨i0, hi0, hz0, hz1, hz2⟩ := info_parts infoSk
                            obtain ⟨v1, w1, hrun, hown1, hgrow1, _, hat1⟩ := run_append_own_at (P := Try.prog) (W4.alloc (.cells #[.string s, .int .i64 u] 63)) g2 44 44 63 i0 (.agg #[.string { data := #[] }, .int .i64 0]) 2 24 Try.underlying44 hi0 hz0 hz1 hz2 rfl (by decide) _ _ _ (O24.out.alloc (.cells #[.string s, .int .i64 u] 63)) ⟨W4.heap.size, 0, none⟩ 1 1 [.string s, .int .i64 u] rfl (cells_new' _ _ _ _ rfl _ rfl) (fun u hu => by simp at hu; rcases hu with rfl | rfl <;> rfl) (by unfold maxLen; omega) (by omega) (by rw [size_alloc]; have := hsz.out; have := HLK.out.1; omega)
                            obtain ⟨A1, c1, rfl, hc1, hm1⟩ := own_slice hown1
                            have hbk := HLK.out
                            have OY := Lib.hid ((O4.out.alloc (.cells #[.string s, .int .i64 u] 63)).kept hgrow1 (.inr (by
                              intro e
                              have h1 := HXL.out eb rfl
                              rcases hx : (Value.slice B2 F.length d2).ownBlock with _ | q
                              · rw [hx] at e; cases e
                              · rw [hx] at e; have e2 : some eb = some q := e; injection e2 with e2; have := own_from O24.out q hx; omega)))
                            have OF : Hid (w1.ownsRow g2 63 2 (.slice A1 (F.length + 1) c1) (filtL (y.take (i + 1))).length (scs (filtL (y.take (i + 1))))) := by
                              show World.ownsRow _ _ _ _ _ _ _
                              rw [HFE.out, List.length_append, scs_app]
                              exact hown1
                            have BF := Lib.hid (Below.grown (B4.out.alloc B4.out.size (.cells #[.string s, .int .i64 u] 63)) hgrow1 (by rw [size_alloc]; have := B4.out.size; omega) (fun j hj => by have := own_from O24.out j hj; have := HWG.out; omega))
                            have GF : Hid (g2 ≤ w1.heap.size) := by have h7 := hgrow1.size; rw [size_alloc] at h7; have := hsz.out; show _ ≤ _; omega
                            clear hown1 hgrow1 hat1 hbk
                            go_wp2_with fail
                            clear hrun
                            go_roundw
                            case rel => exact ⟨i + 1, .slice A1 (F.length + 1) c1, rfl, by go_num, by omega, OY, OF, GF, BF⟩
                            case measure => simp [intOf]; omega
                   · obtain rfl : m = i := by omega
                     rw [HML.out, List.take_length] at hFq
                     rw [← hFq] at HSN
                     have HLF := Lib.hid (stage_len HSN.out)
                     have HFLL : Hid (F.length = F.length) := rfl
                     have hlf := HLF.out
                     have O9 := Lib.hid (own_mono hO2.out HWG.out)
                     clear hFq hO2 hO hg2 hFl HLF
                     go_wp2_with fail
                     go_roundw
                     case rel => exact ⟨B2, F.length, d2, F, k + 1, rfl, by go_num, by omega, hlf, hd2, hm2, HFLL, HSN, O9, hbel⟩
                     case measure => simp [intOf]; omega
           · obtain rfl : k = 3 := by omega
             have hS2 : (x = [] ∧ lst = ByteArray.empty) ∨ x = [(lst, 0)] := hS.out
             have HBF := hbel
             rcases hS2 with ⟨hx, hl⟩ | hx
             · have hm0 : m = 0 := by rw [hm.out, hx]; rfl
               have hkm : lst.toList.isEmpty = true := str_em hl
               clear hx hl hS hm hO
               subst hm0
               go_wp2_with fail
               go_ret
               exact ⟨rfl, HBF.out⟩
             · have hm1 : m = 1 := by rw [hm.out, hx]; rfl
               obtain ⟨eb, rfl, heb, hebl⟩ := erow_addr hO.out (by omega)
               obtain ⟨hc0, hc1, _⟩ := own_sk hO.out hm.out (k := 0) (by omega)
               have hs0 : sk x 0 = (lst, 0) := by rw [hx]; rfl
               rw [hs0] at hc0 hc1
               have hst : (lst.toList == lst.toList) = true := by simp
               clear hx hs0 hS hm hO
               subst hm1
               go_wp2_with fail
               go_ret
               exact ⟨rfl, HBF.out⟩
end Go.Proofs.Ytfapghekakdpgaa
