/- Contract of the document's Pair. -/
import Derived.Test.YtaojjcnghkjgfaaMaW4
import Derived.Deep.DeepCutAuto
namespace Go.Proofs.Ytaojjcnghkjgfaa
open Go.RowKit Ma
theorem below_heap {B : Nat} {a w w' : World} (h : Below B a w) (h1 : w'.heap = w.heap) (h2 : w'.os = w.os) (h3 : w'.tape = w.tape) (h4 : w'.output = w.output) : Below B a w' :=
  ⟨h2.trans h.os, h3.trans h.tape, h4.trans h.output, by rw [h1]; exact h.size, fun j hj => by rw [h1]; exact h.block j hj⟩
theorem below_join {a b c : World} (h : Below a.heap.size a b) (k : Below b.heap.size b c) : Below a.heap.size a c := h.trans (k.mono h.size)
theorem at_addr {w : World} {base : Nat} {e : TypeId} {size n : Nat} {v : Value} {xs : List Value} (h : w.ownsRow base e size v n xs) : ∃ A c, v = .slice A n c ∧ n ≤ c ∧ c ≤ maxLen ∧ At w A xs ∧ (A = none → n = 0 ∧ c = 0) := by
  obtain ⟨A, c, rfl, h1, h2⟩ := own_slice h
  exact ⟨A, c, rfl, h1, h2, At.own h, own_addr h⟩
def FreeTo (old new : List Kd) (p q : Nat) : Prop := ∀ i', i' < p → pairF old new i' ≠ (q : Int)
set_option maxHeartbeats 4000000 in
set_option maxRecDepth 100000 in
theorem rpair_any (A B : Option Addr) (n c m d : Nat) (old new : List Kd) (w : World) (hn : n = old.length) (hm : m = new.length) (h1 : n ≤ 1000) (h2 : m ≤ 1000) (hnc : n ≤ c) (hcm : c ≤ maxLen) (hmd : m ≤ d) (hdm : d ≤ maxLen) (hA : A = none → n = 0 ∧ c = 0) (hB : B = none → m = 0 ∧ d = 0) (ha : At w A (kc old)) (hb : At w B (kc new)) :
    Calls Try.prog 15 #[.slice A n c, .slice B m d] w fun e w' => ∃ v, e = .returned v ∧ w'.ownsRow w.heap.size 3 1 v m (iv (pairs old new)) ∧ Below w.heap.size w w' := by
  have HN := Lib.hid hn
  have HM := Lib.hid hm
  have HAT := Lib.hid ha
  have HBT := Lib.hid hb
  have CA := fun W (hW : Below w.heap.size w W) i (hi : i ≤ n) => ahead_any A n c i old W hn (by omega) hnc hcm hA (ha.below hW) hi
  have CB := fun W (hW : Below w.heap.size w W) i (hi : i ≤ m) => ahead_any B m d i new W hm (by omega) hmd hdm hB (hb.below hW) hi
  have HCA := Lib.hid CA
  have HCB := Lib.hid CB
  obtain ⟨i0, hi, hz0, hz1, hz2⟩ := info_parts infoInt
  clear hn hm ha hb CA CB hnc hcm hmd hdm hA hB
  go_enter Try.func15, Try.ntmps15
  go_wp2_with fail
  have HR0 : Hid ((w.alloc (.cells #[] 3)).ownsRow w.heap.size 3 1 (.slice (some ⟨w.heap.size, 0, none⟩) 0 0) 0 (iv (pairsTo old new 0))) := own_made w w.heap.size rfl (Nat.le_refl _)
  go_loopw [5, 16] (fun v i wr => ∃ k : Nat, k ≤ m ∧ i = .int .i64 k ∧ Hid (wr.ownsRow w.heap.size 3 1 v k (iv (pairsTo old new k))) ∧ Hid (Below w.heap.size w wr)) (fun _ i _ => m - (intOf i).toNat)
  case atStart => exact ⟨0, Nat.zero_le _, rfl, HR0, below_alloc _ _⟩
  case round =>
    obtain ⟨k, hk, rfl, hown, hbel⟩ := hrel
    by_cases hlt : k < m
    · have hkn : k < new.length := by have := HM.out; omega
      obtain ⟨b1, o1, rfl, hb1, hc1, hc2⟩ := at_kid HBT.out hkn
      have hd1 := (below_cells hbel.out).1 b1 (o1 + k * 2) hb1
      have hd2 := (below_cells hbel.out).1 b1 (o1 + k * 2 + 1) hb1
      rw [hc1] at hd1
      rw [hc2] at hd2
      obtain ⟨x, hx⟩ : ∃ x, x = g new k := ⟨_, rfl⟩
      rw [← hx] at hd1 hd2
      have HX := Lib.hid hx
      clear hx hc1 hc2
      obtain ⟨z, s⟩ := x
      obtain ⟨AO, cO, rfl, hcO, hcO2, hatO, hAO⟩ := at_addr hown.out
      have HAO := Lib.hid hAO
      have hszr := hbel.out.size
      have WO := Lib.hid (hown.out.alloc (.cells #[.int .i64 z, .string s] 36))
      have WB := Lib.hid (hbel.out.alloc hszr (.cells #[.int .i64 z, .string s] 36))
      have WC : (wr.alloc (.cells #[.int .i64 z, .string s] 36)).heap[wr.heap.size]? = some (.cells #[.int .i64 z, .string s] 36 (0, 0)) := heap_alloc_new _ _
      have WS : wr.heap.size < (wr.alloc (.cells #[.int .i64 z, .string s] 36)).heap.size := by simp
      clear hown hbel hatO hAO hszr
      go_wp2_with fail
      clear hd1 hd2
      generalize wr.alloc (.cells #[.int .i64 z, .string s] 36) = W at *
      generalize wr.heap.size = gb at *
      have HWC := Lib.hid WC
      clear WC
      go_loopw [8, 9] (fun r j wr => ∃ (q : Nat) (rr : Int), q ≤ n ∧ j = .int .i64 ((q : Int) - 1) ∧ r = .int .i64 rr ∧ Hid (Ma.Found old new k q rr) ∧ Hid (Below W.heap.size W wr)) (fun _ j _ => ((intOf j) + 1).toNat)
      case atStart => exact ⟨n, -1, Nat.le_refl _, rfl, rfl, by show Ma.Found _ _ _ _ _; rw [HN.out]; exact Ma.Found.start _ _ _, Below.refl _ _⟩
      case round =>
        obtain ⟨q, rr, hq, rfl, rfl, hfound, hbw⟩ := hrel
        rcases Nat.eq_zero_or_pos q with h0 | h0
        · subst h0
          have HD := Lib.hid (hfound.out.done hkn)
          have HOW := Lib.hid (own_below WO.out hbw.out)
          have HBW := Lib.hid (WB.out.trans (hbw.out.mono WB.out.size))
          have hszr := HBW.out.size
          go_wp2_with (at_builtin; refine wpList_append_own _ rfl _ _ 28 rfl w.heap.size 3 i0 (.int .i64 0) 1 8 Try.underlying28 hi hz0 hz1 hz2 rfl (by decide) _ _ _ rfl (HOW.out.alloc _) ⟨_, 0, none⟩ 1 1 [.int .i64 rr] rfl rfl (cell_one_new _ _ _) (by intro u hu; simp at hu; subst hu; rfl) (by unfold maxLen; omega) (by omega) (by simp; omega) ?_; intro v1 w1 hown1 hgrow1 _hnil1; have HO1 := Lib.hid hown1; have HG1 := Lib.hid hgrow1; clear hown1 hgrow1 _hnil1)
          go_roundw
          case rel => exact ⟨k + 1, by omega, by go_num, by show World.ownsRow _ _ _ _ _ _ _; rw [pairsTo_succ, ← HD.out]; have h9 := HO1.out; simpa [iv] using h9, (HBW.out.alloc hszr _).grown HG1.out (by simp; omega) (own_from HOW.out)⟩
          case measure => simp [intOf]; omega
        · obtain ⟨p, rfl⟩ : ∃ p, q = p + 1 := ⟨q - 1, by omega⟩
          have hpn : p < old.length := by have := HN.out; omega
          have hpi : ((p + 1 : Nat) : Int) - 1 = (p : Int) := by omega
          rw [hpi]
          clear hpi h0
          have HBW : Hid (Below w.heap.size w wr) := Lib.hid (WB.out.trans (hbw.out.mono WB.out.size))
          obtain ⟨b2, o2, rfl, hb2, hc3, hc4⟩ := at_kid HAT.out hpn
          have hd3 := (below_cells HBW.out).1 b2 (o2 + p * 2) hb2
          have hd4 := (below_cells HBW.out).1 b2 (o2 + p * 2 + 1) hb2
          rw [hc3] at hd3
          rw [hc4] at hd4
          obtain ⟨y, hy⟩ : ∃ y, y = g old p := ⟨_, rfl⟩
          rw [← hy] at hd3 hd4
          have HY := Lib.hid hy
          clear hy hc3 hc4
          obtain ⟨u, t⟩ := y
          have hd5 : wr.cell? ⟨gb, 0, none⟩ = some (.int .i64 z) := (hbw.out.cell (p := ⟨gb, 0, none⟩) WS).trans (by rw [cell_of_row W gb 0 _ _ (0, 0) HWC.out]; rfl)
          have hd6 : wr.cell? ⟨gb, 1, none⟩ = some (.string s) := (hbw.out.cell (p := ⟨gb, 1, none⟩) WS).trans (by rw [cell_of_row W gb 1 _ _ (0, 0) HWC.out]; rfl)
          have hb2w : b2 < wr.heap.size := Nat.lt_of_lt_of_le hb2 HBW.out.size
          have hgw : gb < wr.heap.size := Nat.lt_of_lt_of_le WS hbw.out.size
          have hwr := hbw.out.size
          go_upto_region 9 with fail
          go_cut [10] (fun s10 wx => ∃ b : Bool, s10 = .bool b ∧ Hid (b = true ↔ Same old new k p) ∧ Hid (Below wr.heap.size wr wx))
          case first =>
            by_cases e1 : u = z
            · have f1 : (u == z) = true := beq_iff_eq.2 e1
              by_cases e2 : t = s
              · have f2 := M.str_yes e2
                have HE : Hid (g old p = g new k) := by show _ = _; rw [← HY.out, ← HX.out, e1, e2]
                by_cases e3 : s = ByteArray.empty
                · have f3 : s.toList.isEmpty = true := by rw [e3, emp_toList]; rfl
                  have HP := Lib.hid (fun W (hW : Below wr.heap.size wr W) => HCA.out W (HBW.out.trans (hW.mono HBW.out.size)) p (by omega))
                  have HQ := Lib.hid (fun W (hW : Below wr.heap.size wr W) => HCB.out W (HBW.out.trans (hW.mono HBW.out.size)) k (by omega))
                  have HBB : Below wr.heap.size wr wr := Below.refl _ _
                  have HS : Hid (∀ b : Bool, ((Ma.ahead old p : Int) == (Ma.ahead new k : Int)) = b → (b = true ↔ Same old new k p)) := by
                    show ∀ b : Bool, _
                    intro b hb
                    rw [← hb, beq_iff_eq]
                    constructor
                    · intro h; exact ⟨HE.out, .inr (by omega)⟩
                    · intro h
                      rcases h.2 with h3 | h3
                      · exact absurd (by rw [← HX.out]; exact e3) h3
                      · omega
                  obtain ⟨x1, hx1⟩ : ∃ x, x = Ma.ahead old p := ⟨_, rfl⟩
                  obtain ⟨x2, hx2⟩ : ∃ x, x = Ma.ahead new k := ⟨_, rfl⟩
                  rw [← hx1, ← hx2] at HS
                  rw [← hx1] at HP
                  rw [← hx2] at HQ
                  clear e1 e2 e3 hx1 hx2
                  have hp0 : (0 : Int) ≤ (p : Int) := by omega
                  have hp1 : (p : Int) < (n : Int) := by omega
                  go_region_held3 (fun w' => w'.cell? ⟨b2, o2 + p * 2, none⟩ = some (.int .i64 u) ∧ w'.cell? ⟨b2, o2 + p * 2 + 1, none⟩ = some (.string t) ∧ w'.cell? ⟨gb, 0, none⟩ = some (.int .i64 z) ∧ w'.cell? ⟨gb, 1, none⟩ = some (.string s) ∧ Below wr.heap.size wr w')
                    (first | (refine ⟨?_, ?_, ?_, ?_, ?_⟩ <;> first | assumption | exact Below_drew HBB | exact below_heap HBB rfl rfl rfl rfl) | go_keep | exact below_heap HBB rfl rfl rfl rfl)
                    (first | (go_at_call 37; go_split_ands; (with_reducible refine (HP.out _ ?_).mono ?_); (first | assumption | exact Below_drew HBB); rintro e w5 ⟨rfl, hb5⟩; have hB5 : Below wr.heap.size wr w5 := below_join (by first | assumption | exact Below_drew HBB) hb5; have e0 := (hB5.cell (p := ⟨b2, o2 + p * 2, none⟩) hb2w).trans hd3; have e1 := (hB5.cell (p := ⟨b2, o2 + p * 2 + 1, none⟩) hb2w).trans hd4; have e2 := (hB5.cell (p := ⟨gb, 0, none⟩) hgw).trans hd5; have e3 := (hB5.cell (p := ⟨gb, 1, none⟩) hgw).trans hd6) | (go_at_call 37; go_split_ands; (with_reducible refine (HQ.out _ ?_).mono ?_); (first | assumption | exact Below_drew HBB); rintro e w6 ⟨rfl, hb6⟩; have hB6 : Below wr.heap.size wr w6 := below_join (by first | assumption | exact Below_drew HBB) hb6; have e0 := (hB6.cell (p := ⟨b2, o2 + p * 2, none⟩) hb2w).trans hd3; have e1 := (hB6.cell (p := ⟨b2, o2 + p * 2 + 1, none⟩) hb2w).trans hd4; have e2 := (hB6.cell (p := ⟨gb, 0, none⟩) hgw).trans hd5; have e3 := (hB6.cell (p := ⟨gb, 1, none⟩) hgw).trans hd6))
                  all_goals (go_wp2_with fail; go_meet; go_split_ands; exact ⟨_, rfl, Lib.hid (HS.out _ rfl), by assumption⟩)
                · have f3 : s.toList.isEmpty = false := str_ne e3
                  have HS : Hid (Same old new k p) := ⟨HE.out, .inl (by rw [← HX.out]; exact e3)⟩
                  clear e1 e2 e3
                  go_quiet (fail)
                  go_wp2_with fail
                  go_meet
                  exact ⟨true, rfl, Lib.hid ⟨fun _ => HS.out, fun _ => rfl⟩, below_heap (Below.refl _ _) rfl rfl rfl rfl⟩
              · have f2 := M.str_no e2
                have HS : Hid (¬ Same old new k p) := fun h => e2 (by have := h.1; rw [← HY.out, ← HX.out] at this; exact congrArg Prod.snd this)
                clear e1 e2
                go_quiet (fail)
                go_wp2_with fail
                go_meet
                exact ⟨false, rfl, Lib.hid ⟨fun h => (by cases h), fun h => absurd h HS.out⟩, below_heap (Below.refl _ _) rfl rfl rfl rfl⟩
            · have f1 : (u == z) = false := beq_eq_false_iff_ne.2 e1
              have HS : Hid (¬ Same old new k p) := fun h => e1 (by have := h.1; rw [← HY.out, ← HX.out] at this; exact congrArg Prod.fst this)
              clear e1
              go_quiet (fail)
              go_wp2_with fail
              go_meet
              exact ⟨false, rfl, Lib.hid ⟨fun h => (by cases h), fun h => absurd h HS.out⟩, below_heap (Below.refl _ _) rfl rfl rfl rfl⟩
          case rest =>
            obtain ⟨sm, rfl, hsm, hbx⟩ := hcut
            have HBX : Hid (Below W.heap.size W wc) := Lib.hid (hbw.out.trans (hbx.out.mono hwr))
            have HTX := Lib.hid ((At.own WO.out).below HBX.out)
            clear hd3 hd4 hd5 hd6 hb2w hgw
            go_wp2_with fail
            go_loop [10, 50] (fun s10 i => ∃ (e : Nat) (b : Bool), e ≤ k ∧ i = .int .i64 e ∧ s10 = .bool b ∧ Hid (b = true ↔ (sm = true ∧ FreeTo old new e p))) (fun _ i => k - (intOf i).toNat)
            case atStart => exact ⟨0, sm, Nat.zero_le _, rfl, rfl, Lib.hid ⟨fun h => ⟨h, fun i' h' => absurd h' (Nat.not_lt_zero _)⟩, fun h => h.1⟩⟩
            case round =>
              obtain ⟨e, b, he, rfl, rfl, hb⟩ := hrel
              by_cases hek : e < k
              · obtain ⟨b3, o3, rfl, hb3, hc5⟩ := HTX.out.one (iv_at (pairsTo old new k) e (by rw [pairsTo_len]; exact hek))
                rw [show ats (pairsTo old new k) e = pairF old new e from pairsTo_at old new k e hek] at hc5
                obtain ⟨P, hP⟩ : ∃ P, P = pairF old new e := ⟨_, rfl⟩
                rw [← hP] at hc5
                have HP := Lib.hid hP
                clear hP
                cases b
                · go_wp2_with fail
                  go_round
                  case rel => exact ⟨e + 1, false, by omega, by go_num, rfl, Lib.hid ⟨fun h => (by cases h), fun h => hb.out.2 ⟨h.1, fun i' h' => h.2 i' (by omega)⟩⟩⟩
                  case measure => simp [intOf]; omega
                · by_cases hPp : P = (p : Int)
                  · have g1 : (P == (p : Int)) = true := beq_iff_eq.2 hPp
                    have g2 : (P != (p : Int)) = false := by simp [hPp]
                    have HPP := Lib.hid hPp
                    clear hPp
                    go_wp2_with fail
                    go_round
                    case rel => exact ⟨e + 1, false, by omega, by go_num, rfl, Lib.hid ⟨fun h => (by cases h), fun h => absurd (HP.out.symm.trans HPP.out) (h.2 e (by omega))⟩⟩
                    case measure => simp [intOf]; omega
                  · have g1 : (P == (p : Int)) = false := beq_eq_false_iff_ne.2 hPp
                    have g2 : (P != (p : Int)) = true := by simp [hPp]
                    have HPP := Lib.hid hPp
                    clear hPp
                    go_wp2_with fail
                    go_round
                    case rel => exact ⟨e + 1, true, by omega, by go_num, rfl, Lib.hid ⟨fun _ => ⟨(hb.out.1 rfl).1, fun i' h' => by
                      by_cases ei : i' = e
                      · subst ei; rw [← HP.out]; exact HPP.out
                      · exact (hb.out.1 rfl).2 i' (by omega)⟩, fun _ => rfl⟩⟩
                    case measure => simp [intOf]; omega
              · obtain rfl : e = k := by omega
                cases b
                · have HNO : Hid (¬ (Same old new e p ∧ Free old new e p)) := fun h => by have := hb.out.2 ⟨hsm.out.2 h.1, h.2⟩; cases this
                  go_wp2_with fail
                  go_roundw
                  case rel => exact ⟨p, rr, by omega, by go_num, rfl, Lib.hid (hfound.out.no HNO.out), HBX⟩
                  case measure => simp [intOf]
                · have HYES : Hid (Same old new e p ∧ Free old new e p) := ⟨hsm.out.1 (hb.out.1 rfl).1, (hb.out.1 rfl).2⟩
                  go_wp2_with fail
                  go_roundw
                  case rel => exact ⟨p, (p : Int), by omega, by go_num, rfl, Lib.hid (Ma.Found.yes hpn HYES.out.1 HYES.out.2), HBX⟩
                  case measure => simp [intOf]
    · obtain rfl : k = m := by omega
      go_wp2
      go_ret
      exact ⟨_, rfl, by have h9 := hown.out; unfold pairs; rw [← HM.out]; exact h9, hbel.out⟩
end Go.Proofs.Ytaojjcnghkjgfaa
