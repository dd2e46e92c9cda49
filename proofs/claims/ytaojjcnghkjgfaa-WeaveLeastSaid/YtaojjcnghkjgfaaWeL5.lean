/- The walk of WeaveCounts. -/
import Derived.Test.YtaojjcnghkjgfaaWeL4
namespace Go.Proofs.Ytaojjcnghkjgfaa
open Go.RowKit We
attribute [-go_sem] Builtin.append_
theorem once_same {l : List Int} (h : l.Nodup) : (once l).length = l.length := ((List.perm_ext_iff_of_nodup (once_nodup _) h).2 (fun _ => once_mem _ _)).length_eq
theorem few_ok {w : World} {A : Option Addr} {l : List Int} {n m : Nat} (h : At w A (iv l)) (hn : n = l.length) (ho : ∀ x ∈ l, OkI x) : At w A (iv (l.take m)) ∧ min n m = (l.take m).length ∧ ∀ x ∈ l.take m, OkI x :=
  ⟨by rw [iv_take]; exact h.take m, by rw [List.length_take]; omega, fun _ hx => ho _ (List.mem_of_mem_take hx)⟩
theorem stay_comm {a b : List Int} {r : List Nat} (hr : Rises a b r) : ∀ x ∈ stayIds a b r, x ∈ comm a b := by
  intro x hx
  unfold stayIds at hx
  obtain ⟨i, hi, rfl⟩ := List.mem_map.1 hx
  exact at_mem (hr.1 i hi)
set_option maxHeartbeats 4000000 in
set_option maxRecDepth 100000 in
theorem weaveCounts_any (A B : Option Addr) (n c m d : Nat) (fl tl : List Int) (w : World) (hn : n = fl.length) (hm : m = tl.length) (hb1 : n ≤ maxLen) (hb2 : m ≤ maxLen) (hc1 : n ≤ c) (hc2 : m ≤ d) (hd1 : c ≤ maxLen) (hd2 : d ≤ maxLen)
    (ha : At w A (iv fl)) (hb : At w B (iv tl)) (hof : ∀ x ∈ fl, OkI x) (hot : ∀ x ∈ tl, OkI x) (hA : A = none → n = 0 ∧ c = 0) (hB : B = none → m = 0 ∧ d = 0) :
    Calls Try.prog 9 #[.slice A n c, .slice B m d] w fun e w' => e = .returned (.bool true) ∧ Below w.heap.size w w' := by
  have F1 := fun W => few_any A n c 20 20 W rfl hb1 hc1 hd1 hA (by omega)
  have F2 := fun W => few_any B m d 20 20 W rfl hb2 hc2 hd2 hB (by omega)
  obtain ⟨ha', hn', hof'⟩ := few_ok (m := 20) ha hn hof
  obtain ⟨hb', hm', hot'⟩ := few_ok (m := 20) hb hm hot
  clear ha hn hof hb hm hot
  have hn2 : min n 20 ≤ 20 := by omega
  have hm2 : min m 20 ≤ 20 := by omega
  generalize fl.take 20 = F at *
  generalize tl.take 20 = T at *
  generalize min n 20 = N at *
  generalize min m 20 = M at *
  have C1 := Lib.hid (fun W (hW : Below w.heap.size w W) => ronce_any A N c F W hn' (by omega) (ha'.below hW))
  have C2 := Lib.hid (fun W (hW : Below w.heap.size w W) => ronce_any B M d T W hm' (by omega) (hb'.below hW))
  have C3 := Lib.hid (fun a b r W (hW : Below w.heap.size w W) => steps_any A B N c M d F T a b r W hn' hm' (by omega) (by omega) (ha'.below hW) (hb'.below hW) hof' hot')
  obtain ⟨a, hea⟩ : ∃ a, a = once F := ⟨_, rfl⟩
  obtain ⟨b, heb⟩ : ∃ b, b = once T := ⟨_, rfl⟩
  have la : a.length ≤ 20 := by have := once_len F; rw [hea]; omega
  have lb : b.length ≤ 20 := by have := once_len T; rw [heb]; omega
  have HNA := Lib.hid (show a.Nodup from hea ▸ once_nodup F)
  have HNB := Lib.hid (show b.Nodup from heb ▸ once_nodup T)
  rw [← hea] at C1
  rw [← heb] at C2
  obtain ⟨r, hr⟩ := Li.row_ex (ats (olds a b)) (comm a b).length
  have HR := Lib.hid hr
  have HRI := Lib.hid (rises_of hr)
  have C3 := Lib.hid (fun W (hW : Below w.heap.size w W) => C3.out a b r W hW hea heb hr)
  clear hn' hm' hb1 hb2 hc1 hc2 hd1 hd2 ha' hb' hof' hot' hA hB hea heb hr
  obtain ⟨i0, hi, hz0, hz1, hz2⟩ := info_parts infoIntW
  go_enter Try.func9, Try.ntmps9
  go_wp2_with fail
  refine (awake12_any _).mono ?_
  rintro e w1 ⟨rfl, hb1⟩
  have HB1 := Lib.hid hb1
  clear hb1
  go_wp2_with (first | ((with_reducible refine (F1 _).mono ?_); rintro e w1' ⟨rfl, rfl⟩) | ((with_reducible refine (F2 _).mono ?_); rintro e w1' ⟨rfl, rfl⟩))
  refine (C1.out _ HB1.out).mono ?_
  rintro e w2 ⟨v5, rfl, ho5, hb2⟩
  obtain ⟨A5, c5, rfl, hc5, hd5⟩ := own_slice ho5
  have T5 := Lib.hid (At.own ho5)
  have HB2 := Lib.hid (HB1.out.trans (hb2.mono HB1.out.size))
  clear ho5 hb2 C1
  go_wp2_with fail
  refine (C2.out _ HB2.out).mono ?_
  rintro e w3 ⟨v6, rfl, ho6, hb3⟩
  obtain ⟨A6, c6, rfl, hc6, hd6⟩ := own_slice ho6
  have T6 := Lib.hid (At.own ho6)
  have U5 := Lib.hid (T5.out.below hb3)
  have HB3 := Lib.hid (HB2.out.trans (hb3.mono HB2.out.size))
  clear ho6 hb3 C2 T5
  go_wp2_with fail
  go_loopw [7, 27] (fun v i wr => ∃ k : Nat, k ≤ b.length ∧ i = .int .i64 k ∧ Hid (wr.ownsRow w3.heap.size 3 1 v (olds a (b.take k)).length (iv (olds a (b.take k)))) ∧ Hid (Below w3.heap.size w3 wr)) (fun _ i _ => b.length - (intOf i).toNat)
  case atStart => exact ⟨0, Nat.zero_le _, rfl, World.ownsRow_nil _ _ _ _, Below.refl _ _⟩
  case round =>
    obtain ⟨k, hk, rfl, hown, hbel⟩ := hrel
    have hszr := hbel.out.size
    by_cases hlt : k < b.length
    · obtain ⟨b1, o1, rfl, hb1, hc1⟩ := (T6.out.below hbel.out).one (iv_at b k hlt)
      have hnx := olds_next (a := a) hlt
      have hol : (olds a (b.take k)).length ≤ k := by rw [olds_len]; exact Nat.le_trans (comm_le _ _) (by simp; omega)
      rw [show ats b k = at' b k from rfl] at hc1
      have V5 := Lib.hid (U5.out.below hbel.out)
      generalize at' b k = x at *
      obtain ⟨AE, cE, rfl, hcE, hcE2⟩ := own_slice hown.out
      by_cases hx : x ∈ a
      · rw [if_pos hx] at hnx
        have HS := Lib.hid hnx
        have hq := ix_lt hx
        have RA := Lib.hid (rat_any A5 a.length c5 a x (ix a x : Int) wr rfl (by omega) V5.out (rAt_yes hx))
        generalize ix a x = q at *
        obtain ⟨v1, w4, hrun1, hown1, hgrow1, _, hat1⟩ := run_append_own_at (P := Try.prog) (wr.alloc (.cells #[.int .i64 (q : Int)] 3)) w3.heap.size 28 28 3 i0 (.int .i64 0) 1 8 Try.underlying28 hi hz0 hz1 hz2 rfl (by decide) _ _ _ (hown.out.alloc _) ⟨wr.heap.size, 0, none⟩ 1 1 [.int .i64 (q : Int)] rfl (cell_one_new _ _ _) (iv_one [(q : Int)]) (by unfold maxLen; omega) (by omega) (by simp; omega)
        have HO1 := Lib.hid hown1
        have HB4 := Lib.hid ((hbel.out.alloc hszr (.cells #[.int .i64 (q : Int)] 3)).grown hgrow1 (by simp; omega) (own_from hown.out))
        clear hown1 hgrow1 hat1 hx hnx
        go_wp2_with fail
        refine RA.out.mono ?_
        rintro e w5 ⟨rfl, rfl⟩
        go_wp2_with fail
        go_roundw
        case rel => exact ⟨k + 1, by omega, by go_num, by show World.ownsRow _ _ _ _ _ _ _; rw [HS.out, List.length_append, iv_app]; exact HO1.out, HB4⟩
        case measure => simp [intOf]; omega
      · rw [if_neg hx, List.append_nil] at hnx
        have HS := Lib.hid hnx
        have RA := Lib.hid (rat_any A5 a.length c5 a x (-1) wr rfl (by omega) V5.out (rAt_no hx))
        clear hx hnx
        go_wp2_with fail
        refine RA.out.mono ?_
        rintro e w5 ⟨rfl, rfl⟩
        go_wp2_with fail
        go_roundw
        case rel => exact ⟨k + 1, by omega, by go_num, by show World.ownsRow _ _ _ _ _ _ _; rw [HS.out]; exact hown.out, hbel⟩
        case measure => simp [intOf]; omega
    · obtain rfl : k = b.length := by omega
      rw [List.take_length] at hown
      have HB4 := Lib.hid (HB3.out.trans (hbel.out.mono HB3.out.size))
      have hlo : (olds a b).length = (comm a b).length := olds_len a b
      have hlc : (comm a b).length ≤ 20 := by have := comm_le a b; omega
      obtain ⟨A7, c7, rfl, hc7, hd7⟩ := own_slice hown.out
      have T7 := Lib.hid (At.own hown.out)
      have hsa := stay_in HRI.out
      have hsc := stay_comm HRI.out
      have q1 := count_moves HNB.out HRI.out hsa hsc
      have q2 := count_all HNA.out HNB.out HRI.out hsa (fun x hx => (comm_mem.1 (hsc x hx)).1)
      have HID := Lib.hid (ids_nodup (a := a) (b := b) HNA.out HNB.out hsa)
      have q3 := HR.out.1
      rw [← hlo] at q1 q2 q3 hlc
      clear hown hsa hsc hlo HR HRI HNA HNB
      generalize olds a b = O at *
      generalize steps a b (stayIds a b r) = L at *
      have hLL : L.length ≤ 40 := by omega
      have Q1 := Lib.hid q1
      have Q2 := Lib.hid q2
      have Q3 := Lib.hid q3
      clear q1 q2 q3
      go_wp2_with fail
      refine (C3.out _ HB4.out).mono ?_
      rintro e w5 ⟨v11, rfl, ho11, hb5⟩
      obtain ⟨A11, c11, rfl, hc11, hd11⟩ := own_slice ho11
      have T11 := Lib.hid (At.own ho11)
      have T7 := Lib.hid (T7.out.below hb5)
      have HB5 := Lib.hid (HB4.out.trans (hb5.mono HB4.out.size))
      clear ho11 hb5 C3
      go_wp2_with fail
      go_loopw [12, 46] (fun v i wr => ∃ k : Nat, k ≤ L.length ∧ i = .int .i64 k ∧ Hid (wr.ownsRow w5.heap.size 3 1 v ((L.take k).map (fun t => t.2.1)).length (iv ((L.take k).map (fun t => t.2.1)))) ∧ Hid (Below w5.heap.size w5 wr)) (fun _ i _ => L.length - (intOf i).toNat)
      case atStart => exact ⟨0, Nat.zero_le _, rfl, World.ownsRow_nil _ _ _ _, Below.refl _ _⟩
      case round =>
        obtain ⟨k, hk, rfl, hown, hbel⟩ := hrel
        have hszr := hbel.out.size
        by_cases hlt : k < L.length
        · obtain ⟨b1, o1, rfl, hb1, hc1, hc2, hc3⟩ := at_three (T11.out.below hbel.out) hlt
          have HEQ := Lib.hid (show (L.take (k + 1)).map (fun t => t.2.1) = (L.take k).map (fun t => t.2.1) ++ [L[k].2.1] by rw [List.take_succ_eq_append_getElem hlt, List.map_append]; rfl)
          have hil : ((L.take k).map (fun t => t.2.1)).length ≤ 40 := by rw [List.length_map, List.length_take]; omega
          obtain ⟨AE, cE, rfl, hcE, hcE2⟩ := own_slice hown.out
          generalize L[k].1 = x at *
          generalize L[k].2.1 = y at *
          generalize L[k].2.2 = z at *
          generalize (L.take k).map (fun t => t.2.1) = I at *
          obtain ⟨v1, w4, hrun1, hown1, hgrow1, _, hat1⟩ := run_append_own_at (P := Try.prog) ((wr.alloc (.cells #[.int .i64 x, .int .i64 y, .int .i64 z] 45)).alloc (.cells #[.int .i64 y] 3)) w5.heap.size 28 28 3 i0 (.int .i64 0) 1 8 Try.underlying28 hi hz0 hz1 hz2 rfl (by decide) _ _ _ ((hown.out.alloc _).alloc _) ⟨wr.heap.size + 1, 0, none⟩ 1 1 [.int .i64 y] rfl (cells_new' _ _ _ _ rfl _ (by simp)) (iv_one [y]) (by unfold maxLen; omega) (by omega) (by simp; omega)
          have HO1 := Lib.hid hown1
          have HB4 := Lib.hid (((hbel.out.alloc hszr (.cells #[.int .i64 x, .int .i64 y, .int .i64 z] 45)).alloc (by simp; omega) (.cells #[.int .i64 y] 3)).grown hgrow1 (by simp; omega) (own_from hown.out))
          clear hown1 hgrow1 hat1
          go_wp2_with fail
          go_roundw
          case rel => exact ⟨k + 1, by omega, by go_num, by show World.ownsRow _ _ _ _ _ _ _; rw [HEQ.out, List.length_append, iv_app]; exact HO1.out, HB4⟩
          case measure => simp [intOf]; omega
        · obtain rfl : k = L.length := by omega
          rw [List.take_length] at hown
          have hil : (L.map (fun t => t.2.1)).length ≤ 40 := by rw [List.length_map]; omega
          have hon := once_same HID.out
          have hol := once_len (L.map (fun t => t.2.1))
          obtain ⟨A12, c12, rfl, hc12, hd12⟩ := own_slice hown.out
          have T12 := Lib.hid (At.own hown.out)
          have HB6 := Lib.hid (HB5.out.trans (hbel.out.mono HB5.out.size))
          have CM := Lib.hid (moves_any A11 L.length c11 L wr rfl (by omega) (T11.out.below hbel.out))
          have T7 := Lib.hid (T7.out.below hbel.out)
          clear hown hbel HID
          generalize L.map (fun t => t.2.1) = I at *
          have CL := Lib.hid (fun W (hW : Below wr.heap.size wr W) => rlen_any A7 O.length c7 O W rfl (by omega) (T7.out.below hW))
          have CO := Lib.hid (fun W (hW : Below wr.heap.size wr W) => ronce_any A12 I.length c12 I W rfl (by omega) (T12.out.below hW))
          rw [hon] at CO
          have hp1 := Q1.out
          have hp2 := Q2.out
          have hp3 := Q3.out
          generalize Li.top (ats O) O.length = tp at *
          generalize mvs L = mv at *
          have hE1 : ((mv : Nat) : Int) = (O.length : Int) - (tp : Int) := by omega
          have hE2 : ((L.length : Nat) : Int) = (a.length : Int) + (b.length : Int) - (O.length : Int) - (tp : Int) := by omega
          have htp : tp ≤ 20 := by omega
          clear hp1 hp2 hp3 hon hol
          go_wp2_with fail
          refine CM.out.mono ?_
          rintro e w7 ⟨rfl, hb7⟩
          have HB7 := Lib.hid hb7
          clear hb7
          go_wp2_with fail
          refine (CL.out _ HB7.out).mono ?_
          rintro e w8 ⟨rfl, hb8⟩
          have HB8 := Lib.hid (HB7.out.trans (hb8.mono HB7.out.size))
          clear hb8
          go_wp2_with fail
          refine (CO.out _ HB8.out).mono ?_
          rintro e w9 ⟨v9, rfl, ho9, hb9⟩
          obtain ⟨A9, c9, rfl, hc9, hd9⟩ := own_slice ho9
          have HB9 := Lib.hid (HB8.out.trans (hb9.mono HB8.out.size))
          clear ho9 hb9
          go_wp2_with fail
          refine (CL.out _ HB9.out).mono ?_
          rintro e w10 ⟨rfl, hb10⟩
          have HB10 := Lib.hid (HB9.out.trans (hb10.mono HB9.out.size))
          clear hb10
          go_wp2_with fail
          go_ret
          exact ⟨ret_bool' (by simp), HB6.out.trans (HB10.out.mono HB6.out.size)⟩
end Go.Proofs.Ytaojjcnghkjgfaa
