/- Contract of weave's Merge. -/
import Derived.Test.YtfapghekakdpgaaWeM1
import Derived.RangeFuncBox
namespace Go.Proofs.Ytfapghekakdpgaa
open Go.RowKit We
attribute [-go_sem] Builtin.append_
theorem infoInts : (Try.prog.info? 29).map (fun i => (i.zero, i.size, i.bytes)) = some (some (.slice none 0 0), 1, 24) := by kernel_rfl
theorem own_none {w : World} {base : Nat} {e : TypeId} {size n c : Nat} {A : Option Addr} {xs : List Value} (h : w.ownsRow base e size (.slice A n c) n xs) : A = none → n = 0 ∧ c = 0 := by
  rintro rfl
  rcases h.2 with ⟨h1, _⟩ | ⟨g, c', cur, hv, _⟩
  · injection h1 with _ h2 h3
    exact ⟨h2, h3⟩
  · injection hv with h2
    cases h2
set_option maxHeartbeats 4000000 in
theorem merge_any (A B : Option Addr) (n c m d : Nat) (wl ll : List Int) (w : World) (hn : n = wl.length) (hm : m = ll.length) (h1 : n ≤ 1000) (h2 : m ≤ 1000) (ha : At w A (iv wl)) (hb : At w B (iv ll)) (hoa : ∀ x ∈ wl, OkI x) (hob : ∀ x ∈ ll, OkI x) :
    Calls Try.prog 35 #[.slice A n c, .slice B m d] w fun e w' => ∃ v, e = .returned v ∧ w'.ownsRow w.heap.size 3 1 v (merge (once wl) (once ll)).length (iv (merge (once wl) (once ll))) ∧ Below w.heap.size w w' := by
  obtain ⟨a, hea⟩ : ∃ a, a = once wl := ⟨_, rfl⟩
  obtain ⟨b, heb⟩ : ∃ b, b = once ll := ⟨_, rfl⟩
  have la : a.length ≤ 1000 := by have := once_len wl; rw [hea]; omega
  have lb : b.length ≤ 1000 := by have := once_len ll; rw [heb]; omega
  have HOA := Lib.hid (show ∀ x ∈ a, OkI x from fun x hx => hoa x (by rw [hea] at hx; exact (once_mem _ _).1 hx))
  have C1 := Lib.hid (once_any A n c wl w hn (by omega) ha hoa)
  have C2 := Lib.hid (fun W (hW : Below w.heap.size w W) => once_any B m d ll W hm (by omega) (hb.below hW) hob)
  rw [← hea, ← heb]
  rw [← hea] at C1
  rw [← heb] at C2
  clear hn hm ha hb hoa hob hea heb
  obtain ⟨i0, hi, hz0, hz1, hz2⟩ := info_parts infoIntW
  obtain ⟨j0, ji, jz0, jz1, jz2⟩ := info_parts infoInts
  go_enter Try.func35, Try.ntmps35
  go_wp2_with fail
  refine C1.out.mono ?_
  rintro e w1 ⟨v1, m1, rfl, ho1, _, _, hb1⟩
  obtain ⟨A1, c1, rfl, hc1, hd1⟩ := own_slice ho1
  have B1 := Lib.hid hb1
  have T1 := Lib.hid (At.own ho1)
  clear ho1 hb1 C1
  go_wp2_with fail
  refine (C2.out w1 B1.out).mono ?_
  rintro e w2 ⟨v2, m2, rfl, ho2, hm2, hmb2, hb2⟩
  obtain ⟨A2, c2, rfl, hc2, hd2⟩ := own_slice ho2
  have B2 := Lib.hid (B1.out.trans (hb2.mono B1.out.size))
  have T1 := Lib.hid (T1.out.below hb2)
  have T2 := Lib.hid (At.own ho2)
  have M2 := Lib.hid hm2
  clear ho2 hb2 C2 hm2 B1
  obtain ⟨w3, hmk, hrow, hgm⟩ := run_makeSlice_full (P := Try.prog) w2 w2.heap.size 40 29 j0 (.slice none 0 0) 1 Try.underlying40 ji jz0 jz1 .i64 .i64 (b.length + 1) (by omega) (by rw [jz2]; omega) (by unfold maxLen; omega) (Nat.le_refl _)
  have B3 := Lib.hid ((Below.refl w2.heap.size w2).grown hgm (Nat.le_refl _) (fun q hq => nomatch hq))
  have G3 := Lib.hid (gh_zero w3 w2.heap.size (b.length + 1) w2.heap.size hrow)
  rw [show ((b.length + 1 : Nat) : Int) = (b.length : Int) + 1 by omega] at hmk
  clear hrow hgm
  go_wp2_with fail
  clear hmk
  generalize hG : w2.heap.size = G at *
  have HGE := Lib.hid hG
  clear hG
  go_loopw [7, 31] (fun f i wr => ∃ k : Nat, k ≤ a.length ∧ i = .int .i64 k ∧ f = .int .i64 (folK a b k) ∧ Hid (∃ vs, Gh wr G (b.length + 1) G vs (ghK a b k)) ∧ Hid (Below G w2 wr)) (fun _ i _ => a.length - (intOf i).toNat)
  case atStart => exact ⟨0, Nat.zero_le _, rfl, rfl, ⟨_, G3.out⟩, B3⟩
  case round =>
    obtain ⟨k, hk, rfl, rfl, hgh, hbel⟩ := hrel
    have hszr : G ≤ wr.heap.size := by have := hbel.out.size; have := HGE.out; omega
    by_cases hlt : k < a.length
    · have hbb := Lib.hid (hbel.out.mono (show w2.heap.size ≤ G from Nat.le_of_eq HGE.out))
      obtain ⟨b1, o1, rfl, hb1, hc1⟩ := (T1.out.below hbb.out).one (iv_at a k hlt)
      have hOx := Lib.hid (HOA.out _ (at_mem hlt))
      have HMW := Lib.hid (M2.out.below hbb.out)
      have HEI := Lib.hid (fun (h : at' a k ∈ b) => (⟨ghK_in a b h, folK_in a b h⟩ : (∀ j, ghK a b (k + 1) j = ghK a b k j) ∧ folK a b (k + 1) = ix b (at' a k) + 1))
      have HEO := Lib.hid (fun (h : ¬ at' a k ∈ b) => (⟨ghK_out a b h, folK_out a b h⟩ : (∀ j, ghK a b (k + 1) j = if j = folK a b k then ghK a b k j ++ [at' a k] else ghK a b k j) ∧ folK a b (k + 1) = folK a b k))
      have hfl := folK_le a b k
      rw [show ats a k = at' a k from rfl] at hc1
      generalize at' a k = x at *
      by_cases hm : x ∈ b
      · obtain ⟨q1, q2⟩ := HEI.out hm
        have hq := ix_lt hm
        have HP := Lib.hid (posF_yes hm)
        have Q1 := Lib.hid q1
        have Q2 := Lib.hid q2
        generalize ix b x = q at *
        clear hm HEI HEO q1 q2
        go_wp2_with (refine wpList_lookok_mo rfl _ _ 96 3 3 rfl (intWay Try.underlying3) Try.underlying96 zeroIW m2 _ _ rfl HMW.out x hOx.out rfl (.int .i64 (q : Int)) true (by rw [HP.out]; rfl) (by rw [HP.out]; rfl) ?_)
        go_roundw
        case rel => exact ⟨k + 1, by omega, by go_num, by rw [Q2.out]; go_num, (by obtain ⟨vs, h⟩ := hgh.out; exact ⟨vs, h.congr (fun j _ => (Q1.out j).symm)⟩), hbel⟩
        case measure => simp [intOf]; omega
      · obtain ⟨q1, q2⟩ := HEO.out hm
        have HP := Lib.hid (posF_no hm)
        have Q1 := Lib.hid q1
        have Q2 := Lib.hid q2
        have hxl := ghK_len a b (folK a b k) k
        generalize folK a b k = f at *
        clear hm HEI HEO q1 q2
        obtain ⟨vs, h0⟩ := hgh.out
        have hf : f < b.length + 1 := by omega
        obtain ⟨Af, cf, hvf, hcf, hcf2⟩ := own_slice (h0.each f hf)
        have HA := Lib.hid (h0.alloc (.cells #[.int .i64 x] 3))
        obtain ⟨v', w9, hrun, hown9, hgrow9, _, hat9⟩ := run_append_own_at (P := Try.prog) (wr.alloc (.cells #[.int .i64 x] 3)) G 29 29 3 i0 (.int .i64 0) 1 8 Try.underlying29 hi hz0 hz1 hz2 rfl (by decide) (vs f) _ _ (HA.out.each f hf) ⟨wr.heap.size, 0, none⟩ 1 1 [.int .i64 x] rfl (cell_one_new _ _ _) (iv_one [x]) (by unfold maxLen; omega) (by omega) (by simp; omega)
        have hr9 := HA.out.row.kept hgrow9 (.inr (fun e => row_ne HA.out.row (HA.out.each f hf) e.symm))
        have y9 := row_at hr9 hf
        have f9 := hr9.frozenAt f
        have HPU := Lib.hid (HA.out.put (x := x) hf hown9 hgrow9 hat9)
        obtain ⟨g9, k9, rfl⟩ := ownsRow_succ hown9
        have HB9 := Lib.hid (((hbel.out.alloc hszr (.cells #[.int .i64 x] 3)).grown hgrow9 (by simp; omega) (own_from (HA.out.each f hf))).setCell (p := ⟨G, f, none⟩) (Nat.le_refl _) (.slice (some ⟨g9, 0, none⟩) ((ghK a b k f).length + 1) k9))
        have y0 := row_at h0.row hf
        have y1 := row_at HA.out.row hf
        rw [hvf] at hrun y0 y1 y9
        clear h0 hr9 hown9 hgrow9 hat9
        go_wp2_with (refine wpList_lookok_mo rfl _ _ 96 3 3 rfl (intWay Try.underlying3) Try.underlying96 zeroIW m2 _ _ rfl HMW.out x hOx.out rfl (.int .i64 0) false (by rw [HP.out]; rfl) (by rw [HP.out]; rfl) ?_)
        go_roundw
        case rel => exact ⟨k + 1, by omega, by go_num, by rw [Q2.out], ⟨_, HPU.out.congr (fun j _ => by rw [Q1.out j]; by_cases e : j = f <;> simp [e])⟩, HB9⟩
        case measure => simp [intOf]; omega
    · obtain rfl : k = a.length := by omega
      obtain ⟨vs, h0⟩ := hgh.out
      have y0 := row_at h0.row (show 0 < b.length + 1 by omega)
      have HM0 := Lib.hid (h0.first (by omega))
      obtain ⟨Af, cf, hvf, hcf, hcf2⟩ := own_slice HM0.out.own
      rw [hvf] at y0 HM0
      clear h0 hvf hgh
      go_wp2_with fail
      clear y0
      go_loopw [12, 60] (fun v i wx => ∃ k : Nat, k ≤ b.length ∧ i = .int .i64 k ∧ Hid (Mg wx G (b.length + 1) G vs (ghK a b a.length) v (mgK a b k)) ∧ Hid (Below G w2 wx)) (fun _ i _ => b.length - (intOf i).toNat)
      case atStart => exact ⟨0, Nat.zero_le _, rfl, HM0, hbel⟩
      case round =>
        obtain ⟨k, hk, rfl, hmg, hbel⟩ := hrel
        have hszx : G ≤ wr.heap.size := by have := hbel.out.size; have := HGE.out; omega
        by_cases hlt : k < b.length
        · have hbb := Lib.hid (hbel.out.mono (show w2.heap.size ≤ G from Nat.le_of_eq HGE.out))
          obtain ⟨b1, o1, rfl, hb1, hc1⟩ := (T2.out.below hbb.out).one (iv_at b k hlt)
          have HEQ : Hid (mgK a b (k + 1) = mgK a b k ++ [at' b k] ++ ghK a b a.length (k + 1)) := rfl
          have hml := mgK_len a b k
          have hgl := ghK_len a b (k + 1) a.length
          have hmul : (k + 1) * (a.length + 1) ≤ 1001 * 1001 := Nat.mul_le_mul (by omega) (by omega)
          rw [show ats b k = at' b k from rfl] at hc1
          generalize at' b k = x at *
          obtain ⟨AE, cE, rfl, hcE, hcE2⟩ := own_slice hmg.out.own
          have HA := Lib.hid (hmg.out.alloc (.cells #[.int .i64 x] 3))
          obtain ⟨v1, w4, hrun1, hown1, hgrow1, _, hat1⟩ := run_append_own_at (P := Try.prog) (wr.alloc (.cells #[.int .i64 x] 3)) G 29 29 3 i0 (.int .i64 0) 1 8 Try.underlying29 hi hz0 hz1 hz2 rfl (by decide) _ _ _ HA.out.own ⟨wr.heap.size, 0, none⟩ 1 1 [.int .i64 x] rfl (cell_one_new _ _ _) (iv_one [x]) (by unfold maxLen; omega) (by omega) (by simp; omega)
          have H1 := Lib.hid (HA.out.add (new := [x]) rfl hown1 hgrow1 hat1)
          have S1 := Lib.hid ((hbel.out.alloc hszx (.cells #[.int .i64 x] 3)).grown hgrow1 (by simp; omega) (own_from HA.out.own))
          obtain ⟨g4, k4, rfl⟩ := ownsRow_succ hown1
          have hs4 : G ≤ w4.heap.size := by have := hgrow1.size; simp at this; omega
          have y4 := row_at H1.out.row (show k + 1 < b.length + 1 by omega)
          obtain ⟨AK, cK, hvK, hcK, hcK2⟩ := own_slice (H1.out.each (k + 1) (by omega) (by omega))
          have hoK := H1.out.each (k + 1) (by omega) (by omega)
          rw [hvK] at y4 hoK
          obtain ⟨v2, w5, hrun2, hown2, hgrow2, hat2⟩ := run_append_any (P := Try.prog) w4 G 29 29 3 i0 (.int .i64 0) 1 8 Try.underlying29 hi hz0 hz1 hz2 rfl (by decide) _ _ _ H1.out.own AK _ cK _ (own_none hoK) (by simp [iv]) (At.own hoK) (iv_one _) (by unfold maxLen; rw [List.length_append, List.length_singleton]; omega) (by rw [List.length_append, List.length_singleton]; omega) hs4
          have H2 := Lib.hid (H1.out.add rfl hown2 hgrow2 hat2)
          have S2 := Lib.hid (S1.out.grown hgrow2 hs4 (own_from H1.out.own))
          obtain ⟨A5, c5, rfl, hc5, hd5⟩ := own_slice hown2
          have hl1 : (mgK a b k ++ [x]).length = (mgK a b k).length + 1 := by simp
          rw [hl1] at hrun2 H2 hc5 hown2
          clear hown1 hgrow1 hat1 hown2 hgrow2 hat2 hoK hvK
          go_wp2_with fail
          go_roundw
          case rel => exact ⟨k + 1, by omega, by go_num, by show Mg _ _ _ _ _ _ _ _; rw [HEQ.out]; exact H2.out, S2⟩
          case measure => simp [intOf]; omega
        · obtain rfl : k = b.length := by omega
          obtain ⟨AE, cE, rfl, hcE, hcE2⟩ := own_slice hmg.out.own
          have HB := Lib.hid (B2.out.trans ((hbel.out.mono (show w2.heap.size ≤ G from Nat.le_of_eq HGE.out)).mono B2.out.size))
          have HL : w.heap.size ≤ G := by have := B2.out.size; have := HGE.out; omega
          go_wp2
          go_ret
          exact ⟨_, rfl, own_mono hmg.out.own HL, HB.out⟩
end Go.Proofs.Ytfapghekakdpgaa
