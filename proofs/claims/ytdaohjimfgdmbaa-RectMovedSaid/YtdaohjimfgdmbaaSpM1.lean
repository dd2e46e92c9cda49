/- Contracts of (rect.Snap).Hit and Moved: the numbers of the entries that match, by rising numbers; and of the statements' Numbers. -/
import Derived.Test.YtdaohjimfgdmbaaSpR1
import Derived.Test.YtdaohjimfgdmbaaMapL
import Derived.Test.YtdaohjimfgdmbaaRcW2
namespace Go.Proofs.Ytdaohjimfgdmbaa
open Go.RowKit Go.Maps Sn M
attribute [-go_sem] Builtin.append_
def idsL (R : List En) (m : En → Bool) : List Int := (R.filter m).map (·.id)
theorem idsL_snoc (R : List En) (m : En → Bool) (e : En) : idsL (R ++ [e]) m = idsL R m ++ (if m e then [e.id] else []) := by
  unfold idsL
  rw [List.filter_append, List.map_append]
  cases h : m e <;> simp [h]
theorem idsL_len (R : List En) (m : En → Bool) : (idsL R m).length ≤ R.length := by
  unfold idsL
  rw [List.length_map]
  exact List.length_filter_le _ _
theorem take_nextE (R : List En) (k : Nat) (h : k < R.length) : R.take (k + 1) = R.take k ++ [el R k] := by
  rw [List.take_succ_eq_append_getElem h, el_eq h]
theorem infoIntM : (Try.prog.info? 3).map (fun i => (i.zero, i.size, i.bytes)) = some (some (.int .i64 0), 1, 8) := by kernel_rfl
theorem zc_one (z : Int) : ∀ v ∈ zc z, v.oneCell' = true := by intro v hv; rw [List.mem_singleton.1 hv]; rfl
theorem zcs_snoc (I : List Int) (z : Int) : (I ++ [z]).flatMap zc = I.flatMap zc ++ [.int .i64 z] := by simp [zc]
theorem zc_atM {w : World} {A : Option Addr} {I : List Int} (h : At w A (I.flatMap zc)) {k : Nat} (hk : k < I.length) : ∃ b off, A = some ⟨b, off, none⟩ ∧ b < w.heap.size ∧ w.cell? ⟨b, off + k, none⟩ = some (.int .i64 (I.getD k 0)) := by
  have h0 : (I.flatMap zc)[k * 1 + 0]? = (zc I[k])[0]? := Op.flat_at zc 1 (fun _ => rfl) I k hk 0 (by omega)
  rw [Nat.mul_one, Nat.add_zero] at h0
  have h1 : I.getD k 0 = I[k] := by simp [hk]
  rw [h1]
  exact h.one h0
theorem mem_is {L R : List En} (h : Is En.id L R) {x : En} (hx : x ∈ R) : x ∈ L := (lastAt_some (h.mem.1 hx)).1
set_option maxHeartbeats 4000000 in
set_option maxRecDepth 100000 in
/-- Numbers, of two rows of the same numbers. -/
theorem numbersM_any (A B : Option Addr) (n c d : Nat) (I : List Int) (w : World) (hn : n = I.length) (hb : n ≤ 1000000) (ha : At w A (I.flatMap zc)) (hb' : At w B (I.flatMap zc)) :
    Calls Try.prog 19 #[.slice A n c, .slice B n d] w fun e w' => e = .returned (.bool true) ∧ ∃ q, w' = w.drewN q := by
  have HN := Lib.hid hn
  have HA := Lib.hid ha
  have HB := Lib.hid hb'
  clear hn ha hb'
  go_enter Try.func19, Try.ntmps19
  go_wp2
  go_loopw [13] (fun i wr => ∃ k q : Nat, k ≤ n ∧ i = .int .i64 k ∧ wr = w.drewN q) (fun i _ => n - (intOf i).toNat)
  case atStart => exact ⟨0, 0, Nat.zero_le _, rfl, rfl⟩
  case round =>
    obtain ⟨k, q, hk, rfl, rfl⟩ := hrel
    by_cases hlt : k < n
    · have hk1 : k < I.length := by have := HN.out; omega
      obtain ⟨b1, o1, hA1, hb1, c0⟩ := zc_atM (HA.out.drewN q) hk1
      obtain ⟨b2, o2, hB2, hb2', d0⟩ := zc_atM (HB.out.drewN q) hk1
      subst hA1
      subst hB2
      generalize I.getD k 0 = x0 at *
      generalize hW : w.drewN q = W at *
      have HW := Lib.hid hW
      clear hW hk1
      go_upto_region 6 with fail
      go_big_quiet (fail)
      go_wp2
      rw [← HW.out, World.drewN_drewN]
      go_roundw
      case rel => exact ⟨k + 1, _, by omega, by go_num, rfl⟩
      case measure => simp [intOf]; omega
    · obtain rfl : k = n := by omega
      go_wp2
      go_ret
      exact ⟨rfl, _, rfl⟩
set_option maxHeartbeats 8000000 in
set_option maxRecDepth 100000 in
theorem idsHit_any (p q9 : Option Addr) (A : Option Addr) (n c : Nat) (L R : List En) (m : En → Bool) (w : World) (hn : n = L.length) (hb : n ≤ 100000) (hA0 : A = none → n = 0 ∧ c = 0) (ha : At w A (ecs L)) (hr : Is En.id L R)
    (hcall : ∀ W (e : En), Below w.heap.size w W → e ∈ L → Calls Try.prog 46 #[.agg #[.int .i64 e.id, .int .i64 e.x, .int .i64 e.y, .int .i64 e.w, .int .i64 e.h], .pointer p, .pointer q9] W fun e' w' => e' = .returned (.bool (m e)) ∧ Below W.heap.size W w') :
    Calls Try.prog 44 #[.slice A n c, .func (.func 46) #[] #[.pointer p, .pointer q9]] w fun e w' => ∃ v, e = .returned v ∧ w'.ownsRow w.heap.size 3 1 v (idsL R m).length ((idsL R m).flatMap zc) ∧ Below w.heap.size w w' := by
  have C1 := Lib.hid (snapOf_is A n c L R w hn (by omega) hA0 ha hr)
  have HRL : Hid (R.length ≤ 100000) := Nat.le_trans (is_len hr) (by omega)
  have HC := Lib.hid (fun W k (hk : k < R.length) (hW : Below w.heap.size w W) => hcall W (el R k) hW (mem_is hr (el_mem hk)))
  obtain ⟨i0, hi, hz0, hz1, hz2⟩ := info_parts infoIntM
  clear hn hA0 ha hr hcall
  obtain ⟨q, hq⟩ : ∃ q, q = R.length := ⟨_, rfl⟩
  have HQ := Lib.hid hq
  rw [← hq] at C1 HRL
  have hq5 : q ≤ 100000 := HRL.out
  clear hq
  go_enter Try.func44, Try.ntmps44
  go_wp2_with fail
  refine C1.out.mono ?_
  rintro e w1 ⟨A1, c1, rfl, hat1, _, hb1⟩
  have HAT := Lib.hid hat1
  have HB1 := Lib.hid hb1
  clear hat1 hb1 C1
  go_wp2_with fail
  go_loopw [5, 11] (fun v i wr => ∃ k : Nat, k ≤ q ∧ i = .int .i64 k ∧ Hid (wr.ownsRow w1.heap.size 3 1 v (idsL (R.take k) m).length ((idsL (R.take k) m).flatMap zc)) ∧ Hid (Below w1.heap.size w1 wr)) (fun _ i _ => q - (intOf i).toNat)
  case atStart => exact ⟨0, Nat.zero_le _, rfl, Lib.hid (World.ownsRow_nil _ _ _ _), Lib.hid (Below.refl _ _)⟩
  case round =>
    obtain ⟨k, hk, rfl, hown, hbel⟩ := hrel
    obtain ⟨AE, cE, rfl, hcE, hcE2⟩ := own_slice hown.out
    by_cases hlt : k < q
    · have hkR : k < R.length := by have := HQ.out; omega
      obtain ⟨b1, o1, hA, hlb, hc0, hc1, hc2, hc3, hc4⟩ := at_en (HAT.out.below hbel.out) hkR
      subst hA
      have hnx := idsL_snoc (R.take k) m (el R k)
      rw [← take_nextE R k hkR] at hnx
      have hPl := Nat.le_trans (idsL_len (R.take k) m) (by rw [List.length_take]; omega : (R.take k).length ≤ k)
      have CM := fun W hW => HC.out W k hkR hW
      generalize el R k = e at *
      obtain ⟨P, hP⟩ : ∃ P, P = idsL (R.take k) m := ⟨_, rfl⟩
      rw [← hP] at hown hnx hPl hcE ⊢
      obtain ⟨me, hme⟩ : ∃ b, b = m e := ⟨_, rfl⟩
      rw [← hme] at CM hnx
      have HNX := Lib.hid hnx
      have HCM := Lib.hid CM
      clear hP hnx hkR CM hme
      obtain ⟨x0, x1, x2, x3, x4⟩ := e
      dsimp only at hc0 hc1 hc2 hc3 hc4 HNX
      obtain ⟨pl, hpl⟩ : ∃ p, p = P.length := ⟨_, rfl⟩
      have HP := Lib.hid hpl
      rw [← hpl] at hown hcE hPl ⊢
      clear hpl
      obtain ⟨W1, hW1⟩ : ∃ W, W = wr.alloc (.cells #[.int .i64 x0, .int .i64 x1, .int .i64 x2, .int .i64 x3, .int .i64 x4] 74) := ⟨_, rfl⟩
      have hbw : Below wr.heap.size wr W1 := by rw [hW1]; exact below_alloc wr _
      obtain ⟨g, hg⟩ : ∃ g, g = wr.heap.size := ⟨_, rfl⟩
      have K1 := Lib.hid (show Blk W1 g 74 #[.int .i64 x0, .int .i64 x1, .int .i64 x2, .int .i64 x3, .int .i64 x4] by rw [hW1, hg]; exact Blk.new wr _ _)
      have HOW := Lib.hid (own_below hown.out hbw)
      have HBW := Lib.hid (hbel.out.trans (hbw.mono hbel.out.size))
      have HCW := Lib.hid (HCM.out W1 (HB1.out.trans (HBW.out.mono HB1.out.size)))
      have s0 := K1.out.cell 0 (v := .int .i64 x0) rfl
      have s1 := K1.out.cell 1 (v := .int .i64 x1) rfl
      have s2 := K1.out.cell 2 (v := .int .i64 x2) rfl
      have s3 := K1.out.cell 3 (v := .int .i64 x3) rfl
      have s4 := K1.out.cell 4 (v := .int .i64 x4) rfl
      have HW1 := Lib.hid hW1
      have HG := Lib.hid hg
      clear hW1 hbw hg hown hbel HCM
      go_upto_region 5 with fail
      rw [← HW1.out, ← HG.out]
      clear hc0 hc1 hc2 hc3 hc4
      cases me with
      | true =>
        have HN2 := Lib.hid (show idsL (R.take (k + 1)) m = P ++ [x0] from HNX.out)
        clear HNX
        go_wp2_with fail
        refine HCW.out.mono ?_
        rintro e9 w5 ⟨rfl, hb5⟩
        have K5 := K1.out.below hb5
        have s0 := K5.cell 0 (v := .int .i64 x0) rfl
        have HO5 := Lib.hid (own_below HOW.out hb5)
        have HB5 := Lib.hid (HBW.out.trans (hb5.mono HBW.out.size))
        clear K5 hb5 s1 s2 s3 s4 HCW
        obtain ⟨v1, w6, hrun, hown1, hgrow1, _, hat1⟩ := run_append_own_at (P := Try.prog) (w5.alloc (.cells #[.int .i64 x0] 3)) w1.heap.size 42 42 3 i0 _ 1 8 Try.underlying42 hi hz0 hz1 hz2 rfl (by decide) _ _ _ (HO5.out.alloc (.cells #[.int .i64 x0] 3))
          ⟨w5.heap.size, 0, none⟩ 1 1 [.int .i64 x0] rfl (cells_new' _ _ _ _ rfl _ rfl) (fun u hu => zc_one x0 u hu) (by unfold maxLen; omega) (by omega) (by have := HB5.out.size; simp; omega)
        obtain ⟨A9, c9, rfl, hc9, hm9⟩ := own_slice hown1
        have HO9 := Lib.hid hown1
        have HB9 := Lib.hid ((HB5.out.alloc HB5.out.size (.cells #[.int .i64 x0] 3)).grown hgrow1 (by have := HB5.out.size; simp; omega) (fun j hj => own_from HO5.out j hj))
        clear hown1 hgrow1 hat1 HO5 HB5
        go_wp2
        go_roundw
        case rel => exact ⟨k + 1, by omega, by go_num, Lib.hid (by rw [HN2.out, List.length_append, zcs_snoc, ← HP.out]; exact HO9.out), HB9⟩
        case measure => simp [intOf]; omega
      | false =>
        have HN2 := Lib.hid (show idsL (R.take (k + 1)) m = P ++ [] from HNX.out)
        clear HNX
        go_wp2_with fail
        refine HCW.out.mono ?_
        rintro e9 w5 ⟨rfl, hb5⟩
        have HO5 := Lib.hid (own_below HOW.out hb5)
        have HB5 := Lib.hid (HBW.out.trans (hb5.mono HBW.out.size))
        clear hb5 s0 s1 s2 s3 s4 HCW
        go_wp2
        go_roundw
        case rel => exact ⟨k + 1, by omega, by go_num, Lib.hid (by rw [HN2.out, List.append_nil, ← HP.out]; exact HO5.out), HB5⟩
        case measure => simp [intOf]; omega
    · obtain rfl : k = q := by omega
      have HS : Hid (R.take k = R) := List.take_of_length_le (by have := HQ.out; omega)
      rw [HS.out] at hown hcE ⊢
      go_wp2
      go_ret
      exact ⟨_, rfl, own_mono hown.out (by have := HB1.out.size; omega), HB1.out.trans (hbel.out.mono HB1.out.size)⟩
set_option maxHeartbeats 8000000 in
set_option maxRecDepth 100000 in
theorem idsMoved_any (p : Option Addr) (A : Option Addr) (n c : Nat) (L R : List En) (m : En → Bool) (w : World) (hn : n = L.length) (hb : n ≤ 100000) (hA0 : A = none → n = 0 ∧ c = 0) (ha : At w A (ecs L)) (hr : Is En.id L R)
    (hcall : ∀ W (e : En), Below w.heap.size w W → e ∈ L → Calls Try.prog 45 #[.agg #[.int .i64 e.id, .int .i64 e.x, .int .i64 e.y, .int .i64 e.w, .int .i64 e.h], .pointer p] W fun e' w' => e' = .returned (.bool (m e)) ∧ Below W.heap.size W w') :
    Calls Try.prog 44 #[.slice A n c, .func (.func 45) #[] #[.pointer p]] w fun e w' => ∃ v, e = .returned v ∧ w'.ownsRow w.heap.size 3 1 v (idsL R m).length ((idsL R m).flatMap zc) ∧ Below w.heap.size w w' := by
  have C1 := Lib.hid (snapOf_is A n c L R w hn (by omega) hA0 ha hr)
  have HRL : Hid (R.length ≤ 100000) := Nat.le_trans (is_len hr) (by omega)
  have HC := Lib.hid (fun W k (hk : k < R.length) (hW : Below w.heap.size w W) => hcall W (el R k) hW (mem_is hr (el_mem hk)))
  obtain ⟨i0, hi, hz0, hz1, hz2⟩ := info_parts infoIntM
  clear hn hA0 ha hr hcall
  obtain ⟨q, hq⟩ : ∃ q, q = R.length := ⟨_, rfl⟩
  have HQ := Lib.hid hq
  rw [← hq] at C1 HRL
  have hq5 : q ≤ 100000 := HRL.out
  clear hq
  go_enter Try.func44, Try.ntmps44
  go_wp2_with fail
  refine C1.out.mono ?_
  rintro e w1 ⟨A1, c1, rfl, hat1, _, hb1⟩
  have HAT := Lib.hid hat1
  have HB1 := Lib.hid hb1
  clear hat1 hb1 C1
  go_wp2_with fail
  go_loopw [5, 11] (fun v i wr => ∃ k : Nat, k ≤ q ∧ i = .int .i64 k ∧ Hid (wr.ownsRow w1.heap.size 3 1 v (idsL (R.take k) m).length ((idsL (R.take k) m).flatMap zc)) ∧ Hid (Below w1.heap.size w1 wr)) (fun _ i _ => q - (intOf i).toNat)
  case atStart => exact ⟨0, Nat.zero_le _, rfl, Lib.hid (World.ownsRow_nil _ _ _ _), Lib.hid (Below.refl _ _)⟩
  case round =>
    obtain ⟨k, hk, rfl, hown, hbel⟩ := hrel
    obtain ⟨AE, cE, rfl, hcE, hcE2⟩ := own_slice hown.out
    by_cases hlt : k < q
    · have hkR : k < R.length := by have := HQ.out; omega
      obtain ⟨b1, o1, hA, hlb, hc0, hc1, hc2, hc3, hc4⟩ := at_en (HAT.out.below hbel.out) hkR
      subst hA
      have hnx := idsL_snoc (R.take k) m (el R k)
      rw [← take_nextE R k hkR] at hnx
      have hPl := Nat.le_trans (idsL_len (R.take k) m) (by rw [List.length_take]; omega : (R.take k).length ≤ k)
      have CM := fun W hW => HC.out W k hkR hW
      generalize el R k = e at *
      obtain ⟨P, hP⟩ : ∃ P, P = idsL (R.take k) m := ⟨_, rfl⟩
      rw [← hP] at hown hnx hPl hcE ⊢
      obtain ⟨me, hme⟩ : ∃ b, b = m e := ⟨_, rfl⟩
      rw [← hme] at CM hnx
      have HNX := Lib.hid hnx
      have HCM := Lib.hid CM
      clear hP hnx hkR CM hme
      obtain ⟨x0, x1, x2, x3, x4⟩ := e
      dsimp only at hc0 hc1 hc2 hc3 hc4 HNX
      obtain ⟨pl, hpl⟩ : ∃ p, p = P.length := ⟨_, rfl⟩
      have HP := Lib.hid hpl
      rw [← hpl] at hown hcE hPl ⊢
      clear hpl
      obtain ⟨W1, hW1⟩ : ∃ W, W = wr.alloc (.cells #[.int .i64 x0, .int .i64 x1, .int .i64 x2, .int .i64 x3, .int .i64 x4] 74) := ⟨_, rfl⟩
      have hbw : Below wr.heap.size wr W1 := by rw [hW1]; exact below_alloc wr _
      obtain ⟨g, hg⟩ : ∃ g, g = wr.heap.size := ⟨_, rfl⟩
      have K1 := Lib.hid (show Blk W1 g 74 #[.int .i64 x0, .int .i64 x1, .int .i64 x2, .int .i64 x3, .int .i64 x4] by rw [hW1, hg]; exact Blk.new wr _ _)
      have HOW := Lib.hid (own_below hown.out hbw)
      have HBW := Lib.hid (hbel.out.trans (hbw.mono hbel.out.size))
      have HCW := Lib.hid (HCM.out W1 (HB1.out.trans (HBW.out.mono HB1.out.size)))
      have s0 := K1.out.cell 0 (v := .int .i64 x0) rfl
      have s1 := K1.out.cell 1 (v := .int .i64 x1) rfl
      have s2 := K1.out.cell 2 (v := .int .i64 x2) rfl
      have s3 := K1.out.cell 3 (v := .int .i64 x3) rfl
      have s4 := K1.out.cell 4 (v := .int .i64 x4) rfl
      have HW1 := Lib.hid hW1
      have HG := Lib.hid hg
      clear hW1 hbw hg hown hbel HCM
      go_upto_region 5 with fail
      rw [← HW1.out, ← HG.out]
      clear hc0 hc1 hc2 hc3 hc4
      cases me with
      | true =>
        have HN2 := Lib.hid (show idsL (R.take (k + 1)) m = P ++ [x0] from HNX.out)
        clear HNX
        go_wp2_with fail
        refine HCW.out.mono ?_
        rintro e9 w5 ⟨rfl, hb5⟩
        have K5 := K1.out.below hb5
        have s0 := K5.cell 0 (v := .int .i64 x0) rfl
        have HO5 := Lib.hid (own_below HOW.out hb5)
        have HB5 := Lib.hid (HBW.out.trans (hb5.mono HBW.out.size))
        clear K5 hb5 s1 s2 s3 s4 HCW
        obtain ⟨v1, w6, hrun, hown1, hgrow1, _, hat1⟩ := run_append_own_at (P := Try.prog) (w5.alloc (.cells #[.int .i64 x0] 3)) w1.heap.size 42 42 3 i0 _ 1 8 Try.underlying42 hi hz0 hz1 hz2 rfl (by decide) _ _ _ (HO5.out.alloc (.cells #[.int .i64 x0] 3))
          ⟨w5.heap.size, 0, none⟩ 1 1 [.int .i64 x0] rfl (cells_new' _ _ _ _ rfl _ rfl) (fun u hu => zc_one x0 u hu) (by unfold maxLen; omega) (by omega) (by have := HB5.out.size; simp; omega)
        obtain ⟨A9, c9, rfl, hc9, hm9⟩ := own_slice hown1
        have HO9 := Lib.hid hown1
        have HB9 := Lib.hid ((HB5.out.alloc HB5.out.size (.cells #[.int .i64 x0] 3)).grown hgrow1 (by have := HB5.out.size; simp; omega) (fun j hj => own_from HO5.out j hj))
        clear hown1 hgrow1 hat1 HO5 HB5
        go_wp2
        go_roundw
        case rel => exact ⟨k + 1, by omega, by go_num, Lib.hid (by rw [HN2.out, List.length_append, zcs_snoc, ← HP.out]; exact HO9.out), HB9⟩
        case measure => simp [intOf]; omega
      | false =>
        have HN2 := Lib.hid (show idsL (R.take (k + 1)) m = P ++ [] from HNX.out)
        clear HNX
        go_wp2_with fail
        refine HCW.out.mono ?_
        rintro e9 w5 ⟨rfl, hb5⟩
        have HO5 := Lib.hid (own_below HOW.out hb5)
        have HB5 := Lib.hid (HBW.out.trans (hb5.mono HBW.out.size))
        clear hb5 s0 s1 s2 s3 s4 HCW
        go_wp2
        go_roundw
        case rel => exact ⟨k + 1, by omega, by go_num, Lib.hid (by rw [HN2.out, List.append_nil, ← HP.out]; exact HO5.out), HB5⟩
        case measure => simp [intOf]; omega
    · obtain rfl : k = q := by omega
      have HS : Hid (R.take k = R) := List.take_of_length_le (by have := HQ.out; omega)
      rw [HS.out] at hown hcE ⊢
      go_wp2
      go_ret
      exact ⟨_, rfl, own_mono hown.out (by have := HB1.out.size; omega), HB1.out.trans (hbel.out.mono HB1.out.size)⟩
set_option maxHeartbeats 4000000 in
set_option maxRecDepth 100000 in
theorem hit_any (A : Option Addr) (n c : Nat) (L R : List En) (px py : Int) (w : World) (hn : n = L.length) (hb : n ≤ 100000) (hA0 : A = none → n = 0 ∧ c = 0) (ha : At w A (ecs L)) (hr : Is En.id L R) :
    Calls Try.prog 21 #[.slice A n c, .int .i64 px, .int .i64 py] w fun e w' => ∃ v, e = .returned v ∧ w'.ownsRow w.heap.size 3 1 v (idsL R fun e => inR e.x e.y e.w e.h px py).length ((idsL R fun e => inR e.x e.y e.w e.h px py).flatMap zc) ∧ Below w.heap.size w w' := by
  obtain ⟨g, hg⟩ : ∃ g, g = w.heap.size := ⟨_, rfl⟩
  obtain ⟨W0, hW0⟩ : ∃ W, W = (w.alloc (.cells #[.int .i64 px] 3)).alloc (.cells #[.int .i64 py] 3) := ⟨_, rfl⟩
  have hB0 : Below w.heap.size w W0 := by rw [hW0]; exact (below_alloc w _).alloc (by simp) _
  have K0 : Blk W0 g 3 #[.int .i64 px] := by rw [hW0, hg]; exact (Blk.new w _ _).alloc _
  have K1 : Blk W0 (g + 1) 3 #[.int .i64 py] := by rw [hW0, hg]; exact Blk.new' _ _ _ _ (by simp)
  have C := Lib.hid (idsHit_any (some ⟨g, 0, none⟩) (some ⟨g + 1, 0, none⟩) A n c L R (fun e => inR e.x e.y e.w e.h px py) W0 hn hb hA0 (ha.below hB0) hr (fun W e hW _ => by
    obtain ⟨x0, x1, x2, x3, x4⟩ := e
    have L0 := (K0.below hW).alloc (.cells #[.int .i64 x0, .int .i64 x1, .int .i64 x2, .int .i64 x3, .int .i64 x4] 74)
    have L1 := (K1.below hW).alloc (.cells #[.int .i64 x0, .int .i64 x1, .int .i64 x2, .int .i64 x3, .int .i64 x4] 74)
    have c0 := L0.cell 0 (v := .int .i64 px) rfl
    have c1 := L1.cell 0 (v := .int .i64 py) rfl
    have CH := Lib.hid (fun W => has_any x1 x2 x3 x4 px py W)
    dsimp only
    generalize inR x1 x2 x3 x4 px py = bb at *
    clear L0 L1 K0 K1 hW hn hb hA0 ha hr hB0 hW0 hg
    go_enter Try.func46, Try.ntmps46
    go_wp2_with fail
    refine (CH.out _).mono ?_
    rintro e9 w5 ⟨rfl, hb5⟩
    have HB5 := Lib.hid ((below_alloc W _).trans (hb5.mono (by simp)))
    clear hb5
    go_wp2
    go_ret
    exact ⟨rfl, HB5.out⟩))
  have HB0 := Lib.hid hB0
  have HW0 := Lib.hid hW0
  have HG := Lib.hid hg
  clear hg hW0 hB0 K0 K1 hn hA0 ha hr
  go_enter Try.func21, Try.ntmps21
  go_wp2_with fail
  rw [← HW0.out, ← HG.out]
  refine C.out.mono ?_
  rintro e w1 ⟨v, rfl, hv, hb1⟩
  have HV := Lib.hid hv
  have HB1 := Lib.hid (HB0.out.trans (hb1.mono HB0.out.size))
  clear hv hb1
  go_wp2
  go_ret
  exact ⟨_, rfl, own_mono HV.out HB0.out.size, HB1.out⟩
end Go.Proofs.Ytdaohjimfgdmbaa
