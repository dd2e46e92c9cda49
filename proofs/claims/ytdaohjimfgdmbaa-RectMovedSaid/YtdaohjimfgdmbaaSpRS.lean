/- Contract of the document's Snap: the one snapshot. -/
import Derived.Test.YtdaohjimfgdmbaaSpRef
namespace Go.Proofs.Ytdaohjimfgdmbaa
open Go.RowKit Sn
attribute [-go_sem] Builtin.append_
theorem infoEnR : (Try.prog.info? 44).map (fun i => (i.zero, i.size, i.bytes)) = some (some (.agg #[.int .i64 0, .int .i64 0, .int .i64 0, .int .i64 0, .int .i64 0]), 5, 40) := by kernel_rfl
/-- is a number above all that have come? -/
def Abv (out : List En) (s : Int) : Prop := ∀ y ∈ out, y.id < s
/-- the search of one round, k entries on. -/
structure Scan (L out : List En) (k : Nat) (f : Bool) (b : Int) : Prop where
  no : f = false → ∀ j, j < k → ¬ Abv out (el L j).id
  yes : f = true → (∃ j, j < k ∧ (el L j).id = b) ∧ Abv out b ∧ ∀ j, j < k → Abv out (el L j).id → b ≤ (el L j).id
theorem Scan.start (L out : List En) (b : Int) : Scan L out 0 false b := ⟨fun _ j h => by omega, fun h => nomatch h⟩
theorem Scan.pass {L out : List En} {k : Nat} {f : Bool} {b : Int} (h : Scan L out k f b) (hn : ¬ Abv out (el L k).id) : Scan L out (k + 1) f b := by
  refine ⟨fun hf j hj => ?_, fun hf => ?_⟩
  · rcases Nat.lt_or_ge j k with h1 | h1
    · exact h.no hf j h1
    · rw [show j = k by omega]; exact hn
  · obtain ⟨⟨j0, h1, h2⟩, h3, h4⟩ := h.yes hf
    refine ⟨⟨j0, by omega, h2⟩, h3, fun j hj ha => ?_⟩
    rcases Nat.lt_or_ge j k with h5 | h5
    · exact h4 j h5 ha
    · rw [show j = k by omega] at ha; exact absurd ha hn
theorem Scan.keep {L out : List En} {k : Nat} {b : Int} (h : Scan L out k true b) (hb : b ≤ (el L k).id) : Scan L out (k + 1) true b := by
  refine ⟨(fun hf => nomatch hf), fun hf => ?_⟩
  obtain ⟨⟨j0, h1, h2⟩, h3, h4⟩ := h.yes hf
  refine ⟨⟨j0, by omega, h2⟩, h3, fun j hj ha => ?_⟩
  rcases Nat.lt_or_ge j k with h5 | h5
  · exact h4 j h5 ha
  · rw [show j = k by omega]; exact hb
theorem Scan.take {L out : List En} {k : Nat} {f : Bool} {b : Int} (h : Scan L out k f b) (ha : Abv out (el L k).id) (hb : f = true → (el L k).id < b) : Scan L out (k + 1) true (el L k).id := by
  refine ⟨(fun hf => nomatch hf), fun _ => ⟨⟨k, by omega, rfl⟩, ha, fun j hj ha2 => ?_⟩⟩
  rcases Nat.lt_or_ge j k with h5 | h5
  · cases f with
    | false => exact absurd ha2 (h.no rfl j h5)
    | true => have := (h.yes rfl).2.2 j h5 ha2; have := hb rfl; omega
  · rw [show j = k by omega]; exact Int.le_refl _
theorem Scan.stop {L out : List En} {b : Int} (h : Scan L out L.length false b) (hp : Part (nm := En.id) L out) : Is En.id L out :=
  hp.stop fun x hx ha => by obtain ⟨k, hk, rfl⟩ := mem_el hx; exact h.no rfl k hk ha
theorem Scan.next {L out : List En} {b : Int} (h : Scan L out L.length true b) (hp : Part (nm := En.id) L out) : ∃ e, lastAt En.id L b = some e ∧ Part (nm := En.id) L (out ++ [e]) := by
  obtain ⟨⟨j0, h1, h2⟩, h3, h4⟩ := h.yes rfl
  cases hl : lastAt En.id L b with
  | none => exact absurd h2 (lastAt_none.1 hl _ (el_mem h1))
  | some e =>
    obtain ⟨_, he⟩ := lastAt_some hl
    subst he
    exact ⟨e, rfl, hp.step hl h3 fun x hx ha => by obtain ⟨k, hk, rfl⟩ := mem_el hx; exact h4 k hk ha⟩
theorem abv_nil (s : Int) : Abv [] s := fun y hy => (by cases hy)
theorem abv_last {out : List En} (h : Up En.id out) (h0 : 0 < out.length) (s : Int) : Abv out s ↔ (el out (out.length - 1)).id < s :=
  h.above (by rw [List.getLast?_eq_getElem?]; exact el_at (by omega)) s
theorem drewN_belowS {B : Nat} {a w : World} (h : Below B a w) (n : Nat) : Below B a (w.drewN n) := ⟨h.os, h.tape, h.output, h.size, h.block⟩
def slen (v : Value) : Nat := match v with | .slice _ k _ => k | _ => 0
set_option maxHeartbeats 8000000 in
set_option maxRecDepth 100000 in
theorem rsnap_any (A : Option Addr) (n c : Nat) (L : List En) (w : World) (hn : n = L.length) (hb : n ≤ 1000000) (ha : At w A (ecs L)) :
    Calls Try.prog 16 #[.slice A n c] w fun e w' => ∃ (r : List En) (v : Value), e = .returned v ∧ Is En.id L r ∧ w'.ownsRow w.heap.size 44 5 v r.length (ecs r) ∧ r.length ≤ n ∧ Below w.heap.size w w' := by
  have HN := Lib.hid hn
  have HA := Lib.hid ha
  have CG := Lib.hid (fun (id : Int) W (hW : Below w.heap.size w W) => rget_any A n c L id W hn hb (ha.below hW))
  clear hn ha
  obtain ⟨i0, hi, hz0, hz1, hz2⟩ := info_parts infoEnR
  go_enter Try.func16, Try.ntmps16
  go_wp2
  go_loopw [3] (fun v wr => ∃ out : List En, Hid (wr.ownsRow w.heap.size 44 5 v out.length (ecs out)) ∧ Hid (Part (nm := En.id) L out) ∧ Below w.heap.size w wr) (fun v _ => n + 1 - slen v)
  case atStart => exact ⟨[], Lib.hid (own_made w _ rfl (Nat.le_refl _)), Lib.hid (Part.start L), below_alloc _ _⟩
  case round =>
    obtain ⟨out, hown, hpart, hbel⟩ := hrel
    obtain ⟨A7, c7, rfl, hc7, hm7, hat7⟩ := at_of_own' hown.out
    have HAT := Lib.hid hat7
    have hol : out.length ≤ n := by have := hpart.out.len; have := HN.out; omega
    have HOL := Lib.hid hol
    obtain ⟨q, hq⟩ : ∃ q, q = out.length := ⟨_, rfl⟩
    have HQ := Lib.hid hq
    rw [← hq] at hown hc7 hol HOL ⊢
    have HB := Lib.hid hbel
    clear hat7 hq hbel
    go_wp2
    go_loopw [4, 5, 13] (fun f b i wx => ∃ (k : Nat) (fb : Bool) (bb : Int), k ≤ n ∧ f = .bool fb ∧ b = .int .i64 bb ∧ i = .int .i64 k ∧ Hid (Scan L out k fb bb) ∧ Hid (Below wr.heap.size wr wx)) (fun _ _ i _ => n - (intOf i).toNat)
    case atStart => exact ⟨0, false, 0, Nat.zero_le _, rfl, rfl, rfl, Lib.hid (Scan.start _ _ _), Lib.hid (Below.refl _ _)⟩
    case round =>
      obtain ⟨k, fb, bb, hk, rfl, rfl, rfl, hsc, hbx⟩ := hrel
      rename World => wx
      by_cases hlt : k < n
      · have hkL : k < L.length := by have := HN.out; omega
        have HBW := Lib.hid (HB.out.trans (hbx.out.mono HB.out.size))
        obtain ⟨b1, o1, rfl, hb1, hc0, hc1, hc2, hc3, hc4⟩ := at_en HA.out hkL
        have hd0 := (HBW.out.cell (p := ⟨b1, o1 + k * 5, none⟩) hb1).trans hc0
        have hd1 := (HBW.out.cell (p := ⟨b1, o1 + k * 5 + 1, none⟩) hb1).trans hc1
        have hd2 := (HBW.out.cell (p := ⟨b1, o1 + k * 5 + 2, none⟩) hb1).trans hc2
        have hd3 := (HBW.out.cell (p := ⟨b1, o1 + k * 5 + 3, none⟩) hb1).trans hc3
        have hd4 := (HBW.out.cell (p := ⟨b1, o1 + k * 5 + 4, none⟩) hb1).trans hc4
        obtain ⟨x, hx⟩ : ∃ x, x = (el L k).id := ⟨_, rfl⟩
        rw [← hx] at hd0
        have HX := Lib.hid hx
        generalize (el L k).x = x1 at *
        generalize (el L k).y = x2 at *
        generalize (el L k).w = x3 at *
        generalize (el L k).h = x4 at *
        obtain ⟨W1, hW1⟩ : ∃ W1, W1 = wx.alloc (.cells #[.int .i64 x, .int .i64 x1, .int .i64 x2, .int .i64 x3, .int .i64 x4] 44) := ⟨_, rfl⟩
        have hbk : Blk W1 wx.heap.size 44 #[.int .i64 x, .int .i64 x1, .int .i64 x2, .int .i64 x3, .int .i64 x4] := by rw [hW1]; exact Blk.new wx _ _
        have e0 := hbk.cell 0 (v := .int .i64 x) rfl
        have HB1 : Hid (Below wr.heap.size wr W1) := by show Below _ _ _; rw [hW1]; exact hbx.out.alloc hbx.out.size _
        have HW1 := Lib.hid hW1
        clear hc0 hc1 hc2 hc3 hc4 hkL hx hW1 hbk
        rcases Nat.eq_zero_or_pos q with h0 | h0
        · subst h0
          have HAB : Hid (Abv out (el L k).id) := by show Abv _ _; rw [List.eq_nil_of_length_eq_zero HQ.out.symm]; exact abv_nil _
          cases fb with
          | false =>
            go_upto_region 7 with fail
            rw [← HW1.out]
            clear hd0 hd1 hd2 hd3 hd4
            go_big_quiet (fail)
            go_wp2
            go_roundw
            case rel => exact ⟨k + 1, _, _, by omega, rfl, rfl, by go_num, Lib.hid (by rw [HX.out]; exact hsc.out.take HAB.out (fun h => nomatch h)), Lib.hid (drewN_belowS HB1.out _)⟩
            case measure => simp [intOf]; omega
          | true =>
            by_cases hxb : x < bb
            · have hxd : decide (x < bb) = true := by simpa using hxb
              have HXB := Lib.hid hxb
              clear hxb
              go_upto_region 7 with fail
              rw [← HW1.out]
              clear hd0 hd1 hd2 hd3 hd4
              go_big_quiet (fail)
              go_wp2
              go_roundw
              case rel => exact ⟨k + 1, _, _, by omega, rfl, rfl, by go_num, Lib.hid (by rw [HX.out]; exact hsc.out.take HAB.out (fun _ => by have := HXB.out; have := HX.out; omega)), Lib.hid (drewN_belowS HB1.out _)⟩
              case measure => simp [intOf]; omega
            · have hxd : decide (x < bb) = false := by simpa using hxb
              have HXB := Lib.hid hxb
              clear hxb
              go_upto_region 7 with fail
              rw [← HW1.out]
              clear hd0 hd1 hd2 hd3 hd4
              go_big_quiet (fail)
              go_wp2
              go_roundw
              case rel => exact ⟨k + 1, _, _, by omega, rfl, rfl, by go_num, Lib.hid (hsc.out.keep (by have := HXB.out; have := HX.out; omega)), Lib.hid (drewN_belowS HB1.out _)⟩
              case measure => simp [intOf]; omega
        · have HZ := Lib.hid (show Abv out (el L k).id ↔ _ from abv_last hpart.out.up (by have := HQ.out; omega) (el L k).id)
          have hzat : (ecs out)[(q - 1) * 5 + 0]? = some (.int .i64 (el out (q - 1)).id) := by have := ecs_at out (q - 1) (by have := HQ.out; omega) 0 (by omega); exact this
          obtain ⟨b2, o2, rfl, hb2, hz2⟩ := HAT.out.one hzat
          have hz1 : W1.cell? ⟨b2, o2 + (q - 1) * 5, none⟩ = some (.int .i64 (el out (q - 1)).id) := (HB1.out.cell (p := ⟨b2, o2 + (q - 1) * 5, none⟩) hb2).trans hz2
          rw [← HQ.out] at HZ
          obtain ⟨z, hz⟩ : ∃ z, z = (el out (q - 1)).id := ⟨_, rfl⟩
          rw [← hz] at hz1 HZ
          obtain ⟨q1, hq1⟩ : ∃ q1, q1 = q - 1 := ⟨_, rfl⟩
          rw [← hq1] at hz1
          have hwq : IntKind.i64.wrap ((q : Int) - 1) = (q1 : Int) := by rw [IntKind.wrap_i64]; omega
          have hq1a : (q1 : Int) < (q : Int) := by omega
          have hqz : ((q : Int) == 0) = false := by simp; omega
          have hq1b : (0 : Int) ≤ (q : Int) - 1 := by omega
          have hq1c : 1 ≤ (q : Int) := by omega
          have HZQ := Lib.hid hq1
          clear hz hz2 hzat hq1
          by_cases hzx : z < x
          · have HAB : Hid (Abv out (el L k).id) := HZ.out.2 (by have := HX.out; omega)
            have hzd : decide (z < x) = true := by simpa using hzx
            cases fb with
            | false =>
              go_upto_region 7 with fail
              rw [← HW1.out]
              clear hd0 hd1 hd2 hd3 hd4
              go_big_quiet (fail)
              go_wp2
              go_roundw
              case rel => exact ⟨k + 1, _, _, by omega, rfl, rfl, by go_num, Lib.hid (by rw [HX.out]; exact hsc.out.take HAB.out (fun h => nomatch h)), Lib.hid (drewN_belowS HB1.out _)⟩
              case measure => simp [intOf]; omega
            | true =>
              by_cases hxb : x < bb
              · have hxd : decide (x < bb) = true := by simpa using hxb
                have HXB := Lib.hid hxb
                clear hxb
                go_upto_region 7 with fail
                rw [← HW1.out]
                clear hd0 hd1 hd2 hd3 hd4
                go_big_quiet (fail)
                go_wp2
                go_roundw
                case rel => exact ⟨k + 1, _, _, by omega, rfl, rfl, by go_num, Lib.hid (by rw [HX.out]; exact hsc.out.take HAB.out (fun _ => by have := HXB.out; have := HX.out; omega)), Lib.hid (drewN_belowS HB1.out _)⟩
                case measure => simp [intOf]; omega
              · have hxd : decide (x < bb) = false := by simpa using hxb
                have HXB := Lib.hid hxb
                clear hxb
                go_upto_region 7 with fail
                rw [← HW1.out]
                clear hd0 hd1 hd2 hd3 hd4
                go_big_quiet (fail)
                go_wp2
                go_roundw
                case rel => exact ⟨k + 1, _, _, by omega, rfl, rfl, by go_num, Lib.hid (hsc.out.keep (by have := HXB.out; have := HX.out; omega)), Lib.hid (drewN_belowS HB1.out _)⟩
                case measure => simp [intOf]; omega
          · have HAB : Hid (¬ Abv out (el L k).id) := fun h => hzx (by have := HZ.out.1 h; have := HX.out; omega)
            have hzd : decide (z < x) = false := by simpa using hzx
            clear hzx
            cases fb <;> skip
            all_goals
              go_upto_region 7 with fail
              rw [← HW1.out]
              clear hd0 hd1 hd2 hd3 hd4
              go_big_quiet (fail)
              go_wp2
              go_roundw
              case rel => exact ⟨k + 1, _, _, by omega, rfl, rfl, by go_num, Lib.hid (hsc.out.pass HAB.out), Lib.hid (drewN_belowS HB1.out _)⟩
              case measure => simp [intOf]; omega
      · obtain rfl : k = n := by omega
        have hsn : Scan L out L.length fb bb := by have := HN.out; rw [← this]; exact hsc.out
        have HBW := Lib.hid (HB.out.trans (hbx.out.mono HB.out.size))
        have HOW := Lib.hid (own_below hown.out hbx.out)
        rename World => wx
        cases fb with
        | false =>
          have HIS := Lib.hid (hsn.stop hpart.out)
          clear hsn
          go_wp2
          go_ret
          exact ⟨out, _, rfl, HIS.out, by rw [← HQ.out]; exact HOW.out, by rw [← HQ.out]; exact HOL.out, HBW.out⟩
        | true =>
          obtain ⟨e, he, hnx⟩ := hsn.next hpart.out
          have C := CG.out bb _ HBW.out
          obtain ⟨_, hid⟩ := lastAt_some he
          rw [he] at C
          obtain ⟨x0, x1, x2, x3, x4⟩ := e
          have C : Calls Try.prog 13 #[.slice A k c, .int .i64 bb] wx fun e w' => e = .returned (.tuple #[.agg #[.int .i64 x1, .int .i64 x2, .int .i64 x3, .int .i64 x4], .bool true]) ∧ Below wx.heap.size wx w' := C
          have HC := Lib.hid C
          have HNX := Lib.hid hnx
          have hid : x0 = bb := hid
          subst hid
          clear C he hnx hsn hlt hk
          go_wp2_with fail
          refine HC.out.mono ?_
          rintro e9 w5 ⟨rfl, hb5⟩
          obtain ⟨W2, hW2⟩ : ∃ W2, W2 = w5.alloc (.cells #[.int .i64 x1, .int .i64 x2, .int .i64 x3, .int .i64 x4] 32) := ⟨_, rfl⟩
          have hb2 : Below wx.heap.size wx W2 := by rw [hW2]; exact hb5.alloc hb5.size _
          have HB2 := Lib.hid (HBW.out.trans (hb2.mono HBW.out.size))
          have hrow : W2.ownsRow w.heap.size 44 5 (.slice A7 q c7) q (ecs out) := own_below HOW.out hb2
          have hbk : Blk W2 w5.heap.size 32 #[.int .i64 x1, .int .i64 x2, .int .i64 x3, .int .i64 x4] := by rw [hW2]; exact Blk.new w5 _ _
          have e1 := hbk.cell 0 (v := .int .i64 x1) rfl
          have e2 := hbk.cell 1 (v := .int .i64 x2) rfl
          have e3 := hbk.cell 2 (v := .int .i64 x3) rfl
          have e4 := hbk.cell 3 (v := .int .i64 x4) rfl
          obtain ⟨v1, w6, hrun, hown1, hgrow1, _, hat1⟩ := run_append_own_at (P := Try.prog) (W2.alloc (.cells #[.int .i64 x0, .int .i64 x1, .int .i64 x2, .int .i64 x3, .int .i64 x4] 44)) w.heap.size 22 22 44 i0 _ 5 40 Try.underlying22 hi hz0 hz1 hz2 rfl (by decide) _ _ _ (hrow.alloc (.cells #[.int .i64 x0, .int .i64 x1, .int .i64 x2, .int .i64 x3, .int .i64 x4] 44))
            ⟨W2.heap.size, 0, none⟩ 1 1 [.int .i64 x0, .int .i64 x1, .int .i64 x2, .int .i64 x3, .int .i64 x4] rfl (cells_new' _ _ _ _ rfl _ rfl) (fun u hu => ec_one ⟨x0, x1, x2, x3, x4⟩ u hu) (by unfold maxLen; omega) (by omega) (by have := HB2.out.size; simp; omega)
          obtain ⟨A9, c9, rfl, hc9, hm9⟩ := own_slice hown1
          have HO9 := Lib.hid hown1
          have HB9 := Lib.hid ((HB2.out.alloc HB2.out.size (.cells #[.int .i64 x0, .int .i64 x1, .int .i64 x2, .int .i64 x3, .int .i64 x4] 44)).grown hgrow1 (by have := HB2.out.size; simp; omega) (fun j hj => own_from hrow j hj))
          have HW2 := Lib.hid hW2
          clear hW2 hbk hrow hown1 hgrow1 hat1 hb2 hb5 HC
          go_upto_region 14 with fail
          rw [← HW2.out]
          go_wp2
          go_roundw
          case rel => exact ⟨out ++ [⟨x0, x1, x2, x3, x4⟩], by show Hid _; exact Lib.hid (by rw [List.length_append, ← HQ.out, ecs_snoc]; exact HO9.out), HNX, HB9.out⟩
          case measure => simp [slen]; have := HOL.out; omega
end Go.Proofs.Ytdaohjimfgdmbaa
