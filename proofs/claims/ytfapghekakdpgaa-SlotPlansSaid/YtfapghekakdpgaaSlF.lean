/- Contracts of the statements' after and right. -/
import Derived.Test.YtfapghekakdpgaaSlA
import Derived.Test.YtfapghekakdpgaaMapL
namespace Go.Proofs.Ytfapghekakdpgaa
open Go.RowKit Gr Go.Maps Sl
set_option linter.unusedVariables false
set_option linter.unusedSimpArgs false
attribute [-go_sem] Builtin.append_
theorem wpList_insert_mo {α : Type} [DecidableEq α] {P : Program} {w : World} {ops : Array Oper} {rest : List Oper} {o : Oper} {a : Act} {Q : Exit → Act → World → Prop} {kv : α → Value} {kl : α → Lit} {ok : α → Prop} (hg : o.guard = none) (m x v : Operand) (t K E : TypeId) (hop : o.op = Op.insert t m x v)
    (W : Way P K kv kl ok) (ht : P.underlying t = some (.map K E)) (b n : Nat) (f : α → Option Value) (hm : a.eval m = .map (some b)) (h : MapOf P K kl ok w b f n) (hn : n < maxLen) (i : α) (hi : ok i) (val : Value)
    (hx : a.eval x = kv i) (hv : a.eval v = val) (hK : ∀ w', MapOf P K kl ok w' b (fun j => if j = i then some val else f j) (if (f i).isSome then n else n + 1) → w.grownBy w' (some b) → w'.heap.size = w.heap.size → wpList P ops Q rest (a.put o.dst undef) w') : wpList P ops Q (o :: rest) a w :=
  wpList_plain hg fun K' hK' => by
    obtain ⟨w', hrun, r1, r2, r3⟩ := h.store W ht hn i hi val
    have h3 := hK' _ _ (hK w' r1 r2 r3)
    unfold Oper.wp
    simp [execOp, hop, hm, hx, hv, hrun, Result.andThen]
    exact h3
theorem wpList_look_mo {α : Type} {P : Program} {w : World} {ops : Array Oper} {rest : List Oper} {o : Oper} {a : Act} {Q : Exit → Act → World → Prop} {kv : α → Value} {kl : α → Lit} {ok : α → Prop} (hg : o.guard = none) (m x : Operand) (t K E : TypeId) (hop : o.op = Op.lookup t m x false)
    (W : Way P K kv kl ok) (ht : P.underlying t = some (.map K E)) {z0 : Value} (hz : ∀ w, (zeroValue E).run P w = .ok z0 w) (b n : Nat) (f : α → Option Value) (hm : a.eval m = .map (some b)) (h : MapOf P K kl ok w b f n) (i : α) (hi : ok i)
    (hx : a.eval x = kv i) (v : Value) (hv : (f i).getD z0 = v) (hK : wpList P ops Q rest (a.put o.dst v) w) : wpList P ops Q (o :: rest) a w :=
  wpList_plain hg fun K' hK' => by
    have hrun := h.look W ht hz i hi
    rw [hv] at hrun
    have h3 := hK' _ _ hK
    unfold Oper.wp
    simp [execOp, hop, hm, hx, hrun, Result.andThen]
    exact h3
namespace Sl
def startK (st : Int) : Int := if st = 2 then 1 else if st = 1 then 2 else 0
/-- the kind behind a plan's word; none: it is dropped. -/
def kindA (st x z : Int) : Option Int := if x = 1 then some 5 else if x = 2 then some 4 else if x = 4 then some (startK st) else if x = 3 then none else some z
def aftK (L : List Sk) (E : List Int) (st : Int) (R : List Nat) (i : Nat) : List Sk := match kindA st (ats E i) (sk L i).2 with
  | none => []
  | some z => [((sk L i).1, if i ∈ R then 6 else z)]
def aftTo (L : List Sk) (E : List Int) (st : Int) (R : List Nat) (k : Nat) : List Sk := (List.range k).flatMap (aftK L E st R)
def aftL (L : List Sk) (key : ByteArray) (E : List Int) (tk st : Int) (R : List Nat) : List Sk := aftTo L E st R L.length ++ (if tk = -1 then [(key, startK st)] else [])
theorem aftTo_next (L : List Sk) (E : List Int) (st : Int) (R : List Nat) (k : Nat) : aftTo L E st R (k + 1) = aftTo L E st R k ++ aftK L E st R k := by simp [aftTo, List.range_succ, List.flatMap_append]
theorem aftTo_len (L : List Sk) (E : List Int) (st : Int) (R : List Nat) : ∀ k, (aftTo L E st R k).length ≤ k
  | 0 => by simp [aftTo]
  | k + 1 => by
    rw [aftTo_next, List.length_append]
    have := aftTo_len L E st R k
    have h2 : (aftK L E st R k).length ≤ 1 := by unfold aftK; split <;> simp
    omega
theorem aftL_len (L : List Sk) (key : ByteArray) (E : List Int) (tk st : Int) (R : List Nat) : (aftL L key E tk st R).length ≤ L.length + 1 := by
  unfold aftL
  rw [List.length_append]
  have := aftTo_len L E st R L.length
  split <;> simp <;> omega
def stF (j : Int) : Option Value := if j = 2 then some (.int .i64 1) else if j = 1 then some (.int .i64 2) else none
theorem stF_get (st : Int) : (stF st).getD (.int .i64 0) = .int .i64 (startK st) := by
  unfold stF startK
  split
  · rfl
  · split <;> rfl
end Sl
theorem infoSk : (Try.prog.info? 63).map (fun i => (i.zero, i.size, i.bytes)) = some (some (.agg #[.string { data := #[] }, .int .i64 0]), 2, 24) := by kernel_rfl
theorem okS_st {st : Int} (h : st = 0 ∨ st = 1 ∨ st = 2) : OkI st := by rcases h with rfl | rfl | rfl <;> (show (Lit.int .i64 _).wf = true; decide)
set_option maxHeartbeats 16000000 in
set_option maxRecDepth 100000 in
theorem after_any (A : Option Addr) (n c : Nat) (L : List Sk) (key : ByteArray) (EA : Option Addr) (ec : Nat) (E : List Int) (tk st : Int) (RA : Option Addr) (rn rc : Nat) (R : List Nat) (w : World) (hn : n = L.length) (h1 : n ≤ 1000) (hE : n = E.length) (hrn : rn = R.length) (h2 : rn ≤ 1000) (hst : st = 0 ∨ st = 1 ∨ st = 2)
    (ha : At w A (scs L)) (he : At w EA (iv E)) (hr : At w RA (nv R)) :
    Calls Try.prog 30 #[.slice A n c, .string key, .agg #[.slice EA n ec, .int .i64 tk, .int .i64 st, .slice RA rn rc]] w fun e w' => ∃ v, e = .returned (.tuple #[v, .bool true]) ∧ w'.ownsRow w.heap.size 63 2 v (aftL L key E tk st R).length (scs (aftL L key E tk st R)) ∧ Below w.heap.size w w' := by
  obtain ⟨bq, hbq⟩ : ∃ b, b = w.heap.size := ⟨_, rfl⟩
  obtain ⟨U, hU⟩ : ∃ W, W = w.alloc (.cells #[.slice EA n ec, .int .i64 tk, .int .i64 st, .slice RA rn rc] 50) := ⟨_, rfl⟩
  have hbU : Below w.heap.size w U := by rw [hU]; exact below_alloc w _
  have KQ := Lib.hid (show Blk U bq 50 #[.slice EA n ec, .int .i64 tk, .int .i64 st, .slice RA rn rc] by rw [hU, hbq]; exact Blk.new w _ _)
  have HA0 := Lib.hid (ha.below hbU)
  have HE0 := Lib.hid (he.below hbU)
  have HR0 := Lib.hid (hr.below hbU)
  have HN := Lib.hid hn
  have HEL := Lib.hid hE
  have HRN := Lib.hid hrn
  have HOST := Lib.hid (okS_st hst)
  have HU := Lib.hid hU
  have HG := Lib.hid hbq
  have HBU := Lib.hid hbU
  obtain ⟨i0, hi, hz0, hz1, hz2⟩ := info_parts infoSk
  have hmm := @run_makeMap Try.prog
  have r0 := KQ.out.cell 0 (v := .slice EA n ec) rfl
  have hnn : ((n : Int) != (n : Int)) = false := by simp
  clear hU hbq hbU ha he hr hn hE hrn hst
  go_enter Try.func30, Try.ntmps30
  go_upto_region 1 with fail
  rw [← HU.out, ← HG.out]
  obtain ⟨U1, hU1⟩ : ∃ W, W = U.alloc (.map #[] 0) := ⟨_, rfl⟩
  obtain ⟨mb, hmb⟩ : ∃ b, b = U.heap.size := ⟨_, rfl⟩
  have M0 : Hid (MapOf Try.prog 3 ikey OkI U1 mb (fun _ => none) 0) := by show MapOf _ _ _ _ _ _ _ _; rw [hU1, hmb]; exact MapOf.made _ _ _ _ _
  have B0 := Lib.hid (show Below U.heap.size U U1 by rw [hU1]; exact below_alloc U _)
  have HU1 := Lib.hid hU1
  have HMB := Lib.hid hmb
  clear hU1 hmb
  go_upto_region 4 with fail
  go_upto_region 5 with (first | (rw [← HU1.out, ← HMB.out]; refine wpList_insert_mo rfl _ _ _ 96 3 3 rfl (intWay Try.underlying3) Try.underlying96 mb 0 _ rfl M0.out (by unfold maxLen; omega) 1 (by show (Lit.int .i64 1).wf = true; decide) (.int .i64 2) rfl rfl ?_; intro U2 hm2 hg2 hs2; have M2 := Lib.hid hm2; have B2 := Lib.hid (B0.out.grown hg2 B0.out.size (fun q hq => by injection hq with hq; have := HMB.out; omega)); clear hm2 hg2 hs2) | (refine wpList_insert_mo rfl _ _ _ 96 3 3 rfl (intWay Try.underlying3) Try.underlying96 mb _ _ rfl M2.out (by simp [maxLen]) 2 (by show (Lit.int .i64 2).wf = true; decide) (.int .i64 1) rfl rfl ?_; intro U3 hm3 hg3 hs3; have M3 := Lib.hid hm3; have B3 := Lib.hid (B2.out.grown hg3 B2.out.size (fun q hq => by injection hq with hq; have := HMB.out; omega)); clear hm3 hg3 hs3))
  have M3' : Hid (MapOf Try.prog 3 ikey OkI U3 mb stF 2) := by
    show MapOf _ _ _ _ _ _ _ _
    have h9 := M3.out
    exact h9.congr (fun a _ => by unfold stF; rfl)
  have KQ3 := Lib.hid (KQ.out.below B3.out)
  have HA3 := Lib.hid (HA0.out.below B3.out)
  have HE3 := Lib.hid (HE0.out.below B3.out)
  have HR3 := Lib.hid (HR0.out.below B3.out)
  have HB3' := Lib.hid (HBU.out.trans (B3.out.mono HBU.out.size))
  obtain ⟨gq, hgq⟩ : ∃ g, g = U3.heap.size := ⟨_, rfl⟩
  have HGQ : Hid (gq = U3.heap.size) := hgq
  clear hgq M0 M2 M3 B0 B2 hmm r0 KQ HA0 HE0 HR0
  go_wp2_with fail
  go_loopw [8, 24] (fun v i wz => ∃ k : Nat, k ≤ n ∧ i = .int .i64 k ∧ Hid (wz.ownsRow gq 63 2 v (aftTo L E st R k).length (scs (aftTo L E st R k))) ∧ Hid (Below U3.heap.size U3 wz)) (fun _ i _ => n - (intOf i).toNat)
  case atStart => exact ⟨0, Nat.zero_le _, rfl, World.ownsRow_nil _ _ _ _, Below.refl _ _⟩
  case round =>
    obtain ⟨k, hk, rfl, hown, hbel⟩ := hrel
    have hal := aftTo_len L E st R k
    by_cases hlt : k < n
    · have hkl : k < L.length := by have := HN.out; omega
      obtain ⟨b1, o1, hA1, hb1, hc0, hc1⟩ := at_sk HA3.out hkl
      have hd0 := (hbel.out.cell (p := ⟨b1, o1 + k * 2, none⟩) hb1).trans hc0
      have hd1 := (hbel.out.cell (p := ⟨b1, o1 + k * 2 + 1, none⟩) hb1).trans hc1
      obtain ⟨b2, o2, hE1, hb2, hc2⟩ := HE3.out.one (iv_at E k (by have := HEL.out; omega))
      have HNX0 := Lib.hid (aftTo_next L E st R k)
      have haf : aftK L E st R k = match kindA st (ats E k) (sk L k).2 with | none => [] | some z => [((sk L k).1, if k ∈ R then 6 else z)] := rfl
      obtain ⟨s, hs⟩ : ∃ s, s = (sk L k).1 := ⟨_, rfl⟩
      obtain ⟨z, hz⟩ : ∃ s, s = (sk L k).2 := ⟨_, rfl⟩
      obtain ⟨x, hx⟩ : ∃ s, s = ats E k := ⟨_, rfl⟩
      rw [← hs, ← hz, ← hx] at haf
      rw [← hs] at hd0
      rw [← hz] at hd1
      rw [← hx] at hc2
      obtain ⟨AO, cO, rfl, hcO, hmO⟩ := own_slice hown.out
      have hwr := hbel.out.size
      obtain ⟨gk, hgk⟩ : ∃ g, g = wr.heap.size := ⟨_, rfl⟩
      obtain ⟨W3, hW3⟩ : ∃ W, W = wr.alloc (.cells #[.string s, .int .i64 z] 63) := ⟨_, rfl⟩
      have hb3 : Below wr.heap.size wr W3 := by rw [hW3]; exact below_alloc _ _
      have K3 := Lib.hid (show Blk W3 gk 63 #[.string s, .int .i64 z] by rw [hW3, hgk]; exact Blk.new wr _ _)
      have HB3 := Lib.hid (hbel.out.trans (hb3.mono hwr))
      have HO3 := Lib.hid (own_below hown.out hb3)
      have HOG : Hid (∀ q, (Value.slice AO (aftTo L E st R k).length cO).ownBlock = some q → q ≠ gk) := fun q hq e => by have := (hown.out.lt q hq).2; omega
      have HGK : Hid (∀ g, g = gk → U3.heap.size ≤ g) := fun g e => by omega
      have HM3 := Lib.hid (M3'.out.below HB3.out)
      have HRA := HR3
      have HKQ := KQ3
      have r0 := (KQ3.out.below HB3.out).cell 0 (v := .slice EA n ec) rfl
      have r2 := (KQ3.out.below HB3.out).cell 2 (v := .int .i64 st) rfl
      have d2 := (HB3.out.cell (p := ⟨b2, o2 + k, none⟩) hb2).trans hc2
      have q0 := K3.out.cell 0 (v := .string s) rfl
      have q1 := K3.out.cell 1 (v := .int .i64 z) rfl
      have p1 := K3.out.frozen 1
      have HW3 := Lib.hid hW3
      have HGKE := Lib.hid hgk
      have HAF := Lib.hid haf
      subst hA1 hE1
      clear hs hz hx hc0 hc1 hc2 hb3 hW3 hgk haf hown hbel
      go_upto_region 8 with fail
      rw [← HW3.out, ← HGKE.out]
      by_cases x1 : x = 1
      · have e1 : (x == 1) = true := by simpa using x1
        have HAK : Hid (aftK L E st R k = [(s, if k ∈ R then 6 else 5)]) := by show _ = _; rw [HAF.out, x1]; rfl
        clear x1 HAF
        go_upto_region 16 with fail
        obtain ⟨W4, hW4⟩ : ∃ W, W = W3.setCell ⟨gk, 1, none⟩ (.int .i64 5) := ⟨_, rfl⟩
        rw [← hW4]
        obtain ⟨z', hz'⟩ : ∃ y : Int, y = 5 := ⟨_, rfl⟩
        have K4 := Lib.hid (show Blk W4 gk 63 #[.string s, .int .i64 z'] by rw [hW4, hz']; exact K3.out.set 1 _)
        have hs34 : Beside (fun g => g = gk) W3 W4 := by rw [hW4]; exact (Beside.refl (fun g => g = gk) W3).set (.inl rfl) 1 _
        have HB4 := Lib.hid (hs34.below HB3.out HB3.out.size HGK.out)
        have HO4 := Lib.hid (hs34.keepsOwn HO3.out (fun q hq e => HOG.out q hq e))
        have HNX : Hid (aftTo L E st R (k + 1) = aftTo L E st R k ++ [(s, if k ∈ R then 6 else z')]) := by show _ = _; rw [HNX0.out, HAK.out, hz']
        have r24 := ((HKQ.out.below HB4.out).cell 3 (v := .slice RA rn rc) rfl)
        clear hW4 hz' hs34 K3 HB3 HO3 HM3 q0 q1 p1 HNX0 HAK
        go_upto_region 17 with fail
        go_loopw [52] (fun i wz => ∃ q : Nat, q ≤ rn ∧ i = .int .i64 q ∧ Hid (Blk wz gk 63 #[.string s, .int .i64 (if (k : Nat) ∈ R.take q then 6 else z')]) ∧ Hid (Beside (fun g => g = gk) W4 wz)) (fun i _ => rn - (intOf i).toNat)
        case atStart => exact ⟨0, Nat.zero_le _, rfl, by show Blk _ _ _ _; simpa using K4.out, Beside.refl _ _⟩
        case round =>
          obtain ⟨q, hq, rfl, hK, hS⟩ := hrel
          have HBz := Lib.hid (hS.out.below HB4.out HB4.out.size HGK.out)
          by_cases hqr : q < rn
          · have hql : q < R.length := by have := HRN.out; omega
            obtain ⟨b5, o5, hA5, hb5, hc5⟩ := (HRA.out.below HBz.out).one (nv_at R q hql)
            have htk := List.take_succ_eq_append_getElem hql
            have hge : R.getD q 0 = R[q] := by simp [hql]
            rw [hge] at hc5
            generalize R[q] = r at *
            have e1 := hK.out.cell 0 (v := .string s) rfl
            have e2 := hK.out.cell 1 (v := .int .i64 (if (k : Nat) ∈ R.take q then 6 else z')) rfl
            have f2 := hK.out.frozen 1
            subst hA5
            have HT := Lib.hid htk
            clear htk hge
            by_cases hrk : r = k
            · have hi : ((r : Int) == (k : Int)) = true := by rw [hrk]; simp
              have hin : (if (k : Nat) ∈ R.take (q + 1) then (6 : Int) else z') = 6 := by rw [HT.out, if_pos (by simp [hrk])]
              have HIN := Lib.hid hin
              obtain ⟨Z, hZ⟩ : ∃ W, W = wr.setCell ⟨gk, 1, none⟩ (.int .i64 6) := ⟨_, rfl⟩
              have KZ := Lib.hid (show Blk Z gk 63 #[.string s, .int .i64 6] by rw [hZ]; exact hK.out.set 1 _)
              have SZ := Lib.hid (show Beside (fun g => g = gk) W4 Z by rw [hZ]; exact hS.out.set (.inl rfl) 1 _)
              have HZ := Lib.hid hZ
              subst hrk
              clear hin hZ
              go_upto_region 21 with fail
              rw [← HZ.out]
              go_wp2
              go_roundw
              case rel => exact ⟨q + 1, by omega, by go_num, by rw [HIN.out]; exact KZ, SZ⟩
              case measure => simp [intOf]; omega
            · have hi : ((r : Int) == (k : Int)) = false := by rw [beq_eq_false_iff_ne]; omega
              have hin : (if (k : Nat) ∈ R.take (q + 1) then (6 : Int) else z') = (if (k : Nat) ∈ R.take q then 6 else z') := by
                have : (k : Nat) ∈ R.take (q + 1) ↔ k ∈ R.take q := by rw [HT.out, List.mem_append, List.mem_singleton]; exact ⟨fun h => h.resolve_right (fun e => hrk e.symm), .inl⟩
                simp only [this]
              have HIN := Lib.hid hin
              clear hin hrk
              go_wp2
              go_roundw
              case rel => exact ⟨q + 1, by omega, by go_num, by rw [HIN.out]; exact hK, hS⟩
              case measure => simp [intOf]; omega
          · obtain rfl : rn = q := by omega
            have hK' : Blk wr gk 63 #[.string s, .int .i64 (if k ∈ R then 6 else z')] := by have h9 := hK.out; rw [HRN.out, List.take_length] at h9; exact h9
            have HOW := Lib.hid (hS.out.keepsOwn HO4.out (fun q hq e => HOG.out q hq e))
            obtain ⟨zz, hzz⟩ : ∃ y : Int, y = if k ∈ R then 6 else z' := ⟨_, rfl⟩
            rw [← hzz] at hK'
            have HNX2 : Hid (scs (aftTo L E st R (k + 1)) = scs (aftTo L E st R k) ++ [.string s, .int .i64 zz]) := by show _ = _; rw [HNX.out, ← hzz, scs_app]; rfl
            have HNL : Hid ((aftTo L E st R (k + 1)).length = (aftTo L E st R k).length + 1) := by show _ = _; rw [HNX.out, List.length_append]; rfl
            have hzr := HBz.out.size
            have e1 := hK'.cell 0 (v := .string s) rfl
            have e2 := hK'.cell 1 (v := .int .i64 zz) rfl
            obtain ⟨v1, w1, hrun, hown1, hgrow1, _, hat1⟩ := run_append_own_at (P := Try.prog) (wr.alloc (.cells #[.string s, .int .i64 zz] 63)) gq 44 44 63 i0 (.agg #[.string { data := #[] }, .int .i64 0]) 2 24 Try.underlying44 hi hz0 hz1 hz2 rfl (by decide) _ _ _ (HOW.out.alloc (.cells #[.string s, .int .i64 zz] 63)) ⟨wr.heap.size, 0, none⟩ 1 1 [.string s, .int .i64 zz] rfl (cells_new' _ _ _ _ rfl _ rfl) (fun u hu => by simp at hu; rcases hu with rfl | rfl <;> rfl) (by unfold maxLen; omega) (by omega) (by rw [size_alloc]; have := HGQ.out; omega)
            have B1 := Lib.hid (Below.grown (HBz.out.alloc hzr (.cells #[.string s, .int .i64 zz] 63)) hgrow1 (by rw [size_alloc]; omega) (fun j hj => by have := own_from HOW.out j hj; have := HGQ.out; omega))
            have HO1 := Lib.hid hown1
            clear hown1 hgrow1 hat1 hK hK' hS hzz
            go_wp2_with fail
            clear hrun
            go_roundw
            case rel => exact ⟨k + 1, by omega, by go_num, by show World.ownsRow _ _ _ _ _ _ _; rw [HNX2.out, HNL.out]; exact HO1.out, B1⟩
            case measure => simp [intOf]; omega
      · have e1 : (x == 1) = false := by simpa using x1
        by_cases x2 : x = 2
        · have e2 : (x == 2) = true := by simpa using x2
          have HAK : Hid (aftK L E st R k = [(s, if k ∈ R then 6 else 4)]) := by show _ = _; rw [HAF.out, x2]; rfl
          clear x1 x2 HAF
          go_upto_region 16 with fail
          obtain ⟨W4, hW4⟩ : ∃ W, W = W3.setCell ⟨gk, 1, none⟩ (.int .i64 4) := ⟨_, rfl⟩
          rw [← hW4]
          obtain ⟨z', hz'⟩ : ∃ y : Int, y = 4 := ⟨_, rfl⟩
          have K4 := Lib.hid (show Blk W4 gk 63 #[.string s, .int .i64 z'] by rw [hW4, hz']; exact K3.out.set 1 _)
          have hs34 : Beside (fun g => g = gk) W3 W4 := by rw [hW4]; exact (Beside.refl (fun g => g = gk) W3).set (.inl rfl) 1 _
          have HB4 := Lib.hid (hs34.below HB3.out HB3.out.size HGK.out)
          have HO4 := Lib.hid (hs34.keepsOwn HO3.out (fun q hq e => HOG.out q hq e))
          have HNX : Hid (aftTo L E st R (k + 1) = aftTo L E st R k ++ [(s, if k ∈ R then 6 else z')]) := by show _ = _; rw [HNX0.out, HAK.out, hz']
          have r24 := ((HKQ.out.below HB4.out).cell 3 (v := .slice RA rn rc) rfl)
          clear hW4 hz' hs34 K3 HB3 HO3 HM3 q0 q1 p1 HNX0 HAK
          go_upto_region 17 with fail
          go_loopw [52] (fun i wz => ∃ q : Nat, q ≤ rn ∧ i = .int .i64 q ∧ Hid (Blk wz gk 63 #[.string s, .int .i64 (if (k : Nat) ∈ R.take q then 6 else z')]) ∧ Hid (Beside (fun g => g = gk) W4 wz)) (fun i _ => rn - (intOf i).toNat)
          case atStart => exact ⟨0, Nat.zero_le _, rfl, by show Blk _ _ _ _; simpa using K4.out, Beside.refl _ _⟩
          case round =>
            obtain ⟨q, hq, rfl, hK, hS⟩ := hrel
            have HBz := Lib.hid (hS.out.below HB4.out HB4.out.size HGK.out)
            by_cases hqr : q < rn
            · have hql : q < R.length := by have := HRN.out; omega
              obtain ⟨b5, o5, hA5, hb5, hc5⟩ := (HRA.out.below HBz.out).one (nv_at R q hql)
              have htk := List.take_succ_eq_append_getElem hql
              have hge : R.getD q 0 = R[q] := by simp [hql]
              rw [hge] at hc5
              generalize R[q] = r at *
              have e1 := hK.out.cell 0 (v := .string s) rfl
              have e2 := hK.out.cell 1 (v := .int .i64 (if (k : Nat) ∈ R.take q then 6 else z')) rfl
              have f2 := hK.out.frozen 1
              subst hA5
              have HT := Lib.hid htk
              clear htk hge
              by_cases hrk : r = k
              · have hi : ((r : Int) == (k : Int)) = true := by rw [hrk]; simp
                have hin : (if (k : Nat) ∈ R.take (q + 1) then (6 : Int) else z') = 6 := by rw [HT.out, if_pos (by simp [hrk])]
                have HIN := Lib.hid hin
                obtain ⟨Z, hZ⟩ : ∃ W, W = wr.setCell ⟨gk, 1, none⟩ (.int .i64 6) := ⟨_, rfl⟩
                have KZ := Lib.hid (show Blk Z gk 63 #[.string s, .int .i64 6] by rw [hZ]; exact hK.out.set 1 _)
                have SZ := Lib.hid (show Beside (fun g => g = gk) W4 Z by rw [hZ]; exact hS.out.set (.inl rfl) 1 _)
                have HZ := Lib.hid hZ
                subst hrk
                clear hin hZ
                go_upto_region 21 with fail
                rw [← HZ.out]
                go_wp2
                go_roundw
                case rel => exact ⟨q + 1, by omega, by go_num, by rw [HIN.out]; exact KZ, SZ⟩
                case measure => simp [intOf]; omega
              · have hi : ((r : Int) == (k : Int)) = false := by rw [beq_eq_false_iff_ne]; omega
                have hin : (if (k : Nat) ∈ R.take (q + 1) then (6 : Int) else z') = (if (k : Nat) ∈ R.take q then 6 else z') := by
                  have : (k : Nat) ∈ R.take (q + 1) ↔ k ∈ R.take q := by rw [HT.out, List.mem_append, List.mem_singleton]; exact ⟨fun h => h.resolve_right (fun e => hrk e.symm), .inl⟩
                  simp only [this]
                have HIN := Lib.hid hin
                clear hin hrk
                go_wp2
                go_roundw
                case rel => exact ⟨q + 1, by omega, by go_num, by rw [HIN.out]; exact hK, hS⟩
                case measure => simp [intOf]; omega
            · obtain rfl : rn = q := by omega
              have hK' : Blk wr gk 63 #[.string s, .int .i64 (if k ∈ R then 6 else z')] := by have h9 := hK.out; rw [HRN.out, List.take_length] at h9; exact h9
              have HOW := Lib.hid (hS.out.keepsOwn HO4.out (fun q hq e => HOG.out q hq e))
              obtain ⟨zz, hzz⟩ : ∃ y : Int, y = if k ∈ R then 6 else z' := ⟨_, rfl⟩
              rw [← hzz] at hK'
              have HNX2 : Hid (scs (aftTo L E st R (k + 1)) = scs (aftTo L E st R k) ++ [.string s, .int .i64 zz]) := by show _ = _; rw [HNX.out, ← hzz, scs_app]; rfl
              have HNL : Hid ((aftTo L E st R (k + 1)).length = (aftTo L E st R k).length + 1) := by show _ = _; rw [HNX.out, List.length_append]; rfl
              have hzr := HBz.out.size
              have e1 := hK'.cell 0 (v := .string s) rfl
              have e2 := hK'.cell 1 (v := .int .i64 zz) rfl
              obtain ⟨v1, w1, hrun, hown1, hgrow1, _, hat1⟩ := run_append_own_at (P := Try.prog) (wr.alloc (.cells #[.string s, .int .i64 zz] 63)) gq 44 44 63 i0 (.agg #[.string { data := #[] }, .int .i64 0]) 2 24 Try.underlying44 hi hz0 hz1 hz2 rfl (by decide) _ _ _ (HOW.out.alloc (.cells #[.string s, .int .i64 zz] 63)) ⟨wr.heap.size, 0, none⟩ 1 1 [.string s, .int .i64 zz] rfl (cells_new' _ _ _ _ rfl _ rfl) (fun u hu => by simp at hu; rcases hu with rfl | rfl <;> rfl) (by unfold maxLen; omega) (by omega) (by rw [size_alloc]; have := HGQ.out; omega)
              have B1 := Lib.hid (Below.grown (HBz.out.alloc hzr (.cells #[.string s, .int .i64 zz] 63)) hgrow1 (by rw [size_alloc]; omega) (fun j hj => by have := own_from HOW.out j hj; have := HGQ.out; omega))
              have HO1 := Lib.hid hown1
              clear hown1 hgrow1 hat1 hK hK' hS hzz
              go_wp2_with fail
              clear hrun
              go_roundw
              case rel => exact ⟨k + 1, by omega, by go_num, by show World.ownsRow _ _ _ _ _ _ _; rw [HNX2.out, HNL.out]; exact HO1.out, B1⟩
              case measure => simp [intOf]; omega
        · have e2 : (x == 2) = false := by simpa using x2
          by_cases x4 : x = 4
          · have e4 : (x == 4) = true := by simpa using x4
            have HAK : Hid (aftK L E st R k = [(s, if k ∈ R then 6 else startK st)]) := by show _ = _; rw [HAF.out, x4]; rfl
            clear x1 x2 x4 HAF
            go_upto_region 16 with (refine wpList_look_mo rfl _ _ 96 3 3 rfl (intWay Try.underlying3) Try.underlying96 zeroI mb _ _ rfl HM3.out st HOST.out rfl (.int .i64 (startK st)) (stF_get st) ?_)
            obtain ⟨W4, hW4⟩ : ∃ W, W = W3.setCell ⟨gk, 1, none⟩ (.int .i64 (startK st)) := ⟨_, rfl⟩
            rw [← hW4]
            obtain ⟨z', hz'⟩ : ∃ y : Int, y = startK st := ⟨_, rfl⟩
            have K4 := Lib.hid (show Blk W4 gk 63 #[.string s, .int .i64 z'] by rw [hW4, hz']; exact K3.out.set 1 _)
            have hs34 : Beside (fun g => g = gk) W3 W4 := by rw [hW4]; exact (Beside.refl (fun g => g = gk) W3).set (.inl rfl) 1 _
            have HB4 := Lib.hid (hs34.below HB3.out HB3.out.size HGK.out)
            have HO4 := Lib.hid (hs34.keepsOwn HO3.out (fun q hq e => HOG.out q hq e))
            have HNX : Hid (aftTo L E st R (k + 1) = aftTo L E st R k ++ [(s, if k ∈ R then 6 else z')]) := by show _ = _; rw [HNX0.out, HAK.out, hz']
            have r24 := ((HKQ.out.below HB4.out).cell 3 (v := .slice RA rn rc) rfl)
            clear hW4 hz' hs34 K3 HB3 HO3 HM3 q0 q1 p1 HNX0 HAK
            go_upto_region 17 with fail
            go_loopw [52] (fun i wz => ∃ q : Nat, q ≤ rn ∧ i = .int .i64 q ∧ Hid (Blk wz gk 63 #[.string s, .int .i64 (if (k : Nat) ∈ R.take q then 6 else z')]) ∧ Hid (Beside (fun g => g = gk) W4 wz)) (fun i _ => rn - (intOf i).toNat)
            case atStart => exact ⟨0, Nat.zero_le _, rfl, by show Blk _ _ _ _; simpa using K4.out, Beside.refl _ _⟩
            case round =>
              obtain ⟨q, hq, rfl, hK, hS⟩ := hrel
              have HBz := Lib.hid (hS.out.below HB4.out HB4.out.size HGK.out)
              by_cases hqr : q < rn
              · have hql : q < R.length := by have := HRN.out; omega
                obtain ⟨b5, o5, hA5, hb5, hc5⟩ := (HRA.out.below HBz.out).one (nv_at R q hql)
                have htk := List.take_succ_eq_append_getElem hql
                have hge : R.getD q 0 = R[q] := by simp [hql]
                rw [hge] at hc5
                generalize R[q] = r at *
                have e1 := hK.out.cell 0 (v := .string s) rfl
                have e2 := hK.out.cell 1 (v := .int .i64 (if (k : Nat) ∈ R.take q then 6 else z')) rfl
                have f2 := hK.out.frozen 1
                subst hA5
                have HT := Lib.hid htk
                clear htk hge
                by_cases hrk : r = k
                · have hi : ((r : Int) == (k : Int)) = true := by rw [hrk]; simp
                  have hin : (if (k : Nat) ∈ R.take (q + 1) then (6 : Int) else z') = 6 := by rw [HT.out, if_pos (by simp [hrk])]
                  have HIN := Lib.hid hin
                  obtain ⟨Z, hZ⟩ : ∃ W, W = wr.setCell ⟨gk, 1, none⟩ (.int .i64 6) := ⟨_, rfl⟩
                  have KZ := Lib.hid (show Blk Z gk 63 #[.string s, .int .i64 6] by rw [hZ]; exact hK.out.set 1 _)
                  have SZ := Lib.hid (show Beside (fun g => g = gk) W4 Z by rw [hZ]; exact hS.out.set (.inl rfl) 1 _)
                  have HZ := Lib.hid hZ
                  subst hrk
                  clear hin hZ
                  go_upto_region 21 with fail
                  rw [← HZ.out]
                  go_wp2
                  go_roundw
                  case rel => exact ⟨q + 1, by omega, by go_num, by rw [HIN.out]; exact KZ, SZ⟩
                  case measure => simp [intOf]; omega
                · have hi : ((r : Int) == (k : Int)) = false := by rw [beq_eq_false_iff_ne]; omega
                  have hin : (if (k : Nat) ∈ R.take (q + 1) then (6 : Int) else z') = (if (k : Nat) ∈ R.take q then 6 else z') := by
                    have : (k : Nat) ∈ R.take (q + 1) ↔ k ∈ R.take q := by rw [HT.out, List.mem_append, List.mem_singleton]; exact ⟨fun h => h.resolve_right (fun e => hrk e.symm), .inl⟩
                    simp only [this]
                  have HIN := Lib.hid hin
                  clear hin hrk
                  go_wp2
                  go_roundw
                  case rel => exact ⟨q + 1, by omega, by go_num, by rw [HIN.out]; exact hK, hS⟩
                  case measure => simp [intOf]; omega
              · obtain rfl : rn = q := by omega
                have hK' : Blk wr gk 63 #[.string s, .int .i64 (if k ∈ R then 6 else z')] := by have h9 := hK.out; rw [HRN.out, List.take_length] at h9; exact h9
                have HOW := Lib.hid (hS.out.keepsOwn HO4.out (fun q hq e => HOG.out q hq e))
                obtain ⟨zz, hzz⟩ : ∃ y : Int, y = if k ∈ R then 6 else z' := ⟨_, rfl⟩
                rw [← hzz] at hK'
                have HNX2 : Hid (scs (aftTo L E st R (k + 1)) = scs (aftTo L E st R k) ++ [.string s, .int .i64 zz]) := by show _ = _; rw [HNX.out, ← hzz, scs_app]; rfl
                have HNL : Hid ((aftTo L E st R (k + 1)).length = (aftTo L E st R k).length + 1) := by show _ = _; rw [HNX.out, List.length_append]; rfl
                have hzr := HBz.out.size
                have e1 := hK'.cell 0 (v := .string s) rfl
                have e2 := hK'.cell 1 (v := .int .i64 zz) rfl
                obtain ⟨v1, w1, hrun, hown1, hgrow1, _, hat1⟩ := run_append_own_at (P := Try.prog) (wr.alloc (.cells #[.string s, .int .i64 zz] 63)) gq 44 44 63 i0 (.agg #[.string { data := #[] }, .int .i64 0]) 2 24 Try.underlying44 hi hz0 hz1 hz2 rfl (by decide) _ _ _ (HOW.out.alloc (.cells #[.string s, .int .i64 zz] 63)) ⟨wr.heap.size, 0, none⟩ 1 1 [.string s, .int .i64 zz] rfl (cells_new' _ _ _ _ rfl _ rfl) (fun u hu => by simp at hu; rcases hu with rfl | rfl <;> rfl) (by unfold maxLen; omega) (by omega) (by rw [size_alloc]; have := HGQ.out; omega)
                have B1 := Lib.hid (Below.grown (HBz.out.alloc hzr (.cells #[.string s, .int .i64 zz] 63)) hgrow1 (by rw [size_alloc]; omega) (fun j hj => by have := own_from HOW.out j hj; have := HGQ.out; omega))
                have HO1 := Lib.hid hown1
                clear hown1 hgrow1 hat1 hK hK' hS hzz
                go_wp2_with fail
                clear hrun
                go_roundw
                case rel => exact ⟨k + 1, by omega, by go_num, by show World.ownsRow _ _ _ _ _ _ _; rw [HNX2.out, HNL.out]; exact HO1.out, B1⟩
                case measure => simp [intOf]; omega
          · have e4 : (x == 4) = false := by simpa using x4
            by_cases x3 : x = 3
            · have e3 : (x == 3) = true := by simpa using x3
              have HNY : Hid (aftTo L E st R (k + 1) = aftTo L E st R k) := by show _ = _; rw [HNX0.out, HAF.out, x3]; show _ ++ [] = _; simp
              clear x1 x2 x3 x4 HAF
              go_wp2_with fail
              go_roundw
              case rel => exact ⟨k + 1, by omega, by go_num, by show World.ownsRow _ _ _ _ _ _ _; rw [HNY.out]; exact HO3.out, HB3⟩
              case measure => simp [intOf]; omega
            · have e3 : (x == 3) = false := by simpa using x3
              have HAK : Hid (aftK L E st R k = [(s, if k ∈ R then 6 else z)]) := by
                show _ = _
                rw [HAF.out]
                have : kindA st x z = some z := by unfold kindA; rw [if_neg x1, if_neg x2, if_neg x4, if_neg x3]
                rw [this]
              clear x1 x2 x3 x4 HAF
              go_upto_region 16 with fail
              obtain ⟨W4, hW4⟩ : ∃ W, W = W3 := ⟨_, rfl⟩
              rw [← hW4]
              obtain ⟨z', hz'⟩ : ∃ y : Int, y = z := ⟨_, rfl⟩
              have K4 := Lib.hid (show Blk W4 gk 63 #[.string s, .int .i64 z'] by rw [hW4, hz']; exact K3.out)
              have hs34 : Beside (fun g => g = gk) W3 W4 := by rw [hW4]; exact Beside.refl _ _
              have HB4 := Lib.hid (hs34.below HB3.out HB3.out.size HGK.out)
              have HO4 := Lib.hid (hs34.keepsOwn HO3.out (fun q hq e => HOG.out q hq e))
              have HNX : Hid (aftTo L E st R (k + 1) = aftTo L E st R k ++ [(s, if k ∈ R then 6 else z')]) := by show _ = _; rw [HNX0.out, HAK.out, hz']
              have r24 := ((HKQ.out.below HB4.out).cell 3 (v := .slice RA rn rc) rfl)
              clear hW4 hz' hs34 K3 HB3 HO3 HM3 q0 q1 p1 HNX0 HAK
              go_upto_region 17 with fail
              go_loopw [52] (fun i wz => ∃ q : Nat, q ≤ rn ∧ i = .int .i64 q ∧ Hid (Blk wz gk 63 #[.string s, .int .i64 (if (k : Nat) ∈ R.take q then 6 else z')]) ∧ Hid (Beside (fun g => g = gk) W4 wz)) (fun i _ => rn - (intOf i).toNat)
              case atStart => exact ⟨0, Nat.zero_le _, rfl, by show Blk _ _ _ _; simpa using K4.out, Beside.refl _ _⟩
              case round =>
                obtain ⟨q, hq, rfl, hK, hS⟩ := hrel
                have HBz := Lib.hid (hS.out.below HB4.out HB4.out.size HGK.out)
                by_cases hqr : q < rn
                · have hql : q < R.length := by have := HRN.out; omega
                  obtain ⟨b5, o5, hA5, hb5, hc5⟩ := (HRA.out.below HBz.out).one (nv_at R q hql)
                  have htk := List.take_succ_eq_append_getElem hql
                  have hge : R.getD q 0 = R[q] := by simp [hql]
                  rw [hge] at hc5
                  generalize R[q] = r at *
                  have e1 := hK.out.cell 0 (v := .string s) rfl
                  have e2 := hK.out.cell 1 (v := .int .i64 (if (k : Nat) ∈ R.take q then 6 else z')) rfl
                  have f2 := hK.out.frozen 1
                  subst hA5
                  have HT := Lib.hid htk
                  clear htk hge
                  by_cases hrk : r = k
                  · have hi : ((r : Int) == (k : Int)) = true := by rw [hrk]; simp
                    have hin : (if (k : Nat) ∈ R.take (q + 1) then (6 : Int) else z') = 6 := by rw [HT.out, if_pos (by simp [hrk])]
                    have HIN := Lib.hid hin
                    obtain ⟨Z, hZ⟩ : ∃ W, W = wr.setCell ⟨gk, 1, none⟩ (.int .i64 6) := ⟨_, rfl⟩
                    have KZ := Lib.hid (show Blk Z gk 63 #[.string s, .int .i64 6] by rw [hZ]; exact hK.out.set 1 _)
                    have SZ := Lib.hid (show Beside (fun g => g = gk) W4 Z by rw [hZ]; exact hS.out.set (.inl rfl) 1 _)
                    have HZ := Lib.hid hZ
                    subst hrk
                    clear hin hZ
                    go_upto_region 21 with fail
                    rw [← HZ.out]
                    go_wp2
                    go_roundw
                    case rel => exact ⟨q + 1, by omega, by go_num, by rw [HIN.out]; exact KZ, SZ⟩
                    case measure => simp [intOf]; omega
                  · have hi : ((r : Int) == (k : Int)) = false := by rw [beq_eq_false_iff_ne]; omega
                    have hin : (if (k : Nat) ∈ R.take (q + 1) then (6 : Int) else z') = (if (k : Nat) ∈ R.take q then 6 else z') := by
                      have : (k : Nat) ∈ R.take (q + 1) ↔ k ∈ R.take q := by rw [HT.out, List.mem_append, List.mem_singleton]; exact ⟨fun h => h.resolve_right (fun e => hrk e.symm), .inl⟩
                      simp only [this]
                    have HIN := Lib.hid hin
                    clear hin hrk
                    go_wp2
                    go_roundw
                    case rel => exact ⟨q + 1, by omega, by go_num, by rw [HIN.out]; exact hK, hS⟩
                    case measure => simp [intOf]; omega
                · obtain rfl : rn = q := by omega
                  have hK' : Blk wr gk 63 #[.string s, .int .i64 (if k ∈ R then 6 else z')] := by have h9 := hK.out; rw [HRN.out, List.take_length] at h9; exact h9
                  have HOW := Lib.hid (hS.out.keepsOwn HO4.out (fun q hq e => HOG.out q hq e))
                  obtain ⟨zz, hzz⟩ : ∃ y : Int, y = if k ∈ R then 6 else z' := ⟨_, rfl⟩
                  rw [← hzz] at hK'
                  have HNX2 : Hid (scs (aftTo L E st R (k + 1)) = scs (aftTo L E st R k) ++ [.string s, .int .i64 zz]) := by show _ = _; rw [HNX.out, ← hzz, scs_app]; rfl
                  have HNL : Hid ((aftTo L E st R (k + 1)).length = (aftTo L E st R k).length + 1) := by show _ = _; rw [HNX.out, List.length_append]; rfl
                  have hzr := HBz.out.size
                  have e1 := hK'.cell 0 (v := .string s) rfl
                  have e2 := hK'.cell 1 (v := .int .i64 zz) rfl
                  obtain ⟨v1, w1, hrun, hown1, hgrow1, _, hat1⟩ := run_append_own_at (P := Try.prog) (wr.alloc (.cells #[.string s, .int .i64 zz] 63)) gq 44 44 63 i0 (.agg #[.string { data := #[] }, .int .i64 0]) 2 24 Try.underlying44 hi hz0 hz1 hz2 rfl (by decide) _ _ _ (HOW.out.alloc (.cells #[.string s, .int .i64 zz] 63)) ⟨wr.heap.size, 0, none⟩ 1 1 [.string s, .int .i64 zz] rfl (cells_new' _ _ _ _ rfl _ rfl) (fun u hu => by simp at hu; rcases hu with rfl | rfl <;> rfl) (by unfold maxLen; omega) (by omega) (by rw [size_alloc]; have := HGQ.out; omega)
                  have B1 := Lib.hid (Below.grown (HBz.out.alloc hzr (.cells #[.string s, .int .i64 zz] 63)) hgrow1 (by rw [size_alloc]; omega) (fun j hj => by have := own_from HOW.out j hj; have := HGQ.out; omega))
                  have HO1 := Lib.hid hown1
                  clear hown1 hgrow1 hat1 hK hK' hS hzz
                  go_wp2_with fail
                  clear hrun
                  go_roundw
                  case rel => exact ⟨k + 1, by omega, by go_num, by show World.ownsRow _ _ _ _ _ _ _; rw [HNX2.out, HNL.out]; exact HO1.out, B1⟩
                  case measure => simp [intOf]; omega
    · obtain rfl : n = k := by omega
      obtain ⟨AO, cO, rfl, hcO, hmO⟩ := own_slice hown.out
      have r1 := (KQ3.out.below hbel.out).cell 1 (v := .int .i64 tk) rfl
      have r2 := (KQ3.out.below hbel.out).cell 2 (v := .int .i64 st) rfl
      have HML := Lib.hid (M3'.out.below hbel.out)
      have hwr := hbel.out.size
      have hgw : w.heap.size ≤ gq := by have := HB3'.out.size; have := HGQ.out; omega
      by_cases ht : tk = -1
      · have e1 : (tk == -1) = true := by simpa using ht
        have HAL : Hid (aftL L key E tk st R = aftTo L E st R n ++ [(key, startK st)]) := by show _ = _; unfold aftL; rw [if_pos ht, ← HN.out]
        clear ht
        obtain ⟨ks, hks⟩ : ∃ y, y = startK st := ⟨_, rfl⟩
        have HSG : Hid ((stF st).getD (.int .i64 0) = .int .i64 ks) := by show _ = _; rw [hks]; exact stF_get st
        rw [← hks] at HAL
        obtain ⟨v1, w1, hrun, hown1, hgrow1, _, hat1⟩ := run_append_own_at (P := Try.prog) (wr.alloc (.cells #[.string key, .int .i64 ks] 63)) gq 44 44 63 i0 (.agg #[.string { data := #[] }, .int .i64 0]) 2 24 Try.underlying44 hi hz0 hz1 hz2 rfl (by decide) _ _ _ (hown.out.alloc (.cells #[.string key, .int .i64 ks] 63)) ⟨wr.heap.size, 0, none⟩ 1 1 [.string key, .int .i64 ks] rfl (cells_new' _ _ _ _ rfl _ rfl) (fun u hu => by simp at hu; rcases hu with rfl | rfl <;> rfl) (by unfold maxLen; omega) (by omega) (by rw [size_alloc]; have := HGQ.out; omega)
        have B1 := Lib.hid (Below.grown (hbel.out.alloc hwr (.cells #[.string key, .int .i64 ks] 63)) hgrow1 (by rw [size_alloc]; omega) (fun j hj => by have := own_from hown.out j hj; have := HGQ.out; omega))
        have HO1 := Lib.hid hown1
        clear hown1 hgrow1 hat1 hks
        go_upto_region 25 with fail
        go_upto_region 26 with (refine wpList_look_mo rfl _ _ 96 3 3 rfl (intWay Try.underlying3) Try.underlying96 zeroI mb _ _ rfl HML.out st HOST.out rfl (.int .i64 ks) HSG.out ?_)
        clear hrun
        go_wp2
        go_ret2
        exact ⟨_, rfl, by rw [HAL.out, List.length_append, scs_app]; exact own_mono HO1.out hgw, HB3'.out.trans (B1.out.mono HB3'.out.size)⟩
      · have e1 : (tk == -1) = false := by simpa using ht
        have HAL : Hid (aftL L key E tk st R = aftTo L E st R n) := by show _ = _; unfold aftL; rw [if_neg ht, List.append_nil, ← HN.out]
        clear ht
        go_wp2
        go_ret2
        exact ⟨.slice AO _ cO, rfl, by rw [HAL.out]; exact own_mono hown.out hgw, HB3'.out.trans (hbel.out.mono HB3'.out.size)⟩
end Go.Proofs.Ytfapghekakdpgaa
