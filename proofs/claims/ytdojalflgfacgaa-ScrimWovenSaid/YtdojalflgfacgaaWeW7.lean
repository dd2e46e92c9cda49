/- Contract of weave's Steps. -/
import Derived.Test.YtdojalflgfacgaaWeW6
namespace Go.Proofs.Ytdojalflgfacgaa
open Go.RowKit Go.Shelf We
attribute [local go_sem] Oper.semAt_some
attribute [-go_sem] Builtin.append_
theorem rises_of {a b : List Int} {r : List Nat} (hr : Li.IsRow (ats (olds a b)) (comm a b).length r) : Rises a b r := by
  refine ⟨fun i hi => ?_, fun k m hkm hm => ?_⟩
  · obtain ⟨k, hk, rfl⟩ := List.mem_iff_getElem.1 hi
    have := hr.lt k hk
    simpa [hk] using this
  · have key : ∀ d, k + 1 + d < r.length → r.getD k 0 < r.getD (k + 1 + d) 0 ∧ ats (olds a b) (r.getD k 0) < ats (olds a b) (r.getD (k + 1 + d) 0) := by
      intro d
      induction d with
      | zero => intro h; exact hr.rises k h
      | succ d ih =>
        intro h
        have h1 := ih (by omega)
        have h2 := hr.rises (k + 1 + d) (by omega)
        rw [show k + 1 + (d + 1) = k + 1 + d + 1 by omega]
        omega
    have h := key (m - (k + 1)) (by omega)
    rw [show k + 1 + (m - (k + 1)) = m by omega] at h
    refine ⟨h.1, ?_⟩
    have h3 := h.2
    rw [show ats (olds a b) (r.getD k 0) = _ from olds_at (hr.lt k (by omega)), show ats (olds a b) (r.getD m 0) = _ from olds_at (hr.lt m hm)] at h3
    omega
theorem ix_inj {a : List Int} {x y : Int} (hx : x ∈ a) (hy : y ∈ a) (h : ix a x = ix a y) : x = y := by rw [← get_ix hx, h, get_ix hy]
theorem stayB_mem {a b : List Int} {r : List Nat} (hr : Rises a b r) {x : Int} (hx : x ∈ a) : stayB a b r r.length (ix a x) = decide (x ∈ stayIds a b r) := by
  unfold stayB
  rw [decide_eq_decide]
  constructor
  · rintro ⟨k, hk, h⟩
    have hkr : r.getD k 0 = r[k] := by simp [hk]
    have hl := hr.1 _ (List.getElem_mem hk)
    rw [hkr, show ats (olds a b) r[k] = _ from olds_at hl] at h
    have h2 := ix_inj (comm_mem.1 (at_mem hl)).2 hx (by omega)
    unfold stayIds
    exact List.mem_map.2 ⟨_, List.getElem_mem hk, h2⟩
  · intro h
    unfold stayIds at h
    obtain ⟨i, hi, e⟩ := List.mem_map.1 h
    obtain ⟨k, hk, rfl⟩ := List.mem_iff_getElem.1 hi
    refine ⟨k, hk, ?_⟩
    have hl := hr.1 _ hi
    rw [show r.getD k 0 = r[k] by simp [hk], show ats (olds a b) r[k] = _ from olds_at hl, e]
theorem stay_in {a b : List Int} {r : List Nat} (hr : Rises a b r) : ∀ x ∈ stayIds a b r, x ∈ a := by
  intro x hx
  unfold stayIds at hx
  obtain ⟨i, hi, rfl⟩ := List.mem_map.1 hx
  exact (comm_mem.1 (at_mem (hr.1 i hi))).2
theorem wpListIn_lookok_mo {F : Fence} {nF : Nat} {α : Type} {P : Program} {w : World} {ops : Array Oper} {rest : List Oper} {o : Oper} {a : Act} {Q : Exit → Act → World → Prop} {kv : α → Value} {kl : α → Lit} {ok : α → Prop} (hg : o.guard = none) (m x : Operand) (t K E : TypeId) (hop : o.op = Op.lookup t m x true)
    (W : Way P K kv kl ok) (ht : P.underlying t = some (.map K E)) {z0 : Value} (hz : ∀ w, (zeroValue E).run P w = .ok z0 w) (b n : Nat) (f : α → Option Value) (hm : a.eval m = .map (some b)) (h : MapOf P K kl ok w b f n) (i : α) (hi : ok i)
    (hx : a.eval x = kv i) (v : Value) (c : Bool) (hv : (f i).getD z0 = v) (hc : (f i).isSome = c) (hK : wpListIn F nF P ops Q rest (a.put o.dst (.tuple #[v, .bool c])) w) : wpListIn F nF P ops Q (o :: rest) a w := by
  refine wpListIn_plain hg fun K' hK' => ?_
  have hrun := h.look_ok W ht hz i hi
  rw [hv, hc] at hrun
  unfold Oper.wpIn
  refine ⟨by simp [Oper.about, hop], ?_⟩
  rw [Oper.semAt_plain F _ _ (by rw [hop]; intro c hc'; cases hc')]
  simp [execOp, hop, hm, hx, hrun, Result.andThen]
  exact hK' _ _ hK
def Rd (w : World) (p5 m1 p7 p8 gb p9 g tb Bs : Nat) (A2 : Option Addr) (c2 : Nat) (a b s : List Int) (st : Nat → Bool) (k : Nat) (W : World) : Prop :=
  St W p5 m1 p7 p8 gb p9 g tb Bs w.heap.size a.length A2 b.length c2 a b st (dropsOf a b ++ sfx a b s k) (fun p => decide (at' a p ∈ b.take (b.length - k))) (ahd a b s (b.length - k) (b.length - k)).length (lim a b s (b.length - k)) ∧ Below w.heap.size w W
section
variable {w : World} {p5 m1 p7 p8 gb p9 g tb Bs : Nat} {A2 : Option Addr} {c2 : Nat} {a b s : List Int} {st : Nat → Bool}
theorem rd_own {B : Nat} (h1 : m1 < B) (h2 : w.heap.size ≤ m1) : OwnFrom B (Rd w p5 m1 p7 p8 gb p9 g tb Bs A2 c2 a b s st) :=
  OwnFrom.and (I := fun k W => St W p5 m1 p7 p8 gb p9 g tb Bs w.heap.size a.length A2 b.length c2 a b st (dropsOf a b ++ sfx a b s k) (fun p => decide (at' a p ∈ b.take (b.length - k))) (ahd a b s (b.length - k) (b.length - k)).length (lim a b s (b.length - k)))
    (fun k X Y row hs hg hr => hs.same hg (fun q e => ⟨by have := (hr q e).1; omega, (hr q e).2⟩)) (ownFrom_below (Nat.le_refl _) (by omega))
theorem rd_start {W : World} (h : St W p5 m1 p7 p8 gb p9 g tb Bs w.heap.size a.length A2 b.length c2 a b st (dropsOf a b) (fun p => decide (at' a p ∈ b)) (a.filter (· ∈ b)).length a.length) (hb : Below w.heap.size w W) : Rd w p5 m1 p7 p8 gb p9 g tb Bs A2 c2 a b s st 0 W := by
  refine ⟨?_, hb⟩
  rw [Nat.sub_zero, lim_end, List.take_length]
  unfold ahd
  rw [lim_end, List.take_length, List.take_length, show sfx a b s 0 = [] from rfl, List.append_nil]
  exact h
end
theorem f_no {a b : List Int} {i : Nat} (hi : i < b.length) (h : ¬ at' b i ∈ a) : ∀ p, p < a.length → decide (at' a p ∈ b.take (i + 1)) = decide (at' a p ∈ b.take i) := by
  intro p hp
  rw [decide_eq_decide, mem_take_next hi]
  exact ⟨fun h2 => h2.resolve_right (fun e => h (e ▸ at_mem hp)), .inl⟩
theorem f_yes {a b : List Int} {i : Nat} (ha : a.Nodup) (hb : b.Nodup) (hi : i < b.length) (h : at' b i ∈ a) : ∀ p, p < a.length → (if p = ix a (at' b i) then false else decide (at' a p ∈ b.take (i + 1))) = decide (at' a p ∈ b.take i) := by
  intro p hp
  by_cases e : p = ix a (at' b i)
  · rw [if_pos e, e, get_ix h]
    exact (decide_eq_false (not_mem_take hb hi)).symm
  · rw [if_neg e, decide_eq_decide, mem_take_next hi]
    exact ⟨fun h2 => h2.resolve_right (fun e2 => e (by rw [← e2, ix_at ha hp])), .inl⟩
theorem stepOf_len (a b s : List Int) (i : Nat) : (stepOf a b s i).length ≤ 1 := by
  unfold stepOf
  simp only
  split <;> (try split) <;> simp
theorem sfx_len (a b s : List Int) : ∀ k, (sfx a b s k).length ≤ k
  | 0 => Nat.le_refl _
  | k + 1 => by
    show (sfx a b s k ++ stepOf a b s (b.length - 1 - k)).length ≤ _
    rw [List.length_append]
    have := sfx_len a b s k
    have := stepOf_len a b s (b.length - 1 - k)
    omega
theorem cut_cnt {a b s : List Int} {i : Nat} (hi : i < b.length) (hs : at' b i ∈ s) (hlt : ix a (at' b i) < lim a b s (i + 1)) (hle : lim a b s (i + 1) ≤ a.length) :
    (ahd a b s i i).length = cnt a b s i - cntB (fun p => decide (at' a p ∈ b.take i)) (ix a (at' b i)) (lim a b s (i + 1) - ix a (at' b i)) ∧
    cntB (fun p => decide (at' a p ∈ b.take i)) (ix a (at' b i)) (lim a b s (i + 1) - ix a (at' b i)) ≤ cnt a b s i := by
  have h := cntB_take a (fun x => decide (x ∈ b.take i)) (ix a (at' b i)) (lim a b s (i + 1) - ix a (at' b i)) (by omega)
  rw [show ix a (at' b i) + (lim a b s (i + 1) - ix a (at' b i)) = lim a b s (i + 1) by omega] at h
  have e1 : cnt a b s i = ((a.take (lim a b s (i + 1))).filter (fun x => decide (x ∈ b.take i))).length := rfl
  have e2 : (ahd a b s i i).length = ((a.take (ix a (at' b i))).filter (fun x => decide (x ∈ b.take i))).length := by
    unfold ahd
    rw [lim_next a b s hi, if_pos hs]
  rw [e2, e1, h]
  omega
set_option maxHeartbeats 4000000 in
set_option maxRecDepth 100000 in
theorem steps_in (A B : Option Addr) (n c m d : Nat) (fr to : List Int) (a b : List Int) (r : List Nat) (w : World) (hn : n = fr.length) (hm : m = to.length) (h1 : n ≤ 1000) (h2 : m ≤ 1000) (ha : At w A (iv fr)) (hb : At w B (iv to)) (hof : ∀ x ∈ fr, OkI x) (hot : ∀ x ∈ to, OkI x)
    (hea : a = once fr) (heb : b = once to) (hr : Li.IsRow (ats (olds a b)) (comm a b).length r) :
    CallsIn Fence.wide 5 Try.prog 7 #[.slice A n c, .slice B m d] w fun e w' => ∃ v, e = .returned v ∧ w'.ownsRow w.heap.size 31 3 v (steps a b (stayIds a b r)).length (sc (steps a b (stayIds a b r))) ∧ Below w.heap.size w w' := by
  have na : a.Nodup := hea ▸ once_nodup fr
  have nb : b.Nodup := heb ▸ once_nodup to
  have la : a.length ≤ 1000 := by have := once_len fr; rw [hea]; omega
  have lb : b.length ≤ 1000 := by have := once_len to; rw [heb]; omega
  have oa : ∀ x ∈ a, OkI x := fun x hx => hof x (by rw [hea] at hx; exact (once_mem _ _).1 hx)
  have ob : ∀ x ∈ b, OkI x := fun x hx => hot x (by rw [heb] at hx; exact (once_mem _ _).1 hx)
  have C1 := Lib.hid (once_any A n c fr w hn (by omega) ha hof)
  have C2 := Lib.hid (fun W (hW : Below w.heap.size w W) => once_any B m d to W hm (by omega) (hb.below hW) hot)
  rw [← hea] at C1
  rw [← heb] at C2
  have HR := Lib.hid hr
  have HNA := Lib.hid na
  have HNB := Lib.hid nb
  have HOA := Lib.hid oa
  have HOB := Lib.hid ob
  clear hn hm ha hb hof hot hea heb hr na nb oa ob
  refine callsIn_of_wp_marks Try.func7 rfl trivial ?_ rfl
  simp only [Try.ntmps7, List.size_toArray, List.length_cons, List.length_nil, Nat.reduceAdd, Nat.reduceSub, Array.replicate_succ, Array.replicate_zero, List.push_toArray, List.append_toArray, List.nil_append, List.cons_append]
  gi_wp2_with fail
  refine ⟨trivial, (callsIn_wide.2 C1.out).mono ?_⟩
  rintro e w1 ⟨v1, m1, rfl, ho1, hm1, hmb1, hb1⟩
  obtain ⟨A1, c1, rfl, hc1, hd1⟩ := own_slice ho1
  have B1 := Lib.hid (hb1.alloc hb1.size (.cells #[.map (some m1)] 48))
  have R1 := Lib.hid (ho1.alloc (.cells #[.map (some m1)] 48))
  have M1 := Lib.hid (hm1.below (below_alloc w1 (.cells #[.map (some m1)] 48)))
  have X5 : Hid (Boxed (w1.alloc (.cells #[.map (some m1)] 48)) w1.heap.size 48 (.map (some m1))) := heap_alloc_new _ _
  have s1 : w.heap.size ≤ w1.heap.size := hb1.size
  clear ho1 hm1 hb1 C1
  gi_wp2_with fail
  generalize w1.alloc (.cells #[.map (some m1)] 48) = W1 at *
  generalize w1.heap.size = p5 at *
  refine ⟨trivial, (callsIn_wide.2 (C2.out W1 B1.out)).mono ?_⟩
  rintro e w2 ⟨v2, m2, rfl, ho2, hm2, hmb2, hb2⟩
  obtain ⟨A2, c2, rfl, hc2, hd2⟩ := own_slice ho2
  have B2 := Lib.hid (B1.out.trans (hb2.mono B1.out.size))
  have R2 := Lib.hid (own_below R1.out hb2)
  have Q2 := Lib.hid (own_mono ho2 B1.out.size)
  have M2 := Lib.hid (M1.out.below hb2)
  have N2 := Lib.hid hm2
  have Y5 : Hid (Boxed w2 p5 48 (.map (some m1))) := (hb2.block p5 X5.out.lt).trans X5.out
  have D2 := Lib.hid (drops_any A1 a.length c1 m2 b.length a b w2 rfl la (At.own R2.out) HOA.out hm2)
  clear ho2 hm2 hb2 C2 R1 M1 X5 B1
  gi_wp2_with fail
  refine ⟨trivial, (callsIn_wide.2 D2.out).mono ?_⟩
  rintro e w3 ⟨v3, rfl, ho3, hb3⟩
  have B3 := Lib.hid ((B2.out.trans (hb3.mono B2.out.size)).alloc (B2.out.trans (hb3.mono B2.out.size)).size (.cells #[v3] 25))
  have R3 := Lib.hid ((own_below R2.out hb3).alloc (.cells #[v3] 25))
  have Q3 := Lib.hid ((own_below Q2.out hb3).alloc (.cells #[v3] 25))
  have M3 := Lib.hid ((M2.out.below hb3).below (below_alloc w3 (.cells #[v3] 25)))
  have N3 := Lib.hid ((N2.out.below hb3).below (below_alloc w3 (.cells #[v3] 25)))
  have Z5 : Hid (Boxed (w3.alloc (.cells #[v3] 25)) p5 48 (.map (some m1))) := (Boxed.alloc (show Boxed w3 p5 _ _ from (hb3.block p5 Y5.out.lt).trans Y5.out) _)
  have X7 : Hid (Boxed (w3.alloc (.cells #[v3] 25)) w3.heap.size 25 v3) := heap_alloc_new _ _
  have S3 := Lib.hid ((own_mono ho3 B2.out.size).alloc (.cells #[v3] 25))
  obtain ⟨A3, c3, rfl, _, _⟩ := own_slice ho3
  have hmp7 : w.heap.size ≤ w3.heap.size := (B2.out.trans (hb3.mono B2.out.size)).size
  clear ho3 hb3 D2 R2 Q2 M2 N2 Y5 B2
  have e5 := Z5.out.cell
  have hRR := rises_of HR.out
  have HRI := Lib.hid hRR
  clear hRR
  gi_wp2_with fail
  clear e5
  generalize w3.alloc (.cells #[.slice A3 (dropsOf a b).length c3] 25) = W3 at *
  generalize w3.heap.size = p7 at *
  refine ⟨trivial, (callsIn_wide.2 (kept_any A2 b.length c2 m1 a b r W3 rfl lb la (At.own Q3.out) HOB.out M3.out HR.out)).mono ?_⟩
  rintro e w4 ⟨gb, rfl, ho4, hgb, hb4⟩
  have B4 := Lib.hid ((B3.out.trans (hb4.mono B3.out.size)).alloc (B3.out.trans (hb4.mono B3.out.size)).size (.cells #[.slice (some ⟨gb, 0, none⟩) a.length a.length] 52))
  have R4 := Lib.hid ((own_below R3.out hb4).alloc (.cells #[.slice (some ⟨gb, 0, none⟩) a.length a.length] 52))
  have Q4 := Lib.hid ((own_below Q3.out hb4).alloc (.cells #[.slice (some ⟨gb, 0, none⟩) a.length a.length] 52))
  have M4 := Lib.hid ((M3.out.below hb4).below (below_alloc w4 (.cells #[.slice (some ⟨gb, 0, none⟩) a.length a.length] 52)))
  have N4 := Lib.hid ((N3.out.below hb4).below (below_alloc w4 (.cells #[.slice (some ⟨gb, 0, none⟩) a.length a.length] 52)))
  have X5 : Hid (Boxed (w4.alloc (.cells #[.slice (some ⟨gb, 0, none⟩) a.length a.length] 52)) p5 48 (.map (some m1))) := (Boxed.alloc (show Boxed w4 p5 _ _ from (hb4.block p5 Z5.out.lt).trans Z5.out) _)
  have Y7 : Hid (Boxed (w4.alloc (.cells #[.slice (some ⟨gb, 0, none⟩) a.length a.length] 52)) p7 25 (.slice A3 (dropsOf a b).length c3)) := (Boxed.alloc (show Boxed w4 p7 _ _ from (hb4.block p7 X7.out.lt).trans X7.out) _)
  have S4 := Lib.hid ((own_below S3.out hb4).alloc (.cells #[.slice (some ⟨gb, 0, none⟩) a.length a.length] 52))
  have X8 : Hid (Boxed (w4.alloc (.cells #[.slice (some ⟨gb, 0, none⟩) a.length a.length] 52)) w4.heap.size 52 (.slice (some ⟨gb, 0, none⟩) a.length a.length)) := heap_alloc_new _ _
  have G4 := Lib.hid ((own_mono ho4 B3.out.size).alloc (.cells #[.slice (some ⟨gb, 0, none⟩) a.length a.length] 52))
  clear ho4 hb4 R3 Q3 M3 N3 Z5 X7 S3 B3
  gi_wp2_with fail
  generalize w4.alloc (.cells #[.slice (some ⟨gb, 0, none⟩) a.length a.length] 52) = W4 at *
  generalize w4.heap.size = p8 at *
  refine ⟨trivial, (callsIn_wide.2 (waiting_any A1 a.length c1 m2 b.length a b W4 rfl la (At.own R4.out) HOA.out N4.out)).mono ?_⟩
  rintro e w5 ⟨g, tb, rfl, hr5, hg5, ht5, hb5⟩
  have hmg : w.heap.size ≤ g := Nat.le_trans B4.out.size hg5
  have htb : gb ≠ tb := by have := (G4.out.lt gb rfl).2; omega
  have B5 := Lib.hid ((B4.out.trans (hb5.mono B4.out.size)).alloc (B4.out.trans (hb5.mono B4.out.size)).size (.cells #[.pointer (some ⟨g, 0, none⟩)] 54))
  have Q5 := Lib.hid ((own_below Q4.out hb5).alloc (.cells #[.pointer (some ⟨g, 0, none⟩)] 54))
  have M5 := Lib.hid ((M4.out.below hb5).below (below_alloc w5 (.cells #[.pointer (some ⟨g, 0, none⟩)] 54)))
  have Y5 : Hid (Boxed (w5.alloc (.cells #[.pointer (some ⟨g, 0, none⟩)] 54)) p5 48 (.map (some m1))) := (Boxed.alloc (show Boxed w5 p5 _ _ from (hb5.block p5 X5.out.lt).trans X5.out) _)
  have Z7 : Hid (Boxed (w5.alloc (.cells #[.pointer (some ⟨g, 0, none⟩)] 54)) p7 25 (.slice A3 (dropsOf a b).length c3)) := (Boxed.alloc (show Boxed w5 p7 _ _ from (hb5.block p7 Y7.out.lt).trans Y7.out) _)
  have Y8 : Hid (Boxed (w5.alloc (.cells #[.pointer (some ⟨g, 0, none⟩)] 54)) p8 52 (.slice (some ⟨gb, 0, none⟩) a.length a.length)) := (Boxed.alloc (show Boxed w5 p8 _ _ from (hb5.block p8 X8.out.lt).trans X8.out) _)
  have S5 := Lib.hid ((own_below S4.out hb5).alloc (.cells #[.pointer (some ⟨g, 0, none⟩)] 54))
  have G5 := Lib.hid ((own_below G4.out hb5).alloc (.cells #[.pointer (some ⟨g, 0, none⟩)] 54))
  have X9 : Hid (Boxed (w5.alloc (.cells #[.pointer (some ⟨g, 0, none⟩)] 54)) w5.heap.size 54 (.pointer (some ⟨g, 0, none⟩))) := heap_alloc_new _ _
  have E5 : Hid (RestIs (w5.alloc (.cells #[.pointer (some ⟨g, 0, none⟩)] 54)) g tb a.length w.heap.size (fun p => decide (at' a p ∈ b)) (a.filter (· ∈ b)).length a.length) := by
    have h9 : RestIs w5 g tb a.length w.heap.size (fun p => decide (at' a p ∈ b)) (a.filter (· ∈ b)).length a.length := ⟨hr5.cells, own_mono hr5.row B4.out.size, hr5.ne⟩
    exact h9.heap ((below_alloc w5 _).block g h9.lt.1) ((below_alloc w5 _).block tb h9.lt.2)
  clear hr5 hb5 R4 Q4 M4 N4 X5 Y7 S4 X8 G4 B4
  gi_wp2_with fail
  generalize w5.alloc (.cells #[.pointer (some ⟨g, 0, none⟩)] 54) = W5 at *
  generalize w5.heap.size = p9 at *
  refine ⟨trivial, (backM_in Fence.wide _ trivial rfl A2 b.length c2 W5).mono ?_⟩
  rintro e w6 ⟨rfl, hw6⟩
  have T0 : Hid (St w6 p5 m1 p7 p8 gb p9 g tb W5.heap.size w.heap.size a.length A2 b.length c2 a b (stayB a b r r.length) (dropsOf a b) (fun p => decide (at' a p ∈ b)) (a.filter (· ∈ b)).length a.length) := by
    show St _ _ _ _ _ _ _ _ _ _ _ _ _ _ _ _ _ _ _ _ _ _
    rw [hw6]
    exact ⟨⟨Boxed.alloc Y5.out _, M5.out.below (below_alloc _ _), Boxed.alloc Y8.out _, G5.out.alloc _, Boxed.alloc X9.out _, heap_alloc_new _ _, Q5.out.alloc _⟩, ⟨_, Boxed.alloc Z7.out _, S5.out.alloc _⟩, E5.out.heap ((below_alloc _ _).block g E5.out.lt.1) ((below_alloc _ _).block tb E5.out.lt.2), htb⟩
  have B6 : Hid (Below w.heap.size w w6) := by show Below _ _ _; rw [hw6]; exact B5.out.alloc B5.out.size _
  have hm1s : m1 < w6.heap.size := T0.out.core.map1.lt
  have hms : w.heap.size ≤ m1 := hmb1
  generalize W5.heap.size = Bs at *
  clear hw6 Y5 M5 Y8 G5 X9 Q5 Z7 S5 E5 B5
  gi_wp2_with fail
  have hnb0 : b.length ≤ 1000 := lb
  refine wpIn_each rfl (by omega) (gf := 36) (lb := #[.pointer (some ⟨Bs, 0, none⟩)]) rfl trivial (enters_of Try.func36 (by kernel_rfl) rfl) (enc := encB b) (N := b.length) (fun _ => rfl)
    (Rd w p5 m1 p7 p8 gb p9 g tb Bs A2 c2 a b (stayIds a b r) (stayB a b r r.length)) ?own ?start ?hit
    (fun k => { tmps := #[.slice A1 a.length c1, .slice A2 b.length c2, undef, undef, .slice none 0 0, .pointer (some ⟨p5, 0, none⟩), .map (some m2), .pointer (some ⟨p7, 0, none⟩), .pointer (some ⟨p8, 0, none⟩), .pointer (some ⟨p9, 0, none⟩), undef, .int .i64 (at' b (b.length - 1 - k)), undef, undef,
      .tuple #[.slice A1 a.length c1, .map (some m1)], .slice A n c, .tuple #[.slice A1 a.length c1, .map (some m1)], .slice A1 a.length c1, .map (some m1), .tuple #[.slice A2 b.length c2, .map (some m2)], .slice B m d, .tuple #[.slice A2 b.length c2, .map (some m2)], .slice A2 b.length c2, .map (some m2), .slice A1 a.length c1, .map (some m2), .slice A3 (dropsOf a b).length c3, .slice A2 b.length c2, .map (some m1), .slice (some ⟨gb, 0, none⟩) a.length a.length, .slice A1 a.length c1, .map (some m2), .pointer (some ⟨g, 0, none⟩), .slice A2 b.length c2, .func (.func 36) #[] #[.pointer (some ⟨Bs, 0, none⟩)],
      .int .i64 ((b.length - 1 - k : Nat) : Int), .int .i64 (at' b (b.length - 1 - k)), undef, undef, undef, undef, undef, undef, undef, undef, undef, undef, undef, undef, undef, undef, undef, undef, undef, undef, undef, undef, undef, undef, undef, undef, undef, undef, undef, undef, undef, undef, undef, undef, undef, undef, undef, undef, undef, undef, undef, undef], defers := [] }) ?assign ?body ?done
  case own => exact rd_own hm1s hms
  case start => exact rd_start T0.out B6.out
  case hit => exact back_gives Fence.wide _ trivial rfl (by omega) Bs A2 b.length c2 b rfl (by omega) _ (fun k W h => ⟨h.1.core.boxB.cell, At.own h.1.core.rowB⟩)
  case assign =>
    intro l k W K hk hK
    unfold encB
    gi_wp2
    exact hK
  case body =>
    intro l k W hk hI
    obtain ⟨hSt, hBel⟩ := hI
    obtain ⟨i, hi⟩ : ∃ i, i + 1 = b.length - k := ⟨b.length - k - 1, by omega⟩
    have hib : i < b.length := by omega
    have e2 : b.length - (k + 1) = i := by omega
    have e3 : b.length - 1 - k = i := by omega
    rw [← hi] at hSt
    have hsx : sfx a b (stayIds a b r) (k + 1) = sfx a b (stayIds a b r) k ++ stepOf a b (stayIds a b r) i := by rw [← e3]; rfl
    have hpost : ∀ W', St W' p5 m1 p7 p8 gb p9 g tb Bs w.heap.size a.length A2 b.length c2 a b (stayB a b r r.length) ((dropsOf a b ++ sfx a b (stayIds a b r) k) ++ stepOf a b (stayIds a b r) i) (fun p => decide (at' a p ∈ b.take i)) (ahd a b (stayIds a b r) i i).length (lim a b (stayIds a b r) i) → Below w.heap.size w W' → Rd w p5 m1 p7 p8 gb p9 g tb Bs A2 c2 a b (stayIds a b r) (stayB a b r r.length) (k + 1) W' := by
      intro W' h9 hb9
      refine ⟨?_, hb9⟩
      rw [e2, hsx, ← List.append_assoc]
      exact h9
    have HP := Lib.hid hpost
    have hL : (dropsOf a b ++ sfx a b (stayIds a b r) k).length ≤ 2000 := by
      rw [List.length_append]
      have := sfx_len a b (stayIds a b r) k
      have := dropsOf_len a b
      omega
    obtain ⟨LL, hLL⟩ : ∃ LL, LL = dropsOf a b ++ sfx a b (stayIds a b r) k := ⟨_, rfl⟩
    rw [← hLL] at hSt hL
    dsimp only
    rw [e3]
    have hsa := stay_in HRI.out
    have hle : lim a b (stayIds a b r) (i + 1) ≤ a.length := lim_le hsa _
    have hxb := at_mem hib
    have HO := Lib.hid (HOB.out _ hxb)
    have HMW := Lib.hid hSt.core.map1
    have e5 := hSt.core.box5.cell
    have hmx : Try.prog.follows .mixedOrders = true := by kernel_rfl
    obtain ⟨i0, hi0, hz0, hz1, hz2⟩ := info_parts infoStepW
    by_cases hm : at' b i ∈ a
    · have hq := ix_lt hm
      have t1 := ahd_take (s := stayIds a b r) HNA.out HNB.out hib hle hm
      have hb1000 : (ahd a b (stayIds a b r) (i + 1) (i + 1)).length ≤ 1000 := by
        unfold ahd
        have := List.length_filter_le (fun x => decide (x ∈ b.take (i + 1))) (a.take (lim a b (stayIds a b r) (i + 1)))
        rw [List.length_take] at this
        omega
      have q1 : (if ix a (at' b i) < lim a b (stayIds a b r) (i + 1) then (ahd a b (stayIds a b r) (i + 1) (i + 1)).length - 1 else (ahd a b (stayIds a b r) (i + 1) (i + 1)).length) = cnt a b (stayIds a b r) i := by
        rw [t1]
        split <;> rfl
      have hpos : ix a (at' b i) < lim a b (stayIds a b r) (i + 1) → 0 < (ahd a b (stayIds a b r) (i + 1) (i + 1)).length := by
        intro h
        rw [t1, if_pos h]
        omega
      have HF := Lib.hid (posF_yes hm)
      have HTK := Lib.hid (take_any g tb a.length w.heap.size _ _ _ (ix a (at' b i)) W hSt.rest hq hb1000 hpos)
      have HNX : Hid (∀ W2, TakePost g tb a.length w.heap.size (fun p => decide (at' a p ∈ b.take (i + 1))) (ahd a b (stayIds a b r) (i + 1) (i + 1)).length (lim a b (stayIds a b r) (i + 1)) (ix a (at' b i)) W W2 →
          St W2 p5 m1 p7 p8 gb p9 g tb Bs w.heap.size a.length A2 b.length c2 a b (stayB a b r r.length) LL (fun p => decide (at' a p ∈ b.take i)) (cnt a b (stayIds a b r) i) (lim a b (stayIds a b r) (i + 1)) ∧ Below w.heap.size w W2 ∧ KeepsFrom w6.heap.size W W2) := by
        rintro W2 ⟨h1, h2, h3⟩
        rw [q1] at h1
        have tlt := (hSt.rest.row.lt _ rfl).1
        exact ⟨hSt.rests h2 (h1.congr (f_yes HNA.out HNB.out hib hm)), h2.below hBel hBel.size (by rintro x (rfl | rfl); exact hmg; exact tlt), keeps_rests _ hSt.rest h2⟩
      have c9 := hSt.core.box9.cell
      have hsB := stayB_mem HRI.out hm
      have q5 := lim_next a b (stayIds a b r) hib
      have hle5 : cnt a b (stayIds a b r) i ≤ 1000 := by omega
      clear hSt q1 hpos t1 hb1000
      by_cases hst : at' b i ∈ stayIds a b r
      · have hlt := lim_stay HNB.out HRI.out hib hst
        obtain ⟨t5, t6⟩ := cut_cnt hib hst hlt hle
        have q4 : stepOf a b (stayIds a b r) i = [] := by unfold stepOf; simp only; rw [if_pos hm, if_pos hst]
        have HX : Hid (∀ W', St W' p5 m1 p7 p8 gb p9 g tb Bs w.heap.size a.length A2 b.length c2 a b (stayB a b r r.length) LL (fun p => decide (at' a p ∈ b.take i)) (cnt a b (stayIds a b r) i - cntB (fun p => decide (at' a p ∈ b.take i)) (ix a (at' b i)) (lim a b (stayIds a b r) (i + 1) - ix a (at' b i))) (ix a (at' b i)) → Below w.heap.size w W' → Rd w p5 m1 p7 p8 gb p9 g tb Bs A2 c2 a b (stayIds a b r) (stayB a b r r.length) (k + 1) W') := by
          intro W' h9
          refine HP.out W' ?_
          rw [q4, List.append_nil, q5, if_pos hst, t5, ← hLL]
          exact h9
        have hsB1 : stayB a b r r.length (ix a (at' b i)) = true := by rw [hsB]; exact decide_eq_true hst
        have HT6 := Lib.hid t6
        clear hsB hst q4 q5 t5 t6 hm hLL hpost HP hsx
        generalize at' b i = x at *
        generalize cnt a b (stayIds a b r) i = cc at *
        generalize ix a x = q at *
        gi_wp2_with (refine wpListIn_lookok_mo rfl _ _ 48 3 3 rfl (intWay Try.underlying3) Try.underlying48 zeroIW m1 _ _ rfl HMW.out x HO.out rfl (.int .i64 q) true (by rw [HF.out]; rfl) (by rw [HF.out]; rfl) ?_)
        refine ⟨trivial, (CallsIn.inRound l (callsIn_wide.2 HTK.out)).mono ?_⟩
        rintro e W2 ⟨rfl, hT⟩
        obtain ⟨hS2, hB2, hK2⟩ := HNX.out W2 hT
        have S2 := Lib.hid hS2
        have B2 := Lib.hid hB2
        have K2 := Lib.hid hK2
        have y8 := hS2.core.box8.cell
        have y9 := hS2.core.box9.cell
        have yb : W2.cell? ⟨gb, q, none⟩ = some (.bool true) := (hS2.core.row8.cellAt q (by omega)).trans (by rw [bits_at _ _ _ hq, hsB1])
        have HC := Lib.hid (cut_any' g tb a.length w.heap.size _ cc _ q W2 hS2.rest (Nat.le_of_lt hlt) hq hle la hle5 HT6.out)
        clear hT hS2 hB2 hK2 HTK HNX
        gi_wp2_with fail
        refine ⟨trivial, (CallsIn.inRound l (callsIn_wide.2 HC.out)).mono ?_⟩
        rintro e W3 ⟨rfl, hC⟩
        obtain ⟨d1, d2, d3⟩ := hC
        have S3 := Lib.hid (S2.out.rests d2 d1)
        have K3 := Lib.hid (keeps_rests w6.heap.size S2.out.rest d2)
        have tlt := (S2.out.rest.row.lt _ rfl).1
        have B3 := Lib.hid (d2.below B2.out B2.out.size (by rintro x (rfl | rfl); exact hmg; exact tlt))
        clear d1 d2 d3 HC
        gi_wp2_with fail
        exact ⟨K2.out.trans K3.out, HX.out _ S3.out B3.out⟩
      · have q2 := ahd_lim (a := a) hib hst
        have q4 : stepOf a b (stayIds a b r) i = [(3, at' b i, (cnt a b (stayIds a b r) i : Int))] := by unfold stepOf; simp only; rw [if_pos hm, if_neg hst]
        rw [if_neg hst] at q5
        have HX : Hid (∀ W', St W' p5 m1 p7 p8 gb p9 g tb Bs w.heap.size a.length A2 b.length c2 a b (stayB a b r r.length) (LL ++ [(3, at' b i, (cnt a b (stayIds a b r) i : Int))]) (fun p => decide (at' a p ∈ b.take i)) (cnt a b (stayIds a b r) i) (lim a b (stayIds a b r) (i + 1)) → Below w.heap.size w W' → Rd w p5 m1 p7 p8 gb p9 g tb Bs A2 c2 a b (stayIds a b r) (stayB a b r r.length) (k + 1) W') := by
          intro W' h9
          refine HP.out W' ?_
          rw [q2, q4, q5, ← hLL]
          exact h9
        have hsB1 : stayB a b r r.length (ix a (at' b i)) = false := by rw [hsB]; exact decide_eq_false hst
        clear hsB hst q2 q4 q5 hm hLL hpost HP hsx
        generalize at' b i = x at *
        generalize cnt a b (stayIds a b r) i = cc at *
        generalize ix a x = q at *
        gi_wp2_with (refine wpListIn_lookok_mo rfl _ _ 48 3 3 rfl (intWay Try.underlying3) Try.underlying48 zeroIW m1 _ _ rfl HMW.out x HO.out rfl (.int .i64 q) true (by rw [HF.out]; rfl) (by rw [HF.out]; rfl) ?_)
        refine ⟨trivial, (CallsIn.inRound l (callsIn_wide.2 HTK.out)).mono ?_⟩
        rintro e W2 ⟨rfl, hT⟩
        obtain ⟨hS2, hB2, hK2⟩ := HNX.out W2 hT
        have S2 := Lib.hid hS2
        have K2 := Lib.hid hK2
        have y8 := hS2.core.box8.cell
        have yb : W2.cell? ⟨gb, q, none⟩ = some (.bool false) := (hS2.core.row8.cellAt q (by omega)).trans (by rw [bits_at _ _ _ hq, hsB1])
        have c9' := hS2.core.box9.cell
        have cg := hS2.rest.c1
        clear hT hS2 hK2 HTK HNX c9 e5
        gi_wp2_with fail
        clear y8 yb
        have SB := Lib.hid ((S2.out.alloc (.cells #[.int .i64 3, .int .i64 x, .int .i64 cc] 31)).drew)
        obtain ⟨v, hv, hov⟩ := S2.out.steps
        obtain ⟨A7, k6, rfl, h7a, h7b⟩ := own_slice hov
        have hv2 : Boxed (W2.alloc (.cells #[.int .i64 3, .int .i64 x, .int .i64 cc] 31)).drew p7 25 (.slice A7 LL.length k6) := show Boxed (W2.alloc (.cells #[.int .i64 3, .int .i64 x, .int .i64 cc] 31)) p7 _ _ from Boxed.alloc hv _
        have hov2 : (W2.alloc (.cells #[.int .i64 3, .int .i64 x, .int .i64 cc] 31)).drew.ownsRow w.heap.size 31 3 (.slice A7 LL.length k6) LL.length (sc LL) := own_heap (World.ownsRow.alloc hov (.cells #[.int .i64 3, .int .i64 x, .int .i64 cc] 31)) rfl
        obtain ⟨v1, w1, hrun, hown1, hgrow1, _, _⟩ := run_append_own_at (P := Try.prog) (W2.alloc (.cells #[.int .i64 3, .int .i64 x, .int .i64 cc] 31)).drew w.heap.size 25 25 31 i0 (.agg #[.int .i64 0, .int .i64 0, .int .i64 0]) 3 24 Try.underlying25 hi0 hz0 hz1 hz2 rfl (by decide) _ LL.length (sc LL) hov2 ⟨W2.heap.size, 0, none⟩ 1 1 [.int .i64 3, .int .i64 x, .int .i64 cc] rfl (cells_new W2 _ _ _ rfl) (sc_one [(3, x, cc)]) (by unfold maxLen; omega) (by omega) (by have := hB2.size; simp; omega)
        obtain ⟨g7, k7, rfl⟩ := ownsRow_succ hown1
        have hp7 : (Value.slice A7 LL.length k6).ownBlock ≠ some p7 := fun e => (typed_boxed hv2).ne (typed_own hov2 e) (by decide) rfl
        have hv1 : Boxed w1 p7 25 (.slice A7 LL.length k6) := (hgrow1.block p7 hv2.lt (fun e => hp7 e.symm)).trans hv2
        have ST := Lib.hid (SB.out.append (s := (3, x, (cc : Int))) hv2 hov2 hown1 hgrow1)
        have BT := Lib.hid ((((hB2.alloc hB2.size (.cells #[.int .i64 3, .int .i64 x, .int .i64 cc] 31)).drew).grown hgrow1 (by have := hB2.size; simp; omega) (own_from hov2)).setCell (p := ⟨p7, 0, none⟩) hmp7 (.slice (some ⟨g7, 0, none⟩) (LL.length + 1) k7))
        have y7 := hv.cell
        have y7a := hv2.cell
        have y71 := hv1.cell
        have f71 := hv1.frozen
        have d9 := SB.out.core.box9.cell
        have dg := SB.out.rest.c1
        clear hown1 hgrow1 hv hov hv2 hov2 hv1 hp7
        gi_region_with_o (fail)
        all_goals exact ⟨rfl, K2.out.trans ((((KeepsOthers.alloc W2 _).trans (KeepsOthers.drew _)).trans ST.out.2).from _), HX.out _ ST.out.1 BT.out⟩
    · have hns : ¬ at' b i ∈ stayIds a b r := fun h => hm (hsa _ h)
      have q1 := ahd_not (s := stayIds a b r) HNB.out hib hm
      have q2 := ahd_lim (a := a) hib hns
      have q3 : lim a b (stayIds a b r) i = lim a b (stayIds a b r) (i + 1) := by rw [lim_next a b _ hib, if_neg hns]
      have q4 : stepOf a b (stayIds a b r) i = [(2, at' b i, (cnt a b (stayIds a b r) i : Int))] := by unfold stepOf; simp only; rw [if_neg hm]
      rw [q1] at hSt
      have HS : Hid (St W p5 m1 p7 p8 gb p9 g tb Bs w.heap.size a.length A2 b.length c2 a b (stayB a b r r.length) LL (fun p => decide (at' a p ∈ b.take i)) (cnt a b (stayIds a b r) i) (lim a b (stayIds a b r) (i + 1))) := ⟨hSt.core, hSt.steps, hSt.rest.congr (f_no hib hm), hSt.ne⟩
      have HF := Lib.hid (posF_no hm)
      have HX : Hid (∀ W', St W' p5 m1 p7 p8 gb p9 g tb Bs w.heap.size a.length A2 b.length c2 a b (stayB a b r r.length) (LL ++ [(2, at' b i, (cnt a b (stayIds a b r) i : Int))]) (fun p => decide (at' a p ∈ b.take i)) (cnt a b (stayIds a b r) i) (lim a b (stayIds a b r) (i + 1)) → Below w.heap.size w W' → Rd w p5 m1 p7 p8 gb p9 g tb Bs A2 c2 a b (stayIds a b r) (stayB a b r r.length) (k + 1) W') := by
        intro W' h9
        refine HP.out W' ?_
        rw [q2, q3, q4, ← hLL]
        exact h9
      clear hSt q1 q2 q3 q4 hns hm hLL hpost HP hsx
      have c9 := HS.out.core.box9.cell
      have cg := HS.out.rest.c1
      generalize at' b i = x at *
      generalize cnt a b (stayIds a b r) i = cc at *
      gi_wp2_with (refine wpListIn_lookok_mo rfl _ _ 48 3 3 rfl (intWay Try.underlying3) Try.underlying48 zeroIW m1 _ _ rfl HMW.out x HO.out rfl (.int .i64 0) false (by rw [HF.out]; rfl) (by rw [HF.out]; rfl) ?_)
      have SB := Lib.hid ((HS.out.alloc (.cells #[.int .i64 2, .int .i64 x, .int .i64 cc] 31)).drew)
      obtain ⟨v, hv, hov⟩ := HS.out.steps
      obtain ⟨A7, k6, rfl, h7a, h7b⟩ := own_slice hov
      have hv2 : Boxed (W.alloc (.cells #[.int .i64 2, .int .i64 x, .int .i64 cc] 31)).drew p7 25 (.slice A7 LL.length k6) := show Boxed (W.alloc (.cells #[.int .i64 2, .int .i64 x, .int .i64 cc] 31)) p7 _ _ from Boxed.alloc hv _
      have hov2 : (W.alloc (.cells #[.int .i64 2, .int .i64 x, .int .i64 cc] 31)).drew.ownsRow w.heap.size 31 3 (.slice A7 LL.length k6) LL.length (sc LL) := own_heap (World.ownsRow.alloc hov (.cells #[.int .i64 2, .int .i64 x, .int .i64 cc] 31)) rfl
      obtain ⟨v1, w1, hrun, hown1, hgrow1, _, _⟩ := run_append_own_at (P := Try.prog) (W.alloc (.cells #[.int .i64 2, .int .i64 x, .int .i64 cc] 31)).drew w.heap.size 25 25 31 i0 (.agg #[.int .i64 0, .int .i64 0, .int .i64 0]) 3 24 Try.underlying25 hi0 hz0 hz1 hz2 rfl (by decide) _ LL.length (sc LL) hov2 ⟨W.heap.size, 0, none⟩ 1 1 [.int .i64 2, .int .i64 x, .int .i64 cc] rfl (cells_new W _ _ _ rfl) (sc_one [(2, x, cc)]) (by unfold maxLen; omega) (by omega) (by have := hBel.size; simp; omega)
      obtain ⟨g7, k7, rfl⟩ := ownsRow_succ hown1
      have hp7 : (Value.slice A7 LL.length k6).ownBlock ≠ some p7 := fun e => (typed_boxed hv2).ne (typed_own hov2 e) (by decide) rfl
      have hv1 : Boxed w1 p7 25 (.slice A7 LL.length k6) := (hgrow1.block p7 hv2.lt (fun e => hp7 e.symm)).trans hv2
      have ST := Lib.hid (SB.out.append (s := (2, x, (cc : Int))) hv2 hov2 hown1 hgrow1)
      have BT := Lib.hid ((((hBel.alloc hBel.size (.cells #[.int .i64 2, .int .i64 x, .int .i64 cc] 31)).drew).grown hgrow1 (by have := hBel.size; simp; omega) (own_from hov2)).setCell (p := ⟨p7, 0, none⟩) hmp7 (.slice (some ⟨g7, 0, none⟩) (LL.length + 1) k7))
      have y7 := hv.cell
      have y7a := hv2.cell
      have y71 := hv1.cell
      have f71 := hv1.frozen
      have d9 := SB.out.core.box9.cell
      have dg := SB.out.rest.c1
      clear hown1 hgrow1 hv hov hv2 hov2 hv1 hp7
      gi_region_with_o (fail)
      all_goals exact ⟨rfl, (((KeepsOthers.alloc W _).trans (KeepsOthers.drew _)).trans ST.out.2).from _, HX.out _ ST.out.1 BT.out⟩
  case done =>
    intro D W hD hI hK
    obtain ⟨hSt, hBel⟩ := hI
    obtain ⟨v, hv, hov⟩ := hSt.steps
    have HV := Lib.hid hv
    have HOV := Lib.hid hov
    have HBL := Lib.hid hBel
    have e7 := hv.cell
    clear hSt hv hov hBel
    gi_wp2
    refine ⟨by simp, .inl ⟨_, _, rfl, run_takeDeferred hK, ?_⟩⟩
    exact ⟨_, results_tmp rfl _ _ _, v, rfl, ownsRow_putObj HOV.out _ hK rfl, HBL.out.trans (belowK_b (w := w) (Nat.le_refl _) W D _ _ (by omega) hK rfl rfl)⟩
end Go.Proofs.Ytdojalflgfacgaa
