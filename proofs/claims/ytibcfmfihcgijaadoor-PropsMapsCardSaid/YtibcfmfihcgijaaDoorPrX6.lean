/- slices.IndexFunc and slices.DeleteFunc at pairs of texts, by Drop's closure and by Mine's (written by gen_del.py). -/
import Derived.Test.YtibcfmfihcgijaaDoorPrX4
import Derived.Test.YtibcfmfihcgijaaDoorPrW5
import Derived.Test.YtibcfmfihcgijaaDoorPrU1
namespace Go.Proofs.YtibcfmfihcgijaaDoor
open Go.RowKit M
theorem pvS_len2 (l : List ParS) : (pvS l).length = l.length * 2 := pv_lenS l
theorem pvS_app2 (a b : List ParS) : pvS (a ++ b) = pvS a ++ pvS b := pv_appS a b
theorem pvS_len_ne (l : List ParS) {k : Nat} (hk : k < l.length) : pvS l ≠ [] := fun e => by have := pvS_len2 l; rw [e] at this; simp at this; omega
theorem pvS_at2 (l : List ParS) (k : Nat) (h : k < l.length) : (pvS l)[k * 2]? = some (.string l[k].1) ∧ (pvS l)[k * 2 + 1]? = some (.string l[k].2) :=
  ⟨St.flat_at (enc := encPS) encP_lenS l k h 0 (by omega), St.flat_at (enc := encPS) encP_lenS l k h 1 (by omega)⟩
set_option maxHeartbeats 4000000 in
set_option maxRecDepth 100000 in
theorem idxDropS (B : Nat) (A : Option Addr) (n c base : Nat) (l : List ParS) (p : ParS → Bool) (w : World) (hn : n = l.length) (hb : n ≤ 100000) (ha : At w A (pvS l)) (hbase : base ≤ w.heap.size) (hp : (∀ (s : ByteArray) (z : ByteArray) (W : World), Below base w W → Calls Tryd.prog 45 #[.agg #[.string s, .string z], .pointer (some ⟨B, 0, none⟩)] W fun e w' => e = .returned (.bool (p (s, z))) ∧ Below W.heap.size W w')) :
    Calls Tryd.prog 73 #[.slice A n c, .func (.func 45) #[] #[.pointer (some ⟨B, 0, none⟩)]] w fun e w' => ((e = .returned (.int .i64 (-1)) ∧ ∀ q ∈ l, p q = false) ∨ (∃ k : Nat, ∃ hk : k < l.length, e = .returned (.int .i64 k) ∧ p l[k] = true ∧ ∀ q ∈ l.take k, p q = false)) ∧ Below w.heap.size w w' := by
  have HN := Lib.hid hn
  have HA := Lib.hid ha
  have HP := Lib.hid hp
  clear hn ha hp
  go_enter Tryd.func73, Tryd.ntmps73
  go_wp2
  go_loopw [8] (fun i wr => ∃ k : Nat, k ≤ n ∧ i = .int .i64 k ∧ Below w.heap.size w wr ∧ Hid (∀ q ∈ l.take k, p q = false)) (fun i _ => n - (intOf i).toNat)
  case atStart => exact ⟨0, Nat.zero_le _, rfl, Below.refl _ _, by show ∀ q ∈ _, _; simp⟩
  case round =>
    obtain ⟨k, hk, rfl, hbel, hno⟩ := hrel
    by_cases hlt : k < n
    · have hk1 : k < l.length := by have := HN.out; omega
      obtain ⟨b1, o1, rfl, hb1, hc1, hc1'⟩ := at_pairS (HA.out.below hbel) hk1
      have hst0 := take_next l k hk1
      obtain ⟨y, hy⟩ : ∃ y, y = l[k] := ⟨_, rfl⟩
      rw [← hy] at hc1 hc1' hst0
      have HY := Lib.hid hy
      have HT := Lib.hid hst0
      clear hy hst0
      obtain ⟨s, z⟩ := y
      have hcall := HP.out s z wr (hbel.mono hbase)
      cases hq : p (s, z) with
      | true =>
        rw [hq] at hcall
        have HC := Lib.hid hcall
        have HQ := Lib.hid hq
        clear hcall hq
        go_wp2_with fail
        refine HC.out.mono ?_
        rintro e w5 ⟨rfl, hb5⟩
        have HB5 := Lib.hid (below_join hbel hb5)
        clear hb5
        go_wp2
        go_ret
        exact ⟨.inr ⟨k, hk1, rfl, by rw [← HY.out]; exact HQ.out, hno.out⟩, HB5.out⟩
      | false =>
        rw [hq] at hcall
        have HC := Lib.hid hcall
        have HQ := Lib.hid hq
        clear hcall hq
        go_wp2_with fail
        refine HC.out.mono ?_
        rintro e w5 ⟨rfl, hb5⟩
        have HB5 := Lib.hid (below_join hbel hb5)
        clear hb5
        go_wp2
        go_roundw
        case rel => exact ⟨k + 1, by omega, by go_num, HB5.out, by show ∀ q ∈ _, _; rw [HT.out]; intro q hq; rcases List.mem_append.1 hq with h | h; exact hno.out q h; rw [List.mem_singleton.1 h]; exact HQ.out⟩
        case measure => simp [intOf]; omega
    · obtain rfl : k = n := by omega
      go_wp2
      go_ret
      exact ⟨.inl ⟨rfl, by have h := hno.out; rw [List.take_of_length_le (by have := HN.out; omega)] at h; exact h⟩, hbel⟩
set_option maxHeartbeats 8000000 in
set_option maxRecDepth 100000 in
theorem delDropS (B : Nat) (A : Option Addr) (n c base : Nat) (l : List ParS) (p : ParS → Bool) (w : World) (hn : n = l.length) (hb : n ≤ 100000) (hnc : n ≤ c) (hcm : c ≤ maxLen) (ha : At w A (pvS l)) (hbase : base ≤ w.heap.size)
    (hfz : ∀ b off, A = some ⟨b, off, none⟩ → base ≤ b ∧ ∀ o, w.frozen? ⟨b, o, none⟩ = false) (hp : (∀ (s : ByteArray) (z : ByteArray) (W : World), Below base w W → Calls Tryd.prog 45 #[.agg #[.string s, .string z], .pointer (some ⟨B, 0, none⟩)] W fun e w' => e = .returned (.bool (p (s, z))) ∧ Below W.heap.size W w')) :
    Calls Tryd.prog 44 #[.slice A n c, .func (.func 45) #[] #[.pointer (some ⟨B, 0, none⟩)]] w fun e w' => ∃ c', e = .returned (.slice A (l.filter fun q => !p q).length c') ∧ At w' A (pvS (l.filter fun q => !p q)) ∧ Below base w w' := by
  have HI := Lib.hid (idxDropS B A n c base l p w hn hb ha hbase hp)
  have HN := Lib.hid hn
  have HA := Lib.hid ha
  have HP := Lib.hid hp
  unfold maxLen at hcm
  clear hn ha hp
  go_enter Tryd.func44, Tryd.ntmps44
  go_wp2_with fail
  refine HI.out.mono ?_
  rintro e w1 ⟨⟨rfl, hno⟩ | ⟨k0, hk0, rfl, hyes, hno⟩, hb1⟩
  · have HX := Lib.hid hno
    have HB1 := Lib.hid hb1
    clear hno hb1 HI
    go_wp2
    go_ret
    have e : (l.filter fun q => !p q) = l := List.filter_eq_self.2 fun q hq => by rw [HX.out q hq]; rfl
    refine ⟨c, by rw [e, ← HN.out]; rfl, by rw [e]; exact HA.out.below HB1.out, HB1.out.mono hbase⟩
  · have hk0n : k0 < n := by have := HN.out; omega
    have hF0 : Hid ((l.take k0).filter (fun q => !p q) = l.take k0) := List.filter_eq_self.2 fun q hq => by rw [hno q hq]; rfl
    have hF1 : Hid ((l.take (k0 + 1)).filter (fun q => !p q) = l.take k0) := by
      show _ = _
      rw [take_next l k0 hk0, List.filter_append, hF0.out]
      simp [hyes]
    have hneg : ((k0 : Int) == -1) = false := beq_eq_false_iff_ne.2 (by omega)
    have HB1 := Lib.hid hb1
    obtain ⟨g, off, rfl, hg, _, _⟩ := at_pairS (HA.out.below hb1) hk0
    obtain ⟨hbg, hfz⟩ := hfz g off rfl
    have HFZ : Hid (∀ o, w1.frozen? ⟨g, o, none⟩ = false) := fun o => by
      have h1 := HA.out (fun e => by have := pvS_len_ne l hk0; exact this e)
      obtain ⟨b', off', e, hlt, _⟩ := h1
      injection e with e
      injection e with e1 e2
      subst e1
      rw [HB1.out.frozen (p := ⟨g, o, none⟩) hlt]
      exact hfz o
    have HCL : Hid (∀ t u, (pvS l)[t]? = some u → w1.cell? ⟨g, off + t, none⟩ = some u) := fun t u hu => by
      obtain ⟨b', off', e, _, hc⟩ := (HA.out.below HB1.out) (fun e => by have := pvS_len_ne l hk0; exact this e)
      injection e with e
      injection e with e1 e2
      subst e1 e2
      exact hc t u hu
    have hs1 := hb1.size
    have HB0 := Lib.hid (hb1.mono hbase)
    clear hno hyes hfz hb1 HI
    have hL : Hid ((pvS l).length = n * 2) := by show _ = _; rw [pvS_len2, HN.out]
    go_wp2
    go_loopw [5, 6] (fun i j wr => ∃ (a b : Nat) (out : List ParS), a < b ∧ b ≤ n ∧ i = .int .i64 a ∧ j = .int .i64 b ∧ out.length = a ∧ Hid (out = (l.take b).filter (fun q => !p q)) ∧ Hid (∀ t u, (pvS out)[t]? = some u → wr.cell? ⟨g, off + t, none⟩ = some u) ∧ Hid (∀ t u, b * 2 ≤ t → (pvS l)[t]? = some u → wr.cell? ⟨g, off + t, none⟩ = some u) ∧ Hid (∀ t, t < n * 2 → (wr.cell? ⟨g, off + t, none⟩).isSome = true) ∧ Hid (∀ o, wr.frozen? ⟨g, o, none⟩ = false) ∧ g < wr.heap.size ∧ Below base w wr) (fun _ j _ => n - (intOf j).toNat)
    case atStart =>
      refine ⟨k0, k0 + 1, l.take k0, by omega, by omega, rfl, by go_num, by rw [List.length_take]; omega, hF1.out.symm, ?_, fun t u _ hu => HCL.out t u hu, fun t ht => ?_, HFZ.out, hg, HB0.out⟩
      · intro t u hu
        refine HCL.out t u ?_
        have e : l = l.take k0 ++ l.drop k0 := (List.take_append_drop k0 l).symm
        rw [e, pvS_app2, List.getElem?_append_left (by rcases Nat.lt_or_ge t (pvS (l.take k0)).length with h | h; exact h; rw [List.getElem?_eq_none h] at hu; cases hu)]
        exact hu
      · have ht' : t < (pvS l).length := by rw [hL.out]; exact ht
        rw [HCL.out t (pvS l)[t] (List.getElem?_eq_getElem ht')]; rfl
    case round =>
      obtain ⟨a, b, out, hab, hbn, rfl, rfl, hol, hout, hlow, hhigh, hthere, hfr, hgw, hbel⟩ := hrel
      by_cases hlt : b < n
      · have hk1 : b < l.length := by have := HN.out; omega
        have hst0 := take_next l b hk1
        have hpa := pvS_at2 l b hk1
        obtain ⟨y, hy⟩ : ∃ y, y = l[b] := ⟨_, rfl⟩
        rw [← hy] at hst0 hpa
        have HT := Lib.hid hst0
        clear hy hst0
        obtain ⟨s, z⟩ := y
        have hc0 := hhigh.out (b * 2) _ (Nat.le_refl _) hpa.1
        have hc1 : wr.cell? ⟨g, off + b * 2 + 1, none⟩ = some (.string z) := by have := hhigh.out (b * 2 + 1) _ (Nat.le_add_right _ _) hpa.2; rwa [← Nat.add_assoc] at this
        obtain ⟨u0, hu0⟩ := Option.isSome_iff_exists.1 (hthere.out (a * 2) (by omega))
        obtain ⟨u1, hu1⟩ := Option.isSome_iff_exists.1 (hthere.out (a * 2 + 1) (by omega))
        rw [← Nat.add_assoc] at hu1
        have hf0 := hfr.out (off + a * 2)
        have hf1 := hfr.out (off + a * 2 + 1)
        have hsz := hbel.size
        have hbl : base ≤ wr.heap.size := by omega
        have hcall := HP.out s z (wr.alloc (.cells #[.string s, .string z] 70)) (hbel.alloc hbl _)
        have HU0 := Lib.hid hu0
        have HU1 := Lib.hid hu1
        clear hpa
        cases hq : p (s, z) with
        | true =>
          rw [hq] at hcall
          have HC := Lib.hid hcall
          have HQ := Lib.hid hq
          clear hcall hq
          go_wp2_with fail
          refine HC.out.mono ?_
          rintro e w5 ⟨rfl, hb5⟩
          have HB5 := Lib.hid ((below_alloc wr (.cells #[.string s, .string z] 70)).trans (hb5.mono (by simp)))
          clear hb5
          go_wp2
          go_roundw
          case rel => exact ⟨a, b + 1, out, by omega, by omega, rfl, by go_num, hol, by show _ = _; rw [HT.out, List.filter_append, ← hout.out]; simp [HQ.out], (fun t u hu => (HB5.out.cell (p := ⟨g, off + t, none⟩) hgw).trans (hlow.out t u hu)), (fun t u ht hu => (HB5.out.cell (p := ⟨g, off + t, none⟩) hgw).trans (hhigh.out t u (by omega) hu)), (fun t ht => by rw [HB5.out.cell (p := ⟨g, off + t, none⟩) hgw]; exact hthere.out t ht), (fun o => (HB5.out.frozen (p := ⟨g, o, none⟩) hgw).trans (hfr.out o)), Nat.lt_of_lt_of_le hgw HB5.out.size, hbel.trans (HB5.out.mono hbl)⟩
          case measure => simp [intOf]; omega
        | false =>
          rw [hq] at hcall
          have HC := Lib.hid hcall
          have HQ := Lib.hid hq
          clear hcall hq
          go_wp2_with fail
          refine HC.out.mono ?_
          rintro e w5 ⟨rfl, hb5⟩
          have HB5 := Lib.hid ((below_alloc wr (.cells #[.string s, .string z] 70)).trans (hb5.mono (by simp)))
          have c0 : w5.cell? ⟨wr.heap.size, 0, none⟩ = some (.string s) := (hb5.cell (p := ⟨wr.heap.size, 0, none⟩) (by simp)).trans (by simp)
          have c1 : w5.cell? ⟨wr.heap.size, 1, none⟩ = some (.string z) := (hb5.cell (p := ⟨wr.heap.size, 1, none⟩) (by simp)).trans (by simp)
          have d0 : w5.cell? ⟨g, off + a * 2, none⟩ = some u0 := (HB5.out.cell (p := ⟨g, off + a * 2, none⟩) hgw).trans HU0.out
          have d1 : w5.cell? ⟨g, off + a * 2 + 1, none⟩ = some u1 := (HB5.out.cell (p := ⟨g, off + a * 2 + 1, none⟩) hgw).trans HU1.out
          have e0 : w5.frozen? ⟨g, off + a * 2, none⟩ = false := (HB5.out.frozen (p := ⟨g, off + a * 2, none⟩) hgw).trans (hfr.out _)
          have e1 : w5.frozen? ⟨g, off + a * 2 + 1, none⟩ = false := (HB5.out.frozen (p := ⟨g, off + a * 2 + 1, none⟩) hgw).trans (hfr.out _)
          have D0 := Lib.hid d0
          have D1 := Lib.hid d1
          clear hb5 hc0 hc1 hu0 hu1 hf0 hf1
          go_wp2
          go_roundw
          case rel =>
            obtain ⟨t0, t1, to⟩ := two_cells D0.out D1.out (.string s) (.string z)
            have hpo : pvS (out ++ [(s, z)]) = pvS out ++ [.string s, .string z] := by rw [pvS_app2]; rfl
            have hpl : (pvS out).length = a * 2 := by rw [pvS_len2, hol]
            refine ⟨a + 1, b + 1, out ++ [(s, z)], by omega, by omega, by go_num, by go_num, by simp [hol], ?_, ?_, ?_, ?_, ?_, ?_, ?_⟩
            · show _ = _
              rw [HT.out, List.filter_append, ← hout.out]; simp [HQ.out]
            · intro t u hu
              rw [hpo] at hu
              rcases Nat.lt_or_ge t (a * 2) with h | h
              · rw [List.getElem?_append_left (by omega)] at hu
                rw [to g (off + t) (.inr (by omega)), HB5.out.cell (p := ⟨g, off + t, none⟩) hgw]
                exact hlow.out t u hu
              · rw [List.getElem?_append_right (by omega), hpl] at hu
                rcases Nat.lt_or_ge t (a * 2 + 1) with h2 | h2
                · obtain rfl : t = a * 2 := by omega
                  simp at hu
                  subst hu
                  exact t0
                · rcases Nat.lt_or_ge t (a * 2 + 2) with h3 | h3
                  · obtain rfl : t = a * 2 + 1 := by omega
                    rw [show a * 2 + 1 - a * 2 = 1 by omega] at hu
                    simp at hu
                    subst hu
                    rw [← Nat.add_assoc]
                    exact t1
                  · rw [List.getElem?_eq_none (by simp; omega)] at hu
                    cases hu
            · intro t u ht hu
              rw [to g (off + t) (.inr (by omega)), HB5.out.cell (p := ⟨g, off + t, none⟩) hgw]
              exact hhigh.out t u (by omega) hu
            · intro t ht
              by_cases x0 : t = a * 2
              · subst x0; rw [t0]; rfl
              · by_cases x1 : t = a * 2 + 1
                · subst x1; rw [← Nat.add_assoc, t1]; rfl
                · rw [to g (off + t) (.inr (by omega)), HB5.out.cell (p := ⟨g, off + t, none⟩) hgw]
                  exact hthere.out t ht
            · intro o
              rw [World.frozen?_setCell, World.frozen?_setCell]
              exact (HB5.out.frozen (p := ⟨g, o, none⟩) hgw).trans (hfr.out o)
            · simp
              exact Nat.lt_of_lt_of_le hgw HB5.out.size
            · exact below_set (below_set (hbel.trans (HB5.out.mono hbl)) g _ _ hbg) g _ _ hbg
          case measure => simp [intOf]; omega
      · obtain rfl : b = n := by omega
        have hlc := fun ty => clear_run (P := Tryd.prog) wr 30 70 ty (.agg #[.string { data := #[] }, .string { data := #[] }]) Tryd.underlying30 (by intro w; go_simp) (by intro v hv; have hv2 : v ∈ ([.string { data := #[] }, .string { data := #[] }] : List Value) := hv; have hv' : v = .string { data := #[] } ∨ v = .string { data := #[] } := (by simpa using hv2); rcases hv' with rfl | rfl <;> rfl) g (off + a * 2) (b - a) (c - a) 2 (by rfl) (fun j hj => by rw [Nat.add_assoc]; exact hthere.out _ (by omega)) (fun j hj => hfr.out _)
        obtain ⟨vs, hvs, hrun⟩ := hlc 0
        have hrun' : ∀ ty, (Builtin.clear_ #[30] ty #[.slice (some ⟨g, off + a * 2, none⟩) (b - a) (c - a)]).run Tryd.prog wr = .ok (.tuple #[]) (wr.setCells g (off + a * 2) vs) := fun ty => hrun
        clear hlc hrun
        have HRel := Lib.hid hlow.out
        have HBF := Lib.hid (Go.below_setCells (b := g) hbg vs (off + a * 2) wr hbel)
        have HOUT : Hid (out = l.filter fun q => !p q) := by show _ = _; have := hout.out; rwa [List.take_of_length_le (by have := HN.out; omega)] at this
        have HAF : Hid (At (wr.setCells g (off + a * 2) vs) (some ⟨g, off, none⟩) (pvS out)) := fun _ => ⟨g, off, rfl, by rw [size_set]; exact hgw, fun t u hu => by
          have ht : t < a * 2 := by
            have hpl : (pvS out).length = a * 2 := by rw [pvS_len2, hol]
            rcases Nat.lt_or_ge t (a * 2) with h | h
            · exact h
            · rw [List.getElem?_eq_none (by omega)] at hu; cases hu
          rw [World.cell?_setCells_out g vs (off + a * 2) wr _ (fun _ _ => .inl (by simp; omega))]
          exact HRel.out t u hu⟩
        clear hlow hhigh hout hthere hfr
        go_wp2
        go_ret
        rw [← HOUT.out, hol]
        exact ⟨_, rfl, HAF.out, HBF.out⟩
set_option maxHeartbeats 4000000 in
set_option maxRecDepth 100000 in
theorem idxMineS  (A : Option Addr) (n c base : Nat) (l : List ParS) (p : ParS → Bool) (w : World) (hn : n = l.length) (hb : n ≤ 100000) (ha : At w A (pvS l)) (hbase : base ≤ w.heap.size) (hp : (∀ (s : ByteArray) (z : ByteArray) (W : World), Below base w W → Calls Tryd.prog 48 #[.agg #[.string s, .string z]] W fun e w' => e = .returned (.bool (p (s, z))) ∧ Below W.heap.size W w')) :
    Calls Tryd.prog 73 #[.slice A n c, .func (.func 48) #[] #[]] w fun e w' => ((e = .returned (.int .i64 (-1)) ∧ ∀ q ∈ l, p q = false) ∨ (∃ k : Nat, ∃ hk : k < l.length, e = .returned (.int .i64 k) ∧ p l[k] = true ∧ ∀ q ∈ l.take k, p q = false)) ∧ Below w.heap.size w w' := by
  have HN := Lib.hid hn
  have HA := Lib.hid ha
  have HP := Lib.hid hp
  clear hn ha hp
  go_enter Tryd.func73, Tryd.ntmps73
  go_wp2
  go_loopw [8] (fun i wr => ∃ k : Nat, k ≤ n ∧ i = .int .i64 k ∧ Below w.heap.size w wr ∧ Hid (∀ q ∈ l.take k, p q = false)) (fun i _ => n - (intOf i).toNat)
  case atStart => exact ⟨0, Nat.zero_le _, rfl, Below.refl _ _, by show ∀ q ∈ _, _; simp⟩
  case round =>
    obtain ⟨k, hk, rfl, hbel, hno⟩ := hrel
    by_cases hlt : k < n
    · have hk1 : k < l.length := by have := HN.out; omega
      obtain ⟨b1, o1, rfl, hb1, hc1, hc1'⟩ := at_pairS (HA.out.below hbel) hk1
      have hst0 := take_next l k hk1
      obtain ⟨y, hy⟩ : ∃ y, y = l[k] := ⟨_, rfl⟩
      rw [← hy] at hc1 hc1' hst0
      have HY := Lib.hid hy
      have HT := Lib.hid hst0
      clear hy hst0
      obtain ⟨s, z⟩ := y
      have hcall := HP.out s z wr (hbel.mono hbase)
      cases hq : p (s, z) with
      | true =>
        rw [hq] at hcall
        have HC := Lib.hid hcall
        have HQ := Lib.hid hq
        clear hcall hq
        go_wp2_with fail
        refine HC.out.mono ?_
        rintro e w5 ⟨rfl, hb5⟩
        have HB5 := Lib.hid (below_join hbel hb5)
        clear hb5
        go_wp2
        go_ret
        exact ⟨.inr ⟨k, hk1, rfl, by rw [← HY.out]; exact HQ.out, hno.out⟩, HB5.out⟩
      | false =>
        rw [hq] at hcall
        have HC := Lib.hid hcall
        have HQ := Lib.hid hq
        clear hcall hq
        go_wp2_with fail
        refine HC.out.mono ?_
        rintro e w5 ⟨rfl, hb5⟩
        have HB5 := Lib.hid (below_join hbel hb5)
        clear hb5
        go_wp2
        go_roundw
        case rel => exact ⟨k + 1, by omega, by go_num, HB5.out, by show ∀ q ∈ _, _; rw [HT.out]; intro q hq; rcases List.mem_append.1 hq with h | h; exact hno.out q h; rw [List.mem_singleton.1 h]; exact HQ.out⟩
        case measure => simp [intOf]; omega
    · obtain rfl : k = n := by omega
      go_wp2
      go_ret
      exact ⟨.inl ⟨rfl, by have h := hno.out; rw [List.take_of_length_le (by have := HN.out; omega)] at h; exact h⟩, hbel⟩
set_option maxHeartbeats 8000000 in
set_option maxRecDepth 100000 in
theorem delMineS  (A : Option Addr) (n c base : Nat) (l : List ParS) (p : ParS → Bool) (w : World) (hn : n = l.length) (hb : n ≤ 100000) (hnc : n ≤ c) (hcm : c ≤ maxLen) (ha : At w A (pvS l)) (hbase : base ≤ w.heap.size)
    (hfz : ∀ b off, A = some ⟨b, off, none⟩ → base ≤ b ∧ ∀ o, w.frozen? ⟨b, o, none⟩ = false) (hp : (∀ (s : ByteArray) (z : ByteArray) (W : World), Below base w W → Calls Tryd.prog 48 #[.agg #[.string s, .string z]] W fun e w' => e = .returned (.bool (p (s, z))) ∧ Below W.heap.size W w')) :
    Calls Tryd.prog 44 #[.slice A n c, .func (.func 48) #[] #[]] w fun e w' => ∃ c', e = .returned (.slice A (l.filter fun q => !p q).length c') ∧ At w' A (pvS (l.filter fun q => !p q)) ∧ Below base w w' := by
  have HI := Lib.hid (idxMineS A n c base l p w hn hb ha hbase hp)
  have HN := Lib.hid hn
  have HA := Lib.hid ha
  have HP := Lib.hid hp
  unfold maxLen at hcm
  clear hn ha hp
  go_enter Tryd.func44, Tryd.ntmps44
  go_wp2_with fail
  refine HI.out.mono ?_
  rintro e w1 ⟨⟨rfl, hno⟩ | ⟨k0, hk0, rfl, hyes, hno⟩, hb1⟩
  · have HX := Lib.hid hno
    have HB1 := Lib.hid hb1
    clear hno hb1 HI
    go_wp2
    go_ret
    have e : (l.filter fun q => !p q) = l := List.filter_eq_self.2 fun q hq => by rw [HX.out q hq]; rfl
    refine ⟨c, by rw [e, ← HN.out]; rfl, by rw [e]; exact HA.out.below HB1.out, HB1.out.mono hbase⟩
  · have hk0n : k0 < n := by have := HN.out; omega
    have hF0 : Hid ((l.take k0).filter (fun q => !p q) = l.take k0) := List.filter_eq_self.2 fun q hq => by rw [hno q hq]; rfl
    have hF1 : Hid ((l.take (k0 + 1)).filter (fun q => !p q) = l.take k0) := by
      show _ = _
      rw [take_next l k0 hk0, List.filter_append, hF0.out]
      simp [hyes]
    have hneg : ((k0 : Int) == -1) = false := beq_eq_false_iff_ne.2 (by omega)
    have HB1 := Lib.hid hb1
    obtain ⟨g, off, rfl, hg, _, _⟩ := at_pairS (HA.out.below hb1) hk0
    obtain ⟨hbg, hfz⟩ := hfz g off rfl
    have HFZ : Hid (∀ o, w1.frozen? ⟨g, o, none⟩ = false) := fun o => by
      have h1 := HA.out (fun e => by have := pvS_len_ne l hk0; exact this e)
      obtain ⟨b', off', e, hlt, _⟩ := h1
      injection e with e
      injection e with e1 e2
      subst e1
      rw [HB1.out.frozen (p := ⟨g, o, none⟩) hlt]
      exact hfz o
    have HCL : Hid (∀ t u, (pvS l)[t]? = some u → w1.cell? ⟨g, off + t, none⟩ = some u) := fun t u hu => by
      obtain ⟨b', off', e, _, hc⟩ := (HA.out.below HB1.out) (fun e => by have := pvS_len_ne l hk0; exact this e)
      injection e with e
      injection e with e1 e2
      subst e1 e2
      exact hc t u hu
    have hs1 := hb1.size
    have HB0 := Lib.hid (hb1.mono hbase)
    clear hno hyes hfz hb1 HI
    have hL : Hid ((pvS l).length = n * 2) := by show _ = _; rw [pvS_len2, HN.out]
    go_wp2
    go_loopw [5, 6] (fun i j wr => ∃ (a b : Nat) (out : List ParS), a < b ∧ b ≤ n ∧ i = .int .i64 a ∧ j = .int .i64 b ∧ out.length = a ∧ Hid (out = (l.take b).filter (fun q => !p q)) ∧ Hid (∀ t u, (pvS out)[t]? = some u → wr.cell? ⟨g, off + t, none⟩ = some u) ∧ Hid (∀ t u, b * 2 ≤ t → (pvS l)[t]? = some u → wr.cell? ⟨g, off + t, none⟩ = some u) ∧ Hid (∀ t, t < n * 2 → (wr.cell? ⟨g, off + t, none⟩).isSome = true) ∧ Hid (∀ o, wr.frozen? ⟨g, o, none⟩ = false) ∧ g < wr.heap.size ∧ Below base w wr) (fun _ j _ => n - (intOf j).toNat)
    case atStart =>
      refine ⟨k0, k0 + 1, l.take k0, by omega, by omega, rfl, by go_num, by rw [List.length_take]; omega, hF1.out.symm, ?_, fun t u _ hu => HCL.out t u hu, fun t ht => ?_, HFZ.out, hg, HB0.out⟩
      · intro t u hu
        refine HCL.out t u ?_
        have e : l = l.take k0 ++ l.drop k0 := (List.take_append_drop k0 l).symm
        rw [e, pvS_app2, List.getElem?_append_left (by rcases Nat.lt_or_ge t (pvS (l.take k0)).length with h | h; exact h; rw [List.getElem?_eq_none h] at hu; cases hu)]
        exact hu
      · have ht' : t < (pvS l).length := by rw [hL.out]; exact ht
        rw [HCL.out t (pvS l)[t] (List.getElem?_eq_getElem ht')]; rfl
    case round =>
      obtain ⟨a, b, out, hab, hbn, rfl, rfl, hol, hout, hlow, hhigh, hthere, hfr, hgw, hbel⟩ := hrel
      by_cases hlt : b < n
      · have hk1 : b < l.length := by have := HN.out; omega
        have hst0 := take_next l b hk1
        have hpa := pvS_at2 l b hk1
        obtain ⟨y, hy⟩ : ∃ y, y = l[b] := ⟨_, rfl⟩
        rw [← hy] at hst0 hpa
        have HT := Lib.hid hst0
        clear hy hst0
        obtain ⟨s, z⟩ := y
        have hc0 := hhigh.out (b * 2) _ (Nat.le_refl _) hpa.1
        have hc1 : wr.cell? ⟨g, off + b * 2 + 1, none⟩ = some (.string z) := by have := hhigh.out (b * 2 + 1) _ (Nat.le_add_right _ _) hpa.2; rwa [← Nat.add_assoc] at this
        obtain ⟨u0, hu0⟩ := Option.isSome_iff_exists.1 (hthere.out (a * 2) (by omega))
        obtain ⟨u1, hu1⟩ := Option.isSome_iff_exists.1 (hthere.out (a * 2 + 1) (by omega))
        rw [← Nat.add_assoc] at hu1
        have hf0 := hfr.out (off + a * 2)
        have hf1 := hfr.out (off + a * 2 + 1)
        have hsz := hbel.size
        have hbl : base ≤ wr.heap.size := by omega
        have hcall := HP.out s z (wr.alloc (.cells #[.string s, .string z] 70)) (hbel.alloc hbl _)
        have HU0 := Lib.hid hu0
        have HU1 := Lib.hid hu1
        clear hpa
        cases hq : p (s, z) with
        | true =>
          rw [hq] at hcall
          have HC := Lib.hid hcall
          have HQ := Lib.hid hq
          clear hcall hq
          go_wp2_with fail
          refine HC.out.mono ?_
          rintro e w5 ⟨rfl, hb5⟩
          have HB5 := Lib.hid ((below_alloc wr (.cells #[.string s, .string z] 70)).trans (hb5.mono (by simp)))
          clear hb5
          go_wp2
          go_roundw
          case rel => exact ⟨a, b + 1, out, by omega, by omega, rfl, by go_num, hol, by show _ = _; rw [HT.out, List.filter_append, ← hout.out]; simp [HQ.out], (fun t u hu => (HB5.out.cell (p := ⟨g, off + t, none⟩) hgw).trans (hlow.out t u hu)), (fun t u ht hu => (HB5.out.cell (p := ⟨g, off + t, none⟩) hgw).trans (hhigh.out t u (by omega) hu)), (fun t ht => by rw [HB5.out.cell (p := ⟨g, off + t, none⟩) hgw]; exact hthere.out t ht), (fun o => (HB5.out.frozen (p := ⟨g, o, none⟩) hgw).trans (hfr.out o)), Nat.lt_of_lt_of_le hgw HB5.out.size, hbel.trans (HB5.out.mono hbl)⟩
          case measure => simp [intOf]; omega
        | false =>
          rw [hq] at hcall
          have HC := Lib.hid hcall
          have HQ := Lib.hid hq
          clear hcall hq
          go_wp2_with fail
          refine HC.out.mono ?_
          rintro e w5 ⟨rfl, hb5⟩
          have HB5 := Lib.hid ((below_alloc wr (.cells #[.string s, .string z] 70)).trans (hb5.mono (by simp)))
          have c0 : w5.cell? ⟨wr.heap.size, 0, none⟩ = some (.string s) := (hb5.cell (p := ⟨wr.heap.size, 0, none⟩) (by simp)).trans (by simp)
          have c1 : w5.cell? ⟨wr.heap.size, 1, none⟩ = some (.string z) := (hb5.cell (p := ⟨wr.heap.size, 1, none⟩) (by simp)).trans (by simp)
          have d0 : w5.cell? ⟨g, off + a * 2, none⟩ = some u0 := (HB5.out.cell (p := ⟨g, off + a * 2, none⟩) hgw).trans HU0.out
          have d1 : w5.cell? ⟨g, off + a * 2 + 1, none⟩ = some u1 := (HB5.out.cell (p := ⟨g, off + a * 2 + 1, none⟩) hgw).trans HU1.out
          have e0 : w5.frozen? ⟨g, off + a * 2, none⟩ = false := (HB5.out.frozen (p := ⟨g, off + a * 2, none⟩) hgw).trans (hfr.out _)
          have e1 : w5.frozen? ⟨g, off + a * 2 + 1, none⟩ = false := (HB5.out.frozen (p := ⟨g, off + a * 2 + 1, none⟩) hgw).trans (hfr.out _)
          have D0 := Lib.hid d0
          have D1 := Lib.hid d1
          clear hb5 hc0 hc1 hu0 hu1 hf0 hf1
          go_wp2
          go_roundw
          case rel =>
            obtain ⟨t0, t1, to⟩ := two_cells D0.out D1.out (.string s) (.string z)
            have hpo : pvS (out ++ [(s, z)]) = pvS out ++ [.string s, .string z] := by rw [pvS_app2]; rfl
            have hpl : (pvS out).length = a * 2 := by rw [pvS_len2, hol]
            refine ⟨a + 1, b + 1, out ++ [(s, z)], by omega, by omega, by go_num, by go_num, by simp [hol], ?_, ?_, ?_, ?_, ?_, ?_, ?_⟩
            · show _ = _
              rw [HT.out, List.filter_append, ← hout.out]; simp [HQ.out]
            · intro t u hu
              rw [hpo] at hu
              rcases Nat.lt_or_ge t (a * 2) with h | h
              · rw [List.getElem?_append_left (by omega)] at hu
                rw [to g (off + t) (.inr (by omega)), HB5.out.cell (p := ⟨g, off + t, none⟩) hgw]
                exact hlow.out t u hu
              · rw [List.getElem?_append_right (by omega), hpl] at hu
                rcases Nat.lt_or_ge t (a * 2 + 1) with h2 | h2
                · obtain rfl : t = a * 2 := by omega
                  simp at hu
                  subst hu
                  exact t0
                · rcases Nat.lt_or_ge t (a * 2 + 2) with h3 | h3
                  · obtain rfl : t = a * 2 + 1 := by omega
                    rw [show a * 2 + 1 - a * 2 = 1 by omega] at hu
                    simp at hu
                    subst hu
                    rw [← Nat.add_assoc]
                    exact t1
                  · rw [List.getElem?_eq_none (by simp; omega)] at hu
                    cases hu
            · intro t u ht hu
              rw [to g (off + t) (.inr (by omega)), HB5.out.cell (p := ⟨g, off + t, none⟩) hgw]
              exact hhigh.out t u (by omega) hu
            · intro t ht
              by_cases x0 : t = a * 2
              · subst x0; rw [t0]; rfl
              · by_cases x1 : t = a * 2 + 1
                · subst x1; rw [← Nat.add_assoc, t1]; rfl
                · rw [to g (off + t) (.inr (by omega)), HB5.out.cell (p := ⟨g, off + t, none⟩) hgw]
                  exact hthere.out t ht
            · intro o
              rw [World.frozen?_setCell, World.frozen?_setCell]
              exact (HB5.out.frozen (p := ⟨g, o, none⟩) hgw).trans (hfr.out o)
            · simp
              exact Nat.lt_of_lt_of_le hgw HB5.out.size
            · exact below_set (below_set (hbel.trans (HB5.out.mono hbl)) g _ _ hbg) g _ _ hbg
          case measure => simp [intOf]; omega
      · obtain rfl : b = n := by omega
        have hlc := fun ty => clear_run (P := Tryd.prog) wr 30 70 ty (.agg #[.string { data := #[] }, .string { data := #[] }]) Tryd.underlying30 (by intro w; go_simp) (by intro v hv; have hv2 : v ∈ ([.string { data := #[] }, .string { data := #[] }] : List Value) := hv; have hv' : v = .string { data := #[] } ∨ v = .string { data := #[] } := (by simpa using hv2); rcases hv' with rfl | rfl <;> rfl) g (off + a * 2) (b - a) (c - a) 2 (by rfl) (fun j hj => by rw [Nat.add_assoc]; exact hthere.out _ (by omega)) (fun j hj => hfr.out _)
        obtain ⟨vs, hvs, hrun⟩ := hlc 0
        have hrun' : ∀ ty, (Builtin.clear_ #[30] ty #[.slice (some ⟨g, off + a * 2, none⟩) (b - a) (c - a)]).run Tryd.prog wr = .ok (.tuple #[]) (wr.setCells g (off + a * 2) vs) := fun ty => hrun
        clear hlc hrun
        have HRel := Lib.hid hlow.out
        have HBF := Lib.hid (Go.below_setCells (b := g) hbg vs (off + a * 2) wr hbel)
        have HOUT : Hid (out = l.filter fun q => !p q) := by show _ = _; have := hout.out; rwa [List.take_of_length_le (by have := HN.out; omega)] at this
        have HAF : Hid (At (wr.setCells g (off + a * 2) vs) (some ⟨g, off, none⟩) (pvS out)) := fun _ => ⟨g, off, rfl, by rw [size_set]; exact hgw, fun t u hu => by
          have ht : t < a * 2 := by
            have hpl : (pvS out).length = a * 2 := by rw [pvS_len2, hol]
            rcases Nat.lt_or_ge t (a * 2) with h | h
            · exact h
            · rw [List.getElem?_eq_none (by omega)] at hu; cases hu
          rw [World.cell?_setCells_out g vs (off + a * 2) wr _ (fun _ _ => .inl (by simp; omega))]
          exact HRel.out t u hu⟩
        clear hlow hhigh hout hthere hfr
        go_wp2
        go_ret
        rw [← HOUT.out, hol]
        exact ⟨_, rfl, HAF.out, HBF.out⟩
end Go.Proofs.YtibcfmfihcgijaaDoor
