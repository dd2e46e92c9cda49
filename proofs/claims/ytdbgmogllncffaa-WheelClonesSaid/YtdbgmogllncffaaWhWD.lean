/- Contract of WheelOrder. -/
import Derived.Test.YtdbgmogllncffaaWhWC
import Derived.Test.YtdbgmogllncffaaWhOpen
namespace Go.Proofs.Ytdbgmogllncffaa
open Go.RowKit Go.Sort Wh
theorem Pl.nodup {w : World} {b : Nat} {rv mv : Value} {last most : Int} {xs : List Tm} (h : Pl w b rv mv last most xs) : (xs.map Tm.tok).Nodup := by
  rcases h.map with ⟨_, h1⟩ | ⟨m, f, _, _, h2⟩
  · rw [h1]; exact List.nodup_nil
  · rw [List.nodup_iff_pairwise_ne, List.pairwise_iff_getElem]
    intro i j hi hj hij e
    rw [List.length_map] at hi hj
    simp only [List.getElem_map] at e
    have h3 := tok_inj h2 hi hj (by rw [g_of (List.getElem?_eq_getElem hi), g_of (List.getElem?_eq_getElem hj)]; exact e)
    omega
theorem others {xs xs' : List Tm} {t : Tm} (hn : (xs.map Tm.tok).Nodup) (hp : xs.Perm (t :: xs')) : ∀ x ∈ xs', x.tok ≠ t.tok := by
  intro x hx e
  have h1 := (hp.map Tm.tok).nodup_iff.1 hn
  simp only [List.map_cons, List.nodup_cons] at h1
  exact h1.1 (by rw [← e]; exact List.mem_map_of_mem hx)
theorem mem_rest {xs xs' : List Tm} {t x : Tm} (hp : xs.Perm (t :: xs')) (hx : x ∈ xs') : x ∈ xs := hp.mem_iff.2 (List.mem_cons_of_mem _ hx)
theorem clp_dl (x : Int) : 0 ≤ clp x 0 1099511627776 ∧ clp x 0 1099511627776 ≤ 1099511627776 := by unfold clp; omega
theorem find_tok (xs : List Tm) (z : Int) : (∀ x ∈ xs, x.tok ≠ z) ∨ ∃ i, i < xs.length ∧ (g xs i).tok = z := by
  by_cases h : ∃ x ∈ xs, x.tok = z
  · obtain ⟨x, hx, he⟩ := h
    obtain ⟨i, hi⟩ := List.getElem?_of_mem hx
    exact .inr ⟨i, (List.getElem?_eq_some_iff.1 hi).1, by rw [g_of hi]; exact he⟩
  · exact .inl fun x hx e => h ⟨x, hx, e⟩
/-- what the first loop keeps. -/
structure Lo (w W : World) (gw b : Nat) (ad gn : Nat) (rv mv : Value) (xs : List Tm) : Prop where
  wl : Wl W b rv mv (ad : Int) 100 xs
  new : ∀ q, Bad b rv mv q → gw ≤ q
  bel : Below gw w W
  sz : gw ≤ W.heap.size
  ok : ∀ x ∈ xs, 0 ≤ x.dl ∧ x.dl ≤ 1099511627776 ∧ x.tok ≤ (ad : Int)
  cnt : xs.length + gn = ad
theorem Lo.step {w W W' : World} {gw b ad gn ad' gn' : Nat} {rv mv rv' mv' : Value} {xs xs' : List Tm} (h : Lo w W gw b ad gn rv mv xs) (hw : Wl W' b rv' mv' (ad' : Int) 100 xs') (hb : Beside (Bad b rv mv) W W') (hf : Fresh W.heap.size rv mv rv' mv') (ho : ∀ x ∈ xs', 0 ≤ x.dl ∧ x.dl ≤ 1099511627776 ∧ x.tok ≤ (ad' : Int)) (hc : xs'.length + gn' = ad') : Lo w W' gw b ad' gn' rv' mv' xs' :=
  ⟨hw, fun q hq => by rcases bad_fresh hf q hq with h9 | h9; exact h.new q h9; have := h.sz; omega, hb.below h.bel h.sz h.new, Nat.le_trans h.sz hb.size, ho, hc⟩
theorem Lo.below {w W W' : World} {gw b ad gn : Nat} {rv mv : Value} {xs : List Tm} (h : Lo w W gw b ad gn rv mv xs) (hb : Below W.heap.size W W') : Lo w W' gw b ad gn rv mv xs :=
  ⟨h.wl.below hb, h.new, h.bel.trans (hb.mono h.sz), Nat.le_trans h.sz hb.size, h.ok, h.cnt⟩
theorem act_cells {w : World} {b o : Nat} {L : List Tm} (h : At w (some ⟨b, o, none⟩) (L.flatMap tc)) {i : Nat} (hi : i < L.length) : b < w.heap.size ∧ w.cell? ⟨b, o + i * 4, none⟩ = some (.int .i64 (g L i).tok) ∧ w.cell? ⟨b, o + i * 4 + 1, none⟩ = some (.int .i64 (g L i).dl) ∧ w.cell? ⟨b, o + i * 4 + 2, none⟩ = some (.int .i64 (g L i).k) ∧ w.cell? ⟨b, o + i * 4 + 3, none⟩ = some (.int .i64 (g L i).n) := by
  have key : ∀ q u, (tc (g L i))[q]? = some u → q < 4 → b < w.heap.size ∧ w.cell? ⟨b, o + (i * 4 + q), none⟩ = some u := by
    intro q u hu hq
    obtain ⟨b', o', e, hb, hc⟩ := h.one (k := i * 4 + q) (u := u) (by rw [← hu]; exact tv_at L i hi q hq)
    injection e with e
    injection e with e1 e2
    subst e1 e2
    exact ⟨hb, hc⟩
  exact ⟨(key 0 _ rfl (by omega)).1, (key 0 _ rfl (by omega)).2, (key 1 _ rfl (by omega)).2, (key 2 _ rfl (by omega)).2, (key 3 _ rfl (by omega)).2⟩
set_option maxHeartbeats 8000000 in
set_option maxRecDepth 100000 in
theorem wheelOrder_any (A : Option Addr) (n c : Nat) (L : List Tm) (w : World) (hL : ActsIn w A n c L) :
    Calls Try.prog 4 #[.slice A n c] w fun e w' => e = .returned (.bool true) ∧ Below w.heap.size w w' := by
  have mixed : Try.prog.follows .mixedOrders = true := by kernel_rfl
  obtain ⟨hn, hnc, hcm, hat, hok, _⟩ := hL
  have CA := Lib.hid (awake_any w)
  have HN := Lib.hid hn
  have HAT := Lib.hid hat
  have HOK := Lib.hid hok
  clear hn hat hok
  go_enter Try.func4, Try.ntmps4
  go_wp2_with fail
  refine CA.out.mono ?_
  rintro e w1 ⟨rfl, hb1⟩
  have CN := Lib.hid (new_any 100 w1)
  rw [show clp 100 1 65536 = 100 by decide] at CN
  have HB1 := Lib.hid hb1
  clear hb1 CA
  go_wp2_with fail
  refine CN.out.mono ?_
  rintro e w2 ⟨rfl, hw2, hb2, hlt2⟩
  obtain ⟨gw, hgw⟩ : ∃ gw, gw = w.heap.size := ⟨_, rfl⟩
  obtain ⟨b, hb⟩ : ∃ b, b = w1.heap.size := ⟨_, rfl⟩
  rw [← hb] at hw2 ⊢
  have HL0 : Hid (Lo w w2 gw b 0 0 (.slice none 0 0) (.map none) []) := by
    have h1 := HB1.out.size
    refine ⟨hw2, fun q hq => ?_, by rw [hgw]; exact HB1.out.trans (hb2.mono h1), by have := hb2.size; omega, fun x hx => (by cases hx), rfl⟩
    rcases hq with rfl | h9 | h9
    · omega
    · cases h9
    · cases h9
  have HG := Lib.hid hgw
  clear hw2 hb2 hlt2 hgw hb CN HB1
  go_wp2_with fail
  go_loopw [4, 5, 6] (fun va vg vi wr => ∃ (ad gn i : Nat) (rv mv : Value) (xs : List Tm), va = .int .i64 ad ∧ vg = .int .i64 gn ∧ vi = .int .i64 i ∧ ad ≤ i ∧ gn ≤ i ∧ i ≤ 80 ∧ Hid (Lo w wr gw b ad gn rv mv xs)) (fun _ _ vi _ => 80 - (intOf vi).toNat)
  case atStart => exact ⟨0, 0, 0, _, _, [], rfl, rfl, rfl, Nat.le_refl _, Nat.le_refl _, by omega, HL0⟩
  case round =>
    obtain ⟨ad, gn, i, rv, mv, xs, rfl, rfl, rfl, hadi, hgni, hi80, HL⟩ := hrel
    by_cases hin : i < n
    · by_cases hi8 : i < 80
      · have d1 : (i : Int) < (n : Int) := by omega
        have d2 : (i : Int) < 80 := by omega
        have hiL : i < L.length := by have := HN.out; omega
        have d0 : (0 : Int) ≤ (i : Int) := by omega
        obtain ⟨ba, oa, rfl⟩ : ∃ ba oa, A = some ⟨ba, oa, none⟩ := by
          obtain ⟨b9, o9, e9, _⟩ := HAT.out.one (k := i * 4) (tv_at L i hiL 0 (by omega))
          exact ⟨b9, o9, e9⟩
        obtain ⟨hba, k0, k1, k2, k3⟩ := act_cells HAT.out hiL
        have hbg : ba < gw := by have := HG.out; omega
        have bc := fun o => HL.out.bel.cell (p := ⟨ba, o, none⟩) hbg
        have c0 := (bc _).trans k0
        have c1 := (bc _).trans k1
        have c2 := (bc _).trans k2
        have c3 := (bc _).trans k3
        have HO := Lib.hid (HOK.out (g L i) (List.mem_of_getElem? (g_at hiL)))
        clear k0 k1 k2 k3 hba bc hiL
        generalize hT : g L i = t at *
        obtain ⟨tk, tn, tj, tm⟩ := t
        simp only at c0 c1 c2 c3
        clear hT
        by_cases hk : tk = 1
        · subst hk
          rcases find_tok xs tn with hf | ⟨p, hp, hpt⟩
          · have C := Lib.hid (cancel_no b rv mv _ _ tn xs wr HL.out.wl HO.out.2.1 hf)
            clear hf
            go_wp2_with fail
            refine C.out.mono ?_
            rintro e w3 ⟨rfl, hb3⟩
            have HL3 := Lib.hid (HL.out.below hb3)
            clear hb3 C HL
            go_wp2
            exact ⟨⟨ad, gn, i + 1, rv, mv, xs, rfl, rfl, rfl, by omega, by omega, by omega, HL3⟩, by simp only [intOf]; omega⟩
          · have C := Lib.hid (cancel_yes b p rv mv _ _ tn xs wr HL.out.wl hp hpt)
            clear hpt
            go_wp2_with fail
            refine C.out.mono ?_
            rintro e w3 ⟨rfl, rv3, xs3, hw3, hp3, hb3, hf3⟩
            have HL3 : Hid (Lo w w3 gw b ad (gn + 1) rv3 mv xs3) := HL.out.step hw3 hb3 hf3 (fun x hx => HL.out.ok x (mem_rest hp3 hx)) (by have := hp3.length_eq; simp at this; have := HL.out.cnt; omega)
            clear hw3 hp3 hb3 hf3 C HL hp
            go_wp2
            exact ⟨⟨ad, gn + 1, i + 1, rv3, mv, xs3, rfl, rfl, rfl, by omega, by omega, by omega, HL3⟩, by simp only [intOf]; omega⟩
        · have hxl : (xs.length : Int) < 100 := by have := HL.out.cnt; omega
          have HLd : Hid (Lo w wr.drew gw b ad gn rv mv xs) := ⟨⟨⟨HL.out.wl.pl.blk, HL.out.wl.pl.row, HL.out.wl.pl.map.block fun _ _ => rfl, HL.out.wl.pl.tok, HL.out.wl.pl.few⟩, HL.out.wl.heap⟩, HL.out.new, Below_drew HL.out.bel, HL.out.sz, HL.out.ok, HL.out.cnt⟩
          have C := Lib.hid (add_ok b rv mv (ad : Int) 100 tn tj tm xs wr.drew HLd.out.wl (by omega) (by omega) hxl (by omega) (by omega) (fun x hx => (HL.out.ok x hx).2.2))
          have c1d : wr.drew.cell? ⟨ba, oa + i * 4 + 1, none⟩ = some (.int .i64 tn) := c1
          have c2d : wr.drew.cell? ⟨ba, oa + i * 4 + 2, none⟩ = some (.int .i64 tj) := c2
          have c3d : wr.drew.cell? ⟨ba, oa + i * 4 + 3, none⟩ = some (.int .i64 tm) := c3
          clear hxl HL
          go_wp2_with fail
          refine wp_region_still_tail 11 mixed (by kernel_rfl) ?_
          simp only [List.take_succ_cons, List.take_zero, List.drop_succ_cons, List.drop_zero]
          repeat still_step
          refine wpStill_nil ?_
          go_wp2_with fail
          refine C.out.mono ?_
          rintro e w3 ⟨rfl, rv3, mv3, xs3, hw3, hp3, hb3, hf3⟩
          have HL3 : Hid (Lo w w3 gw b (ad + 1) gn rv3 mv3 xs3) := HLd.out.step hw3 hb3 hf3 (fun x hx => by
            rcases List.mem_append.1 (hp3.mem_iff.1 hx) with h9 | h9
            · obtain ⟨a1, a2, a3⟩ := HLd.out.ok x h9
              exact ⟨a1, a2, by omega⟩
            · rw [List.mem_singleton.1 h9]
              exact ⟨(clp_dl tn).1, (clp_dl tn).2, by show (ad : Int) + 1 ≤ _; omega⟩) (by have := hp3.length_eq; simp at this; have := HLd.out.cnt; omega)
          clear hw3 hp3 hb3 hf3 C HLd
          go_wp2
          exact ⟨⟨ad + 1, gn, i + 1, rv3, mv3, xs3, rfl, rfl, rfl, by omega, by omega, by omega, HL3⟩, by simp only [intOf]; omega⟩
      · have d1 : (i : Int) < (n : Int) := by omega
        have d2 : ¬ ((i : Int) < 80) := by omega
        obtain ⟨V, hV⟩ : ∃ V, V = wr.alloc (.cells #[.int .i64 0, .int .i64 (-1), .int .i64 0, .int .i64 0] 47) := ⟨_, rfl⟩
        obtain ⟨lb, hlb⟩ : ∃ lb, lb = wr.heap.size := ⟨_, rfl⟩
        have HLV : Hid (Lo w V gw b ad gn rv mv xs) := HL.out.below (hV ▸ below_alloc _ _)
        have HTV : Hid (Blk V lb 47 (tc ⟨0, -1, 0, 0⟩).toArray) := by rw [hlb, hV]; exact Blk.new _ _ _
        have HNB : Hid (¬ Bad b rv mv lb) := fun e => by have := bad_lt HL.out.wl.pl lb e; omega
        have HLB : Hid (gw ≤ lb) := by rw [hlb]; exact HL.out.sz
        have HLT : Hid (∀ x ∈ xs, lt ⟨0, -1, 0, 0⟩ x) := fun x hx => .inl (by have := (HL.out.ok x hx).1; show (-1 : Int) < _; omega)
        obtain ⟨K, hK⟩ : ∃ K, K + gn = ad := ⟨xs.length, HL.out.cnt⟩
        have HV := Lib.hid hV
        clear hV
        go_wp2_with fail
        rw [← HV.out, ← hlb]
        clear HV hlb HL
        go_loopw [8] (fun vn W => ∃ (m : Nat) (rv mv : Value) (xs : List Tm) (la : Tm), vn = .int .i64 m ∧ m ≤ K ∧ xs.length + m = K ∧ Hid (Lo w W gw b ad (gn + m) rv mv xs) ∧ Hid (Blk W lb 47 (tc la).toArray) ∧ Hid (¬ Bad b rv mv lb) ∧ Hid (∀ x ∈ xs, lt la x)) (fun vn _ => K - (intOf vn).toNat)
        case atStart => exact ⟨0, rv, mv, xs, ⟨0, -1, 0, 0⟩, rfl, Nat.zero_le _, by have := HLV.out.cnt; omega, HLV, HTV, HNB, HLT⟩
        case round =>
          clear HLV HTV HNB HLT rv mv xs
          obtain ⟨m, rv, mv, xs, la, rfl, hmK, hxm, HLW, HTB, HNB, HLT⟩ := hrel
          rcases Nat.eq_zero_or_pos xs.length with h0 | h0
          · have hx : xs = [] := List.eq_nil_of_length_eq_zero h0
            have C := Lib.hid (due_no b rv mv _ _ 1099511627776 xs wr HLW.out.wl (.inl hx))
            unfold tm0 at C
            have e1 : (m : Int) = (ad : Int) - (gn : Int) := by omega
            clear hx
            go_wp2_with fail
            refine C.out.mono ?_
            rintro e w5 ⟨rfl, hb5⟩
            obtain ⟨U, hU⟩ : ∃ U, U = w5.alloc (.cells #[.int .i64 0, .int .i64 0, .int .i64 0, .int .i64 0] 47) := ⟨_, rfl⟩
            have HU5 := Lib.hid ((HLW.out.below hb5).below (hU ▸ below_alloc w5 _ : Below w5.heap.size w5 U))
            have CL := Lib.hid (wlen_wl HU5.out.wl.pl)
            rw [h0, show ((0 : Nat) : Int) = 0 from rfl] at CL
            have HU := Lib.hid hU
            clear hU hb5 C HLW
            go_upto_region 18 with fail
            rw [← HU.out]
            go_wp2_with fail
            refine CL.out.mono ?_
            rintro e w7 ⟨rfl, rfl⟩
            go_wp2
            go_ret
            exact ⟨rfl, by rw [← HG.out]; exact HU5.out.bel⟩
          · obtain ⟨k, hk⟩ : ∃ k, xs.length = k + 1 := ⟨xs.length - 1, by omega⟩
            have hmem := head_mem h0
            have C := Lib.hid (due_yes b k rv mv _ _ 1099511627776 xs wr HLW.out.wl hk ((HLW.out.ok _ hmem).2.1))
            have HLH := Lib.hid (HLT.out _ hmem)
            have HMIN := Lib.hid (fun x (hx : x ∈ xs) => heap_head HLW.out.wl.heap hx)
            have HND := Lib.hid HLW.out.wl.pl.nodup
            unfold tmv at C
            clear hmem
            generalize g xs 0 = t at *
            go_wp2_with fail
            refine C.out.mono ?_
            rintro e w5 ⟨rfl, rv5, xs5, hw5, hp5, hb5, hf5⟩
            have HL5 : Hid (Lo w w5 gw b ad (gn + (m + 1)) rv5 mv xs5) := HLW.out.step hw5 hb5 hf5 (fun x hx => HLW.out.ok x (mem_rest hp5 hx)) (by have := hp5.length_eq; simp at this; omega)
            have HLT5 : Hid (∀ x ∈ xs5, lt t x) := fun x hx => by
              have h1 := HMIN.out x (mem_rest hp5 hx)
              have h2 := others HND.out hp5 x hx
              unfold lt at h1 ⊢
              omega
            have HT5 : Hid (Blk w5 lb 47 (tc la).toArray) := (hb5.block lb HTB.out.lt HNB.out).trans HTB.out
            have HNB5 : Hid (¬ Bad b rv5 mv lb) := fun e => by rcases bad_fresh hf5 lb e with h9 | h9; exact HNB.out h9; have := HTB.out.lt; omega
            have hx5 : xs5.length = k := by have := hp5.length_eq; simp at this; omega
            clear hw5 hp5 hb5 hf5 C HLW HTB HMIN HND
            obtain ⟨U, hU⟩ : ∃ U, U = w5.alloc (.cells #[.int .i64 t.tok, .int .i64 t.dl, .int .i64 t.k, .int .i64 t.n] 47) := ⟨_, rfl⟩
            have hbU : Below w5.heap.size w5 U := hU ▸ below_alloc _ _
            have HLU := Lib.hid (HL5.out.below hbU)
            have HTU := Lib.hid (HT5.out.below hbU)
            have hTN : Blk U w5.heap.size 47 #[.int .i64 t.tok, .int .i64 t.dl, .int .i64 t.k, .int .i64 t.n] := hU ▸ Blk.new _ _ _
            have hlbl : lb < w5.heap.size := HT5.out.lt
            have t0 : U.cell? ⟨w5.heap.size, 0, none⟩ = some (.int .i64 t.tok) := hTN.cell 0 rfl
            have t1 : U.cell? ⟨w5.heap.size, 1, none⟩ = some (.int .i64 t.dl) := hTN.cell 1 rfl
            have t2 : U.cell? ⟨w5.heap.size, 2, none⟩ = some (.int .i64 t.k) := hTN.cell 2 rfl
            have t3 : U.cell? ⟨w5.heap.size, 3, none⟩ = some (.int .i64 t.n) := hTN.cell 3 rfl
            have l0 : U.cell? ⟨lb, 0, none⟩ = some (.int .i64 la.tok) := HTU.out.cell 0 rfl
            have l1 : U.cell? ⟨lb, 1, none⟩ = some (.int .i64 la.dl) := HTU.out.cell 1 rfl
            have l2 : U.cell? ⟨lb, 2, none⟩ = some (.int .i64 la.k) := HTU.out.cell 2 rfl
            have l3 : U.cell? ⟨lb, 3, none⟩ = some (.int .i64 la.n) := HTU.out.cell 3 rfl
            have z0 : U.frozen? ⟨lb, 0, none⟩ = false := HTU.out.frozen 0
            have z1 : U.frozen? ⟨lb, 1, none⟩ = false := HTU.out.frozen 1
            have z2 : U.frozen? ⟨lb, 2, none⟩ = false := HTU.out.frozen 2
            have z3 : U.frozen? ⟨lb, 3, none⟩ = false := HTU.out.frozen 3
            have HU := Lib.hid hU
            have HZE : Hid (∃ Z, Z = set4 U lb (.int .i64 t.tok) (.int .i64 t.dl) (.int .i64 t.k) (.int .i64 t.n) ∧ Lo w Z gw b ad (gn + (m + 1)) rv5 mv xs5 ∧ Blk Z lb 47 (tc t).toArray) := by
              refine ⟨_, rfl, ?_, blk_set4 HTU.out _ _ _ _⟩
              have hbs : Beside (fun x => x = lb) U (set4 U lb (.int .i64 t.tok) (.int .i64 t.dl) (.int .i64 t.k) (.int .i64 t.n)) := ((((Beside.refl (fun x => x = lb) U).set (.inl rfl) 0 _).set (.inl rfl) 1 _).set (.inl rfl) 2 _).set (.inl rfl) 3 _
              exact ⟨HLU.out.wl.beside hbs (fun q hq e => HNB5.out (by rw [← e]; exact hq)), HLU.out.new, hbs.below HLU.out.bel HLU.out.sz (fun q hq => by rw [hq]; exact HLB.out), Nat.le_trans HLU.out.sz hbs.size, HLU.out.ok, HLU.out.cnt⟩
            clear hU hTN hbU HL5 HT5 HTU
            go_upto_region 19 with fail
            rw [← HU.out]
            have f0 : ¬ ((ad : Int) < (m : Int)) := by omega
            have f0b : decide ((ad : Int) < (m : Int)) = false := decide_eq_false f0
            have hd1 : ¬ (t.dl < la.dl) := fun e => by have := HLH.out; unfold lt at this; omega
            have hd1b : decide (t.dl < la.dl) = false := decide_eq_false hd1
            by_cases hde : t.dl = la.dl
            · have hd2 : ¬ (t.tok ≤ la.tok) := fun e => by have := HLH.out; unfold lt at this; omega
              have hd2b : decide (t.tok ≤ la.tok) = false := decide_eq_false hd2
              have hdeb : (t.dl == la.dl) = true := beq_iff_eq.2 hde
              clear hde
              go_wp2_with fail
              obtain ⟨Z, hZ, hLZ, hTZ⟩ := HZE.out
              unfold set4 at hZ
              rw [← hZ]
              exact ⟨⟨m + 1, rv5, mv, xs5, t, rfl, by omega, by omega, Lib.hid hLZ, Lib.hid hTZ, HNB5, HLT5⟩, by simp only [intOf]; omega⟩
            · have hdeb : (t.dl == la.dl) = false := by simpa using hde
              go_wp2_with fail
              obtain ⟨Z, hZ, hLZ, hTZ⟩ := HZE.out
              unfold set4 at hZ
              rw [← hZ]
              exact ⟨⟨m + 1, rv5, mv, xs5, t, rfl, by omega, by omega, Lib.hid hLZ, Lib.hid hTZ, HNB5, HLT5⟩, by simp only [intOf]; omega⟩
    · have d1 : ¬ ((i : Int) < (n : Int)) := by omega
      obtain ⟨V, hV⟩ : ∃ V, V = wr.alloc (.cells #[.int .i64 0, .int .i64 (-1), .int .i64 0, .int .i64 0] 47) := ⟨_, rfl⟩
      obtain ⟨lb, hlb⟩ : ∃ lb, lb = wr.heap.size := ⟨_, rfl⟩
      have HLV : Hid (Lo w V gw b ad gn rv mv xs) := HL.out.below (hV ▸ below_alloc _ _)
      have HTV : Hid (Blk V lb 47 (tc ⟨0, -1, 0, 0⟩).toArray) := by rw [hlb, hV]; exact Blk.new _ _ _
      have HNB : Hid (¬ Bad b rv mv lb) := fun e => by have := bad_lt HL.out.wl.pl lb e; omega
      have HLB : Hid (gw ≤ lb) := by rw [hlb]; exact HL.out.sz
      have HLT : Hid (∀ x ∈ xs, lt ⟨0, -1, 0, 0⟩ x) := fun x hx => .inl (by have := (HL.out.ok x hx).1; show (-1 : Int) < _; omega)
      obtain ⟨K, hK⟩ : ∃ K, K + gn = ad := ⟨xs.length, HL.out.cnt⟩
      have HV := Lib.hid hV
      clear hV
      go_wp2_with fail
      rw [← HV.out, ← hlb]
      clear HV hlb HL
      go_loopw [8] (fun vn W => ∃ (m : Nat) (rv mv : Value) (xs : List Tm) (la : Tm), vn = .int .i64 m ∧ m ≤ K ∧ xs.length + m = K ∧ Hid (Lo w W gw b ad (gn + m) rv mv xs) ∧ Hid (Blk W lb 47 (tc la).toArray) ∧ Hid (¬ Bad b rv mv lb) ∧ Hid (∀ x ∈ xs, lt la x)) (fun vn _ => K - (intOf vn).toNat)
      case atStart => exact ⟨0, rv, mv, xs, ⟨0, -1, 0, 0⟩, rfl, Nat.zero_le _, by have := HLV.out.cnt; omega, HLV, HTV, HNB, HLT⟩
      case round =>
        clear HLV HTV HNB HLT rv mv xs
        obtain ⟨m, rv, mv, xs, la, rfl, hmK, hxm, HLW, HTB, HNB, HLT⟩ := hrel
        rcases Nat.eq_zero_or_pos xs.length with h0 | h0
        · have hx : xs = [] := List.eq_nil_of_length_eq_zero h0
          have C := Lib.hid (due_no b rv mv _ _ 1099511627776 xs wr HLW.out.wl (.inl hx))
          unfold tm0 at C
          have e1 : (m : Int) = (ad : Int) - (gn : Int) := by omega
          clear hx
          go_wp2_with fail
          refine C.out.mono ?_
          rintro e w5 ⟨rfl, hb5⟩
          obtain ⟨U, hU⟩ : ∃ U, U = w5.alloc (.cells #[.int .i64 0, .int .i64 0, .int .i64 0, .int .i64 0] 47) := ⟨_, rfl⟩
          have HU5 := Lib.hid ((HLW.out.below hb5).below (hU ▸ below_alloc w5 _ : Below w5.heap.size w5 U))
          have CL := Lib.hid (wlen_wl HU5.out.wl.pl)
          rw [h0, show ((0 : Nat) : Int) = 0 from rfl] at CL
          have HU := Lib.hid hU
          clear hU hb5 C HLW
          go_upto_region 18 with fail
          rw [← HU.out]
          go_wp2_with fail
          refine CL.out.mono ?_
          rintro e w7 ⟨rfl, rfl⟩
          go_wp2
          go_ret
          exact ⟨rfl, by rw [← HG.out]; exact HU5.out.bel⟩
        · obtain ⟨k, hk⟩ : ∃ k, xs.length = k + 1 := ⟨xs.length - 1, by omega⟩
          have hmem := head_mem h0
          have C := Lib.hid (due_yes b k rv mv _ _ 1099511627776 xs wr HLW.out.wl hk ((HLW.out.ok _ hmem).2.1))
          have HLH := Lib.hid (HLT.out _ hmem)
          have HMIN := Lib.hid (fun x (hx : x ∈ xs) => heap_head HLW.out.wl.heap hx)
          have HND := Lib.hid HLW.out.wl.pl.nodup
          unfold tmv at C
          clear hmem
          generalize g xs 0 = t at *
          go_wp2_with fail
          refine C.out.mono ?_
          rintro e w5 ⟨rfl, rv5, xs5, hw5, hp5, hb5, hf5⟩
          have HL5 : Hid (Lo w w5 gw b ad (gn + (m + 1)) rv5 mv xs5) := HLW.out.step hw5 hb5 hf5 (fun x hx => HLW.out.ok x (mem_rest hp5 hx)) (by have := hp5.length_eq; simp at this; omega)
          have HLT5 : Hid (∀ x ∈ xs5, lt t x) := fun x hx => by
            have h1 := HMIN.out x (mem_rest hp5 hx)
            have h2 := others HND.out hp5 x hx
            unfold lt at h1 ⊢
            omega
          have HT5 : Hid (Blk w5 lb 47 (tc la).toArray) := (hb5.block lb HTB.out.lt HNB.out).trans HTB.out
          have HNB5 : Hid (¬ Bad b rv5 mv lb) := fun e => by rcases bad_fresh hf5 lb e with h9 | h9; exact HNB.out h9; have := HTB.out.lt; omega
          have hx5 : xs5.length = k := by have := hp5.length_eq; simp at this; omega
          clear hw5 hp5 hb5 hf5 C HLW HTB HMIN HND
          obtain ⟨U, hU⟩ : ∃ U, U = w5.alloc (.cells #[.int .i64 t.tok, .int .i64 t.dl, .int .i64 t.k, .int .i64 t.n] 47) := ⟨_, rfl⟩
          have hbU : Below w5.heap.size w5 U := hU ▸ below_alloc _ _
          have HLU := Lib.hid (HL5.out.below hbU)
          have HTU := Lib.hid (HT5.out.below hbU)
          have hTN : Blk U w5.heap.size 47 #[.int .i64 t.tok, .int .i64 t.dl, .int .i64 t.k, .int .i64 t.n] := hU ▸ Blk.new _ _ _
          have hlbl : lb < w5.heap.size := HT5.out.lt
          have t0 : U.cell? ⟨w5.heap.size, 0, none⟩ = some (.int .i64 t.tok) := hTN.cell 0 rfl
          have t1 : U.cell? ⟨w5.heap.size, 1, none⟩ = some (.int .i64 t.dl) := hTN.cell 1 rfl
          have t2 : U.cell? ⟨w5.heap.size, 2, none⟩ = some (.int .i64 t.k) := hTN.cell 2 rfl
          have t3 : U.cell? ⟨w5.heap.size, 3, none⟩ = some (.int .i64 t.n) := hTN.cell 3 rfl
          have l0 : U.cell? ⟨lb, 0, none⟩ = some (.int .i64 la.tok) := HTU.out.cell 0 rfl
          have l1 : U.cell? ⟨lb, 1, none⟩ = some (.int .i64 la.dl) := HTU.out.cell 1 rfl
          have l2 : U.cell? ⟨lb, 2, none⟩ = some (.int .i64 la.k) := HTU.out.cell 2 rfl
          have l3 : U.cell? ⟨lb, 3, none⟩ = some (.int .i64 la.n) := HTU.out.cell 3 rfl
          have z0 : U.frozen? ⟨lb, 0, none⟩ = false := HTU.out.frozen 0
          have z1 : U.frozen? ⟨lb, 1, none⟩ = false := HTU.out.frozen 1
          have z2 : U.frozen? ⟨lb, 2, none⟩ = false := HTU.out.frozen 2
          have z3 : U.frozen? ⟨lb, 3, none⟩ = false := HTU.out.frozen 3
          have HU := Lib.hid hU
          have HZE : Hid (∃ Z, Z = set4 U lb (.int .i64 t.tok) (.int .i64 t.dl) (.int .i64 t.k) (.int .i64 t.n) ∧ Lo w Z gw b ad (gn + (m + 1)) rv5 mv xs5 ∧ Blk Z lb 47 (tc t).toArray) := by
            refine ⟨_, rfl, ?_, blk_set4 HTU.out _ _ _ _⟩
            have hbs : Beside (fun x => x = lb) U (set4 U lb (.int .i64 t.tok) (.int .i64 t.dl) (.int .i64 t.k) (.int .i64 t.n)) := ((((Beside.refl (fun x => x = lb) U).set (.inl rfl) 0 _).set (.inl rfl) 1 _).set (.inl rfl) 2 _).set (.inl rfl) 3 _
            exact ⟨HLU.out.wl.beside hbs (fun q hq e => HNB5.out (by rw [← e]; exact hq)), HLU.out.new, hbs.below HLU.out.bel HLU.out.sz (fun q hq => by rw [hq]; exact HLB.out), Nat.le_trans HLU.out.sz hbs.size, HLU.out.ok, HLU.out.cnt⟩
          clear hU hTN hbU HL5 HT5 HTU
          go_upto_region 19 with fail
          rw [← HU.out]
          have f0 : ¬ ((ad : Int) < (m : Int)) := by omega
          have f0b : decide ((ad : Int) < (m : Int)) = false := decide_eq_false f0
          have hd1 : ¬ (t.dl < la.dl) := fun e => by have := HLH.out; unfold lt at this; omega
          have hd1b : decide (t.dl < la.dl) = false := decide_eq_false hd1
          by_cases hde : t.dl = la.dl
          · have hd2 : ¬ (t.tok ≤ la.tok) := fun e => by have := HLH.out; unfold lt at this; omega
            have hd2b : decide (t.tok ≤ la.tok) = false := decide_eq_false hd2
            have hdeb : (t.dl == la.dl) = true := beq_iff_eq.2 hde
            clear hde
            go_wp2_with fail
            obtain ⟨Z, hZ, hLZ, hTZ⟩ := HZE.out
            unfold set4 at hZ
            rw [← hZ]
            exact ⟨⟨m + 1, rv5, mv, xs5, t, rfl, by omega, by omega, Lib.hid hLZ, Lib.hid hTZ, HNB5, HLT5⟩, by simp only [intOf]; omega⟩
          · have hdeb : (t.dl == la.dl) = false := by simpa using hde
            go_wp2_with fail
            obtain ⟨Z, hZ, hLZ, hTZ⟩ := HZE.out
            unfold set4 at hZ
            rw [← hZ]
            exact ⟨⟨m + 1, rv5, mv, xs5, t, rfl, by omega, by omega, Lib.hid hLZ, Lib.hid hTZ, HNB5, HLT5⟩, by simp only [intOf]; omega⟩
end Go.Proofs.Ytdbgmogllncffaa
