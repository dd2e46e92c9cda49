/- Contract of the heap's Pop. -/
import Derived.Test.YtdbgmogllncffaaWhW6
namespace Go.Proofs.Ytdbgmogllncffaa
open Go.RowKit Go.Sort Wh Go.Maps
attribute [-go_sem] Builtin.append_
theorem MapOf.drop {α : Type} {P : Program} {K E t : TypeId} {kv : α → Value} {kl : α → Lit} {ok : α → Prop} {w : World} {b n : Nat} {f : α → Option Value} (h : MapOf P K kl ok w b f n) (W : Way P K kv kl ok) [DecidableEq α] (ht : P.underlying t = some (.map K E)) (i : α) (hi : ok i) (ty : TypeId) :
    ∃ w', (Builtin.delete_ #[t, K] ty #[.map (some b), kv i]).run P w = .ok (.tuple #[]) w' ∧ MapOf P K kl ok w' b (fun j => if j = i then none else f j) (if (f i).isSome then n - 1 else n) ∧ w.grownBy w' (some b) ∧ w'.heap.size = w.heap.size := by
  obtain ⟨D, h1, h2, h3⟩ := h
  obtain ⟨w', hrun, h4, h5⟩ := h1.drop W.keyed ht (W.reads i hi) ty
  have htidy := h1.tidy W.keyed
  have hsz : Maps.size (D.del (kl i)) = if (f i).isSome then n - 1 else n := by
    have h7 := size_del htidy (k := kl i)
    have h6 := h3 i hi
    cases hf : f i with
    | none => rw [hf] at h6; rw [has_false_of_atKey h6] at h7; simp at h7 ⊢; omega
    | some u => rw [hf] at h6; rw [has_true_of_atKey h6] at h7; simp at h7 ⊢; omega
  refine ⟨w', hrun, ⟨D.del (kl i), ?_, hsz, fun j hj => ?_⟩, h5.grown, ?_⟩
  · rw [← hsz]; exact exact_bound h4
  · by_cases e : j = i
    · subst e
      simp only [if_true]
      exact fun z => atKey_del_same z
    · simp only [if_neg e]
      have hne : kl j ≠ kl i := fun h => e (W.inj j i hj hi h)
      have h6 := h3 j hj
      cases hf : f j with
      | none => rw [hf] at h6; exact fun z => (atKey_del_other hne _).trans (h6 z)
      | some u => rw [hf] at h6; exact fun z => (atKey_del_other hne _).trans (h6 z)
  · obtain ⟨es, clock, es', clock', _, rfl⟩ := h5
    simp [ChangeMaps.setBlock]
theorem own_short {w : World} {base : Nat} {e : TypeId} {s g n c k : Nat} {xs : List Value} (h : w.ownsRow base e s (.slice (some ⟨g, 0, none⟩) n c) n xs) (hk : k ≤ n) : w.ownsRow base e s (.slice (some ⟨g, 0, none⟩) k c) k (xs.take (k * s)) := by
  rcases h with ⟨h1, ⟨hv, _⟩ | ⟨g', c', cur, hv, h3, hh, h4, h5, h6, h7⟩⟩
  · injection hv with hv; cases hv
  · injection hv with hv _ hc
    injection hv with hv
    injection hv with hv
    subst hv hc
    have hks : k * s ≤ n * s := Nat.mul_le_mul_right s hk
    refine ⟨by rw [List.length_take]; omega, .inr ⟨g, c, cur, rfl, h3, hh, by omega, h5, h6, ?_⟩⟩
    rw [← h7, List.take_take]
    congr 1
    omega
theorem tv_take (xs : List Tm) (k : Nat) (hk : k ≤ xs.length) : (tv xs).take (k * 4) = tv (xs.take k) := by
  have e : tv xs = tv (xs.take k) ++ tv (xs.drop k) := by rw [← tv_app, List.take_append_drop]
  rw [e, List.take_left' (by rw [tv_len, List.length_take]; omega)]
theorem place_pop {f : Int → Option Value} {xs : List Tm} {k : Nat} (h : PlaceOk f xs) (hk : xs.length = k + 1) : PlaceOk (fun z => if z = (g xs k).tok then none else f z) (xs.take k) := by
  refine ⟨fun p t hp => ?_, fun z v hz hv => ?_⟩
  · have hpk : p < k := by have := (List.getElem?_eq_some_iff.1 hp).1; rw [List.length_take] at this; omega
    rw [List.getElem?_take, if_pos hpk] at hp
    have hg := g_of hp
    simp only
    rw [if_neg (fun e => by have := tok_inj h (show p < xs.length by omega) (show k < xs.length by omega) (by rw [hg, e]); omega)]
    exact h.1 p t hp
  · simp only at hv
    by_cases e : z = (g xs k).tok
    · rw [if_pos e] at hv; cases hv
    · rw [if_neg e] at hv
      obtain ⟨p, t, hp, ht⟩ := h.2 z v hz hv
      have hpl := (List.getElem?_eq_some_iff.1 hp).1
      refine ⟨p, t, ?_, ht⟩
      rw [List.getElem?_take, if_pos]
      · exact hp
      · rcases Nat.lt_or_ge p k with h1 | h1
        · exact h1
        · exact absurd (by rw [← ht, ← g_of hp, show p = k by omega]) e
def tmv (t : Tm) : Value := .agg #[.int .i64 t.tok, .int .i64 t.dl, .int .i64 t.k, .int .i64 t.n]
set_option maxHeartbeats 4000000 in
set_option maxRecDepth 100000 in
theorem pop_any (b k : Nat) (rv mv : Value) (last most : Int) (xs : List Tm) (w : World) (h : Pl w b rv mv last most xs) (hk : xs.length = k + 1) :
    Calls Try.prog 72 #[.pointer (some ⟨b, 0, none⟩)] w fun e w' => e = .returned (.iface 47 (tmv (g xs k))) ∧ ∃ rv', Pl w' b rv' mv last most (xs.take k) ∧ Beside (Bad b rv mv) w w' ∧ Fresh w.heap.size rv mv rv' mv := by
  have mixed : Try.prog.follows .mixedOrders = true := by kernel_rfl
  obtain ⟨g0, c, rfl, _, hg0, hc1, hc2⟩ := own_head h.row (by omega)
  obtain ⟨m, f, rfl, hmf, hpl⟩ : ∃ m f, mv = .map (some m) ∧ MapOf Try.prog 3 ikey OkI w m f xs.length ∧ PlaceOk f xs := by
    rcases h.map with ⟨_, h1⟩ | h1
    · rw [h1] at hk; simp at hk
    · exact h1
  have hf := h.few
  have hrb := row_ne_blk h.row h.blk (by decide)
  have hbg : g0 ≠ b := fun e => hrb (by rw [← e]; rfl)
  have hmr := row_ne_map h.row hmf
  have hmb := blk_ne_map h.blk hmf
  have hbl := h.blk.lt
  have x0 := row_cell h.row k (by omega) 0 (by omega)
  have x1 := row_cell h.row k (by omega) 1 (by omega)
  have x2 := row_cell h.row k (by omega) 2 (by omega)
  have x3 := row_cell h.row k (by omega) 3 (by omega)
  have hot : OkI (g xs k).tok := h.tok _ (List.mem_of_getElem? (g_at (by omega)))
  have fk := hpl.1 k _ (g_at (by omega))
  have hpp := Lib.hid (place_pop hpl hk)
  have HTK := Lib.hid h.tok
  unfold tmv
  generalize g xs k = t at *
  have y0 : w.cell? ⟨g0, k * 4, none⟩ = some (.int .i64 t.tok) := x0
  have y1 : w.cell? ⟨g0, k * 4 + 1, none⟩ = some (.int .i64 t.dl) := x1
  have y2 : w.cell? ⟨g0, k * 4 + 2, none⟩ = some (.int .i64 t.k) := x2
  have y3 : w.cell? ⟨g0, k * 4 + 3, none⟩ = some (.int .i64 t.n) := x3
  clear x0 x1 x2 x3
  obtain ⟨V0, hV0⟩ : ∃ V0, V0 = w.alloc (.cells #[.int .i64 t.tok, .int .i64 t.dl, .int .i64 t.k, .int .i64 t.n] 47) := ⟨_, rfl⟩
  have hbe : Below w.heap.size w V0 := hV0 ▸ below_alloc _ _
  have hT0 : Blk V0 w.heap.size 47 #[.int .i64 t.tok, .int .i64 t.dl, .int .i64 t.k, .int .i64 t.n] := hV0 ▸ Blk.new _ _ _
  have hB0 := h.blk.below hbe
  have hR0 := own_below h.row hbe
  have hM0 := hmf.below hbe
  obtain ⟨V, hV⟩ : ∃ V, V = V0.setCell ⟨b, 0, none⟩ (.slice (some ⟨g0, 0, none⟩) k c) := ⟨_, rfl⟩
  have hB1 : Blk V b 58 #[.slice (some ⟨g0, 0, none⟩) k c, .map (some m), .int .i64 last, .int .i64 most] := by rw [hV]; exact hB0.set 0 _
  have hT1 : Blk V w.heap.size 47 #[.int .i64 t.tok, .int .i64 t.dl, .int .i64 t.k, .int .i64 t.n] := by rw [hV]; exact hT0.other _ _ _ (by omega)
  have hR1 : V.ownsRow 0 47 4 (.slice (some ⟨g0, 0, none⟩) xs.length c) xs.length (tv xs) := by rw [hV]; exact ((Beside.refl (fun x => x = b) _).set (.inl rfl) 0 _).keepsOwn hR0 (by intro q hq e; exact hrb (by rw [hq, e]))
  have hR2 : V.ownsRow 0 47 4 (.slice (some ⟨g0, 0, none⟩) k c) k (tv (xs.take k)) := by
    have := own_short hR1 (k := k) (by omega)
    rwa [tv_take xs k (by omega)] at this
  have hM1 : MapOf Try.prog 3 ikey OkI V m f xs.length := by rw [hV]; exact hM0.block (set_other (fun e => hmb e) _ _)
  have hBS : Beside (Bad b (.slice (some ⟨g0, 0, none⟩) xs.length c) (.map (some m))) w V := by rw [hV]; exact (Beside.ofBelow hbe).set (.inl (.inl rfl)) 0 _
  obtain ⟨w1, hrun1, hm1, hg1, hz1⟩ := MapOf.drop (hM1.block (w' := V.drew) rfl) (intWay Try.underlying3) Try.underlying54 t.tok hot 0
  rw [fk] at hm1
  simp only [Option.isSome_some, if_true, hk, Nat.add_sub_cancel] at hm1
  have hltk : (xs.take k).length = k := by rw [List.length_take]; omega
  have B2 : Blk w1 b 58 _ := (hB1.heap (w' := V.drew) rfl).grown hg1 (by intro e; injection e with e; exact hmb e.symm)
  have T2 : Blk w1 w.heap.size 47 _ := (hT1.heap (w' := V.drew) rfl).grown hg1 (by intro e; injection e with e; exact blk_ne_map hT1 hM1 e.symm)
  have R2 : w1.ownsRow 0 47 4 (.slice (some ⟨g0, 0, none⟩) k c) k (tv (xs.take k)) := (Beside.grown (bad := fun x => x = m) (Beside.refl _ V.drew) hg1 (fun q hq => by injection hq with hq; exact .inl hq.symm)).keepsOwn (own_heap hR2 rfl) (by intro q hq e; injection hq with hq; exact hmr (by rw [← e, ← hq]; rfl))
  have HPE : Hid (Pl w1 b (.slice (some ⟨g0, 0, none⟩) k c) (.map (some m)) last most (xs.take k)) := by
    refine ⟨B2, by rw [hltk]; exact R2, .inr ⟨m, _, rfl, by rw [hltk]; exact hm1, hpp.out⟩, fun x hx => HTK.out x (List.mem_of_mem_take hx), by rw [hltk]; omega⟩
  have HBE : Hid (Beside (Bad b (.slice (some ⟨g0, 0, none⟩) xs.length c) (.map (some m))) w w1) := (hBS.drewN 1).grown hg1 (fun q hq => by injection hq with hq; exact .inl (.inr (.inr (by rw [hq]))))
  have HFE : Hid (Fresh w.heap.size (.slice (some ⟨g0, 0, none⟩) xs.length c) (.map (some m)) (.slice (some ⟨g0, 0, none⟩) k c) (.map (some m))) := ⟨fun q hq => .inl hq, fun q hq => .inl hq⟩
  have f0 : w.cell? ⟨b, 0, none⟩ = some (.slice (some ⟨g0, 0, none⟩) xs.length c) := h.blk.cell 0 rfl
  have f1 : V0.cell? ⟨b, 0, none⟩ = some (.slice (some ⟨g0, 0, none⟩) xs.length c) := hB0.cell 0 rfl
  have f1z : V0.frozen? ⟨b, 0, none⟩ = false := hB0.frozen 0
  have k1 : V.drew.cell? ⟨b, 1, none⟩ = some (.map (some m)) := hB1.cell 1 rfl
  have k2 : V.drew.cell? ⟨w.heap.size, 0, none⟩ = some (.int .i64 t.tok) := hT1.cell 0 rfl
  have n0 : w1.cell? ⟨w.heap.size, 0, none⟩ = some (.int .i64 t.tok) := T2.cell 0 rfl
  have n1 : w1.cell? ⟨w.heap.size, 1, none⟩ = some (.int .i64 t.dl) := T2.cell 1 rfl
  have n2 : w1.cell? ⟨w.heap.size, 2, none⟩ = some (.int .i64 t.k) := T2.cell 2 rfl
  have n3 : w1.cell? ⟨w.heap.size, 3, none⟩ = some (.int .i64 t.n) := T2.cell 3 rfl
  have HV0 := Lib.hid hV0
  have HV := Lib.hid hV
  clear h hmf hpl hpp HTK hbe hT0 hB0 hR0 hM0 hV0 hV hB1 hT1 hR1 hR2 hM1 hBS hm1 hg1 hz1 B2 T2 R2 hrb hmr fk hltk hot
  generalize hN : xs.length = N at *
  have HN := Lib.hid hN
  clear hN
  have e1 : (N : Int) - 1 = (k : Int) := by omega
  have e2 : (k : Int) < (N : Int) := by omega
  have e3 : (0 : Int) ≤ (k : Int) := by omega
  have e4 : k ≤ c := by omega
  have e5 : (k : Int) ≤ (c : Int) := by omega
  have HK := Lib.hid hk
  clear hk
  go_enter Try.func72, Try.ntmps72
  go_upto_region 3 with fail
  rw [← HV0.out]
  go_upto_region 4 with fail
  rw [← HV.out]
  change Code.wp _ _ _ _ V
  go_region
  go_wp2_with fail
  go_ret
  exact ⟨rfl, _, HPE.out, HBE.out, HFE.out⟩
end Go.Proofs.Ytdbgmogllncffaa
