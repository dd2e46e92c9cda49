/- Contract of wheel's Clone. -/
import Derived.Test.YtdbgmogllncffaaWhP1
namespace Go.Proofs.Ytdbgmogllncffaa
open Go.RowKit Go.Sort Wh
theorem Pm.isMap {w : World} {mv : Value} {xs : List Tm} (h : Pm w mv xs) : ∃ p, mv = .map p := by
  rcases h with ⟨rfl, _⟩ | ⟨m, f, rfl, _⟩ <;> exact ⟨_, rfl⟩
theorem mclone_any (mv : Value) (xs : List Tm) (w : World) (h : Pm w mv xs) :
    Calls Try.prog 36 #[mv] w fun e w' => ∃ mv', e = .returned mv' ∧ Pm w' mv' xs ∧ (∀ q, mv' = .map (some q) → w.heap.size ≤ q) ∧ Below w.heap.size w w' := by
  rcases h with ⟨rfl, hx⟩ | ⟨m, f, rfl, ⟨D, h1, h2, h3⟩, h4⟩
  · refine (AnyW.maps_Clone_nil Try.mclone w).mono ?_
    rintro e w' ⟨rfl, rfl⟩
    exact ⟨_, rfl, .inl ⟨rfl, hx⟩, fun q hq => (by cases hq), Below.refl _ _⟩
  · refine (AnyW.maps_Clone_owns Try.mclone 3 heldR m xs.length D w h1).mono ?_
    rintro e w' ⟨rfl, ho, _, hb⟩
    exact ⟨_, rfl, .inr ⟨_, f, rfl, ⟨D, ho, h2, h3⟩, h4⟩, fun q hq => by injection hq with hq; injection hq with hq; omega, hb⟩
set_option maxHeartbeats 4000000 in
set_option maxRecDepth 100000 in
theorem copied_any (b : Nat) (rv mv : Value) (last most : Int) (xs : List Tm) (w : World) (h : Pl w b rv mv last most xs) :
    Calls Try.prog 29 #[.pointer (some ⟨b, 0, none⟩)] w fun e w' => ∃ rv2 mv2, e = .returned (.agg #[rv2, mv2]) ∧ w'.ownsRow w.heap.size 47 4 rv2 xs.length (tv xs) ∧ Pm w' mv2 xs ∧ (∀ q, mv2 = .map (some q) → w.heap.size ≤ q) ∧ Below w.heap.size w w' := by
  have mixed : Try.prog.follows .mixedOrders = true := by kernel_rfl
  obtain ⟨V, hV⟩ : ∃ V, V = w.alloc (.cells #[.slice none 0 0, .map none] 56) := ⟨_, rfl⟩
  have hbV : Below w.heap.size w V := hV ▸ below_alloc _ _
  have hT : Blk V w.heap.size 56 #[.slice none 0 0, .map none] := hV ▸ Blk.new _ _ _
  have hP := h.below hbV
  have hsV : V.heap.size = w.heap.size + 1 := by rw [hV]; simp
  obtain ⟨A, c, rfl, hA0, _⟩ := at_pl h
  obtain ⟨pm, rfl⟩ : ∃ p, mv = .map p := by
    rcases h.map with ⟨rfl, _⟩ | ⟨m, f, rfl, _⟩ <;> exact ⟨_, rfl⟩
  have hf := h.few
  have C1 := Lib.hid (fun W (hW : Below V.heap.size V W) => clone_any A xs.length c xs W rfl (by omega) hA0 ((At.own hP.row).below hW))
  have C2 := Lib.hid (fun W (hW : Below V.heap.size V W) => mclone_any (.map pm) xs W (hP.map.below hW))
  have f0 : V.cell? ⟨b, 0, none⟩ = some (.slice A xs.length c) := hP.blk.cell 0 rfl
  have f1 : V.cell? ⟨b, 1, none⟩ = some (.map pm) := hP.blk.cell 1 rfl
  have f0d : V.drew.cell? ⟨b, 0, none⟩ = some (.slice A xs.length c) := hP.blk.cell 0 rfl
  have f1d : V.drew.cell? ⟨b, 1, none⟩ = some (.map pm) := hP.blk.cell 1 rfl
  have hbl : b < V.heap.size := hP.blk.lt
  have HT := Lib.hid hT
  have HBV := Lib.hid hbV
  have HSV := Lib.hid hsV
  have HV := Lib.hid hV
  clear h hP hV hbV hT hsV hA0
  generalize xs.length = N at *
  go_enter Try.func29, Try.ntmps29
  go_upto_region 1 with fail
  rw [← HV.out]
  go_region_with (first
    | (go_at_call 23; (with_reducible refine (C1.out _ ?_).mono ?_); (exact below_drew1 V); rintro e w5 ⟨v5, rfl, ho5, hb5⟩; have B5 : Below V.heap.size V w5 := below_join (below_drew1 V) hb5; obtain ⟨A5, c5, rfl, _, _⟩ := own_slice ho5; have z1 := (B5.cell (p := ⟨b, 1, none⟩) hbl).trans f1; have HO5 := Lib.hid ho5; have HB5 := Lib.hid B5; clear ho5 hb5 B5)
    | (go_at_call 36; (with_reducible refine (C2.out _ ?_).mono ?_); (exact HB5.out); rintro e w6 ⟨mv6, rfl, hp6, hn6, hb6⟩; have B6 : Below V.heap.size V w6 := below_join HB5.out hb6; have hT6 := HT.out.below B6; have t0 : w6.cell? ⟨w.heap.size, 0, none⟩ = some (.slice none 0 0) := hT6.cell 0 rfl; have t1 : w6.cell? ⟨w.heap.size, 1, none⟩ = some (.map none) := hT6.cell 1 rfl; have tf0 : w6.frozen? ⟨w.heap.size, 0, none⟩ = false := hT6.frozen 0; have tf1 : w6.frozen? ⟨w.heap.size, 1, none⟩ = false := hT6.frozen 1; have HO6 := Lib.hid (own_below HO5.out hb6); have HP6 := Lib.hid hp6; have HN6 := Lib.hid hn6; have HB6 := Lib.hid B6; have HS5 := Lib.hid HB5.out.size; have HS6 := Lib.hid hb6.size; have HT6 := Lib.hid hT6; obtain ⟨pm6, hpm6⟩ := HP6.out.isMap; clear hp6 hn6 hb6 B6 hT6))
  all_goals
    subst hpm6
    go_wp2
    obtain ⟨Z, hZ⟩ : ∃ Z, Z = (w6.setCell ⟨w.heap.size, 0, none⟩ (.slice A5 N c5)).setCell ⟨w.heap.size, 1, none⟩ (.map pm6) := ⟨_, rfl⟩
    have HR : Hid (Z.heap[w.heap.size]? = some (.cells #[.slice A5 N c5, .map pm6] 56 (0, 0))) := by rw [hZ]; exact (HT6.out.set 0 _).set 1 _
    have hbs : Beside (fun x => x = w.heap.size) w6 Z := by rw [hZ]; exact ((Beside.refl (fun x => x = w.heap.size) w6).set (.inl rfl) 0 _).set (.inl rfl) 1 _
    have HE : Hid (Z.ownsRow w.heap.size 47 4 (.slice A5 N c5) N (tv xs) ∧ Pm Z (.map pm6) xs ∧ (∀ q, Value.map pm6 = .map (some q) → w.heap.size ≤ q) ∧ Below w.heap.size w Z) := by
      have h1 := HSV.out
      have h2 := HS5.out
      have h3 : V.drew.heap.size = V.heap.size := rfl
      refine ⟨own_mono (hbs.keepsOwn HO6.out (fun q hq e => by have := own_from HO6.out q hq; omega)) (by omega), HP6.out.block (fun m hm => hbs.block m ?_ (fun e => by have := HN6.out m hm; omega)), fun q hq => by have := HN6.out q hq; omega, hbs.below (HBV.out.trans (HB6.out.mono (by omega))) (by have := HS6.out; omega) (fun q hq => by omega)⟩
      rcases HP6.out with ⟨h9, _⟩ | ⟨m', f', h9, h8, _⟩
      · rw [hm] at h9; cases h9
      · rw [hm] at h9; injection h9 with h9; injection h9 with h9; subst h9; exact h8.lt
    rw [← hZ]
    try simp only [Exit.inBlock, Exit.then]
    refine bodyPost_ret (results_cell_row rfl _ _ w.heap.size _ _ (0, 0) _ rfl HR.out Try.underlying56 rfl (by kernel_rfl)) rfl ?_
    obtain ⟨e1, e2, e3, e4⟩ := HE.out
    exact ⟨_, _, rfl, e1, e2, e3, e4⟩
set_option maxHeartbeats 4000000 in
set_option maxRecDepth 100000 in
theorem wclone_any (b : Nat) (rv mv : Value) (last most : Int) (xs : List Tm) (w : World) (h : Wl w b rv mv last most xs) :
    Calls Try.prog 16 #[.pointer (some ⟨b, 0, none⟩)] w fun e w' => ∃ b2 rv2 mv2, e = .returned (.pointer (some ⟨b2, 0, none⟩)) ∧ Wl w' b2 rv2 mv2 last most xs ∧ (∀ q, Bad b2 rv2 mv2 q → w.heap.size ≤ q) ∧ Below w.heap.size w w' := by
  have mixed : Try.prog.follows .mixedOrders = true := by kernel_rfl
  have HP : Hid (Pl w.drew b rv mv last most xs) := h.pl.below (below_drew1 w)
  have HH := Lib.hid h
  have C := Lib.hid (copied_any b rv mv last most xs w.drew HP.out)
  have f2 : w.cell? ⟨b, 2, none⟩ = some (.int .i64 last) := h.pl.blk.cell 2 rfl
  have f3 : w.cell? ⟨b, 3, none⟩ = some (.int .i64 most) := h.pl.blk.cell 3 rfl
  have f2d : w.drew.cell? ⟨b, 2, none⟩ = some (.int .i64 last) := f2
  have f3d : w.drew.cell? ⟨b, 3, none⟩ = some (.int .i64 most) := f3
  have hbl : b < w.heap.size := h.pl.blk.lt
  clear h
  go_enter Try.func16, Try.ntmps16
  go_upto_region 1 with fail
  go_region_with (go_at_call 29; refine C.out.mono ?_; rintro e w5 ⟨rv5, mv5, rfl, ho5, hp5, hn5, hb5⟩; have B5 : Below w.heap.size w w5 := below_join (below_drew1 w) hb5; have z2 := (B5.cell (p := ⟨b, 2, none⟩) hbl).trans f2; have z3 := (B5.cell (p := ⟨b, 3, none⟩) hbl).trans f3; have HO5 := Lib.hid ho5; have HP5 := Lib.hid hp5; have HN5 := Lib.hid hn5; have HB5 := Lib.hid B5; obtain ⟨A5, c5, rfl, _, _⟩ := own_slice ho5; obtain ⟨pm5, rfl⟩ := hp5.isMap; clear ho5 hp5 hn5 hb5 B5)
  all_goals
    go_wp2
    go_ret
    refine ⟨_, _, _, rfl, ⟨⟨Blk.new w5 _ _, own_mono (own_below HO5.out (below_alloc w5 _)) (Nat.zero_le _), HP5.out.below (below_alloc w5 _), HH.out.pl.tok, HH.out.pl.few⟩, HH.out.heap⟩, ?_, HB5.out.alloc HB5.out.size _⟩
    intro q hq
    rcases hq with rfl | hq | hq
    · exact HB5.out.size
    · exact own_from HO5.out q hq
    · exact HN5.out q hq
end Go.Proofs.Ytdbgmogllncffaa
