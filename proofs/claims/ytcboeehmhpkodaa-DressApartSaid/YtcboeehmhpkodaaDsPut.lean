/- Contract of Put: what a node has, with its marks (of no attributes, and no styles). -/
import Derived.Test.YtcboeehmhpkodaaDsW3
import Derived.Test.YtcboeehmhpkodaaDsCat
import Derived.Test.YtcboeehmhpkodaaPrX7S
import Derived.Test.YtcboeehmhpkodaaClW7
import Derived.Deep.RegionHeld3
namespace Go.Proofs.Ytcboeehmhpkodaa
open Go.RowKit M Ds
set_option linter.unusedVariables false
set_option linter.unusedSimpArgs false
set_option linter.unnecessarySimpa false
namespace Ds
theorem below_join {a b c : World} (h : Below a.heap.size a b) (k : Below b.heap.size b c) : Below a.heap.size a c := h.trans (k.mono h.size)
theorem below_heap {B : Nat} {a w w' : World} (h : Below B a w) (h1 : w'.heap = w.heap) (h2 : w'.os = w.os) (h3 : w'.tape = w.tape) (h4 : w'.output = w.output) : Below B a w' :=
  ⟨h2.trans h.os, h3.trans h.tape, h4.trans h.output, by rw [h1]; exact h.size, fun j hj => by rw [h1]; exact h.block j hj⟩
theorem row_ne_blk {w : World} {base s n : Nat} {e t : TypeId} {v : Value} {xs : List Value} {g : Nat} {cs : Array Value} (h : w.ownsRow base e s v n xs) (hb : Blk w g t cs) (hne : e ≠ t) : v.ownBlock ≠ some g := by
  intro hv
  rcases h.2 with ⟨rfl, _⟩ | ⟨g', c, cur, rfl, _, hh, _⟩
  · cases hv
  · injection hv with hv
    subst hv
    unfold Blk at hb
    simp only at hb
    rw [hh] at hb
    injection hb with hb
    injection hb with _ hb _
    exact hne hb
theorem cells3 {w : World} {b : Nat} {t : TypeId} {x0 x1 x2 : Value} (h : Blk w b t #[x0, x1, x2]) : (w.cell? ⟨b, 0, none⟩ = some x0 ∧ w.cell? ⟨b, 1, none⟩ = some x1 ∧ w.cell? ⟨b, 2, none⟩ = some x2) ∧ w.frozen? ⟨b, 0, none⟩ = false ∧ w.frozen? ⟨b, 1, none⟩ = false ∧ w.frozen? ⟨b, 2, none⟩ = false :=
  ⟨⟨h.cell 0 rfl, h.cell 1 rfl, h.cell 2 rfl⟩, h.frozen 0, h.frozen 1, h.frozen 2⟩
theorem blk_set3 {w : World} {b : Nat} {t : TypeId} {y0 y1 y2 x0 x1 x2 : Value} (h : Blk w b t #[y0, y1, y2]) : Blk (((w.setCell ⟨b, 0, none⟩ x0).setCell ⟨b, 1, none⟩ x1).setCell ⟨b, 2, none⟩ x2) b t #[x0, x1, x2] := ((h.set 0 x0).set 1 x1).set 2 x2
theorem bes_set3 {w : World} {b : Nat} {x0 x1 x2 : Value} : Beside (fun g => g = b) w (((w.setCell ⟨b, 0, none⟩ x0).setCell ⟨b, 1, none⟩ x1).setCell ⟨b, 2, none⟩ x2) := (((Beside.refl (fun g => g = b) w).set (.inl rfl) 0 x0).set (.inl rfl) 1 x1).set (.inl rfl) 2 x2
theorem marks_small (k m : Int) : ∀ s ∈ marks k m, s.size ≤ 100 := by
  intro s hs
  unfold marks at hs
  rw [List.mem_append] at hs
  rcases hs with hs | hs
  · unfold kindM at hs
    repeat' split at hs
    all_goals simp at hs
    all_goals first | (rcases hs with rfl | rfl <;> decide) | (subst hs; decide)
  · split at hs
    · cases hs
    · simp at hs; subst hs; decide
theorem marks_len (k m : Int) : (marks k m).length ≤ 3 := by
  unfold marks
  rw [List.length_append]
  have := kindM_len k
  split <;> simp <;> omega
theorem alloc_drew {w : World} {a : Addr} {v : Value} (o : Obj) (h : w.cell? a = some v) : (w.alloc o).drew.cell? a = some v := Lib.cell?_alloc_some _ h
theorem one_keep {w : World} {base sz n b j : Nat} {e t : TypeId} {v x : Value} {xs : List Value} {cs : Array Value} (h : w.ownsRow base e sz v n xs) (hb : Blk w b t cs) (hne : e ≠ t) : (w.setCell ⟨b, j, none⟩ x).ownsRow base e sz v n xs :=
  ((Beside.refl (fun g => g = b) w).set (.inl rfl) j x).keepsOwn h (fun q hq e => row_ne_blk h hb hne (by rw [hq, e]))
theorem far1 {w : World} {z k g i : Nat} {x v : Value} (h : w.cell? ⟨g, i, none⟩ = some v) (hne : g ≠ z) : (w.setCell ⟨z, k, none⟩ x).cell? ⟨g, i, none⟩ = some v := (World.cell?_of_block (w := w) (set_other hne k x)).trans h
theorem far3 {w : World} {b g i : Nat} {x0 x1 x2 v : Value} (h : w.cell? ⟨g, i, none⟩ = some v) (hne : g ≠ b) : (((w.setCell ⟨b, 0, none⟩ x0).setCell ⟨b, 1, none⟩ x1).setCell ⟨b, 2, none⟩ x2).cell? ⟨g, i, none⟩ = some v := far1 (far1 (far1 h hne) hne) hne
theorem below_set3 {B : Nat} {a w : World} {b : Nat} {x0 x1 x2 : Value} (h : Below B a w) (hb : B ≤ b) : Below B a (((w.setCell ⟨b, 0, none⟩ x0).setCell ⟨b, 1, none⟩ x1).setCell ⟨b, 2, none⟩ x2) :=
  ((h.setCell (p := ⟨b, 0, none⟩) hb _).setCell (p := ⟨b, 1, none⟩) hb _).setCell (p := ⟨b, 2, none⟩) hb _
/-- a row of own pairs, or of own names, is kept where another block is written -/
theorem keep3 {w : World} {base sz n b : Nat} {e t : TypeId} {v : Value} {xs : List Value} {cs : Array Value} {x0 x1 x2 : Value} (h : w.ownsRow base e sz v n xs) (hb : Blk w b t cs) (hne : e ≠ t) : (((w.setCell ⟨b, 0, none⟩ x0).setCell ⟨b, 1, none⟩ x1).setCell ⟨b, 2, none⟩ x2).ownsRow base e sz v n xs :=
  bes_set3.keepsOwn h (fun q hq e => row_ne_blk h hb hne (by rw [hq, e]))
set_option maxHeartbeats 8000000 in
set_option maxRecDepth 100000 in
theorem put_any (k m x y : Int) (A : Option Addr) (n c : Nat) (cl : List ByteArray) (w : World) (hn : n = cl.length) (hn100 : n ≤ 100) (hcl : ∀ s ∈ cl, s.size ≤ 100) (hA0 : A = none → n = 0 ∧ c = 0) (hat : At w A (sv cl)) :
    Calls Try.prog 15 #[.agg #[.int .i64 k, .int .i64 m, .int .i64 x, .int .i64 y], .agg #[.slice A n c, .slice none 0 0, .slice none 0 0]] w fun e w' => ∃ va vs vt, e = .returned (.agg #[va, vs, vt]) ∧ w'.ownsRow w.heap.size 9 1 va (clean (cl ++ marks k m)).length (sv (clean (cl ++ marks k m))) ∧ w'.ownsRow w.heap.size 42 2 vs (attrsM k).length (pvS (attrsM k)) ∧ w'.ownsRow w.heap.size 56 2 vt (stylesM m x y).length (pv (stylesM m x y)) ∧ Below w.heap.size w w' := by
  obtain ⟨V, hV⟩ : ∃ V, V = ((w.alloc (.cells #[.int .i64 k, .int .i64 m, .int .i64 x, .int .i64 y] 25)).alloc (.cells #[.slice A n c, .slice none 0 0, .slice none 0 0] 36)).alloc (.cells #[.slice none 0 0, .slice none 0 0, .slice none 0 0] 36) := ⟨_, rfl⟩
  obtain ⟨z, hz⟩ : ∃ z, z = w.heap.size := ⟨_, rfl⟩
  obtain ⟨z1, hz1⟩ : ∃ z1, z1 = z + 1 := ⟨_, rfl⟩
  have hzV : V.heap.size = w.heap.size + 3 := by rw [hV]; simp
  have hb0 : Below w.heap.size w V := by rw [hV]; exact below_more (below_more (below_alloc w _) _) _
  have hl0 : Blk V z 25 #[.int .i64 k, .int .i64 m, .int .i64 x, .int .i64 y] := by rw [hV, hz]; exact ((Blk.new w _ _).alloc _).alloc _
  have hw0 : Blk V z1 36 #[.slice A n c, .slice none 0 0, .slice none 0 0] := by rw [hV, hz1, hz]; exact (Blk.new' (w.alloc _) _ _ _ (by simp)).alloc _
  have hr0 : Blk V (w.heap.size + 2) 36 #[.slice none 0 0, .slice none 0 0, .slice none 0 0] := by rw [hV]; exact Blk.new' ((w.alloc _).alloc _) _ _ _ (by simp)
  have kz : z < V.heap.size := hl0.lt
  have kz1 : z1 < V.heap.size := hw0.lt
  have f0 := hl0.cell 0 (v := .int .i64 k) rfl
  have f1 := hl0.cell 1 (v := .int .i64 m) rfl
  have f2 := hl0.cell 2 (v := .int .i64 x) rfl
  have f3 := hl0.cell 3 (v := .int .i64 y) rfl
  have g0 := hw0.cell 0 (v := .slice A n c) rfl
  have g1 := hw0.cell 1 (v := .slice none 0 0) rfl
  have g2 := hw0.cell 2 (v := .slice none 0 0) rfl
  have HAT := Lib.hid (hat.below hb0)
  have HA0 := Lib.hid hA0
  have HN := Lib.hid hn
  have hmk := marks_len k m
  have hmk : (marks k m).length ≤ 1000 := by omega
  have hn2 : n ≤ 100000 := by omega
  have hml := marks_len k m
  have CC := Lib.hid (fun W => classes_any k m x y W)
  have HSM : Hid (∀ s ∈ cl ++ marks k m, s.size ≤ maxLen) := by
    intro s hs
    rw [List.mem_append] at hs
    unfold maxLen
    rcases hs with hs | hs
    · have := hcl s hs; omega
    · have := marks_small k m s hs; omega
  have HV := Lib.hid hV
  have HZ := Lib.hid hz
  have HZQ := Lib.hid hz1
  have HB0 := Lib.hid hb0
  have HR0 := Lib.hid hr0
  have HZV := Lib.hid hzV
  have HF0 := Lib.hid f0
  have HF1 := Lib.hid f1
  have HF2 := Lib.hid f2
  have HF3 := Lib.hid f3
  have CG := Lib.hid (fun W => ghost_any k m x y W)
  obtain ⟨MK, hMK⟩ : ∃ MK, MK = marks k m := ⟨_, rfl⟩
  rw [← hMK] at CC HSM hmk hml
  have HMK := Lib.hid hMK
  have hcm : (cl ++ MK).length ≤ 200 := by rw [List.length_append]; have := HN.out; omega
  clear hV hz hz1 hzV hb0 hl0 hw0 hr0 hat hA0 hn hcl hMK
  go_enter Try.func15, Try.ntmps15
  go_upto_region 1 with fail
  rw [← HV.out, ← HZ.out, ← HZQ.out]
  go_cut [5] (fun p wx => ∃ (g : Nat) (va vs vt : Value), p = .pointer (some ⟨g, 0, none⟩) ∧ Hid (Blk wx g 36 #[va, vs, vt]) ∧ Hid (wx.ownsRow V.heap.size 9 1 va (clean (cl ++ MK)).length (sv (clean (cl ++ MK)))) ∧ Hid (wx.ownsRow V.heap.size 42 2 vs 0 []) ∧ Hid (wx.ownsRow V.heap.size 56 2 vt 0 []) ∧ Hid (Below V.heap.size V wx) ∧ V.heap.size ≤ g)
  case first =>
    have HBB := Below.refl V.heap.size V
    first | go_region_held3 (fun w' => w'.cell? ⟨z, 0, none⟩ = some (.int .i64 k) ∧ w'.cell? ⟨z, 1, none⟩ = some (.int .i64 m) ∧ w'.cell? ⟨z, 2, none⟩ = some (.int .i64 x) ∧ w'.cell? ⟨z, 3, none⟩ = some (.int .i64 y) ∧ w'.cell? ⟨z1, 0, none⟩ = some (.slice A n c) ∧ w'.cell? ⟨z1, 1, none⟩ = some (.slice none 0 0) ∧ w'.cell? ⟨z1, 2, none⟩ = some (.slice none 0 0) ∧ Below V.heap.size V w') (first | (refine ⟨?_, ?_, ?_, ?_, ?_, ?_, ?_, ?_⟩ <;> first | with_reducible assumption | ((with_reducible refine far3 ?_ ?_) <;> first | with_reducible assumption | omega) | ((with_reducible refine below_set3 ?_ ?_) <;> first | with_reducible assumption | omega) | ((with_reducible refine below_more ?_ _); with_reducible assumption) | ((with_reducible refine below_more (below_more ?_ _) _); with_reducible assumption) | ((with_reducible refine Lib.cell?_alloc_some _ (Lib.cell?_alloc_some _ ?_)); with_reducible assumption) | ((with_reducible refine Lib.cell?_alloc_some _ ?_); with_reducible assumption) | ((with_reducible refine alloc_drew _ ?_); with_reducible assumption) | with_reducible exact Below_drew HBB | with_reducible exact Below_drew (below_more HBB _) | exact Below_drew HBB | exact Below_drew (below_more HBB _) | exact below_heap HBB rfl rfl rfl rfl | assumption) | go_keep | exact below_heap HBB rfl rfl rfl rfl) (first | (go_at_call 13; go_split_ands; (with_reducible refine (CC.out _).mono ?_); rintro e9 w1 ⟨v1, rfl, ho, hb⟩; obtain ⟨A1, c1, rfl, hc1, hm1, hat⟩ := at_of_own' ho; have HAD1 := Lib.hid (own_addr ho); have HAT1 := Lib.hid hat; have HO1 := Lib.hid (own_mono ho (show V.heap.size ≤ _ by first | exact Nat.le_refl _ | omega | (simp; omega) | (simp; done) | (have h9 : Below V.heap.size V _ := by assumption; exact h9.size))); have B : Below V.heap.size V w1 := below_join (by assumption) hb; have r0 := (B.cell (p := ⟨z, 0, none⟩) kz).trans f0; have r1 := (B.cell (p := ⟨z, 1, none⟩) kz).trans f1; have r2 := (B.cell (p := ⟨z, 2, none⟩) kz).trans f2; have r3 := (B.cell (p := ⟨z, 3, none⟩) kz).trans f3; have r4 := (B.cell (p := ⟨z1, 0, none⟩) kz1).trans g0; have r5 := (B.cell (p := ⟨z1, 1, none⟩) kz1).trans g1; have r6 := (B.cell (p := ⟨z1, 2, none⟩) kz1).trans g2; have s1 := B.size; (first | (have hz : Blk _ _ 36 #[.slice none 0 0, .slice none 0 0, .slice none 0 0] := Blk.below (Blk.new _ 36 #[.slice none 0 0, .slice none 0 0, .slice none 0 0]) hb; (try simp only [size_alloc] at hz); obtain ⟨⟨q0, q1, q2⟩, p0, p1, p2⟩ := cells3 hz; have HZ1 := Lib.hid hz; clear hz) | (have hz : Blk _ _ 36 #[.slice none 0 0, .slice none 0 0, .slice none 0 0] := Blk.below (Blk.drew (Blk.new _ 36 #[.slice none 0 0, .slice none 0 0, .slice none 0 0])) hb; (try simp only [size_alloc] at hz); obtain ⟨⟨q0, q1, q2⟩, p0, p1, p2⟩ := cells3 hz; have HZ1 := Lib.hid hz; clear hz) | (have hz : Blk _ _ 36 #[.slice none 0 0, .slice none 0 0, .slice none 0 0] := Blk.below (Blk.alloc (Blk.new _ 36 #[.slice none 0 0, .slice none 0 0, .slice none 0 0]) _) hb; (try simp only [size_alloc] at hz); obtain ⟨⟨q0, q1, q2⟩, p0, p1, p2⟩ := cells3 hz; have HZ1 := Lib.hid hz; clear hz) | skip); have HB1 := Lib.hid B; clear ho hb hat) | (go_at_call 22; go_split_ands; (with_reducible refine (concat_anyT A A1 n c _ c1 _ cl MK _ HN.out hn2 HA0.out (HAT.out.below (by assumption)) HAD1.out rfl hmk (HAT1.out.below (by first | exact Below.refl _ _ | exact below_alloc _ _ | exact Below_drew (Below.refl _ _) | exact Below_drew (below_alloc _ _) | exact below_more (below_alloc _ _) _ | exact Below_drew (below_more (below_alloc _ _) _))) (by first | (simp; done) | (simp; omega)) (by first | (simp; done) | (refine Lib.cell?_alloc_some _ ?_; simp; done)) (by first | (simp; done) | (refine Lib.cell?_alloc_some _ ?_; simp; done))).mono ?_); rintro e9 w2 ⟨v2, rfl, ho, hb⟩; obtain ⟨A2, c2, rfl, hc2, hm2, hat⟩ := at_of_own' ho; have HAD2 := Lib.hid (own_addr ho); have HAT2 := Lib.hid hat; have HO2 := Lib.hid (own_mono ho (show V.heap.size ≤ _ by first | exact Nat.le_refl _ | omega | (simp; omega) | (simp; done) | (have h9 : Below V.heap.size V _ := by assumption; exact h9.size))); have B : Below V.heap.size V w2 := below_join (by assumption) hb; have r0 := (B.cell (p := ⟨z, 0, none⟩) kz).trans f0; have r1 := (B.cell (p := ⟨z, 1, none⟩) kz).trans f1; have r2 := (B.cell (p := ⟨z, 2, none⟩) kz).trans f2; have r3 := (B.cell (p := ⟨z, 3, none⟩) kz).trans f3; have r4 := (B.cell (p := ⟨z1, 0, none⟩) kz1).trans g0; have r5 := (B.cell (p := ⟨z1, 1, none⟩) kz1).trans g1; have r6 := (B.cell (p := ⟨z1, 2, none⟩) kz1).trans g2; have s2 := B.size; (first | (have hz := Blk.below (Blk.below HZ1.out (by first | exact Below.refl _ _ | exact below_alloc _ _ | exact Below_drew (Below.refl _ _) | exact Below_drew (below_alloc _ _) | exact below_more (below_alloc _ _) _ | exact Below_drew (below_more (below_alloc _ _) _))) hb; (try simp only [size_alloc] at hz); obtain ⟨⟨q0, q1, q2⟩, p0, p1, p2⟩ := cells3 hz; have HZ2 := Lib.hid hz; clear hz) | (have hz : Blk _ _ 36 #[.slice none 0 0, .slice none 0 0, .slice none 0 0] := Blk.below (Blk.new _ 36 #[.slice none 0 0, .slice none 0 0, .slice none 0 0]) hb; (try simp only [size_alloc] at hz); obtain ⟨⟨q0, q1, q2⟩, p0, p1, p2⟩ := cells3 hz; have HZ2 := Lib.hid hz; clear hz) | (have hz : Blk _ _ 36 #[.slice none 0 0, .slice none 0 0, .slice none 0 0] := Blk.below (Blk.drew (Blk.new _ 36 #[.slice none 0 0, .slice none 0 0, .slice none 0 0])) hb; (try simp only [size_alloc] at hz); obtain ⟨⟨q0, q1, q2⟩, p0, p1, p2⟩ := cells3 hz; have HZ2 := Lib.hid hz; clear hz) | (have hz : Blk _ _ 36 #[.slice none 0 0, .slice none 0 0, .slice none 0 0] := Blk.below (Blk.alloc (Blk.new _ 36 #[.slice none 0 0, .slice none 0 0, .slice none 0 0]) _) hb; (try simp only [size_alloc] at hz); obtain ⟨⟨q0, q1, q2⟩, p0, p1, p2⟩ := cells3 hz; have HZ2 := Lib.hid hz; clear hz) | skip); have HB2 := Lib.hid B; clear ho hb hat) | (go_at_call 21; go_split_ands; (with_reducible refine (cclean_any A2 _ c2 (cl ++ MK) _ (by rw [List.length_append, HN.out]) (by omega) (HAT2.out.below (by first | exact Below.refl _ _ | exact below_alloc _ _ | exact Below_drew (Below.refl _ _) | exact Below_drew (below_alloc _ _) | exact below_more (below_alloc _ _) _ | exact Below_drew (below_more (below_alloc _ _) _))) HSM.out).mono ?_); rintro e9 w3 ⟨v3, rfl, ho, hb⟩; obtain ⟨A3, c3, rfl, hc3, hm3, hat⟩ := at_of_own' ho; have HAD3 := Lib.hid (own_addr ho); have HAT3 := Lib.hid hat; have HO3 := Lib.hid (own_mono ho (show V.heap.size ≤ _ by first | exact Nat.le_refl _ | omega | (simp; omega) | (simp; done) | (have h9 : Below V.heap.size V _ := by assumption; exact h9.size))); have B : Below V.heap.size V w3 := below_join (by assumption) hb; have r0 := (B.cell (p := ⟨z, 0, none⟩) kz).trans f0; have r1 := (B.cell (p := ⟨z, 1, none⟩) kz).trans f1; have r2 := (B.cell (p := ⟨z, 2, none⟩) kz).trans f2; have r3 := (B.cell (p := ⟨z, 3, none⟩) kz).trans f3; have r4 := (B.cell (p := ⟨z1, 0, none⟩) kz1).trans g0; have r5 := (B.cell (p := ⟨z1, 1, none⟩) kz1).trans g1; have r6 := (B.cell (p := ⟨z1, 2, none⟩) kz1).trans g2; have s3 := B.size; (first | (have hz := Blk.below (Blk.below HZ2.out (by first | exact Below.refl _ _ | exact below_alloc _ _ | exact Below_drew (Below.refl _ _) | exact Below_drew (below_alloc _ _) | exact below_more (below_alloc _ _) _ | exact Below_drew (below_more (below_alloc _ _) _))) hb; (try simp only [size_alloc] at hz); obtain ⟨⟨q0, q1, q2⟩, p0, p1, p2⟩ := cells3 hz; have HZ3 := Lib.hid hz; clear hz) | (have hz : Blk _ _ 36 #[.slice none 0 0, .slice none 0 0, .slice none 0 0] := Blk.below (Blk.new _ 36 #[.slice none 0 0, .slice none 0 0, .slice none 0 0]) hb; (try simp only [size_alloc] at hz); obtain ⟨⟨q0, q1, q2⟩, p0, p1, p2⟩ := cells3 hz; have HZ3 := Lib.hid hz; clear hz) | (have hz : Blk _ _ 36 #[.slice none 0 0, .slice none 0 0, .slice none 0 0] := Blk.below (Blk.drew (Blk.new _ 36 #[.slice none 0 0, .slice none 0 0, .slice none 0 0])) hb; (try simp only [size_alloc] at hz); obtain ⟨⟨q0, q1, q2⟩, p0, p1, p2⟩ := cells3 hz; have HZ3 := Lib.hid hz; clear hz) | (have hz : Blk _ _ 36 #[.slice none 0 0, .slice none 0 0, .slice none 0 0] := Blk.below (Blk.alloc (Blk.new _ 36 #[.slice none 0 0, .slice none 0 0, .slice none 0 0]) _) hb; (try simp only [size_alloc] at hz); obtain ⟨⟨q0, q1, q2⟩, p0, p1, p2⟩ := cells3 hz; have HZ3 := Lib.hid hz; clear hz) | skip); have HB3 := Lib.hid B; clear ho hb hat) | (go_at_call 23; go_split_ands; (with_reducible refine (of_anyS none 0 0 [] _ rfl (by omega) (fun _ => ⟨rfl, rfl⟩) (At.nil _ _)).mono ?_); rintro e9 w4 ⟨v4, rfl, ho, hb⟩; obtain ⟨A4, c4, rfl, hc4, hm4, hat⟩ := at_of_own' ho; have HAD4 := Lib.hid (own_addr ho); have HAT4 := Lib.hid hat; have HO4 := Lib.hid (own_mono ho (show V.heap.size ≤ _ by first | exact Nat.le_refl _ | omega | (simp; omega) | (simp; done) | (have h9 : Below V.heap.size V _ := by assumption; exact h9.size))); have B : Below V.heap.size V w4 := below_join (by assumption) hb; have r0 := (B.cell (p := ⟨z, 0, none⟩) kz).trans f0; have r1 := (B.cell (p := ⟨z, 1, none⟩) kz).trans f1; have r2 := (B.cell (p := ⟨z, 2, none⟩) kz).trans f2; have r3 := (B.cell (p := ⟨z, 3, none⟩) kz).trans f3; have r4 := (B.cell (p := ⟨z1, 0, none⟩) kz1).trans g0; have r5 := (B.cell (p := ⟨z1, 1, none⟩) kz1).trans g1; have r6 := (B.cell (p := ⟨z1, 2, none⟩) kz1).trans g2; have s4 := B.size; have HL4 := Lib.hid (own_below HO3.out (below_join (by first | exact Below.refl _ _ | exact below_alloc _ _ | exact Below_drew (Below.refl _ _) | exact Below_drew (below_alloc _ _) | exact below_more (below_alloc _ _) _ | exact Below_drew (below_more (below_alloc _ _) _)) hb)); (first | (have hz := Blk.below (Blk.below HZ3.out (by first | exact Below.refl _ _ | exact below_alloc _ _ | exact Below_drew (Below.refl _ _) | exact Below_drew (below_alloc _ _) | exact below_more (below_alloc _ _) _ | exact Below_drew (below_more (below_alloc _ _) _))) hb; (try simp only [size_alloc] at hz); obtain ⟨⟨q0, q1, q2⟩, p0, p1, p2⟩ := cells3 hz; have HZ4 := Lib.hid hz; clear hz) | (have hz : Blk _ _ 36 #[.slice none 0 0, .slice none 0 0, .slice none 0 0] := Blk.below (Blk.new _ 36 #[.slice none 0 0, .slice none 0 0, .slice none 0 0]) hb; (try simp only [size_alloc] at hz); obtain ⟨⟨q0, q1, q2⟩, p0, p1, p2⟩ := cells3 hz; have HZ4 := Lib.hid hz; clear hz) | (have hz : Blk _ _ 36 #[.slice none 0 0, .slice none 0 0, .slice none 0 0] := Blk.below (Blk.drew (Blk.new _ 36 #[.slice none 0 0, .slice none 0 0, .slice none 0 0])) hb; (try simp only [size_alloc] at hz); obtain ⟨⟨q0, q1, q2⟩, p0, p1, p2⟩ := cells3 hz; have HZ4 := Lib.hid hz; clear hz) | (have hz : Blk _ _ 36 #[.slice none 0 0, .slice none 0 0, .slice none 0 0] := Blk.below (Blk.alloc (Blk.new _ 36 #[.slice none 0 0, .slice none 0 0, .slice none 0 0]) _) hb; (try simp only [size_alloc] at hz); obtain ⟨⟨q0, q1, q2⟩, p0, p1, p2⟩ := cells3 hz; have HZ4 := Lib.hid hz; clear hz) | skip); have HB4 := Lib.hid B; clear ho hb hat) | (go_at_call 24; go_split_ands; (with_reducible refine (of_any none 0 0 [] _ rfl (by omega) (fun _ => ⟨rfl, rfl⟩) (At.nil _ _)).mono ?_); rintro e9 w5 ⟨v5, rfl, ho, hb⟩; obtain ⟨A5, c5, rfl, hc5, hm5, hat⟩ := at_of_own' ho; have HAD5 := Lib.hid (own_addr ho); have HAT5 := Lib.hid hat; have HO5 := Lib.hid (own_mono ho (show V.heap.size ≤ _ by first | exact Nat.le_refl _ | omega | (simp; omega) | (simp; done) | (have h9 : Below V.heap.size V _ := by assumption; exact h9.size))); have B : Below V.heap.size V w5 := below_join (by assumption) hb; have r0 := (B.cell (p := ⟨z, 0, none⟩) kz).trans f0; have r1 := (B.cell (p := ⟨z, 1, none⟩) kz).trans f1; have r2 := (B.cell (p := ⟨z, 2, none⟩) kz).trans f2; have r3 := (B.cell (p := ⟨z, 3, none⟩) kz).trans f3; have r4 := (B.cell (p := ⟨z1, 0, none⟩) kz1).trans g0; have r5 := (B.cell (p := ⟨z1, 1, none⟩) kz1).trans g1; have r6 := (B.cell (p := ⟨z1, 2, none⟩) kz1).trans g2; have s5 := B.size; have HL5 := Lib.hid (own_below HL4.out (below_join (by first | exact Below.refl _ _ | exact below_alloc _ _ | exact Below_drew (Below.refl _ _) | exact Below_drew (below_alloc _ _) | exact below_more (below_alloc _ _) _ | exact Below_drew (below_more (below_alloc _ _) _)) hb)); have HM5 := Lib.hid (own_below HO4.out (below_join (by first | exact Below.refl _ _ | exact below_alloc _ _ | exact Below_drew (Below.refl _ _) | exact Below_drew (below_alloc _ _) | exact below_more (below_alloc _ _) _ | exact Below_drew (below_more (below_alloc _ _) _)) hb)); (first | (have hz := Blk.below (Blk.below HZ4.out (by first | exact Below.refl _ _ | exact below_alloc _ _ | exact Below_drew (Below.refl _ _) | exact Below_drew (below_alloc _ _) | exact below_more (below_alloc _ _) _ | exact Below_drew (below_more (below_alloc _ _) _))) hb; (try simp only [size_alloc] at hz); obtain ⟨⟨q0, q1, q2⟩, p0, p1, p2⟩ := cells3 hz; have HZ5 := Lib.hid hz; clear hz) | (have hz : Blk _ _ 36 #[.slice none 0 0, .slice none 0 0, .slice none 0 0] := Blk.below (Blk.new _ 36 #[.slice none 0 0, .slice none 0 0, .slice none 0 0]) hb; (try simp only [size_alloc] at hz); obtain ⟨⟨q0, q1, q2⟩, p0, p1, p2⟩ := cells3 hz; have HZ5 := Lib.hid hz; clear hz) | (have hz : Blk _ _ 36 #[.slice none 0 0, .slice none 0 0, .slice none 0 0] := Blk.below (Blk.drew (Blk.new _ 36 #[.slice none 0 0, .slice none 0 0, .slice none 0 0])) hb; (try simp only [size_alloc] at hz); obtain ⟨⟨q0, q1, q2⟩, p0, p1, p2⟩ := cells3 hz; have HZ5 := Lib.hid hz; clear hz) | (have hz : Blk _ _ 36 #[.slice none 0 0, .slice none 0 0, .slice none 0 0] := Blk.below (Blk.alloc (Blk.new _ 36 #[.slice none 0 0, .slice none 0 0, .slice none 0 0]) _) hb; (try simp only [size_alloc] at hz); obtain ⟨⟨q0, q1, q2⟩, p0, p1, p2⟩ := cells3 hz; have HZ5 := Lib.hid hz; clear hz) | skip); have HB5 := Lib.hid B; clear ho hb hat)) | fail
    all_goals (go_split_ands; go_wp2_with fail; go_meet; first
      | (refine ⟨w5.heap.size, .slice A3 (clean (cl ++ MK)).length c3, .slice A4 (ofP (V := ByteArray) []).length c4, .slice A5 (ofP (V := Int) []).length c5, ?_, ?_⟩; (with_reducible rfl); exact ⟨Lib.hid (Blk.new w5 _ _), own_below HL5.out (below_alloc w5 _), own_below HM5.out (below_alloc w5 _), own_below HO5.out (below_alloc w5 _), below_more HB5.out _, HB5.out.size⟩)
      | (refine ⟨_, .slice A3 (clean (cl ++ MK)).length c3, .slice A4 (ofP (V := ByteArray) []).length c4, .slice A5 (ofP (V := Int) []).length c5, rfl, ?_, ?_, ?_, ?_, ?_, ?_⟩; exact Lib.hid (blk_set3 (x0 := .slice A3 (clean (cl ++ MK)).length c3) (x1 := .slice A4 (ofP (V := ByteArray) []).length c4) (x2 := .slice A5 (ofP (V := Int) []).length c5) HZ5.out); exact Lib.hid (keep3 HL5.out HZ5.out (by decide)); exact Lib.hid (keep3 HM5.out HZ5.out (by decide)); exact Lib.hid (keep3 HO5.out HZ5.out (by decide)); exact Lib.hid (below_set3 HB5.out (by first | omega | (simp; omega))); first | omega | (simp; omega))
      | go_loud (exact (0 : Nat)))
  case' rest =>
    obtain ⟨g, va, vs, vt, rfl, HG, HVA, HVS, HVT, HBx, hg⟩ := hcut
    clear f0 f1 f2 f3 g0 g1 g2
    obtain ⟨Aa, ca, rfl, _, _⟩ := own_slice HVA.out
    obtain ⟨As, cs, rfl, _, _⟩ := own_slice HVS.out
    obtain ⟨Av, cv, rfl, _, _⟩ := own_slice HVT.out
    obtain ⟨W1, hW1⟩ : ∃ W, W = wc := ⟨_, rfl⟩
    subst hW1
    have c0 := (HBx.out.cell (p := ⟨z, 0, none⟩) kz).trans HF0.out
    have c1 := (HBx.out.cell (p := ⟨z, 1, none⟩) kz).trans HF1.out
    have c2 := (HBx.out.cell (p := ⟨z, 2, none⟩) kz).trans HF2.out
    have c3 := (HBx.out.cell (p := ⟨z, 3, none⟩) kz).trans HF3.out
    obtain ⟨gh, hgh⟩ : ∃ gh, gh = ghost k := ⟨_, rfl⟩
    have CG0 := CG.out
    rw [← hgh] at CG0
    have HCG := Lib.hid CG0
    have HGH := Lib.hid hgh
    clear CG0 CG hgh
    go_wp2_with fail
    (with_reducible refine (HCG.out _).mono ?_)
    rintro e w2 ⟨rfl, hb2⟩
    have hG2 := HG.out.below hb2
    have hB2 : Below V.heap.size V w2 := HBx.out.trans (hb2.mono HBx.out.size)
    have HA2 := Lib.hid (own_below HVA.out hb2)
    have HS2 := Lib.hid (own_below HVS.out hb2)
    have HT2 := Lib.hid (own_below HVT.out hb2)
    have HADS : Hid (As = none → cs = 0) := fun h => (own_addr HVS.out h).2
    have HADT : Hid (Av = none → cv = 0) := fun h => (own_addr HVT.out h).2
    have HB2 := Lib.hid hB2
    have HG2 := Lib.hid hG2
    obtain ⟨⟨e0, e1, e2⟩, p0, p1, p2⟩ := cells3 hG2
    clear c0 c1 c2 c3 hb2 hG2 hB2 HVA HVS HVT HG HBx HCG
    go_upto_if 21 with fail
    go_cut [5] (fun p wx => p = .pointer (some ⟨g, 0, none⟩) ∧ ∃ vs, Hid (Blk wx g 36 #[.slice Aa (clean (cl ++ MK)).length ca, vs, (.slice Av 0 cv)]) ∧ Hid (wx.ownsRow V.heap.size 9 1 (.slice Aa (clean (cl ++ MK)).length ca) (clean (cl ++ MK)).length (sv (clean (cl ++ MK)))) ∧ Hid (wx.ownsRow V.heap.size 42 2 vs (attrsM k).length (pvS (attrsM k))) ∧ Hid (wx.ownsRow V.heap.size 56 2 (.slice Av 0 cv) ([] : List (ByteArray × Int)).length (pv ([] : List (ByteArray × Int)))) ∧ Hid (Below V.heap.size V wx))
    case first =>
      cases gh
      · have HE : Hid (attrsM k = []) := by show _ = _; unfold attrsM; rw [← HGH.out]; rfl
        go_wp2_with fail
        go_meet
        exact ⟨rfl, .slice As 0 cs, HG2.out, HA2.out, by show World.ownsRow _ _ _ _ _ _ _; rw [HE.out]; exact HS2.out, HT2.out, HB2.out⟩
      · have HE : Hid (attrsM k = [(tGh, ⟨#[]⟩)]) := by show _ = _; unfold attrsM; rw [← HGH.out]; rfl
        have CS := Lib.hid (set_anyS As 0 cs [] tGh ⟨#[]⟩ w2 rfl (by omega) (fun h => ⟨rfl, HADS.out h⟩) (At.nil _ _))
        go_wp2_with fail
        (with_reducible refine CS.out.mono ?_)
        rintro e w3 ⟨v3, rfl, ho, hb3⟩
        obtain ⟨A3, c3, rfl, _, _⟩ := own_slice ho
        have hG3 := HG2.out.below hb3
        have HO3 := Lib.hid (own_mono ho HB2.out.size)
        have HA3 := Lib.hid (own_below HA2.out hb3)
        have HT3 := Lib.hid (own_below HT2.out hb3)
        have HB3 := Lib.hid (HB2.out.trans (hb3.mono HB2.out.size))
        obtain ⟨⟨d0, d1, d2⟩, o0, o1, o2⟩ := cells3 hG3
        have HG3 := Lib.hid hG3
        clear ho hb3 hG3 e0 e1 e2 p0 p1 p2
        go_wp2_with fail
        go_meet
        refine ⟨rfl, .slice A3 (ofP (V := ByteArray) ([] ++ [(tGh, ⟨#[]⟩)])).length c3, ?_, ?_, ?_, ?_, ?_⟩
        · exact Lib.hid (HG3.out.set 1 _)
        · exact Lib.hid (one_keep HA3.out HG3.out (by decide))
        · show World.ownsRow _ _ _ _ _ _ _
          rw [HE.out]
          exact one_keep HO3.out HG3.out (by decide)
        · exact Lib.hid (one_keep HT3.out HG3.out (by decide))
        · exact Lib.hid (HB3.out.setCell (p := ⟨g, 1, none⟩) hg _)
    case' rest =>
      obtain ⟨rfl, vs, HG4, HA4, HS4, HT4, HB4⟩ := hcut
    clear e0 e1 e2 p0 p1 p2
    rename World => wq
    obtain ⟨Ab, cb, rfl, _, _⟩ := own_slice HS4.out
    have c1 := (HB4.out.cell (p := ⟨z, 1, none⟩) kz).trans HF1.out
    have c2 := (HB4.out.cell (p := ⟨z, 2, none⟩) kz).trans HF2.out
    have c3 := (HB4.out.cell (p := ⟨z, 3, none⟩) kz).trans HF3.out
    obtain ⟨⟨e0, e1, e2⟩, p0, p1, p2⟩ := cells3 HG4.out
    go_upto_if 28 with fail
    go_cut [5] (fun p wx => p = .pointer (some ⟨g, 0, none⟩) ∧ ∃ vt, Hid (Blk wx g 36 #[.slice Aa (clean (cl ++ MK)).length ca, (.slice Ab (attrsM k).length cb), vt]) ∧ Hid (wx.ownsRow V.heap.size 9 1 (.slice Aa (clean (cl ++ MK)).length ca) (clean (cl ++ MK)).length (sv (clean (cl ++ MK)))) ∧ Hid (wx.ownsRow V.heap.size 42 2 (.slice Ab (attrsM k).length cb) (attrsM k).length (pvS (attrsM k))) ∧ Hid (wx.ownsRow V.heap.size 56 2 vt (stylesM m x y).length (pv (stylesM m x y))) ∧ Hid (Below V.heap.size V wx))
    case first =>
      by_cases hm : m = 1
      · have HE : Hid (stylesM m x y = [(tDX, x), (tDY, y)]) := by show _ = _; unfold stylesM; rw [if_pos hm]
        have bm : (m == 1) = true := by simpa using hm
        clear hm
        have kq : z < wq.heap.size := Nat.lt_of_lt_of_le kz HB4.out.size
        have C1 := Lib.hid (fun W => set_any Av 0 cv [] tDX x W rfl (by omega) (fun h => ⟨rfl, HADT.out h⟩) (At.nil _ _))
        go_upto_region 5 with fail
        first | go_region_with (first
          | (go_at_call 26; (with_reducible refine (C1.out _).mono ?_); rintro e9 w5 ⟨v5, rfl, ho, hb⟩; rw [show ofP (V := Int) ([] ++ [(tDX, x)]) = [(tDX, x)] from rfl] at ho; obtain ⟨A5, c5, rfl, _, _, hat5⟩ := at_of_own' ho; have HAD5 := Lib.hid (own_addr ho); have HAT5 := Lib.hid hat5; have B5 : Below wq.heap.size wq w5 := below_join (by first | exact Below.refl _ _ | exact Below_drew (Below.refl _ _)) hb; have y5 := (B5.cell (p := ⟨z, 3, none⟩) kq).trans c3; have G5 := HG4.out.below B5; obtain ⟨⟨d0, d1, d2⟩, o0, o1, o2⟩ := cells3 G5; have HB5 := Lib.hid B5; clear ho hb hat5 B5 G5)
          | (go_at_call 26; (with_reducible refine (set_any A5 _ c5 [(tDX, x)] tDY y _ (by first | rfl | (simp; done)) (by first | omega | (simp; done)) (by first | exact HAD5.out | (intro h; have h9 := HAD5.out h; simpa using h9)) HAT5.out).mono ?_); rintro e9 w6 ⟨v6, rfl, ho, hb⟩; rw [styles_set2] at ho; obtain ⟨A6, c6, rfl, _, _⟩ := own_slice ho; have B6 : Below wq.heap.size wq w6 := below_join (by first | exact HB5.out | exact Below_drew HB5.out) hb; have HO6 := Lib.hid (own_mono ho (show wq.heap.size ≤ _ from HB5.out.size)); have G6 := HG4.out.below B6; obtain ⟨⟨d0, d1, d2⟩, o0, o1, o2⟩ := cells3 G6; have HB6 := Lib.hid B6; have HG6 := Lib.hid G6; clear ho hb B6 G6)) | fail
        all_goals (go_wp2_with fail; go_meet; exact ⟨rfl, .slice A6 [(tDX, x), (tDY, y)].length c6, Lib.hid (HG6.out.set 2 _), Lib.hid (one_keep (own_below HA4.out HB6.out) HG6.out (by decide)), Lib.hid (one_keep (own_below HS4.out HB6.out) HG6.out (by decide)), (by show World.ownsRow _ _ _ _ _ _ _; rw [HE.out]; have h9 := one_keep (j := 2) (x := .slice A6 [(tDX, x), (tDY, y)].length c6) (own_mono HO6.out HB4.out.size) HG6.out (by decide); exact h9), Lib.hid ((HB4.out.trans (HB6.out.mono HB4.out.size)).setCell (p := ⟨g, 2, none⟩) hg _)⟩)
      · have HE : Hid (stylesM m x y = []) := by show _ = _; unfold stylesM; rw [if_neg hm]
        have bm : (m == 1) = false := by simpa using hm
        clear hm
        go_wp2_with fail
        go_meet
        exact ⟨rfl, .slice Av 0 cv, HG4.out, HA4.out, HS4.out, by show World.ownsRow _ _ _ _ _ _ _; rw [HE.out]; exact HT4.out, HB4.out⟩
    case' rest =>
      obtain ⟨rfl, vt, HG7, HA7, HS7, HT7, HB7⟩ := hcut
    clear e0 e1 e2 p0 p1 p2 c1 c2 c3
    rename World => wz
    obtain ⟨Ad, cd, rfl, _, _⟩ := own_slice HT7.out
    have hr7 : Blk wz (z1 + 1) 36 #[.slice none 0 0, .slice none 0 0, .slice none 0 0] := by
      have h9 := (HB7.out.block _ HR0.out.lt).trans HR0.out
      rw [HZQ.out, HZ.out]
      exact h9
    obtain ⟨⟨d0, d1, d2⟩, o0, o1, o2⟩ := cells3 HG7.out
    obtain ⟨⟨q0, q1, q2⟩, s0, s1, s2⟩ := cells3 hr7
    have HR7 := Lib.hid hr7
    have hne : g ≠ z1 + 1 := by have := HZQ.out; have := HZ.out; have := HZV.out; omega
    have hne' : z1 + 1 ≠ g := fun e => hne e.symm
    have hzz : w.heap.size ≤ z1 + 1 := by have := HZQ.out; have := HZ.out; omega
    have hVw : w.heap.size ≤ V.heap.size := by have := HZV.out; omega
    clear hr7
    go_wp2
    (try simp only [Exit.inBlock, Exit.then])
    refine bodyPost_ret (results_cell_row rfl _ _ (z1 + 1) 36 _ (0, 0) _ rfl (blk_set3 HR7.out) Try.underlying36 rfl (by kernel_rfl)) rfl ?_
    refine ⟨.slice Aa (clean (cl ++ MK)).length ca, .slice Ab (attrsM k).length cb, .slice Ad (stylesM m x y).length cd, rfl, ?_, ?_, ?_, ?_⟩
    · rw [← HMK.out]
      exact own_mono (keep3 HA7.out HR7.out (by decide)) hVw
    · exact own_mono (keep3 HS7.out HR7.out (by decide)) hVw
    · exact own_mono (keep3 HT7.out HR7.out (by decide)) hVw
    · exact below_set3 (HB0.out.trans (HB7.out.mono hVw)) hzz
end Ds
end Go.Proofs.Ytcboeehmhpkodaa
