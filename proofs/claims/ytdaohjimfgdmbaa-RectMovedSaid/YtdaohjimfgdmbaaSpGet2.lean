/- Contract of (rect.Snap).Get: the rectangle of the last entry of a number. -/
import Derived.Test.YtdaohjimfgdmbaaSpGet
namespace Go.Proofs.Ytdaohjimfgdmbaa
open Go.RowKit Go.Shelf Sn
attribute [local go_sem] Oper.semAt_some
/-- what the rounds of Get keep. -/
def GetI (w : World) (g : Nat) (A : Option Addr) (n c : Nat) (id : Int) (L : List En) (pre : List Nat) (W : World) : Prop :=
  ((∀ k ∈ pre, (el L k).id ≠ id) ∧ Blk W g 3 #[.int .i64 id] ∧ Blk W (g + 1) 29 #[.int .i64 0, .int .i64 0, .int .i64 0, .int .i64 0] ∧ Blk W (g + 1 + 1) 4 #[.bool false] ∧ Blk W (g + 1 + 1 + 1) 25 #[.slice A n c]) ∧ Below w.heap.size w W
/-- what the round that leaves has laid. -/
def GetX (w : World) (g : Nat) (id : Int) (L : List En) (co : Code) (pre : List Nat) (W : World) : Prop :=
  ((co = .ret ∧ ∃ p k, pre = p ++ [k] ∧ (el L k).id = id ∧ ∀ j ∈ p, (el L j).id ≠ id) ∧ Blk W (g + 1) 29 #[.int .i64 (el L (pre.getLast?.getD 0)).x, .int .i64 (el L (pre.getLast?.getD 0)).y, .int .i64 (el L (pre.getLast?.getD 0)).w, .int .i64 (el L (pre.getLast?.getD 0)).h] ∧ Blk W (g + 1 + 1) 4 #[.bool true]) ∧ Below w.heap.size w W
theorem getI_own {w : World} {g : Nat} {A : Option Addr} {n c : Nat} {id : Int} {L : List En} {B : Nat} (hB : w.heap.size ≤ B) : OwnFrom B (GetI w g A n c id L) :=
  OwnFrom.and (OwnFrom.and (ownFrom_pure _ (fun pre : List Nat => ∀ k ∈ pre, (el L k).id ≠ id)) (OwnFrom.and (Own.from (blk_own g 3 (fun _ => #[.int .i64 id])) _) (OwnFrom.and (Own.from (blk_own (g + 1) 29 (fun _ => #[.int .i64 0, .int .i64 0, .int .i64 0, .int .i64 0])) _) (OwnFrom.and (Own.from (blk_own (g + 1 + 1) 4 (fun _ => #[.bool false])) _) (Own.from (blk_own (g + 1 + 1 + 1) 25 (fun _ => #[.slice A n c])) _))))) (ownFrom_below (Nat.le_refl _) hB)
theorem getX_own {w : World} {g : Nat} {id : Int} {L : List En} {B : Nat} (hB : w.heap.size ≤ B) (co : Code) : OwnFrom B (GetX w g id L co) :=
  OwnFrom.and (OwnFrom.and (ownFrom_pure _ (fun pre : List Nat => co = .ret ∧ ∃ p k, pre = p ++ [k] ∧ (el L k).id = id ∧ ∀ j ∈ p, (el L j).id ≠ id)) (OwnFrom.and (Own.from (blk_own (g + 1) 29 (fun pre : List Nat => #[.int .i64 (el L (pre.getLast?.getD 0)).x, .int .i64 (el L (pre.getLast?.getD 0)).y, .int .i64 (el L (pre.getLast?.getD 0)).w, .int .i64 (el L (pre.getLast?.getD 0)).h])) _) (Own.from (blk_own (g + 1 + 1) 4 (fun _ => #[.bool true])) _))) (ownFrom_below (Nat.le_refl _) hB)
set_option maxHeartbeats 4000000 in
set_option maxRecDepth 100000 in
theorem snapGet_any (A : Option Addr) (n c : Nat) (L : List En) (id : Int) (w : World) (hn : n = L.length) (hb : n ≤ 1000000) (ha : At w A (ecs L)) :
    Calls Try.prog 12 #[.slice A n c, .int .i64 id] w fun e w' => e = .returned (gotV (lastAt En.id L id)) ∧ Below w.heap.size w w' := by
  have HN := Lib.hid hn
  clear hn
  refine (callsIn_wide (n := 5)).1 ?_
  refine callsIn_of_wp_marks Try.func12 rfl trivial ?_ rfl
  simp only [Try.ntmps12, List.size_toArray, List.length_cons, List.length_nil, Nat.reduceAdd, Nat.reduceSub, Array.replicate_succ, Array.replicate_zero, List.push_toArray, List.append_toArray, List.nil_append, List.cons_append]
  gi_wp2_with fail
  refine ⟨trivial, (snapBack_in Fence.wide _ trivial rfl A n c _).mono ?_⟩
  rintro e w1 ⟨rfl, rfl⟩
  gi_wp2_with fail
  obtain ⟨W0, hW0⟩ : ∃ W0, (((w.alloc (.cells #[.int .i64 id] 3)).alloc (.cells #[.int .i64 0, .int .i64 0, .int .i64 0, .int .i64 0] 29)).alloc (.cells #[.bool false] 4)).alloc (.cells #[.slice A n c] 25) = W0 := ⟨_, rfl⟩
  have hB0 : Below w.heap.size w W0 := by rw [← hW0]; exact (((below_alloc w _).alloc (by simp) _).alloc (by simp; omega) _).alloc (by simp; omega) _
  have hsz : W0.heap.size = w.heap.size + 1 + 1 + 1 + 1 := by rw [← hW0]; simp
  have b0 : Blk W0 w.heap.size 3 #[.int .i64 id] := by rw [← hW0]; exact (((Blk.new w _ _).alloc _).alloc _).alloc _
  have b1 : Blk W0 (w.heap.size + 1) 29 #[.int .i64 0, .int .i64 0, .int .i64 0, .int .i64 0] := by rw [← hW0]; exact ((Blk.new' _ _ _ _ (by simp)).alloc _).alloc _
  have b2 : Blk W0 (w.heap.size + 1 + 1) 4 #[.bool false] := by rw [← hW0]; exact (Blk.new' _ _ _ _ (by simp)).alloc _
  have b3 : Blk W0 (w.heap.size + 1 + 1 + 1) 25 #[.slice A n c] := by rw [← hW0]; exact Blk.new' _ _ _ _ (by simp)
  try simp only [World.size_alloc]
  rw [hW0]
  clear hW0
  have h0 : GetI w w.heap.size A n c id L [] W0 := ⟨⟨by simp, b0, b1, b2, b3⟩, hB0⟩
  obtain ⟨g, hg⟩ : ∃ g, g = w.heap.size := ⟨_, rfl⟩
  rw [← hg] at b0 b1 b2 b3 hsz ⊢
  have h0 : GetI w g A n c id L [] W0 := by rw [hg]; exact h0
  have HG := Lib.hid hg
  clear hg
  refine wpIn_rangeFunc_ownH rfl (by omega) (gf := 57) (lb := #[.pointer (some ⟨g + 1 + 1 + 1, 0, none⟩)]) rfl trivial (enters_of Try.func57 (by kernel_rfl) rfl)
    (snapBack_stops Fence.wide _ trivial rfl (by omega) w W0 (g + 1 + 1 + 1) A n c L HN.out hb ha hB0 b3) (fun h k => h.trans k)
    (fun W l o o' hl ho hc hw => ⟨belowK_b (w := W0) hB0.size W l o o' hl ho hc hw, World.putObj_heap_other (by omega)⟩) (Below.refl _ _) (fun _ => rfl)
    (GetI w g A n c id L) (GetX w g id L) (getI_own hB0.size) (getX_own hB0.size) h0
    (fun k a' W => ∃ Bx, g + 1 + 1 + 1 < Bx ∧ Blk W Bx 74 #[.int .i64 (el L k).id, .int .i64 (el L k).x, .int .i64 (el L k).y, .int .i64 (el L k).w, .int .i64 (el L k).h] ∧ a' = { tmps := #[.slice A n c, .int .i64 id, undef, .pointer (some ⟨g, 0, none⟩), .pointer (some ⟨g + 1, 0, none⟩), .pointer (some ⟨g + 1 + 1, 0, none⟩), undef, .pointer (some ⟨Bx, 0, none⟩), .slice A n c, .func (.func 57) #[] #[.pointer (some ⟨g + 1 + 1 + 1, 0, none⟩)], .int .i64 (k : Nat), .agg #[.int .i64 (el L k).id, .int .i64 (el L k).x, .int .i64 (el L k).y, .int .i64 (el L k).w, .int .i64 (el L k).h], undef, undef, undef, undef, undef, undef, undef], defers := [] })
    (fun k a' _ X Y row hs hg hr => by obtain ⟨Bx, h1, h2, h3⟩ := hs; exact ⟨Bx, h1, blk_own Bx 74 (fun (_ : Unit) => #[.int .i64 (el L k).id, .int .i64 (el L k).x, .int .i64 (el L k).y, .int .i64 (el L k).w, .int .i64 (el L k).h]) () X Y row h2 hg (fun r e => (hr r e).2), h3⟩)
    ?assign ?body ?done ?stop
  case assign =>
    rintro l pre k W K ⟨⟨hp, b0, b1, b2, b3⟩, hB⟩ hK
    unfold encE
    gi_wp2
    exact hK _ _ ((KeepsOthers.alloc _ _).from _) ⟨(Below.refl _ W).alloc hB.size _, Below.heap_alloc W _ _ b3.lt⟩ ⟨⟨hp, b0.alloc _, b1.alloc _, b2.alloc _, b3.alloc _⟩, hB.alloc hB.size _⟩ ⟨W.heap.size, b3.lt, Blk.new W _ _, rfl⟩
  case body =>
    rintro l pre k a' W hl ⟨r, hr⟩ ⟨⟨hp, b0, b1, b2, b3⟩, hB⟩ ⟨Bx, hBx, bX, rfl⟩ hlt
    have HP := Lib.hid hp
    have HB := Lib.hid hB
    have B0 := Lib.hid b0
    have B1 := Lib.hid b1
    have B2 := Lib.hid b2
    have B3 := Lib.hid b3
    have hgw : w.heap.size ≤ g := by have := HG.out; omega
    have c0 := b0.cell 0 (v := .int .i64 id) rfl
    obtain ⟨x0, hx0⟩ : ∃ x, x = (el L k).id := ⟨_, rfl⟩
    have d0 := bX.cell 0 (v := .int .i64 (el L k).id) rfl
    have d1 := bX.cell 1 (v := .int .i64 (el L k).x) rfl
    have d2 := bX.cell 2 (v := .int .i64 (el L k).y) rfl
    have d3 := bX.cell 3 (v := .int .i64 (el L k).w) rfl
    have d4 := bX.cell 4 (v := .int .i64 (el L k).h) rfl
    have r0 := b1.cell 0 (v := .int .i64 0) rfl
    have r1 := b1.cell 1 (v := .int .i64 0) rfl
    have r2 := b1.cell 2 (v := .int .i64 0) rfl
    have r3 := b1.cell 3 (v := .int .i64 0) rfl
    have f0 := b1.frozen 0
    have f1 := b1.frozen 1
    have f2 := b1.frozen 2
    have f3 := b1.frozen 3
    have s0 := b2.cell 0 (v := .bool false) rfl
    have t0 := b2.frozen 0
    clear hp hB b0 b1 b2 b3 bX hr hl hlt hsz hb ha h0 hB0
    by_cases hid : (el L k).id = id
    · have hq : ((el L k).id == id) = true := by simpa using hid
      have HID := Lib.hid hid
      clear hid
      have E : Hid ((el L (((pre ++ [k]).getLast?).getD 0)) = el L k) := by show _ = _; simp
      gi_wp2
      refine ⟨((((KeepsOthers.setCell _ _ _).trans (KeepsOthers.setCell _ _ _)).trans (KeepsOthers.setCell _ _ _)).trans (KeepsOthers.setCell _ _ _)).trans (KeepsOthers.setCell _ _ _) |>.from _, ⟨⟨rfl, pre, k, rfl, HID.out, HP.out⟩, ?_, ?_⟩, ?_⟩
      · rw [E.out]
        exact ((((B1.out.set 0 _).set 1 _).set 2 _).set 3 _).other _ _ _ (by omega)
      · exact ((((B2.out.other _ _ _ (by omega)).other _ _ _ (by omega)).other _ _ _ (by omega)).other _ _ _ (by omega)).set 0 _
      · exact ((((HB.out.setCell (p := ⟨g + 1, 0, none⟩) (by dsimp only; omega) _).setCell (p := ⟨g + 1, 1, none⟩) (by dsimp only; omega) _).setCell (p := ⟨g + 1, 2, none⟩) (by dsimp only; omega) _).setCell (p := ⟨g + 1, 3, none⟩) (by dsimp only; omega) _).setCell (p := ⟨g + 1 + 1, 0, none⟩) (by dsimp only; omega) _
    · have hq : ((el L k).id == id) = false := by simpa using hid
      have HID := Lib.hid hid
      clear hid
      gi_wp2
      exact ⟨(KeepsOthers.refl _).from _, KpB.refl _ _ _, ⟨⟨fun y hy => (List.mem_append.1 hy).elim (HP.out y) (fun e => by rw [List.mem_singleton.1 e]; exact HID.out), B0.out, B1.out, B2.out, B3.out⟩, HB.out⟩⟩
  case done =>
    rintro D ys W hD rfl ⟨⟨hp, b0, b1, b2, b3⟩, hB⟩ hK
    have HP := Lib.hid hp
    have HB := Lib.hid hB
    have B1 := Lib.hid b1
    have B2 := Lib.hid b2
    have HD := Lib.hid (show g + 1 + 1 + 1 < D by omega)
    have HDW : Hid (w.heap.size ≤ D) := Nat.le_trans hB0.size hD
    have HK := Lib.hid hK
    have hgw : w.heap.size ≤ g := by have := HG.out; omega
    have r0 := b1.cell 0 (v := .int .i64 0) rfl
    have r1 := b1.cell 1 (v := .int .i64 0) rfl
    have r2 := b1.cell 2 (v := .int .i64 0) rfl
    have r3 := b1.cell 3 (v := .int .i64 0) rfl
    have f0 := b1.frozen 0
    have f1 := b1.frozen 1
    have f2 := b1.frozen 2
    have f3 := b1.frozen 3
    have s0 := b2.cell 0 (v := .bool false) rfl
    have t0 := b2.frozen 0
    clear hp hB b0 b1 b2 b3 hK hsz hb ha h0 hB0 hD
    gi_wp2
    obtain ⟨V, hV⟩ : ∃ V, V = ((((W.setCell ⟨g + 1, 0, none⟩ (.int .i64 0)).setCell ⟨g + 1, 1, none⟩ (.int .i64 0)).setCell ⟨g + 1, 2, none⟩ (.int .i64 0)).setCell ⟨g + 1, 3, none⟩ (.int .i64 0)).setCell ⟨g + 1 + 1, 0, none⟩ (.bool false) := ⟨_, rfl⟩
    rw [← hV]
    have k1 : Blk V (g + 1) 29 #[.int .i64 0, .int .i64 0, .int .i64 0, .int .i64 0] := by rw [hV]; exact ((((B1.out.set 0 _).set 1 _).set 2 _).set 3 _).other _ _ _ (by omega)
    have k2 : Blk V (g + 1 + 1) 4 #[.bool false] := by rw [hV]; exact ((((B2.out.other _ _ _ (by omega)).other _ _ _ (by omega)).other _ _ _ (by omega)).other _ _ _ (by omega)).set 0 _
    have hKV : V.heap[D]? = some (.deferred (some [])) := by
      rw [hV]
      exact (((((KeepsOthers.setCell _ _ _).trans (KeepsOthers.setCell _ _ _)).trans (KeepsOthers.setCell _ _ _)).trans (KeepsOthers.setCell _ _ _)).trans (KeepsOthers.setCell _ _ _)).same D _ HK.out rfl
    have hBV : Below w.heap.size w V := by
      rw [hV]
      exact ((((HB.out.setCell (p := ⟨g + 1, 0, none⟩) (by dsimp only; omega) _).setCell (p := ⟨g + 1, 1, none⟩) (by dsimp only; omega) _).setCell (p := ⟨g + 1, 2, none⟩) (by dsimp only; omega) _).setCell (p := ⟨g + 1, 3, none⟩) (by dsimp only; omega) _).setCell (p := ⟨g + 1 + 1, 0, none⟩) (by dsimp only; omega) _
    clear hV
    have hD := HD.out
    refine ⟨by simp, .inl ⟨_, _, rfl, run_takeDeferred hKV, ?_⟩⟩
    have q1 : Blk (V.putObj D (.deferred none)) (g + 1) 29 #[.int .i64 0, .int .i64 0, .int .i64 0, .int .i64 0] := (World.putObj_heap_other (by omega)).trans k1
    have q2 : Blk (V.putObj D (.deferred none)) (g + 1 + 1) 4 #[.bool false] := (World.putObj_heap_other (by omega)).trans k2
    have u0 := q1.cell 0 (v := .int .i64 0) rfl
    have u1 := q1.cell 1 (v := .int .i64 0) rfl
    have u2 := q1.cell 2 (v := .int .i64 0) rfl
    have u3 := q1.cell 3 (v := .int .i64 0) rfl
    have v0 := q2.cell 0 (v := .bool false) rfl
    refine ⟨.tuple #[.agg #[.int .i64 0, .int .i64 0, .int .i64 0, .int .i64 0], .bool false], ?_, ?_, hBV.trans (belowK_b (w := w) (Nat.le_refl _) V D _ _ HDW.out hKV rfl rfl)⟩
    · simp [results, Try.f12, go_sem, u0, u1, u2, u3, v0]
    · rw [show lastAt En.id L id = none from lastAt_no fun j hj => HP.out j ((bk_mem (Nat.le_refl _)).2 (by have := HN.out; omega))]
      rfl
  case stop =>
    rintro D co pre W hD ⟨m, hm, rfl⟩ ⟨⟨⟨rfl, p, k, hpk, hid, hp⟩, b1, b2⟩, hB⟩ hK
    have hlast : (bk n m).getLast?.getD 0 = k := by rw [hpk]; simp
    rw [hlast] at b1
    obtain ⟨hm0, hkm, hrest⟩ := bk_last hm hpk
    have hgot : lastAt En.id L id = some (el L k) := lastAt_of (by have := HN.out; omega) hid (fun j h1 h2 => hp j (hrest j h1 (by have := HN.out; omega)))
    have HGT := Lib.hid hgot
    have HDW : Hid (w.heap.size ≤ D) := Nat.le_trans hB0.size hD
    have HD := Lib.hid (show g + 1 + 1 + 1 < D by omega)
    clear hgot hrest hkm hm0 hlast hpk hid hp hsz hb ha h0 hB0 hD hm
    gi_wp2
    have hD := HD.out
    refine ⟨by simp, .inl ⟨_, _, rfl, run_takeDeferred hK, ?_⟩⟩
    have q1 : Blk (W.putObj D (.deferred none)) (g + 1) 29 _ := (World.putObj_heap_other (by omega)).trans b1
    have q2 : Blk (W.putObj D (.deferred none)) (g + 1 + 1) 4 #[.bool true] := (World.putObj_heap_other (by omega)).trans b2
    have u0 := q1.cell 0 (v := .int .i64 (el L k).x) rfl
    have u1 := q1.cell 1 (v := .int .i64 (el L k).y) rfl
    have u2 := q1.cell 2 (v := .int .i64 (el L k).w) rfl
    have u3 := q1.cell 3 (v := .int .i64 (el L k).h) rfl
    have v0 := q2.cell 0 (v := .bool true) rfl
    refine ⟨.tuple #[.agg #[.int .i64 (el L k).x, .int .i64 (el L k).y, .int .i64 (el L k).w, .int .i64 (el L k).h], .bool true], ?_, by rw [HGT.out]; rfl, hB.trans (belowK_b (w := w) (Nat.le_refl _) W D _ _ HDW.out hK rfl rfl)⟩
    simp [results, Try.f12, go_sem, u0, u1, u2, u3, v0]
end Go.Proofs.Ytdaohjimfgdmbaa
