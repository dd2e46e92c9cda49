/- A line of a log's text, by the program. -/
import Derived.Test.YtbekoockmageoaaDoorHkT1
import Derived.Deep.RegionHeld3
namespace Go.Proofs.YtbekoockmageoaaDoor
open Go.RowKit Hk
set_option linter.unusedVariables false
attribute [-go_sem] run_string_add_if
theorem below_heap {B : Nat} {a w w' : World} (h : Below B a w) (h1 : w'.heap = w.heap) (h2 : w'.os = w.os) (h3 : w'.tape = w.tape) (h4 : w'.output = w.output) : Below B a w' :=
  ⟨h2.trans h.os, h3.trans h.tape, h4.trans h.output, by rw [h1]; exact h.size, fun j hj => by rw [h1]; exact h.block j hj⟩
theorem below_join {a b c : World} (h : Below a.heap.size a b) (k : Below b.heap.size b c) : Below a.heap.size a c := h.trans (k.mono h.size)
theorem add_ok (a b : ByteArray) (h : a.size + b.size ≤ 9223372036854775807) : ∀ w : World, (Op.stringOp .add a b).run Tryd.prog w = .ok (.string (a ++ b)) w := fun w => run_string_add_sum w a b h
theorem line_steps (G s N u : ByteArray) (h1 : G.size ≤ 21) (h2 : s.size ≤ 20) (h3 : N.size ≤ 21) (h4 : u.size ≤ 21) : ∃ t1 t2 t3 t4 t5 t6 t7 : ByteArray,
    (∀ w : World, (Op.stringOp .add G ⟨#[32]⟩).run Tryd.prog w = .ok (.string t1) w) ∧ (∀ w : World, (Op.stringOp .add t1 s).run Tryd.prog w = .ok (.string t2) w) ∧ (∀ w : World, (Op.stringOp .add t2 ⟨#[32]⟩).run Tryd.prog w = .ok (.string t3) w) ∧
    (∀ w : World, (Op.stringOp .add t3 N).run Tryd.prog w = .ok (.string t4) w) ∧ (∀ w : World, (Op.stringOp .add t4 ⟨#[32]⟩).run Tryd.prog w = .ok (.string t5) w) ∧ (∀ w : World, (Op.stringOp .add t5 u).run Tryd.prog w = .ok (.string t6) w) ∧
    (∀ w : World, (Op.stringOp .add t6 ⟨#[10]⟩).run Tryd.prog w = .ok (.string t7) w) ∧ t7 = G ++ spB ++ s ++ spB ++ N ++ spB ++ u ++ nlB ∧ t7.size ≤ 100 := by
  have e1 : spB.size = 1 := rfl
  have e2 : nlB.size = 1 := rfl
  refine ⟨G ++ spB, G ++ spB ++ s, G ++ spB ++ s ++ spB, G ++ spB ++ s ++ spB ++ N, G ++ spB ++ s ++ spB ++ N ++ spB, G ++ spB ++ s ++ spB ++ N ++ spB ++ u, _, add_ok _ spB ?_, add_ok _ _ ?_, add_ok _ spB ?_, add_ok _ _ ?_, add_ok _ spB ?_, add_ok _ _ ?_, add_ok _ nlB ?_, rfl, ?_⟩
  all_goals
    simp only [ByteArray.size_append, e1, e2]
    omega
set_option maxHeartbeats 4000000 in
set_option maxRecDepth 100000 in
theorem line_any (g n h : Int) (s : ByteArray) (w : World) (hg : (Lit.int .i64 g).wf = true) (hn : (Lit.int .i64 n).wf = true) (hh : (Lit.int .i64 h).wf = true) (hs : s.size ≤ 20) (ht : Tab w) (hm : NmIs w) :
    Calls Tryd.prog 26 #[.agg #[.int .i64 g, .int .i64 n, .int .i64 h, .string s]] w fun e w' => e = .returned (.string (lineB g n h s)) ∧ Below w.heap.size w w' := by
  have HG := Lib.hid hg
  have HN := Lib.hid hn
  have HH := Lib.hid hh
  have HT := Lib.hid ht
  have HM := Lib.hid hm
  have HS := Lib.hid hs
  clear hg hn hh ht hm hs
  go_enter Tryd.func26, Tryd.ntmps26
  go_wp2_with fail
  have x0 : (w.alloc (.cells #[.int .i64 g, .int .i64 n, .int .i64 h, .string s] 46)).cell? ⟨w.heap.size, 0, none⟩ = some (.int .i64 g) := by simp
  have x1 : (w.alloc (.cells #[.int .i64 g, .int .i64 n, .int .i64 h, .string s] 46)).cell? ⟨w.heap.size, 1, none⟩ = some (.int .i64 n) := by simp
  have x2 : (w.alloc (.cells #[.int .i64 g, .int .i64 n, .int .i64 h, .string s] 46)).cell? ⟨w.heap.size, 2, none⟩ = some (.int .i64 h) := by simp
  have x3 : (w.alloc (.cells #[.int .i64 g, .int .i64 n, .int .i64 h, .string s] 46)).cell? ⟨w.heap.size, 3, none⟩ = some (.string s) := by simp
  have lr : w.heap.size < (w.alloc (.cells #[.int .i64 g, .int .i64 n, .int .i64 h, .string s] 46)).heap.size := by simp
  have HBX : Hid (Below w.heap.size w (w.alloc (.cells #[.int .i64 g, .int .i64 n, .int .i64 h, .string s] 46))) := below_alloc w _
  generalize w.alloc (.cells #[.int .i64 g, .int .i64 n, .int .i64 h, .string s] 46) = X at x0 x1 x2 x3 lr HBX ⊢
  obtain ⟨r, hr⟩ : ∃ r, r = w.heap.size := ⟨_, rfl⟩
  rw [← hr] at x0 x1 x2 x3 lr ⊢
  have HR := Lib.hid hr
  clear hr
  have X0 := Lib.hid x0
  have X1 := Lib.hid x1
  have X3 := Lib.hid x3
  have LR := Lib.hid lr
  (with_reducible refine (name_any h _ (HM.out.below HBX.out)).mono ?_)
  rintro e w1 ⟨rfl, rfl⟩
  by_cases hz : nameB h = ⟨#[]⟩
  · rw [hz]
    have HU0 : Hid (hookB h = itoaB h) := Lib.hid (by unfold hookB; rw [if_pos hz])
    clear hz
    go_wp2_with fail
    (with_reducible refine (itoa_bel h _ HH.out (tab_below HT.out HBX.out)).mono ?_)
    rintro e w2 ⟨rfl, hb2⟩
    have Y0 := Lib.hid ((hb2.cell (p := ⟨r, 0, none⟩) LR.out).trans X0.out)
    have Y1 := Lib.hid ((hb2.cell (p := ⟨r, 1, none⟩) LR.out).trans X1.out)
    have Y3 := Lib.hid ((hb2.cell (p := ⟨r, 3, none⟩) LR.out).trans X3.out)
    have LY := Lib.hid (Nat.lt_of_lt_of_le LR.out hb2.size)
    have HBY := Lib.hid (HBX.out.trans (hb2.mono HBX.out.size))
    clear hb2 x0 x1 x2 x3 lr X0 X1 X3 LR HBX
    have X0 := Y0
    have X1 := Y1
    have X3 := Y3
    have LR := LY
    have HBX := HBY
    clear Y0 Y1 Y3 LY HBY
    generalize w2 = X2 at X0 X1 X3 LR HBX ⊢
    have HUZ := Lib.hid (itoaB_le h HH.out)
    generalize itoaB h = u at HU0 HUZ ⊢
    have HU := HU0
    go_wp2_with fail
    have HUS : Hid (u.size ≤ 21) := Lib.hid HUZ.out
    obtain ⟨G, hG⟩ : ∃ G, G = itoaB g := ⟨_, rfl⟩
    obtain ⟨N, hN⟩ : ∃ N, N = itoaB n := ⟨_, rfl⟩
    obtain ⟨t1, t2, t3, t4, t5, t6, t7, e1, e2, e3, e4, e5, e6, e7, ht, hz7⟩ := line_steps G s N u (by rw [hG]; exact itoaB_le g HG.out) HS.out (by rw [hN]; exact itoaB_le n HN.out) HUS.out
    have HL7 : Hid (t7 = lineB g n h s) := Lib.hid (by rw [ht]; unfold lineB; rw [HU.out, hG, hN])
    have HGE : Hid (itoaB g = G) := Lib.hid hG.symm
    have HNE : Hid (itoaB n = N) := Lib.hid hN.symm
    clear ht hG hN
    have HXT : Hid (Tab X2) := Lib.hid (tab_below HT.out HBX.out)
    have x0 := X0.out
    have x1 := X1.out
    have x3 := X3.out
    have HBB := Below.refl X2.heap.size X2
    go_region_held3 (fun w' => w'.cell? ⟨r, 0, none⟩ = some (.int .i64 g) ∧ w'.cell? ⟨r, 1, none⟩ = some (.int .i64 n) ∧ w'.cell? ⟨r, 3, none⟩ = some (.string s) ∧ Below X2.heap.size X2 w') (first | (refine ⟨?_, ?_, ?_, ?_⟩ <;> first | assumption | (refine below_more ?_ _; assumption) | (refine Lib.cell?_alloc_some _ ?_; assumption) | exact Below_drew HBB | exact below_heap HBB rfl rfl rfl rfl) | go_keep | exact below_heap HBB rfl rfl rfl rfl) (first | (go_at_call 28; go_split_ands; (with_reducible refine (itoa_bel g _ HG.out ?_).mono ?_); (refine tab_below HXT.out ?_; assumption); rintro e9 w5 ⟨rfl, hbw5⟩; rw [HGE.out]; have Bw5 : Below X2.heap.size X2 w5 := below_join (by assumption) hbw5; have HBw5 := Lib.hid Bw5; have rw50 := (Bw5.cell (p := ⟨r, 0, none⟩) LR.out).trans X0.out; have rw51 := (Bw5.cell (p := ⟨r, 1, none⟩) LR.out).trans X1.out; have rw52 := (Bw5.cell (p := ⟨r, 3, none⟩) LR.out).trans X3.out) | (go_at_call 28; go_split_ands; (with_reducible refine (itoa_bel n _ HN.out ?_).mono ?_); (refine tab_below HXT.out ?_; assumption); rintro e9 w6 ⟨rfl, hbw6⟩; rw [HNE.out]; have Bw6 : Below X2.heap.size X2 w6 := below_join (by assumption) hbw6; have HBw6 := Lib.hid Bw6; have rw60 := (Bw6.cell (p := ⟨r, 0, none⟩) LR.out).trans X0.out; have rw61 := (Bw6.cell (p := ⟨r, 1, none⟩) LR.out).trans X1.out; have rw62 := (Bw6.cell (p := ⟨r, 3, none⟩) LR.out).trans X3.out))
    all_goals
      go_wp2
      go_ret
      exact ⟨ret_str' HL7.out, HBX.out.trans ((by assumption : Below X2.heap.size X2 _).mono HBX.out.size)⟩
  · have HU : Hid (hookB h = nameB h) := Lib.hid (by unfold hookB; rw [if_neg hz])
    have hzb := M.str_no hz
    have he0 : (⟨#[]⟩ : ByteArray).toList = [] := by rw [ByteArray.toList_eq]
    rw [he0] at hzb
    have hzl : ¬ (nameB h).toList = [] := by simpa using hzb
    have hze : (nameB h).toList.isEmpty = false := by simpa using hzl
    clear he0
    have HUZ := Lib.hid (nameB_le h)
    generalize nameB h = u at HU HUZ hz hzb hzl hze ⊢
    go_wp2_with fail
    have HUS : Hid (u.size ≤ 21) := Lib.hid HUZ.out
    obtain ⟨G, hG⟩ : ∃ G, G = itoaB g := ⟨_, rfl⟩
    obtain ⟨N, hN⟩ : ∃ N, N = itoaB n := ⟨_, rfl⟩
    obtain ⟨t1, t2, t3, t4, t5, t6, t7, e1, e2, e3, e4, e5, e6, e7, ht, hz7⟩ := line_steps G s N u (by rw [hG]; exact itoaB_le g HG.out) HS.out (by rw [hN]; exact itoaB_le n HN.out) HUS.out
    have HL7 : Hid (t7 = lineB g n h s) := Lib.hid (by rw [ht]; unfold lineB; rw [HU.out, hG, hN])
    have HGE : Hid (itoaB g = G) := Lib.hid hG.symm
    have HNE : Hid (itoaB n = N) := Lib.hid hN.symm
    clear ht hG hN
    have HXT : Hid (Tab X) := Lib.hid (tab_below HT.out HBX.out)
    have x0 := X0.out
    have x1 := X1.out
    have x3 := X3.out
    have HBB := Below.refl X.heap.size X
    go_region_held3 (fun w' => w'.cell? ⟨r, 0, none⟩ = some (.int .i64 g) ∧ w'.cell? ⟨r, 1, none⟩ = some (.int .i64 n) ∧ w'.cell? ⟨r, 3, none⟩ = some (.string s) ∧ Below X.heap.size X w') (first | (refine ⟨?_, ?_, ?_, ?_⟩ <;> first | assumption | (refine below_more ?_ _; assumption) | (refine Lib.cell?_alloc_some _ ?_; assumption) | exact Below_drew HBB | exact below_heap HBB rfl rfl rfl rfl) | go_keep | exact below_heap HBB rfl rfl rfl rfl) (first | (go_at_call 28; go_split_ands; (with_reducible refine (itoa_bel g _ HG.out ?_).mono ?_); (refine tab_below HXT.out ?_; assumption); rintro e9 w5 ⟨rfl, hbw5⟩; rw [HGE.out]; have Bw5 : Below X.heap.size X w5 := below_join (by assumption) hbw5; have HBw5 := Lib.hid Bw5; have rw50 := (Bw5.cell (p := ⟨r, 0, none⟩) LR.out).trans X0.out; have rw51 := (Bw5.cell (p := ⟨r, 1, none⟩) LR.out).trans X1.out; have rw52 := (Bw5.cell (p := ⟨r, 3, none⟩) LR.out).trans X3.out) | (go_at_call 28; go_split_ands; (with_reducible refine (itoa_bel n _ HN.out ?_).mono ?_); (refine tab_below HXT.out ?_; assumption); rintro e9 w6 ⟨rfl, hbw6⟩; rw [HNE.out]; have Bw6 : Below X.heap.size X w6 := below_join (by assumption) hbw6; have HBw6 := Lib.hid Bw6; have rw60 := (Bw6.cell (p := ⟨r, 0, none⟩) LR.out).trans X0.out; have rw61 := (Bw6.cell (p := ⟨r, 1, none⟩) LR.out).trans X1.out; have rw62 := (Bw6.cell (p := ⟨r, 3, none⟩) LR.out).trans X3.out))
    all_goals
      go_wp2
      go_ret
      exact ⟨ret_str' HL7.out, HBX.out.trans ((by assumption : Below X.heap.size X _).mono HBX.out.size)⟩
end Go.Proofs.YtbekoockmageoaaDoor
