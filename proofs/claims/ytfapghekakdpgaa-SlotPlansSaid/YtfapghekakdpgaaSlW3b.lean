/- Contract of a plan's replace. -/
import Derived.Test.YtfapghekakdpgaaSlW3a
import Derived.Handy
namespace Go.Proofs.Ytfapghekakdpgaa
open Go.RowKit Gr Go.Maps Sl
set_option linter.unusedVariables false
set_option linter.unusedSimpArgs false
set_option maxHeartbeats 4000000 in
set_option maxRecDepth 100000 in
theorem repl_110000 (a b : Nat) (bp eb base : Nat) (A : Option Addr) (n c : Nat) (L : List Sk) (key : ByteArray) (mode : Int) (rl : Value) (W0 w : World) (hn : n = L.length) (h1 : n ≤ 1000) (ha : At W0 A (scs L)) (hb0 : Below W0.heap.size W0 w) (hp : PW w bp eb base n (zs n) (-2) 0 rl) (hbp : W0.heap.size ≤ bp) (heb : W0.heap.size ≤ eb) (hcur : cur L = some a) (hkey : key = ByteArray.empty) :
    Calls Try.prog 49 #[.pointer (some ⟨bp, 0, none⟩), .slice A n c, .int .i64 (oI (cur L)), .string key, .int .i64 mode] w fun e w' => e = .returned (.tuple #[]) ∧ PW w' bp eb base n (repl L key mode).each (repl L key mode).take (repl L key mode).start rl ∧ Beside (badP bp eb) w w' := by
  obtain ⟨bk, hbk⟩ : ∃ b, b = w.heap.size := ⟨_, rfl⟩
  obtain ⟨U, hU⟩ : ∃ W, W = w.alloc (.cells #[.string key] 9) := ⟨_, rfl⟩
  have hbU : Below w.heap.size w U := by rw [hU]; exact below_alloc w _
  have HKB : Hid (Blk U bk 9 #[.string key]) := by show Blk _ _ _ _; rw [hU, hbk]; exact Blk.new w _ _
  have HKU := Lib.hid (HKB.out.cell 0 (v := .string key) rfl)
  have HKL := Lib.hid HKB.out.lt
  have HKN : Hid (¬ badP bp eb bk) := by
    rintro (e | e)
    · have := hp.blk.lt; omega
    · have : eb < w.heap.size := (hp.row.lt _ rfl).2; omega
  obtain ⟨E0, hE0⟩ : ∃ E, E = zs n := ⟨_, rfl⟩
  obtain ⟨tk, htk⟩ : ∃ z : Int, z = -2 := ⟨_, rfl⟩
  obtain ⟨st, hst⟩ : ∃ z : Int, z = 0 := ⟨_, rfl⟩
  have hp' := hp
  rw [← hE0, ← htk, ← hst] at hp'
  have PU := Lib.hid (hp'.below hbU)
  have HB0U := Lib.hid (hb0.trans (hbU.mono hb0.size))
  have HBAD : Hid (∀ g, badP bp eb g → W0.heap.size ≤ g) := by
    rintro g (e | e)
    · omega
    · omega
  have HBWU := Lib.hid hbU
  have HA0 := Lib.hid ha
  have HN := Lib.hid hn
  have HU := Lib.hid hU
  have HG := Lib.hid hbk
  have han := (cur_some hcur).1
  rw [← hn] at han
  obtain ⟨b1, o1, hA1, hbb1, hc0, hc1⟩ := at_sk ha (k := a) (by omega)
  obtain ⟨s, hs⟩ : ∃ s, s = (sk L a).1 := ⟨_, rfl⟩
  obtain ⟨z, hz⟩ : ∃ s, s = (sk L a).2 := ⟨_, rfl⟩
  rw [← hs] at hc0
  rw [← hz] at hc1
  have HE1 : Hid (each1 L key mode = E0.set a (yieldI z key mode)) := by show _ = _; unfold each1; rw [hcur, hE0, hz, hn]
  have HRE : Hid (repl L key mode = ⟨each1 L key mode, tk, st⟩) := by show _ = _; unfold repl; rw [if_pos hkey, htk, hst]
  have hsk : key.toList.isEmpty = true := str_em hkey
  obtain ⟨E1, hE1⟩ : ∃ E, E = each1 L key mode := ⟨_, rfl⟩
  rw [← hE1] at HE1 HRE
  have SH := Lib.hid (fun W (BW : Beside (fun g => g = eb) U W) => by
    have BL := Lib.hid ((BW.mono (fun g hg => Or.inr hg) : Beside (badP bp eb) U W).below HB0U.out HB0U.out.size HBAD.out)
    exact (⟨(World.cell?_of_block (a := ⟨bp, 0, none⟩) (BW.block bp PU.out.blk.lt (fun e => PU.out.ne e.symm))).trans (PU.out.blk.cell 0 rfl), (BL.out.cell (p := ⟨b1, o1 + a * 2, none⟩) hbb1).trans hc0, (BL.out.cell (p := ⟨b1, o1 + a * 2 + 1, none⟩) hbb1).trans hc1, (World.cell?_of_block (a := ⟨bk, 0, none⟩) (BW.block bk HKL.out (fun e => HKN.out (.inr e)))).trans HKU.out⟩ : (fun w' => w'.cell? ⟨bp, 0, none⟩ = some (.slice (some ⟨eb, 0, none⟩) n n) ∧ w'.cell? ⟨b1, o1 + a * 2, none⟩ = some (.string s) ∧ w'.cell? ⟨b1, o1 + a * 2 + 1, none⟩ = some (.int .i64 z) ∧ w'.cell? ⟨bk, 0, none⟩ = some (.string key)) W))
  subst hA1
  rw [hcur]
  rw [show oI (some a) = (a : Int) from rfl]
  clear hU hbk hbU hp hp' hE0 htk hst ha hn hb0 hbp heb HKB hc0 hc1 hs hz hkey hE1 hcur
  go_enter Try.func49, Try.ntmps49
  go_upto_region 1 with fail
  rw [← HU.out, ← HG.out]
  go_upto_region 2 with fail
  have HB0 := Lib.hid (show Beside (fun g => g = eb) U U.drew from Beside.drewN (Beside.refl _ _) 1)
  obtain ⟨X0, hX0⟩ : ∃ X, X = U.drew := ⟨_, rfl⟩
  refine wp_region_held_drew (S := (fun w' => w'.cell? ⟨bp, 0, none⟩ = some (.slice (some ⟨eb, 0, none⟩) n n) ∧ w'.cell? ⟨b1, o1 + a * 2, none⟩ = some (.string s) ∧ w'.cell? ⟨b1, o1 + a * 2 + 1, none⟩ = some (.int .i64 z) ∧ w'.cell? ⟨bk, 0, none⟩ = some (.string key))) (by kernel_rfl) (SH.out _ HB0.out) (fun hH0 => ?_)
  rw [← hX0] at HB0 hH0 ⊢
  have PX0 := Lib.hid (show PW X0 bp eb base n E0 tk st rl by rw [hX0]; exact PU.out.below (Below_drew (Below.refl _ _)))
  clear hX0
  refine wpAnyH_take (i := 0) (oi := Oper.mk (some 13) (Op.move (Operand.tmp 0)) 102 "slot.go:75" #[] none) (v := ?_) rfl (by kernel_rfl) (by kernel_rfl) (by kernel_rfl) (fun _ _ _ h => h) (Or.inl ⟨by rfl, ?_⟩) (by assumption) ?_
  rotate_left 1
  · (intro w hSw; (try dsimp only at hSw); go_simp; (try with_reducible rfl))
  try simp only [Act.put, List.setIfInBounds_toArray, List.set_cons_zero, List.set_cons_succ]
  refine wpAnyH_take (i := 1) (oi := Oper.mk (some 14) (Op.nilCheck (Operand.tmp 13)) 0 "slot.go:75" #[Edge.mk 0 Ground.data] none) (v := ?_) rfl (by kernel_rfl) (by kernel_rfl) (by kernel_rfl) (fun _ _ _ h => h) (Or.inl ⟨by rfl, ?_⟩) (by assumption) ?_
  rotate_left 1
  · (intro w hSw; (try dsimp only at hSw); go_simp; (try with_reducible rfl))
  try simp only [Act.put, List.setIfInBounds_toArray, List.set_cons_zero, List.set_cons_succ]
  refine wpAnyH_take (i := 2) (oi := Oper.mk (some 15) (Op.fieldAddr 50 (Operand.tmp 14) 0) 0 "slot.go:75" #[Edge.mk 1 Ground.data] none) (v := ?_) rfl (by kernel_rfl) (by kernel_rfl) (by kernel_rfl) (fun _ _ _ h => h) (Or.inl ⟨by rfl, ?_⟩) (by assumption) ?_
  rotate_left 1
  · (intro w hSw; (try dsimp only at hSw); go_simp; (try with_reducible rfl))
  try simp only [Act.put, List.setIfInBounds_toArray, List.set_cons_zero, List.set_cons_succ]
  refine wpAnyH_take (i := 3) (oi := Oper.mk (some 16) (Op.load 29 (Operand.tmp 15)) 29 "slot.go:75" #[Edge.mk 2 Ground.data] none) (v := ?_) rfl (by kernel_rfl) (by kernel_rfl) (by kernel_rfl) (fun _ _ _ h => h) (Or.inl ⟨by rfl, ?_⟩) (by assumption) ?_
  rotate_left 1
  · (intro w hSw; (try dsimp only at hSw); go_simp; (try with_reducible rfl))
  try simp only [Act.put, List.setIfInBounds_toArray, List.set_cons_zero, List.set_cons_succ]
  refine wpAnyH_take (i := 4) (oi := Oper.mk (some 17) (Op.move (Operand.tmp 2)) 3 "slot.go:75" #[] none) (v := ?_) rfl (by kernel_rfl) (by kernel_rfl) (by kernel_rfl) (fun _ _ _ h => h) (Or.inl ⟨by rfl, ?_⟩) (by assumption) ?_
  rotate_left 1
  · (intro w hSw; (try dsimp only at hSw); go_simp; (try with_reducible rfl))
  try simp only [Act.put, List.setIfInBounds_toArray, List.set_cons_zero, List.set_cons_succ]
  refine wpAnyH_take (i := 5) (oi := Oper.mk (some 18) (Op.move (Operand.tmp 1)) 45 "slot.go:75" #[] none) (v := ?_) rfl (by kernel_rfl) (by kernel_rfl) (by kernel_rfl) (fun _ _ _ h => h) (Or.inl ⟨by rfl, ?_⟩) (by assumption) ?_
  rotate_left 1
  · (intro w hSw; (try dsimp only at hSw); go_simp; (try with_reducible rfl))
  try simp only [Act.put, List.setIfInBounds_toArray, List.set_cons_zero, List.set_cons_succ]
  refine wpAnyH_take (i := 6) (oi := Oper.mk (some 19) (Op.move (Operand.tmp 2)) 3 "slot.go:75" #[] none) (v := ?_) rfl (by kernel_rfl) (by kernel_rfl) (by kernel_rfl) (fun _ _ _ h => h) (Or.inl ⟨by rfl, ?_⟩) (by assumption) ?_
  rotate_left 1
  · (intro w hSw; (try dsimp only at hSw); go_simp; (try with_reducible rfl))
  try simp only [Act.put, List.setIfInBounds_toArray, List.set_cons_zero, List.set_cons_succ]
  refine wpAnyH_take (i := 7) (oi := Oper.mk (some 20) (Op.indexAddr 45 (Operand.tmp 18) (Operand.tmp 19)) 0 "slot.go:75" #[Edge.mk 5 Ground.data, Edge.mk 6 Ground.data] none) (v := ?_) rfl (by kernel_rfl) (by kernel_rfl) (by kernel_rfl) (fun _ _ _ h => h) (Or.inl ⟨by rfl, ?_⟩) (by assumption) ?_
  rotate_left 1
  · (intro w hSw; (try dsimp only at hSw); go_simp; (try with_reducible rfl))
  try simp only [Act.put, List.setIfInBounds_toArray, List.set_cons_zero, List.set_cons_succ]
  refine wpAnyH_take (i := 8) (oi := Oper.mk (some 21) (Op.load 86 (Operand.tmp 20)) 86 "slot.go:75" #[Edge.mk 7 Ground.data] none) (v := ?_) rfl (by kernel_rfl) (by kernel_rfl) (by kernel_rfl) (fun _ _ _ h => h) (Or.inl ⟨by rfl, ?_⟩) (by assumption) ?_
  rotate_left 1
  · (intro w hSw; (try dsimp only at hSw); go_simp; (try with_reducible rfl))
  try simp only [Act.put, List.setIfInBounds_toArray, List.set_cons_zero, List.set_cons_succ]
  refine wpAnyH_take (i := 9) (oi := Oper.mk (some 22) (Op.load 9 (Operand.tmp 8)) 9 "slot.go:75" #[] none) (v := ?_) rfl (by kernel_rfl) (by kernel_rfl) (by kernel_rfl) (fun _ _ _ h => h) (Or.inl ⟨by rfl, ?_⟩) (by assumption) ?_
  rotate_left 1
  · (intro w hSw; (try dsimp only at hSw); go_simp; (try with_reducible rfl))
  try simp only [Act.put, List.setIfInBounds_toArray, List.set_cons_zero, List.set_cons_succ]
  refine wpAnyH_take (i := 10) (oi := Oper.mk (some 23) (Op.move (Operand.tmp 4)) 3 "slot.go:75" #[] none) (v := ?_) rfl (by kernel_rfl) (by kernel_rfl) (by kernel_rfl) (fun _ _ _ h => h) (Or.inl ⟨by rfl, ?_⟩) (by assumption) ?_
  rotate_left 1
  · (intro w hSw; (try dsimp only at hSw); go_simp; (try with_reducible rfl))
  try simp only [Act.put, List.setIfInBounds_toArray, List.set_cons_zero, List.set_cons_succ]
  refine wpAnyH_ready (rs := [11]) (by kernel_rfl) (by simp) ?_
  refine (AllReadyH.cons (o := Oper.mk (some 24) (Op.call (Call.mk (Callee.value (Operand.func 65)) #[Operand.tmp 21, Operand.tmp 22, Operand.tmp 23] #[86, 9, 3])) 3 "slot.go:75" #[Edge.mk 8 Ground.data, Edge.mk 9 Ground.data, Edge.mk 10 Ground.data] none) rfl (fun K hK => ?_) AllReadyH.nil)
  go_simp
  go_at_call 65
  (with_reducible refine (yields_any s z key mode X0).mono ?_)
  rintro e9 X1 ⟨rfl, hb⟩
  have HB1 := Lib.hid (HB0.out.trans (.ofBelow hb))
  have PX1 := Lib.hid (PX0.out.below hb)
  clear hb HB0 PX0
  go_wp2_with fail
  refine hK.out _ _ ?_ (fun hH1 => ?_)
  · exact SH.out _ HB1.out
  clear hK K
  try clear hH0
  try simp only [Act.put, List.setIfInBounds_toArray, List.set_cons_zero, List.set_cons_succ]
  refine wpAnyH_take (i := 12) (oi := Oper.mk (some 25) (Op.indexAddr 29 (Operand.tmp 16) (Operand.tmp 17)) 0 "slot.go:75" #[Edge.mk 3 Ground.data, Edge.mk 4 Ground.data, Edge.mk 0 Ground.phase, Edge.mk 1 Ground.phase, Edge.mk 2 Ground.phase, Edge.mk 3 Ground.phase, Edge.mk 4 Ground.phase, Edge.mk 5 Ground.phase, Edge.mk 6 Ground.phase, Edge.mk 7 Ground.phase, Edge.mk 8 Ground.phase, Edge.mk 9 Ground.phase, Edge.mk 10 Ground.phase, Edge.mk 11 Ground.phase] none) (v := ?_) rfl (by kernel_rfl) (by kernel_rfl) (by kernel_rfl) (fun _ _ _ h => h) (Or.inl ⟨by rfl, ?_⟩) (by assumption) ?_
  rotate_left 1
  · (intro w hSw; (try dsimp only at hSw); go_simp; (try with_reducible rfl))
  try simp only [Act.put, List.setIfInBounds_toArray, List.set_cons_zero, List.set_cons_succ]
  refine wpAnyH_ready (rs := [13]) (by kernel_rfl) (by simp) ?_
  refine (AllReadyH.cons (o := Oper.mk none (Op.store 3 (Operand.tmp 25) (Operand.tmp 24)) 0 "slot.go:75" #[Edge.mk 12 Ground.data, Edge.mk 11 Ground.data, Edge.mk 11 Ground.chain, Edge.mk 0 Ground.phase, Edge.mk 1 Ground.phase, Edge.mk 2 Ground.phase, Edge.mk 3 Ground.phase, Edge.mk 4 Ground.phase, Edge.mk 5 Ground.phase, Edge.mk 6 Ground.phase, Edge.mk 7 Ground.phase, Edge.mk 8 Ground.phase, Edge.mk 9 Ground.phase, Edge.mk 10 Ground.phase, Edge.mk 11 Ground.phase] none) rfl (fun K hK => ?_) AllReadyH.nil)
  have e0 := PX1.out.at (i := a) (by omega)
  have p0 := PX1.out.frozenE a
  go_simp
  obtain ⟨X2, hX⟩ : ∃ Xq, Xq = X1.setCell ⟨eb, a, none⟩ (.int .i64 (yieldI z key mode)) := ⟨_, rfl⟩
  rw [← hX]
  clear e0 p0
  have HB2 := Lib.hid (show Beside (fun g => g = eb) U X2 by rw [hX]; exact HB1.out.set (.inl rfl) a _)
  have PX2 := Lib.hid (show PW X2 bp eb base n (E0.set a (yieldI z key mode)) tk st rl by rw [hX]; exact PX1.out.setE a _)
  clear hX HB1 PX1
  refine hK.out _ _ ?_ (fun hH2 => ?_)
  · exact SH.out _ HB2.out
  clear hK K
  try clear hH1
  try simp only [Act.put, List.setIfInBounds_toArray, List.set_cons_zero, List.set_cons_succ]
  refine wpAnyH_done (by kernel_rfl) ?_ _
  have BX := Lib.hid (show Beside (badP bp eb) U X2 from HB2.out.mono (fun g hg => Or.inr hg))
  have PX := PX2
  clear HB2 PX2
  obtain ⟨X, hX⟩ : ∃ W, W = X2 := ⟨_, rfl⟩
  rw [← hX] at BX PX ⊢
  clear hX
  replace PX : Hid (PW X bp eb base n E1 tk st rl) := by show PW _ _ _ _ _ _ _ _ _; rw [HE1.out]; exact PX.out
  have KX := (World.cell?_of_block (a := ⟨bk, 0, none⟩) (BX.out.block bk HKL.out HKN.out)).trans HKU.out
  have BWX := Lib.hid (BX.out.below HB0U.out HB0U.out.size HBAD.out)
  have HAX := Lib.hid (HA0.out.below BWX.out)
  go_wp2_with fail
  go_returns
  exact ⟨rfl, by rw [HRE.out]; exact PX.out, HBWU.out.trans' BX.out⟩
set_option maxHeartbeats 4000000 in
set_option maxRecDepth 100000 in
theorem repl_100000 (a b : Nat) (bp eb base : Nat) (A : Option Addr) (n c : Nat) (L : List Sk) (key : ByteArray) (mode : Int) (rl : Value) (W0 w : World) (hn : n = L.length) (h1 : n ≤ 1000) (ha : At W0 A (scs L)) (hb0 : Below W0.heap.size W0 w) (hp : PW w bp eb base n (zs n) (-2) 0 rl) (hbp : W0.heap.size ≤ bp) (heb : W0.heap.size ≤ eb) (hcur : cur L = some a) (hkey : ¬ key = ByteArray.empty) (hback : back L key = none) (hmode : ¬ mode = 1) :
    Calls Try.prog 49 #[.pointer (some ⟨bp, 0, none⟩), .slice A n c, .int .i64 (oI (cur L)), .string key, .int .i64 mode] w fun e w' => e = .returned (.tuple #[]) ∧ PW w' bp eb base n (repl L key mode).each (repl L key mode).take (repl L key mode).start rl ∧ Beside (badP bp eb) w w' := by
  obtain ⟨bk, hbk⟩ : ∃ b, b = w.heap.size := ⟨_, rfl⟩
  obtain ⟨U, hU⟩ : ∃ W, W = w.alloc (.cells #[.string key] 9) := ⟨_, rfl⟩
  have hbU : Below w.heap.size w U := by rw [hU]; exact below_alloc w _
  have HKB : Hid (Blk U bk 9 #[.string key]) := by show Blk _ _ _ _; rw [hU, hbk]; exact Blk.new w _ _
  have HKU := Lib.hid (HKB.out.cell 0 (v := .string key) rfl)
  have HKL := Lib.hid HKB.out.lt
  have HKN : Hid (¬ badP bp eb bk) := by
    rintro (e | e)
    · have := hp.blk.lt; omega
    · have : eb < w.heap.size := (hp.row.lt _ rfl).2; omega
  obtain ⟨E0, hE0⟩ : ∃ E, E = zs n := ⟨_, rfl⟩
  obtain ⟨tk, htk⟩ : ∃ z : Int, z = -2 := ⟨_, rfl⟩
  obtain ⟨st, hst⟩ : ∃ z : Int, z = 0 := ⟨_, rfl⟩
  have hp' := hp
  rw [← hE0, ← htk, ← hst] at hp'
  have PU := Lib.hid (hp'.below hbU)
  have HB0U := Lib.hid (hb0.trans (hbU.mono hb0.size))
  have HBAD : Hid (∀ g, badP bp eb g → W0.heap.size ≤ g) := by
    rintro g (e | e)
    · omega
    · omega
  have HBWU := Lib.hid hbU
  have HA0 := Lib.hid ha
  have HN := Lib.hid hn
  have HU := Lib.hid hU
  have HG := Lib.hid hbk
  have han := (cur_some hcur).1
  rw [← hn] at han
  obtain ⟨b1, o1, hA1, hbb1, hc0, hc1⟩ := at_sk ha (k := a) (by omega)
  obtain ⟨s, hs⟩ : ∃ s, s = (sk L a).1 := ⟨_, rfl⟩
  obtain ⟨z, hz⟩ : ∃ s, s = (sk L a).2 := ⟨_, rfl⟩
  rw [← hs] at hc0
  rw [← hz] at hc1
  have HE1 : Hid (each1 L key mode = E0.set a (yieldI z key mode)) := by show _ = _; unfold each1; rw [hcur, hE0, hz, hn]
  have HE2 : Hid (each2 L key mode = each1 L key mode) := by show _ = _; unfold each2; rw [hback]
  have HBK : Hid (oI (fi (backQ L key) n) = -1) := by show _ = _; rw [hn]; show oI (back L key) = _; rw [hback]; rfl
  have HRE : Hid (repl L key mode = ⟨each2 L key mode, -1, 1⟩) := by
    have hbh : backHeld L key = false := by unfold backHeld; rw [hback]
    show _ = _
    unfold repl
    rw [if_neg hkey, hback]
    have : startB L key mode = 1 := by unfold startB; rw [hbh, if_neg (by simp), if_neg (fun h => hmode h.1)]
    rw [this]
    rfl
  have hsk : key.toList.isEmpty = false := str_ne hkey
  have hmk : (mode == 1) = false := by simpa using hmode
  obtain ⟨E2, hE2⟩ : ∃ E, E = each2 L key mode := ⟨_, rfl⟩
  rw [← hE2] at HE2 HRE
  obtain ⟨E1, hE1⟩ : ∃ E, E = each1 L key mode := ⟨_, rfl⟩
  rw [← hE1] at HE1 HE2
  have SH := Lib.hid (fun W (BW : Beside (fun g => g = eb) U W) => by
    have BL := Lib.hid ((BW.mono (fun g hg => Or.inr hg) : Beside (badP bp eb) U W).below HB0U.out HB0U.out.size HBAD.out)
    exact (⟨(World.cell?_of_block (a := ⟨bp, 0, none⟩) (BW.block bp PU.out.blk.lt (fun e => PU.out.ne e.symm))).trans (PU.out.blk.cell 0 rfl), (BL.out.cell (p := ⟨b1, o1 + a * 2, none⟩) hbb1).trans hc0, (BL.out.cell (p := ⟨b1, o1 + a * 2 + 1, none⟩) hbb1).trans hc1, (World.cell?_of_block (a := ⟨bk, 0, none⟩) (BW.block bk HKL.out (fun e => HKN.out (.inr e)))).trans HKU.out⟩ : (fun w' => w'.cell? ⟨bp, 0, none⟩ = some (.slice (some ⟨eb, 0, none⟩) n n) ∧ w'.cell? ⟨b1, o1 + a * 2, none⟩ = some (.string s) ∧ w'.cell? ⟨b1, o1 + a * 2 + 1, none⟩ = some (.int .i64 z) ∧ w'.cell? ⟨bk, 0, none⟩ = some (.string key)) W))
  subst hA1
  rw [hcur]
  rw [show oI (some a) = (a : Int) from rfl]
  clear hU hbk hbU hp hp' hE0 htk hst ha hn hb0 hbp heb HKB hc0 hc1 hs hz hkey hmode hE2 hE1 hback hcur
  go_enter Try.func49, Try.ntmps49
  go_upto_region 1 with fail
  rw [← HU.out, ← HG.out]
  go_upto_region 2 with fail
  have HB0 := Lib.hid (show Beside (fun g => g = eb) U U.drew from Beside.drewN (Beside.refl _ _) 1)
  obtain ⟨X0, hX0⟩ : ∃ X, X = U.drew := ⟨_, rfl⟩
  refine wp_region_held_drew (S := (fun w' => w'.cell? ⟨bp, 0, none⟩ = some (.slice (some ⟨eb, 0, none⟩) n n) ∧ w'.cell? ⟨b1, o1 + a * 2, none⟩ = some (.string s) ∧ w'.cell? ⟨b1, o1 + a * 2 + 1, none⟩ = some (.int .i64 z) ∧ w'.cell? ⟨bk, 0, none⟩ = some (.string key))) (by kernel_rfl) (SH.out _ HB0.out) (fun hH0 => ?_)
  rw [← hX0] at HB0 hH0 ⊢
  have PX0 := Lib.hid (show PW X0 bp eb base n E0 tk st rl by rw [hX0]; exact PU.out.below (Below_drew (Below.refl _ _)))
  clear hX0
  refine wpAnyH_take (i := 0) (oi := Oper.mk (some 13) (Op.move (Operand.tmp 0)) 102 "slot.go:75" #[] none) (v := ?_) rfl (by kernel_rfl) (by kernel_rfl) (by kernel_rfl) (fun _ _ _ h => h) (Or.inl ⟨by rfl, ?_⟩) (by assumption) ?_
  rotate_left 1
  · (intro w hSw; (try dsimp only at hSw); go_simp; (try with_reducible rfl))
  try simp only [Act.put, List.setIfInBounds_toArray, List.set_cons_zero, List.set_cons_succ]
  refine wpAnyH_take (i := 1) (oi := Oper.mk (some 14) (Op.nilCheck (Operand.tmp 13)) 0 "slot.go:75" #[Edge.mk 0 Ground.data] none) (v := ?_) rfl (by kernel_rfl) (by kernel_rfl) (by kernel_rfl) (fun _ _ _ h => h) (Or.inl ⟨by rfl, ?_⟩) (by assumption) ?_
  rotate_left 1
  · (intro w hSw; (try dsimp only at hSw); go_simp; (try with_reducible rfl))
  try simp only [Act.put, List.setIfInBounds_toArray, List.set_cons_zero, List.set_cons_succ]
  refine wpAnyH_take (i := 2) (oi := Oper.mk (some 15) (Op.fieldAddr 50 (Operand.tmp 14) 0) 0 "slot.go:75" #[Edge.mk 1 Ground.data] none) (v := ?_) rfl (by kernel_rfl) (by kernel_rfl) (by kernel_rfl) (fun _ _ _ h => h) (Or.inl ⟨by rfl, ?_⟩) (by assumption) ?_
  rotate_left 1
  · (intro w hSw; (try dsimp only at hSw); go_simp; (try with_reducible rfl))
  try simp only [Act.put, List.setIfInBounds_toArray, List.set_cons_zero, List.set_cons_succ]
  refine wpAnyH_take (i := 3) (oi := Oper.mk (some 16) (Op.load 29 (Operand.tmp 15)) 29 "slot.go:75" #[Edge.mk 2 Ground.data] none) (v := ?_) rfl (by kernel_rfl) (by kernel_rfl) (by kernel_rfl) (fun _ _ _ h => h) (Or.inl ⟨by rfl, ?_⟩) (by assumption) ?_
  rotate_left 1
  · (intro w hSw; (try dsimp only at hSw); go_simp; (try with_reducible rfl))
  try simp only [Act.put, List.setIfInBounds_toArray, List.set_cons_zero, List.set_cons_succ]
  refine wpAnyH_take (i := 4) (oi := Oper.mk (some 17) (Op.move (Operand.tmp 2)) 3 "slot.go:75" #[] none) (v := ?_) rfl (by kernel_rfl) (by kernel_rfl) (by kernel_rfl) (fun _ _ _ h => h) (Or.inl ⟨by rfl, ?_⟩) (by assumption) ?_
  rotate_left 1
  · (intro w hSw; (try dsimp only at hSw); go_simp; (try with_reducible rfl))
  try simp only [Act.put, List.setIfInBounds_toArray, List.set_cons_zero, List.set_cons_succ]
  refine wpAnyH_take (i := 5) (oi := Oper.mk (some 18) (Op.move (Operand.tmp 1)) 45 "slot.go:75" #[] none) (v := ?_) rfl (by kernel_rfl) (by kernel_rfl) (by kernel_rfl) (fun _ _ _ h => h) (Or.inl ⟨by rfl, ?_⟩) (by assumption) ?_
  rotate_left 1
  · (intro w hSw; (try dsimp only at hSw); go_simp; (try with_reducible rfl))
  try simp only [Act.put, List.setIfInBounds_toArray, List.set_cons_zero, List.set_cons_succ]
  refine wpAnyH_take (i := 6) (oi := Oper.mk (some 19) (Op.move (Operand.tmp 2)) 3 "slot.go:75" #[] none) (v := ?_) rfl (by kernel_rfl) (by kernel_rfl) (by kernel_rfl) (fun _ _ _ h => h) (Or.inl ⟨by rfl, ?_⟩) (by assumption) ?_
  rotate_left 1
  · (intro w hSw; (try dsimp only at hSw); go_simp; (try with_reducible rfl))
  try simp only [Act.put, List.setIfInBounds_toArray, List.set_cons_zero, List.set_cons_succ]
  refine wpAnyH_take (i := 7) (oi := Oper.mk (some 20) (Op.indexAddr 45 (Operand.tmp 18) (Operand.tmp 19)) 0 "slot.go:75" #[Edge.mk 5 Ground.data, Edge.mk 6 Ground.data] none) (v := ?_) rfl (by kernel_rfl) (by kernel_rfl) (by kernel_rfl) (fun _ _ _ h => h) (Or.inl ⟨by rfl, ?_⟩) (by assumption) ?_
  rotate_left 1
  · (intro w hSw; (try dsimp only at hSw); go_simp; (try with_reducible rfl))
  try simp only [Act.put, List.setIfInBounds_toArray, List.set_cons_zero, List.set_cons_succ]
  refine wpAnyH_take (i := 8) (oi := Oper.mk (some 21) (Op.load 86 (Operand.tmp 20)) 86 "slot.go:75" #[Edge.mk 7 Ground.data] none) (v := ?_) rfl (by kernel_rfl) (by kernel_rfl) (by kernel_rfl) (fun _ _ _ h => h) (Or.inl ⟨by rfl, ?_⟩) (by assumption) ?_
  rotate_left 1
  · (intro w hSw; (try dsimp only at hSw); go_simp; (try with_reducible rfl))
  try simp only [Act.put, List.setIfInBounds_toArray, List.set_cons_zero, List.set_cons_succ]
  refine wpAnyH_take (i := 9) (oi := Oper.mk (some 22) (Op.load 9 (Operand.tmp 8)) 9 "slot.go:75" #[] none) (v := ?_) rfl (by kernel_rfl) (by kernel_rfl) (by kernel_rfl) (fun _ _ _ h => h) (Or.inl ⟨by rfl, ?_⟩) (by assumption) ?_
  rotate_left 1
  · (intro w hSw; (try dsimp only at hSw); go_simp; (try with_reducible rfl))
  try simp only [Act.put, List.setIfInBounds_toArray, List.set_cons_zero, List.set_cons_succ]
  refine wpAnyH_take (i := 10) (oi := Oper.mk (some 23) (Op.move (Operand.tmp 4)) 3 "slot.go:75" #[] none) (v := ?_) rfl (by kernel_rfl) (by kernel_rfl) (by kernel_rfl) (fun _ _ _ h => h) (Or.inl ⟨by rfl, ?_⟩) (by assumption) ?_
  rotate_left 1
  · (intro w hSw; (try dsimp only at hSw); go_simp; (try with_reducible rfl))
  try simp only [Act.put, List.setIfInBounds_toArray, List.set_cons_zero, List.set_cons_succ]
  refine wpAnyH_ready (rs := [11]) (by kernel_rfl) (by simp) ?_
  refine (AllReadyH.cons (o := Oper.mk (some 24) (Op.call (Call.mk (Callee.value (Operand.func 65)) #[Operand.tmp 21, Operand.tmp 22, Operand.tmp 23] #[86, 9, 3])) 3 "slot.go:75" #[Edge.mk 8 Ground.data, Edge.mk 9 Ground.data, Edge.mk 10 Ground.data] none) rfl (fun K hK => ?_) AllReadyH.nil)
  go_simp
  go_at_call 65
  (with_reducible refine (yields_any s z key mode X0).mono ?_)
  rintro e9 X1 ⟨rfl, hb⟩
  have HB1 := Lib.hid (HB0.out.trans (.ofBelow hb))
  have PX1 := Lib.hid (PX0.out.below hb)
  clear hb HB0 PX0
  go_wp2_with fail
  refine hK.out _ _ ?_ (fun hH1 => ?_)
  · exact SH.out _ HB1.out
  clear hK K
  try clear hH0
  try simp only [Act.put, List.setIfInBounds_toArray, List.set_cons_zero, List.set_cons_succ]
  refine wpAnyH_take (i := 12) (oi := Oper.mk (some 25) (Op.indexAddr 29 (Operand.tmp 16) (Operand.tmp 17)) 0 "slot.go:75" #[Edge.mk 3 Ground.data, Edge.mk 4 Ground.data, Edge.mk 0 Ground.phase, Edge.mk 1 Ground.phase, Edge.mk 2 Ground.phase, Edge.mk 3 Ground.phase, Edge.mk 4 Ground.phase, Edge.mk 5 Ground.phase, Edge.mk 6 Ground.phase, Edge.mk 7 Ground.phase, Edge.mk 8 Ground.phase, Edge.mk 9 Ground.phase, Edge.mk 10 Ground.phase, Edge.mk 11 Ground.phase] none) (v := ?_) rfl (by kernel_rfl) (by kernel_rfl) (by kernel_rfl) (fun _ _ _ h => h) (Or.inl ⟨by rfl, ?_⟩) (by assumption) ?_
  rotate_left 1
  · (intro w hSw; (try dsimp only at hSw); go_simp; (try with_reducible rfl))
  try simp only [Act.put, List.setIfInBounds_toArray, List.set_cons_zero, List.set_cons_succ]
  refine wpAnyH_ready (rs := [13]) (by kernel_rfl) (by simp) ?_
  refine (AllReadyH.cons (o := Oper.mk none (Op.store 3 (Operand.tmp 25) (Operand.tmp 24)) 0 "slot.go:75" #[Edge.mk 12 Ground.data, Edge.mk 11 Ground.data, Edge.mk 11 Ground.chain, Edge.mk 0 Ground.phase, Edge.mk 1 Ground.phase, Edge.mk 2 Ground.phase, Edge.mk 3 Ground.phase, Edge.mk 4 Ground.phase, Edge.mk 5 Ground.phase, Edge.mk 6 Ground.phase, Edge.mk 7 Ground.phase, Edge.mk 8 Ground.phase, Edge.mk 9 Ground.phase, Edge.mk 10 Ground.phase, Edge.mk 11 Ground.phase] none) rfl (fun K hK => ?_) AllReadyH.nil)
  have e0 := PX1.out.at (i := a) (by omega)
  have p0 := PX1.out.frozenE a
  go_simp
  obtain ⟨X2, hX⟩ : ∃ Xq, Xq = X1.setCell ⟨eb, a, none⟩ (.int .i64 (yieldI z key mode)) := ⟨_, rfl⟩
  rw [← hX]
  clear e0 p0
  have HB2 := Lib.hid (show Beside (fun g => g = eb) U X2 by rw [hX]; exact HB1.out.set (.inl rfl) a _)
  have PX2 := Lib.hid (show PW X2 bp eb base n (E0.set a (yieldI z key mode)) tk st rl by rw [hX]; exact PX1.out.setE a _)
  clear hX HB1 PX1
  refine hK.out _ _ ?_ (fun hH2 => ?_)
  · exact SH.out _ HB2.out
  clear hK K
  try clear hH1
  try simp only [Act.put, List.setIfInBounds_toArray, List.set_cons_zero, List.set_cons_succ]
  refine wpAnyH_done (by kernel_rfl) ?_ _
  have BX := Lib.hid (show Beside (badP bp eb) U X2 from HB2.out.mono (fun g hg => Or.inr hg))
  have PX := PX2
  clear HB2 PX2
  obtain ⟨X, hX⟩ : ∃ W, W = X2 := ⟨_, rfl⟩
  rw [← hX] at BX PX ⊢
  clear hX
  replace PX : Hid (PW X bp eb base n E1 tk st rl) := by show PW _ _ _ _ _ _ _ _ _; rw [HE1.out]; exact PX.out
  have KX := (World.cell?_of_block (a := ⟨bk, 0, none⟩) (BX.out.block bk HKL.out HKN.out)).trans HKU.out
  have BWX := Lib.hid (BX.out.below HB0U.out HB0U.out.size HBAD.out)
  have HAX := Lib.hid (HA0.out.below BWX.out)
  go_wp2_with fail
  refine (index_back _ n c L bk (backQ L key) X HN.out (by omega) HAX.out (fun W i hi hb => by
    have hkl : bk < X.heap.size := Nat.lt_of_lt_of_le HKL.out BX.out.size
    exact (replace1_any _ _ bk key W ((hb.cell (p := ⟨bk, 0, none⟩) hkl).trans KX) (Nat.lt_of_lt_of_le hkl hb.size)))).mono ?_
  rintro e9 Y ⟨rfl, hb⟩
  rw [HBK.out]
  have PY := Lib.hid (PX.out.below hb)
  have BY := Lib.hid (BX.out.trans (.ofBelow hb))
  clear hb PX BX KX BWX HAX
  have e0 := PY.out.blk.cell 0 (v := .slice (some ⟨eb, 0, none⟩) n n) rfl
  have e1 := PY.out.blk.cell 1 (v := .int .i64 tk) rfl
  have p1 := PY.out.blk.frozen 1
  go_upto_region 6 with fail
  obtain ⟨Z, hZ⟩ : ∃ W, W = Y.setCell ⟨bp, 1, none⟩ (.int .i64 (-1)) := ⟨_, rfl⟩
  rw [← hZ]
  have PZ := Lib.hid (show PW Z bp eb base n E1 (-1) st rl by rw [hZ]; exact PY.out.setT _)
  have BZ := Lib.hid (show Beside (badP bp eb) U Z by rw [hZ]; exact BY.out.set (.inl (.inl rfl)) 1 _)
  clear hZ e0 e1 p1 PY BY
  obtain ⟨Z2, hZ⟩ : ∃ W, W = Z := ⟨_, rfl⟩
  rw [← hZ]
  have PZ2 := Lib.hid (show PW Z2 bp eb base n E2 (-1) st rl by rw [hZ, HE2.out]; exact PZ.out)
  have BZ2 := Lib.hid (show Beside (badP bp eb) U Z2 by rw [hZ]; exact BZ.out)
  clear hZ PZ BZ
  have BWZ := Lib.hid (BZ2.out.below HB0U.out HB0U.out.size HBAD.out)
  have e0 := PZ2.out.blk.cell 0 (v := .slice (some ⟨eb, 0, none⟩) n n) rfl
  have e2 := PZ2.out.blk.cell 2 (v := .int .i64 st) rfl
  have p2 := PZ2.out.blk.frozen 2
  go_wp2_with fail
  go_returns
  exact ⟨rfl, by rw [HRE.out]; exact PZ2.out.setS 1, HBWU.out.trans' (BZ2.out.set (.inl (.inl rfl)) 2 _)⟩
set_option maxHeartbeats 4000000 in
set_option maxRecDepth 100000 in
theorem repl_100011 (a b : Nat) (bp eb base : Nat) (A : Option Addr) (n c : Nat) (L : List Sk) (key : ByteArray) (mode : Int) (rl : Value) (W0 w : World) (hn : n = L.length) (h1 : n ≤ 1000) (ha : At W0 A (scs L)) (hb0 : Below W0.heap.size W0 w) (hp : PW w bp eb base n (zs n) (-2) 0 rl) (hbp : W0.heap.size ≤ bp) (heb : W0.heap.size ≤ eb) (hcur : cur L = some a) (hkey : ¬ key = ByteArray.empty) (hback : back L key = none) (hmode : mode = 1) (hcrowd : crowd L (each2 L key mode) = true) :
    Calls Try.prog 49 #[.pointer (some ⟨bp, 0, none⟩), .slice A n c, .int .i64 (oI (cur L)), .string key, .int .i64 mode] w fun e w' => e = .returned (.tuple #[]) ∧ PW w' bp eb base n (repl L key mode).each (repl L key mode).take (repl L key mode).start rl ∧ Beside (badP bp eb) w w' := by
  obtain ⟨bk, hbk⟩ : ∃ b, b = w.heap.size := ⟨_, rfl⟩
  obtain ⟨U, hU⟩ : ∃ W, W = w.alloc (.cells #[.string key] 9) := ⟨_, rfl⟩
  have hbU : Below w.heap.size w U := by rw [hU]; exact below_alloc w _
  have HKB : Hid (Blk U bk 9 #[.string key]) := by show Blk _ _ _ _; rw [hU, hbk]; exact Blk.new w _ _
  have HKU := Lib.hid (HKB.out.cell 0 (v := .string key) rfl)
  have HKL := Lib.hid HKB.out.lt
  have HKN : Hid (¬ badP bp eb bk) := by
    rintro (e | e)
    · have := hp.blk.lt; omega
    · have : eb < w.heap.size := (hp.row.lt _ rfl).2; omega
  obtain ⟨E0, hE0⟩ : ∃ E, E = zs n := ⟨_, rfl⟩
  obtain ⟨tk, htk⟩ : ∃ z : Int, z = -2 := ⟨_, rfl⟩
  obtain ⟨st, hst⟩ : ∃ z : Int, z = 0 := ⟨_, rfl⟩
  have hp' := hp
  rw [← hE0, ← htk, ← hst] at hp'
  have PU := Lib.hid (hp'.below hbU)
  have HB0U := Lib.hid (hb0.trans (hbU.mono hb0.size))
  have HBAD : Hid (∀ g, badP bp eb g → W0.heap.size ≤ g) := by
    rintro g (e | e)
    · omega
    · omega
  have HBWU := Lib.hid hbU
  have HA0 := Lib.hid ha
  have HN := Lib.hid hn
  have HU := Lib.hid hU
  have HG := Lib.hid hbk
  have han := (cur_some hcur).1
  rw [← hn] at han
  obtain ⟨b1, o1, hA1, hbb1, hc0, hc1⟩ := at_sk ha (k := a) (by omega)
  obtain ⟨s, hs⟩ : ∃ s, s = (sk L a).1 := ⟨_, rfl⟩
  obtain ⟨z, hz⟩ : ∃ s, s = (sk L a).2 := ⟨_, rfl⟩
  rw [← hs] at hc0
  rw [← hz] at hc1
  have HE1 : Hid (each1 L key mode = E0.set a (yieldI z key mode)) := by show _ = _; unfold each1; rw [hcur, hE0, hz, hn]
  have HE2 : Hid (each2 L key mode = each1 L key mode) := by show _ = _; unfold each2; rw [hback]
  have HBK : Hid (oI (fi (backQ L key) n) = -1) := by show _ = _; rw [hn]; show oI (back L key) = _; rw [hback]; rfl
  have HRE : Hid (repl L key mode = ⟨each2 L key mode, -1, 2⟩) := by
    have hbh : backHeld L key = false := by unfold backHeld; rw [hback]
    show _ = _
    unfold repl
    rw [if_neg hkey, hback]
    have : startB L key mode = 2 := by unfold startB; rw [hbh, if_neg (by simp), if_pos ⟨hmode, hcrowd⟩]
    rw [this]
    rfl
  have HCR := Lib.hid hcrowd
  have hsk : key.toList.isEmpty = false := str_ne hkey
  have hmk : (mode == 1) = true := by simpa using hmode
  obtain ⟨E2, hE2⟩ : ∃ E, E = each2 L key mode := ⟨_, rfl⟩
  rw [← hE2] at HE2 HRE HCR
  obtain ⟨E1, hE1⟩ : ∃ E, E = each1 L key mode := ⟨_, rfl⟩
  rw [← hE1] at HE1 HE2
  have SH := Lib.hid (fun W (BW : Beside (fun g => g = eb) U W) => by
    have BL := Lib.hid ((BW.mono (fun g hg => Or.inr hg) : Beside (badP bp eb) U W).below HB0U.out HB0U.out.size HBAD.out)
    exact (⟨(World.cell?_of_block (a := ⟨bp, 0, none⟩) (BW.block bp PU.out.blk.lt (fun e => PU.out.ne e.symm))).trans (PU.out.blk.cell 0 rfl), (BL.out.cell (p := ⟨b1, o1 + a * 2, none⟩) hbb1).trans hc0, (BL.out.cell (p := ⟨b1, o1 + a * 2 + 1, none⟩) hbb1).trans hc1, (World.cell?_of_block (a := ⟨bk, 0, none⟩) (BW.block bk HKL.out (fun e => HKN.out (.inr e)))).trans HKU.out⟩ : (fun w' => w'.cell? ⟨bp, 0, none⟩ = some (.slice (some ⟨eb, 0, none⟩) n n) ∧ w'.cell? ⟨b1, o1 + a * 2, none⟩ = some (.string s) ∧ w'.cell? ⟨b1, o1 + a * 2 + 1, none⟩ = some (.int .i64 z) ∧ w'.cell? ⟨bk, 0, none⟩ = some (.string key)) W))
  subst hA1
  rw [hcur]
  rw [show oI (some a) = (a : Int) from rfl]
  clear hU hbk hbU hp hp' hE0 htk hst ha hn hb0 hbp heb HKB hc0 hc1 hs hz hkey hmode hcrowd hE2 hE1 hback hcur
  go_enter Try.func49, Try.ntmps49
  go_upto_region 1 with fail
  rw [← HU.out, ← HG.out]
  go_upto_region 2 with fail
  have HB0 := Lib.hid (show Beside (fun g => g = eb) U U.drew from Beside.drewN (Beside.refl _ _) 1)
  obtain ⟨X0, hX0⟩ : ∃ X, X = U.drew := ⟨_, rfl⟩
  refine wp_region_held_drew (S := (fun w' => w'.cell? ⟨bp, 0, none⟩ = some (.slice (some ⟨eb, 0, none⟩) n n) ∧ w'.cell? ⟨b1, o1 + a * 2, none⟩ = some (.string s) ∧ w'.cell? ⟨b1, o1 + a * 2 + 1, none⟩ = some (.int .i64 z) ∧ w'.cell? ⟨bk, 0, none⟩ = some (.string key))) (by kernel_rfl) (SH.out _ HB0.out) (fun hH0 => ?_)
  rw [← hX0] at HB0 hH0 ⊢
  have PX0 := Lib.hid (show PW X0 bp eb base n E0 tk st rl by rw [hX0]; exact PU.out.below (Below_drew (Below.refl _ _)))
  clear hX0
  refine wpAnyH_take (i := 0) (oi := Oper.mk (some 13) (Op.move (Operand.tmp 0)) 102 "slot.go:75" #[] none) (v := ?_) rfl (by kernel_rfl) (by kernel_rfl) (by kernel_rfl) (fun _ _ _ h => h) (Or.inl ⟨by rfl, ?_⟩) (by assumption) ?_
  rotate_left 1
  · (intro w hSw; (try dsimp only at hSw); go_simp; (try with_reducible rfl))
  try simp only [Act.put, List.setIfInBounds_toArray, List.set_cons_zero, List.set_cons_succ]
  refine wpAnyH_take (i := 1) (oi := Oper.mk (some 14) (Op.nilCheck (Operand.tmp 13)) 0 "slot.go:75" #[Edge.mk 0 Ground.data] none) (v := ?_) rfl (by kernel_rfl) (by kernel_rfl) (by kernel_rfl) (fun _ _ _ h => h) (Or.inl ⟨by rfl, ?_⟩) (by assumption) ?_
  rotate_left 1
  · (intro w hSw; (try dsimp only at hSw); go_simp; (try with_reducible rfl))
  try simp only [Act.put, List.setIfInBounds_toArray, List.set_cons_zero, List.set_cons_succ]
  refine wpAnyH_take (i := 2) (oi := Oper.mk (some 15) (Op.fieldAddr 50 (Operand.tmp 14) 0) 0 "slot.go:75" #[Edge.mk 1 Ground.data] none) (v := ?_) rfl (by kernel_rfl) (by kernel_rfl) (by kernel_rfl) (fun _ _ _ h => h) (Or.inl ⟨by rfl, ?_⟩) (by assumption) ?_
  rotate_left 1
  · (intro w hSw; (try dsimp only at hSw); go_simp; (try with_reducible rfl))
  try simp only [Act.put, List.setIfInBounds_toArray, List.set_cons_zero, List.set_cons_succ]
  refine wpAnyH_take (i := 3) (oi := Oper.mk (some 16) (Op.load 29 (Operand.tmp 15)) 29 "slot.go:75" #[Edge.mk 2 Ground.data] none) (v := ?_) rfl (by kernel_rfl) (by kernel_rfl) (by kernel_rfl) (fun _ _ _ h => h) (Or.inl ⟨by rfl, ?_⟩) (by assumption) ?_
  rotate_left 1
  · (intro w hSw; (try dsimp only at hSw); go_simp; (try with_reducible rfl))
  try simp only [Act.put, List.setIfInBounds_toArray, List.set_cons_zero, List.set_cons_succ]
  refine wpAnyH_take (i := 4) (oi := Oper.mk (some 17) (Op.move (Operand.tmp 2)) 3 "slot.go:75" #[] none) (v := ?_) rfl (by kernel_rfl) (by kernel_rfl) (by kernel_rfl) (fun _ _ _ h => h) (Or.inl ⟨by rfl, ?_⟩) (by assumption) ?_
  rotate_left 1
  · (intro w hSw; (try dsimp only at hSw); go_simp; (try with_reducible rfl))
  try simp only [Act.put, List.setIfInBounds_toArray, List.set_cons_zero, List.set_cons_succ]
  refine wpAnyH_take (i := 5) (oi := Oper.mk (some 18) (Op.move (Operand.tmp 1)) 45 "slot.go:75" #[] none) (v := ?_) rfl (by kernel_rfl) (by kernel_rfl) (by kernel_rfl) (fun _ _ _ h => h) (Or.inl ⟨by rfl, ?_⟩) (by assumption) ?_
  rotate_left 1
  · (intro w hSw; (try dsimp only at hSw); go_simp; (try with_reducible rfl))
  try simp only [Act.put, List.setIfInBounds_toArray, List.set_cons_zero, List.set_cons_succ]
  refine wpAnyH_take (i := 6) (oi := Oper.mk (some 19) (Op.move (Operand.tmp 2)) 3 "slot.go:75" #[] none) (v := ?_) rfl (by kernel_rfl) (by kernel_rfl) (by kernel_rfl) (fun _ _ _ h => h) (Or.inl ⟨by rfl, ?_⟩) (by assumption) ?_
  rotate_left 1
  · (intro w hSw; (try dsimp only at hSw); go_simp; (try with_reducible rfl))
  try simp only [Act.put, List.setIfInBounds_toArray, List.set_cons_zero, List.set_cons_succ]
  refine wpAnyH_take (i := 7) (oi := Oper.mk (some 20) (Op.indexAddr 45 (Operand.tmp 18) (Operand.tmp 19)) 0 "slot.go:75" #[Edge.mk 5 Ground.data, Edge.mk 6 Ground.data] none) (v := ?_) rfl (by kernel_rfl) (by kernel_rfl) (by kernel_rfl) (fun _ _ _ h => h) (Or.inl ⟨by rfl, ?_⟩) (by assumption) ?_
  rotate_left 1
  · (intro w hSw; (try dsimp only at hSw); go_simp; (try with_reducible rfl))
  try simp only [Act.put, List.setIfInBounds_toArray, List.set_cons_zero, List.set_cons_succ]
  refine wpAnyH_take (i := 8) (oi := Oper.mk (some 21) (Op.load 86 (Operand.tmp 20)) 86 "slot.go:75" #[Edge.mk 7 Ground.data] none) (v := ?_) rfl (by kernel_rfl) (by kernel_rfl) (by kernel_rfl) (fun _ _ _ h => h) (Or.inl ⟨by rfl, ?_⟩) (by assumption) ?_
  rotate_left 1
  · (intro w hSw; (try dsimp only at hSw); go_simp; (try with_reducible rfl))
  try simp only [Act.put, List.setIfInBounds_toArray, List.set_cons_zero, List.set_cons_succ]
  refine wpAnyH_take (i := 9) (oi := Oper.mk (some 22) (Op.load 9 (Operand.tmp 8)) 9 "slot.go:75" #[] none) (v := ?_) rfl (by kernel_rfl) (by kernel_rfl) (by kernel_rfl) (fun _ _ _ h => h) (Or.inl ⟨by rfl, ?_⟩) (by assumption) ?_
  rotate_left 1
  · (intro w hSw; (try dsimp only at hSw); go_simp; (try with_reducible rfl))
  try simp only [Act.put, List.setIfInBounds_toArray, List.set_cons_zero, List.set_cons_succ]
  refine wpAnyH_take (i := 10) (oi := Oper.mk (some 23) (Op.move (Operand.tmp 4)) 3 "slot.go:75" #[] none) (v := ?_) rfl (by kernel_rfl) (by kernel_rfl) (by kernel_rfl) (fun _ _ _ h => h) (Or.inl ⟨by rfl, ?_⟩) (by assumption) ?_
  rotate_left 1
  · (intro w hSw; (try dsimp only at hSw); go_simp; (try with_reducible rfl))
  try simp only [Act.put, List.setIfInBounds_toArray, List.set_cons_zero, List.set_cons_succ]
  refine wpAnyH_ready (rs := [11]) (by kernel_rfl) (by simp) ?_
  refine (AllReadyH.cons (o := Oper.mk (some 24) (Op.call (Call.mk (Callee.value (Operand.func 65)) #[Operand.tmp 21, Operand.tmp 22, Operand.tmp 23] #[86, 9, 3])) 3 "slot.go:75" #[Edge.mk 8 Ground.data, Edge.mk 9 Ground.data, Edge.mk 10 Ground.data] none) rfl (fun K hK => ?_) AllReadyH.nil)
  go_simp
  go_at_call 65
  (with_reducible refine (yields_any s z key mode X0).mono ?_)
  rintro e9 X1 ⟨rfl, hb⟩
  have HB1 := Lib.hid (HB0.out.trans (.ofBelow hb))
  have PX1 := Lib.hid (PX0.out.below hb)
  clear hb HB0 PX0
  go_wp2_with fail
  refine hK.out _ _ ?_ (fun hH1 => ?_)
  · exact SH.out _ HB1.out
  clear hK K
  try clear hH0
  try simp only [Act.put, List.setIfInBounds_toArray, List.set_cons_zero, List.set_cons_succ]
  refine wpAnyH_take (i := 12) (oi := Oper.mk (some 25) (Op.indexAddr 29 (Operand.tmp 16) (Operand.tmp 17)) 0 "slot.go:75" #[Edge.mk 3 Ground.data, Edge.mk 4 Ground.data, Edge.mk 0 Ground.phase, Edge.mk 1 Ground.phase, Edge.mk 2 Ground.phase, Edge.mk 3 Ground.phase, Edge.mk 4 Ground.phase, Edge.mk 5 Ground.phase, Edge.mk 6 Ground.phase, Edge.mk 7 Ground.phase, Edge.mk 8 Ground.phase, Edge.mk 9 Ground.phase, Edge.mk 10 Ground.phase, Edge.mk 11 Ground.phase] none) (v := ?_) rfl (by kernel_rfl) (by kernel_rfl) (by kernel_rfl) (fun _ _ _ h => h) (Or.inl ⟨by rfl, ?_⟩) (by assumption) ?_
  rotate_left 1
  · (intro w hSw; (try dsimp only at hSw); go_simp; (try with_reducible rfl))
  try simp only [Act.put, List.setIfInBounds_toArray, List.set_cons_zero, List.set_cons_succ]
  refine wpAnyH_ready (rs := [13]) (by kernel_rfl) (by simp) ?_
  refine (AllReadyH.cons (o := Oper.mk none (Op.store 3 (Operand.tmp 25) (Operand.tmp 24)) 0 "slot.go:75" #[Edge.mk 12 Ground.data, Edge.mk 11 Ground.data, Edge.mk 11 Ground.chain, Edge.mk 0 Ground.phase, Edge.mk 1 Ground.phase, Edge.mk 2 Ground.phase, Edge.mk 3 Ground.phase, Edge.mk 4 Ground.phase, Edge.mk 5 Ground.phase, Edge.mk 6 Ground.phase, Edge.mk 7 Ground.phase, Edge.mk 8 Ground.phase, Edge.mk 9 Ground.phase, Edge.mk 10 Ground.phase, Edge.mk 11 Ground.phase] none) rfl (fun K hK => ?_) AllReadyH.nil)
  have e0 := PX1.out.at (i := a) (by omega)
  have p0 := PX1.out.frozenE a
  go_simp
  obtain ⟨X2, hX⟩ : ∃ Xq, Xq = X1.setCell ⟨eb, a, none⟩ (.int .i64 (yieldI z key mode)) := ⟨_, rfl⟩
  rw [← hX]
  clear e0 p0
  have HB2 := Lib.hid (show Beside (fun g => g = eb) U X2 by rw [hX]; exact HB1.out.set (.inl rfl) a _)
  have PX2 := Lib.hid (show PW X2 bp eb base n (E0.set a (yieldI z key mode)) tk st rl by rw [hX]; exact PX1.out.setE a _)
  clear hX HB1 PX1
  refine hK.out _ _ ?_ (fun hH2 => ?_)
  · exact SH.out _ HB2.out
  clear hK K
  try clear hH1
  try simp only [Act.put, List.setIfInBounds_toArray, List.set_cons_zero, List.set_cons_succ]
  refine wpAnyH_done (by kernel_rfl) ?_ _
  have BX := Lib.hid (show Beside (badP bp eb) U X2 from HB2.out.mono (fun g hg => Or.inr hg))
  have PX := PX2
  clear HB2 PX2
  obtain ⟨X, hX⟩ : ∃ W, W = X2 := ⟨_, rfl⟩
  rw [← hX] at BX PX ⊢
  clear hX
  replace PX : Hid (PW X bp eb base n E1 tk st rl) := by show PW _ _ _ _ _ _ _ _ _; rw [HE1.out]; exact PX.out
  have KX := (World.cell?_of_block (a := ⟨bk, 0, none⟩) (BX.out.block bk HKL.out HKN.out)).trans HKU.out
  have BWX := Lib.hid (BX.out.below HB0U.out HB0U.out.size HBAD.out)
  have HAX := Lib.hid (HA0.out.below BWX.out)
  go_wp2_with fail
  refine (index_back _ n c L bk (backQ L key) X HN.out (by omega) HAX.out (fun W i hi hb => by
    have hkl : bk < X.heap.size := Nat.lt_of_lt_of_le HKL.out BX.out.size
    exact (replace1_any _ _ bk key W ((hb.cell (p := ⟨bk, 0, none⟩) hkl).trans KX) (Nat.lt_of_lt_of_le hkl hb.size)))).mono ?_
  rintro e9 Y ⟨rfl, hb⟩
  rw [HBK.out]
  have PY := Lib.hid (PX.out.below hb)
  have BY := Lib.hid (BX.out.trans (.ofBelow hb))
  clear hb PX BX KX BWX HAX
  have e0 := PY.out.blk.cell 0 (v := .slice (some ⟨eb, 0, none⟩) n n) rfl
  have e1 := PY.out.blk.cell 1 (v := .int .i64 tk) rfl
  have p1 := PY.out.blk.frozen 1
  go_upto_region 6 with fail
  obtain ⟨Z, hZ⟩ : ∃ W, W = Y.setCell ⟨bp, 1, none⟩ (.int .i64 (-1)) := ⟨_, rfl⟩
  rw [← hZ]
  have PZ := Lib.hid (show PW Z bp eb base n E1 (-1) st rl by rw [hZ]; exact PY.out.setT _)
  have BZ := Lib.hid (show Beside (badP bp eb) U Z by rw [hZ]; exact BY.out.set (.inl (.inl rfl)) 1 _)
  clear hZ e0 e1 p1 PY BY
  obtain ⟨Z2, hZ⟩ : ∃ W, W = Z := ⟨_, rfl⟩
  rw [← hZ]
  have PZ2 := Lib.hid (show PW Z2 bp eb base n E2 (-1) st rl by rw [hZ, HE2.out]; exact PZ.out)
  have BZ2 := Lib.hid (show Beside (badP bp eb) U Z2 by rw [hZ]; exact BZ.out)
  clear hZ PZ BZ
  have BWZ := Lib.hid (BZ2.out.below HB0U.out HB0U.out.size HBAD.out)
  have e0 := PZ2.out.blk.cell 0 (v := .slice (some ⟨eb, 0, none⟩) n n) rfl
  go_wp2_with fail
  refine (crowded_any bp _ n c L _ n E2 _ _ _ Z2 HN.out PZ2.out.len.symm (by omega) PZ2.out.blk (HA0.out.below BWZ.out) (At.own PZ2.out.row)).mono ?_
  rintro e9 Z3 ⟨rfl, hb⟩
  rw [HCR.out]
  have PZ3 := Lib.hid (PZ2.out.below hb)
  have BZ3 := Lib.hid (BZ2.out.trans (.ofBelow hb))
  have e3 := PZ3.out.blk.cell 2 (v := .int .i64 st) rfl
  have p3 := PZ3.out.blk.frozen 2
  clear hb e0 PZ2 BZ2 BWZ
  go_wp2_with fail
  go_returns
  exact ⟨rfl, by rw [HRE.out]; exact PZ3.out.setS 2, HBWU.out.trans' (BZ3.out.set (.inl (.inl rfl)) 2 _)⟩
set_option maxHeartbeats 4000000 in
set_option maxRecDepth 100000 in
theorem repl_100010 (a b : Nat) (bp eb base : Nat) (A : Option Addr) (n c : Nat) (L : List Sk) (key : ByteArray) (mode : Int) (rl : Value) (W0 w : World) (hn : n = L.length) (h1 : n ≤ 1000) (ha : At W0 A (scs L)) (hb0 : Below W0.heap.size W0 w) (hp : PW w bp eb base n (zs n) (-2) 0 rl) (hbp : W0.heap.size ≤ bp) (heb : W0.heap.size ≤ eb) (hcur : cur L = some a) (hkey : ¬ key = ByteArray.empty) (hback : back L key = none) (hmode : mode = 1) (hcrowd : crowd L (each2 L key mode) = false) :
    Calls Try.prog 49 #[.pointer (some ⟨bp, 0, none⟩), .slice A n c, .int .i64 (oI (cur L)), .string key, .int .i64 mode] w fun e w' => e = .returned (.tuple #[]) ∧ PW w' bp eb base n (repl L key mode).each (repl L key mode).take (repl L key mode).start rl ∧ Beside (badP bp eb) w w' := by
  obtain ⟨bk, hbk⟩ : ∃ b, b = w.heap.size := ⟨_, rfl⟩
  obtain ⟨U, hU⟩ : ∃ W, W = w.alloc (.cells #[.string key] 9) := ⟨_, rfl⟩
  have hbU : Below w.heap.size w U := by rw [hU]; exact below_alloc w _
  have HKB : Hid (Blk U bk 9 #[.string key]) := by show Blk _ _ _ _; rw [hU, hbk]; exact Blk.new w _ _
  have HKU := Lib.hid (HKB.out.cell 0 (v := .string key) rfl)
  have HKL := Lib.hid HKB.out.lt
  have HKN : Hid (¬ badP bp eb bk) := by
    rintro (e | e)
    · have := hp.blk.lt; omega
    · have : eb < w.heap.size := (hp.row.lt _ rfl).2; omega
  obtain ⟨E0, hE0⟩ : ∃ E, E = zs n := ⟨_, rfl⟩
  obtain ⟨tk, htk⟩ : ∃ z : Int, z = -2 := ⟨_, rfl⟩
  obtain ⟨st, hst⟩ : ∃ z : Int, z = 0 := ⟨_, rfl⟩
  have hp' := hp
  rw [← hE0, ← htk, ← hst] at hp'
  have PU := Lib.hid (hp'.below hbU)
  have HB0U := Lib.hid (hb0.trans (hbU.mono hb0.size))
  have HBAD : Hid (∀ g, badP bp eb g → W0.heap.size ≤ g) := by
    rintro g (e | e)
    · omega
    · omega
  have HBWU := Lib.hid hbU
  have HA0 := Lib.hid ha
  have HN := Lib.hid hn
  have HU := Lib.hid hU
  have HG := Lib.hid hbk
  have han := (cur_some hcur).1
  rw [← hn] at han
  obtain ⟨b1, o1, hA1, hbb1, hc0, hc1⟩ := at_sk ha (k := a) (by omega)
  obtain ⟨s, hs⟩ : ∃ s, s = (sk L a).1 := ⟨_, rfl⟩
  obtain ⟨z, hz⟩ : ∃ s, s = (sk L a).2 := ⟨_, rfl⟩
  rw [← hs] at hc0
  rw [← hz] at hc1
  have HE1 : Hid (each1 L key mode = E0.set a (yieldI z key mode)) := by show _ = _; unfold each1; rw [hcur, hE0, hz, hn]
  have HE2 : Hid (each2 L key mode = each1 L key mode) := by show _ = _; unfold each2; rw [hback]
  have HBK : Hid (oI (fi (backQ L key) n) = -1) := by show _ = _; rw [hn]; show oI (back L key) = _; rw [hback]; rfl
  have HRE : Hid (repl L key mode = ⟨each2 L key mode, -1, 1⟩) := by
    have hbh : backHeld L key = false := by unfold backHeld; rw [hback]
    show _ = _
    unfold repl
    rw [if_neg hkey, hback]
    have : startB L key mode = 1 := by unfold startB; rw [hbh, if_neg (by simp), if_neg (fun h => by rw [hcrowd] at h; cases h.2)]
    rw [this]
    rfl
  have HCR := Lib.hid hcrowd
  have hsk : key.toList.isEmpty = false := str_ne hkey
  have hmk : (mode == 1) = true := by simpa using hmode
  obtain ⟨E2, hE2⟩ : ∃ E, E = each2 L key mode := ⟨_, rfl⟩
  rw [← hE2] at HE2 HRE HCR
  obtain ⟨E1, hE1⟩ : ∃ E, E = each1 L key mode := ⟨_, rfl⟩
  rw [← hE1] at HE1 HE2
  have SH := Lib.hid (fun W (BW : Beside (fun g => g = eb) U W) => by
    have BL := Lib.hid ((BW.mono (fun g hg => Or.inr hg) : Beside (badP bp eb) U W).below HB0U.out HB0U.out.size HBAD.out)
    exact (⟨(World.cell?_of_block (a := ⟨bp, 0, none⟩) (BW.block bp PU.out.blk.lt (fun e => PU.out.ne e.symm))).trans (PU.out.blk.cell 0 rfl), (BL.out.cell (p := ⟨b1, o1 + a * 2, none⟩) hbb1).trans hc0, (BL.out.cell (p := ⟨b1, o1 + a * 2 + 1, none⟩) hbb1).trans hc1, (World.cell?_of_block (a := ⟨bk, 0, none⟩) (BW.block bk HKL.out (fun e => HKN.out (.inr e)))).trans HKU.out⟩ : (fun w' => w'.cell? ⟨bp, 0, none⟩ = some (.slice (some ⟨eb, 0, none⟩) n n) ∧ w'.cell? ⟨b1, o1 + a * 2, none⟩ = some (.string s) ∧ w'.cell? ⟨b1, o1 + a * 2 + 1, none⟩ = some (.int .i64 z) ∧ w'.cell? ⟨bk, 0, none⟩ = some (.string key)) W))
  subst hA1
  rw [hcur]
  rw [show oI (some a) = (a : Int) from rfl]
  clear hU hbk hbU hp hp' hE0 htk hst ha hn hb0 hbp heb HKB hc0 hc1 hs hz hkey hmode hcrowd hE2 hE1 hback hcur
  go_enter Try.func49, Try.ntmps49
  go_upto_region 1 with fail
  rw [← HU.out, ← HG.out]
  go_upto_region 2 with fail
  have HB0 := Lib.hid (show Beside (fun g => g = eb) U U.drew from Beside.drewN (Beside.refl _ _) 1)
  obtain ⟨X0, hX0⟩ : ∃ X, X = U.drew := ⟨_, rfl⟩
  refine wp_region_held_drew (S := (fun w' => w'.cell? ⟨bp, 0, none⟩ = some (.slice (some ⟨eb, 0, none⟩) n n) ∧ w'.cell? ⟨b1, o1 + a * 2, none⟩ = some (.string s) ∧ w'.cell? ⟨b1, o1 + a * 2 + 1, none⟩ = some (.int .i64 z) ∧ w'.cell? ⟨bk, 0, none⟩ = some (.string key))) (by kernel_rfl) (SH.out _ HB0.out) (fun hH0 => ?_)
  rw [← hX0] at HB0 hH0 ⊢
  have PX0 := Lib.hid (show PW X0 bp eb base n E0 tk st rl by rw [hX0]; exact PU.out.below (Below_drew (Below.refl _ _)))
  clear hX0
  refine wpAnyH_take (i := 0) (oi := Oper.mk (some 13) (Op.move (Operand.tmp 0)) 102 "slot.go:75" #[] none) (v := ?_) rfl (by kernel_rfl) (by kernel_rfl) (by kernel_rfl) (fun _ _ _ h => h) (Or.inl ⟨by rfl, ?_⟩) (by assumption) ?_
  rotate_left 1
  · (intro w hSw; (try dsimp only at hSw); go_simp; (try with_reducible rfl))
  try simp only [Act.put, List.setIfInBounds_toArray, List.set_cons_zero, List.set_cons_succ]
  refine wpAnyH_take (i := 1) (oi := Oper.mk (some 14) (Op.nilCheck (Operand.tmp 13)) 0 "slot.go:75" #[Edge.mk 0 Ground.data] none) (v := ?_) rfl (by kernel_rfl) (by kernel_rfl) (by kernel_rfl) (fun _ _ _ h => h) (Or.inl ⟨by rfl, ?_⟩) (by assumption) ?_
  rotate_left 1
  · (intro w hSw; (try dsimp only at hSw); go_simp; (try with_reducible rfl))
  try simp only [Act.put, List.setIfInBounds_toArray, List.set_cons_zero, List.set_cons_succ]
  refine wpAnyH_take (i := 2) (oi := Oper.mk (some 15) (Op.fieldAddr 50 (Operand.tmp 14) 0) 0 "slot.go:75" #[Edge.mk 1 Ground.data] none) (v := ?_) rfl (by kernel_rfl) (by kernel_rfl) (by kernel_rfl) (fun _ _ _ h => h) (Or.inl ⟨by rfl, ?_⟩) (by assumption) ?_
  rotate_left 1
  · (intro w hSw; (try dsimp only at hSw); go_simp; (try with_reducible rfl))
  try simp only [Act.put, List.setIfInBounds_toArray, List.set_cons_zero, List.set_cons_succ]
  refine wpAnyH_take (i := 3) (oi := Oper.mk (some 16) (Op.load 29 (Operand.tmp 15)) 29 "slot.go:75" #[Edge.mk 2 Ground.data] none) (v := ?_) rfl (by kernel_rfl) (by kernel_rfl) (by kernel_rfl) (fun _ _ _ h => h) (Or.inl ⟨by rfl, ?_⟩) (by assumption) ?_
  rotate_left 1
  · (intro w hSw; (try dsimp only at hSw); go_simp; (try with_reducible rfl))
  try simp only [Act.put, List.setIfInBounds_toArray, List.set_cons_zero, List.set_cons_succ]
  refine wpAnyH_take (i := 4) (oi := Oper.mk (some 17) (Op.move (Operand.tmp 2)) 3 "slot.go:75" #[] none) (v := ?_) rfl (by kernel_rfl) (by kernel_rfl) (by kernel_rfl) (fun _ _ _ h => h) (Or.inl ⟨by rfl, ?_⟩) (by assumption) ?_
  rotate_left 1
  · (intro w hSw; (try dsimp only at hSw); go_simp; (try with_reducible rfl))
  try simp only [Act.put, List.setIfInBounds_toArray, List.set_cons_zero, List.set_cons_succ]
  refine wpAnyH_take (i := 5) (oi := Oper.mk (some 18) (Op.move (Operand.tmp 1)) 45 "slot.go:75" #[] none) (v := ?_) rfl (by kernel_rfl) (by kernel_rfl) (by kernel_rfl) (fun _ _ _ h => h) (Or.inl ⟨by rfl, ?_⟩) (by assumption) ?_
  rotate_left 1
  · (intro w hSw; (try dsimp only at hSw); go_simp; (try with_reducible rfl))
  try simp only [Act.put, List.setIfInBounds_toArray, List.set_cons_zero, List.set_cons_succ]
  refine wpAnyH_take (i := 6) (oi := Oper.mk (some 19) (Op.move (Operand.tmp 2)) 3 "slot.go:75" #[] none) (v := ?_) rfl (by kernel_rfl) (by kernel_rfl) (by kernel_rfl) (fun _ _ _ h => h) (Or.inl ⟨by rfl, ?_⟩) (by assumption) ?_
  rotate_left 1
  · (intro w hSw; (try dsimp only at hSw); go_simp; (try with_reducible rfl))
  try simp only [Act.put, List.setIfInBounds_toArray, List.set_cons_zero, List.set_cons_succ]
  refine wpAnyH_take (i := 7) (oi := Oper.mk (some 20) (Op.indexAddr 45 (Operand.tmp 18) (Operand.tmp 19)) 0 "slot.go:75" #[Edge.mk 5 Ground.data, Edge.mk 6 Ground.data] none) (v := ?_) rfl (by kernel_rfl) (by kernel_rfl) (by kernel_rfl) (fun _ _ _ h => h) (Or.inl ⟨by rfl, ?_⟩) (by assumption) ?_
  rotate_left 1
  · (intro w hSw; (try dsimp only at hSw); go_simp; (try with_reducible rfl))
  try simp only [Act.put, List.setIfInBounds_toArray, List.set_cons_zero, List.set_cons_succ]
  refine wpAnyH_take (i := 8) (oi := Oper.mk (some 21) (Op.load 86 (Operand.tmp 20)) 86 "slot.go:75" #[Edge.mk 7 Ground.data] none) (v := ?_) rfl (by kernel_rfl) (by kernel_rfl) (by kernel_rfl) (fun _ _ _ h => h) (Or.inl ⟨by rfl, ?_⟩) (by assumption) ?_
  rotate_left 1
  · (intro w hSw; (try dsimp only at hSw); go_simp; (try with_reducible rfl))
  try simp only [Act.put, List.setIfInBounds_toArray, List.set_cons_zero, List.set_cons_succ]
  refine wpAnyH_take (i := 9) (oi := Oper.mk (some 22) (Op.load 9 (Operand.tmp 8)) 9 "slot.go:75" #[] none) (v := ?_) rfl (by kernel_rfl) (by kernel_rfl) (by kernel_rfl) (fun _ _ _ h => h) (Or.inl ⟨by rfl, ?_⟩) (by assumption) ?_
  rotate_left 1
  · (intro w hSw; (try dsimp only at hSw); go_simp; (try with_reducible rfl))
  try simp only [Act.put, List.setIfInBounds_toArray, List.set_cons_zero, List.set_cons_succ]
  refine wpAnyH_take (i := 10) (oi := Oper.mk (some 23) (Op.move (Operand.tmp 4)) 3 "slot.go:75" #[] none) (v := ?_) rfl (by kernel_rfl) (by kernel_rfl) (by kernel_rfl) (fun _ _ _ h => h) (Or.inl ⟨by rfl, ?_⟩) (by assumption) ?_
  rotate_left 1
  · (intro w hSw; (try dsimp only at hSw); go_simp; (try with_reducible rfl))
  try simp only [Act.put, List.setIfInBounds_toArray, List.set_cons_zero, List.set_cons_succ]
  refine wpAnyH_ready (rs := [11]) (by kernel_rfl) (by simp) ?_
  refine (AllReadyH.cons (o := Oper.mk (some 24) (Op.call (Call.mk (Callee.value (Operand.func 65)) #[Operand.tmp 21, Operand.tmp 22, Operand.tmp 23] #[86, 9, 3])) 3 "slot.go:75" #[Edge.mk 8 Ground.data, Edge.mk 9 Ground.data, Edge.mk 10 Ground.data] none) rfl (fun K hK => ?_) AllReadyH.nil)
  go_simp
  go_at_call 65
  (with_reducible refine (yields_any s z key mode X0).mono ?_)
  rintro e9 X1 ⟨rfl, hb⟩
  have HB1 := Lib.hid (HB0.out.trans (.ofBelow hb))
  have PX1 := Lib.hid (PX0.out.below hb)
  clear hb HB0 PX0
  go_wp2_with fail
  refine hK.out _ _ ?_ (fun hH1 => ?_)
  · exact SH.out _ HB1.out
  clear hK K
  try clear hH0
  try simp only [Act.put, List.setIfInBounds_toArray, List.set_cons_zero, List.set_cons_succ]
  refine wpAnyH_take (i := 12) (oi := Oper.mk (some 25) (Op.indexAddr 29 (Operand.tmp 16) (Operand.tmp 17)) 0 "slot.go:75" #[Edge.mk 3 Ground.data, Edge.mk 4 Ground.data, Edge.mk 0 Ground.phase, Edge.mk 1 Ground.phase, Edge.mk 2 Ground.phase, Edge.mk 3 Ground.phase, Edge.mk 4 Ground.phase, Edge.mk 5 Ground.phase, Edge.mk 6 Ground.phase, Edge.mk 7 Ground.phase, Edge.mk 8 Ground.phase, Edge.mk 9 Ground.phase, Edge.mk 10 Ground.phase, Edge.mk 11 Ground.phase] none) (v := ?_) rfl (by kernel_rfl) (by kernel_rfl) (by kernel_rfl) (fun _ _ _ h => h) (Or.inl ⟨by rfl, ?_⟩) (by assumption) ?_
  rotate_left 1
  · (intro w hSw; (try dsimp only at hSw); go_simp; (try with_reducible rfl))
  try simp only [Act.put, List.setIfInBounds_toArray, List.set_cons_zero, List.set_cons_succ]
  refine wpAnyH_ready (rs := [13]) (by kernel_rfl) (by simp) ?_
  refine (AllReadyH.cons (o := Oper.mk none (Op.store 3 (Operand.tmp 25) (Operand.tmp 24)) 0 "slot.go:75" #[Edge.mk 12 Ground.data, Edge.mk 11 Ground.data, Edge.mk 11 Ground.chain, Edge.mk 0 Ground.phase, Edge.mk 1 Ground.phase, Edge.mk 2 Ground.phase, Edge.mk 3 Ground.phase, Edge.mk 4 Ground.phase, Edge.mk 5 Ground.phase, Edge.mk 6 Ground.phase, Edge.mk 7 Ground.phase, Edge.mk 8 Ground.phase, Edge.mk 9 Ground.phase, Edge.mk 10 Ground.phase, Edge.mk 11 Ground.phase] none) rfl (fun K hK => ?_) AllReadyH.nil)
  have e0 := PX1.out.at (i := a) (by omega)
  have p0 := PX1.out.frozenE a
  go_simp
  obtain ⟨X2, hX⟩ : ∃ Xq, Xq = X1.setCell ⟨eb, a, none⟩ (.int .i64 (yieldI z key mode)) := ⟨_, rfl⟩
  rw [← hX]
  clear e0 p0
  have HB2 := Lib.hid (show Beside (fun g => g = eb) U X2 by rw [hX]; exact HB1.out.set (.inl rfl) a _)
  have PX2 := Lib.hid (show PW X2 bp eb base n (E0.set a (yieldI z key mode)) tk st rl by rw [hX]; exact PX1.out.setE a _)
  clear hX HB1 PX1
  refine hK.out _ _ ?_ (fun hH2 => ?_)
  · exact SH.out _ HB2.out
  clear hK K
  try clear hH1
  try simp only [Act.put, List.setIfInBounds_toArray, List.set_cons_zero, List.set_cons_succ]
  refine wpAnyH_done (by kernel_rfl) ?_ _
  have BX := Lib.hid (show Beside (badP bp eb) U X2 from HB2.out.mono (fun g hg => Or.inr hg))
  have PX := PX2
  clear HB2 PX2
  obtain ⟨X, hX⟩ : ∃ W, W = X2 := ⟨_, rfl⟩
  rw [← hX] at BX PX ⊢
  clear hX
  replace PX : Hid (PW X bp eb base n E1 tk st rl) := by show PW _ _ _ _ _ _ _ _ _; rw [HE1.out]; exact PX.out
  have KX := (World.cell?_of_block (a := ⟨bk, 0, none⟩) (BX.out.block bk HKL.out HKN.out)).trans HKU.out
  have BWX := Lib.hid (BX.out.below HB0U.out HB0U.out.size HBAD.out)
  have HAX := Lib.hid (HA0.out.below BWX.out)
  go_wp2_with fail
  refine (index_back _ n c L bk (backQ L key) X HN.out (by omega) HAX.out (fun W i hi hb => by
    have hkl : bk < X.heap.size := Nat.lt_of_lt_of_le HKL.out BX.out.size
    exact (replace1_any _ _ bk key W ((hb.cell (p := ⟨bk, 0, none⟩) hkl).trans KX) (Nat.lt_of_lt_of_le hkl hb.size)))).mono ?_
  rintro e9 Y ⟨rfl, hb⟩
  rw [HBK.out]
  have PY := Lib.hid (PX.out.below hb)
  have BY := Lib.hid (BX.out.trans (.ofBelow hb))
  clear hb PX BX KX BWX HAX
  have e0 := PY.out.blk.cell 0 (v := .slice (some ⟨eb, 0, none⟩) n n) rfl
  have e1 := PY.out.blk.cell 1 (v := .int .i64 tk) rfl
  have p1 := PY.out.blk.frozen 1
  go_upto_region 6 with fail
  obtain ⟨Z, hZ⟩ : ∃ W, W = Y.setCell ⟨bp, 1, none⟩ (.int .i64 (-1)) := ⟨_, rfl⟩
  rw [← hZ]
  have PZ := Lib.hid (show PW Z bp eb base n E1 (-1) st rl by rw [hZ]; exact PY.out.setT _)
  have BZ := Lib.hid (show Beside (badP bp eb) U Z by rw [hZ]; exact BY.out.set (.inl (.inl rfl)) 1 _)
  clear hZ e0 e1 p1 PY BY
  obtain ⟨Z2, hZ⟩ : ∃ W, W = Z := ⟨_, rfl⟩
  rw [← hZ]
  have PZ2 := Lib.hid (show PW Z2 bp eb base n E2 (-1) st rl by rw [hZ, HE2.out]; exact PZ.out)
  have BZ2 := Lib.hid (show Beside (badP bp eb) U Z2 by rw [hZ]; exact BZ.out)
  clear hZ PZ BZ
  have BWZ := Lib.hid (BZ2.out.below HB0U.out HB0U.out.size HBAD.out)
  have e0 := PZ2.out.blk.cell 0 (v := .slice (some ⟨eb, 0, none⟩) n n) rfl
  go_wp2_with fail
  refine (crowded_any bp _ n c L _ n E2 _ _ _ Z2 HN.out PZ2.out.len.symm (by omega) PZ2.out.blk (HA0.out.below BWZ.out) (At.own PZ2.out.row)).mono ?_
  rintro e9 Z3 ⟨rfl, hb⟩
  rw [HCR.out]
  have PZ3 := Lib.hid (PZ2.out.below hb)
  have BZ3 := Lib.hid (BZ2.out.trans (.ofBelow hb))
  have e3 := PZ3.out.blk.cell 2 (v := .int .i64 st) rfl
  have p3 := PZ3.out.blk.frozen 2
  clear hb e0 PZ2 BZ2 BWZ
  go_wp2_with fail
  go_returns
  exact ⟨rfl, by rw [HRE.out]; exact PZ3.out.setS 1, HBWU.out.trans' (BZ3.out.set (.inl (.inl rfl)) 2 _)⟩
set_option maxHeartbeats 4000000 in
set_option maxRecDepth 100000 in
theorem repl_101100 (a b : Nat) (bp eb base : Nat) (A : Option Addr) (n c : Nat) (L : List Sk) (key : ByteArray) (mode : Int) (rl : Value) (W0 w : World) (hn : n = L.length) (h1 : n ≤ 1000) (ha : At W0 A (scs L)) (hb0 : Below W0.heap.size W0 w) (hp : PW w bp eb base n (zs n) (-2) 0 rl) (hbp : W0.heap.size ≤ bp) (heb : W0.heap.size ≤ eb) (hcur : cur L = some a) (hkey : ¬ key = ByteArray.empty) (hback : back L key = some b) (hheld : (sk L b).2 = 4) :
    Calls Try.prog 49 #[.pointer (some ⟨bp, 0, none⟩), .slice A n c, .int .i64 (oI (cur L)), .string key, .int .i64 mode] w fun e w' => e = .returned (.tuple #[]) ∧ PW w' bp eb base n (repl L key mode).each (repl L key mode).take (repl L key mode).start rl ∧ Beside (badP bp eb) w w' := by
  obtain ⟨bk, hbk⟩ : ∃ b, b = w.heap.size := ⟨_, rfl⟩
  obtain ⟨U, hU⟩ : ∃ W, W = w.alloc (.cells #[.string key] 9) := ⟨_, rfl⟩
  have hbU : Below w.heap.size w U := by rw [hU]; exact below_alloc w _
  have HKB : Hid (Blk U bk 9 #[.string key]) := by show Blk _ _ _ _; rw [hU, hbk]; exact Blk.new w _ _
  have HKU := Lib.hid (HKB.out.cell 0 (v := .string key) rfl)
  have HKL := Lib.hid HKB.out.lt
  have HKN : Hid (¬ badP bp eb bk) := by
    rintro (e | e)
    · have := hp.blk.lt; omega
    · have : eb < w.heap.size := (hp.row.lt _ rfl).2; omega
  obtain ⟨E0, hE0⟩ : ∃ E, E = zs n := ⟨_, rfl⟩
  obtain ⟨tk, htk⟩ : ∃ z : Int, z = -2 := ⟨_, rfl⟩
  obtain ⟨st, hst⟩ : ∃ z : Int, z = 0 := ⟨_, rfl⟩
  have hp' := hp
  rw [← hE0, ← htk, ← hst] at hp'
  have PU := Lib.hid (hp'.below hbU)
  have HB0U := Lib.hid (hb0.trans (hbU.mono hb0.size))
  have HBAD : Hid (∀ g, badP bp eb g → W0.heap.size ≤ g) := by
    rintro g (e | e)
    · omega
    · omega
  have HBWU := Lib.hid hbU
  have HA0 := Lib.hid ha
  have HN := Lib.hid hn
  have HU := Lib.hid hU
  have HG := Lib.hid hbk
  have han := (cur_some hcur).1
  rw [← hn] at han
  obtain ⟨b1, o1, hA1, hbb1, hc0, hc1⟩ := at_sk ha (k := a) (by omega)
  obtain ⟨s, hs⟩ : ∃ s, s = (sk L a).1 := ⟨_, rfl⟩
  obtain ⟨z, hz⟩ : ∃ s, s = (sk L a).2 := ⟨_, rfl⟩
  rw [← hs] at hc0
  rw [← hz] at hc1
  have HE1 : Hid (each1 L key mode = E0.set a (yieldI z key mode)) := by show _ = _; unfold each1; rw [hcur, hE0, hz, hn]
  have hbn := (back_some hback).1
  rw [← hn] at hbn
  obtain ⟨b2, o2, hA2, hb2, _, hcb⟩ := at_sk ha (k := b) (by omega)
  obtain ⟨y, hy⟩ : ∃ s, s = (sk L b).2 := ⟨_, rfl⟩
  rw [← hy] at hcb hheld
  have HCB := Lib.hid hcb
  have HE2 : Hid (each2 L key mode = (each1 L key mode).set b 4) := by show _ = _; unfold each2; rw [hback]
  have HBK : Hid (oI (fi (backQ L key) n) = (b : Int)) := by show _ = _; rw [hn]; show oI (back L key) = _; rw [hback]; rfl
  have HRE : Hid (repl L key mode = ⟨each2 L key mode, (b : Int), 0⟩) := by
    have hbh : backHeld L key = true := by unfold backHeld; rw [hback]; show decide _ = _; rw [← hy]; exact decide_eq_true hheld
    show _ = _
    unfold repl
    rw [if_neg hkey, hback]
    have : startB L key mode = 0 := by unfold startB; rw [hbh, if_pos rfl]
    rw [this]
    rfl
  have hsk : key.toList.isEmpty = false := str_ne hkey
  have hyk : (y == 4) = true := by simpa using hheld
  obtain ⟨E2, hE2⟩ : ∃ E, E = each2 L key mode := ⟨_, rfl⟩
  rw [← hE2] at HE2 HRE
  obtain ⟨E1, hE1⟩ : ∃ E, E = each1 L key mode := ⟨_, rfl⟩
  rw [← hE1] at HE1 HE2
  have SH := Lib.hid (fun W (BW : Beside (fun g => g = eb) U W) => by
    have BL := Lib.hid ((BW.mono (fun g hg => Or.inr hg) : Beside (badP bp eb) U W).below HB0U.out HB0U.out.size HBAD.out)
    exact (⟨(World.cell?_of_block (a := ⟨bp, 0, none⟩) (BW.block bp PU.out.blk.lt (fun e => PU.out.ne e.symm))).trans (PU.out.blk.cell 0 rfl), (BL.out.cell (p := ⟨b1, o1 + a * 2, none⟩) hbb1).trans hc0, (BL.out.cell (p := ⟨b1, o1 + a * 2 + 1, none⟩) hbb1).trans hc1, (World.cell?_of_block (a := ⟨bk, 0, none⟩) (BW.block bk HKL.out (fun e => HKN.out (.inr e)))).trans HKU.out⟩ : (fun w' => w'.cell? ⟨bp, 0, none⟩ = some (.slice (some ⟨eb, 0, none⟩) n n) ∧ w'.cell? ⟨b1, o1 + a * 2, none⟩ = some (.string s) ∧ w'.cell? ⟨b1, o1 + a * 2 + 1, none⟩ = some (.int .i64 z) ∧ w'.cell? ⟨bk, 0, none⟩ = some (.string key)) W))
  subst hA1
  injection hA2 with e2
  injection e2 with e3 e4
  subst e3 e4
  rw [hcur]
  rw [show oI (some a) = (a : Int) from rfl]
  clear hU hbk hbU hp hp' hE0 htk hst ha hn hb0 hbp heb HKB hc0 hc1 hs hz hkey hcb hy hheld hE2 hE1 hback hcur
  go_enter Try.func49, Try.ntmps49
  go_upto_region 1 with fail
  rw [← HU.out, ← HG.out]
  go_upto_region 2 with fail
  have HB0 := Lib.hid (show Beside (fun g => g = eb) U U.drew from Beside.drewN (Beside.refl _ _) 1)
  obtain ⟨X0, hX0⟩ : ∃ X, X = U.drew := ⟨_, rfl⟩
  refine wp_region_held_drew (S := (fun w' => w'.cell? ⟨bp, 0, none⟩ = some (.slice (some ⟨eb, 0, none⟩) n n) ∧ w'.cell? ⟨b1, o1 + a * 2, none⟩ = some (.string s) ∧ w'.cell? ⟨b1, o1 + a * 2 + 1, none⟩ = some (.int .i64 z) ∧ w'.cell? ⟨bk, 0, none⟩ = some (.string key))) (by kernel_rfl) (SH.out _ HB0.out) (fun hH0 => ?_)
  rw [← hX0] at HB0 hH0 ⊢
  have PX0 := Lib.hid (show PW X0 bp eb base n E0 tk st rl by rw [hX0]; exact PU.out.below (Below_drew (Below.refl _ _)))
  clear hX0
  refine wpAnyH_take (i := 0) (oi := Oper.mk (some 13) (Op.move (Operand.tmp 0)) 102 "slot.go:75" #[] none) (v := ?_) rfl (by kernel_rfl) (by kernel_rfl) (by kernel_rfl) (fun _ _ _ h => h) (Or.inl ⟨by rfl, ?_⟩) (by assumption) ?_
  rotate_left 1
  · (intro w hSw; (try dsimp only at hSw); go_simp; (try with_reducible rfl))
  try simp only [Act.put, List.setIfInBounds_toArray, List.set_cons_zero, List.set_cons_succ]
  refine wpAnyH_take (i := 1) (oi := Oper.mk (some 14) (Op.nilCheck (Operand.tmp 13)) 0 "slot.go:75" #[Edge.mk 0 Ground.data] none) (v := ?_) rfl (by kernel_rfl) (by kernel_rfl) (by kernel_rfl) (fun _ _ _ h => h) (Or.inl ⟨by rfl, ?_⟩) (by assumption) ?_
  rotate_left 1
  · (intro w hSw; (try dsimp only at hSw); go_simp; (try with_reducible rfl))
  try simp only [Act.put, List.setIfInBounds_toArray, List.set_cons_zero, List.set_cons_succ]
  refine wpAnyH_take (i := 2) (oi := Oper.mk (some 15) (Op.fieldAddr 50 (Operand.tmp 14) 0) 0 "slot.go:75" #[Edge.mk 1 Ground.data] none) (v := ?_) rfl (by kernel_rfl) (by kernel_rfl) (by kernel_rfl) (fun _ _ _ h => h) (Or.inl ⟨by rfl, ?_⟩) (by assumption) ?_
  rotate_left 1
  · (intro w hSw; (try dsimp only at hSw); go_simp; (try with_reducible rfl))
  try simp only [Act.put, List.setIfInBounds_toArray, List.set_cons_zero, List.set_cons_succ]
  refine wpAnyH_take (i := 3) (oi := Oper.mk (some 16) (Op.load 29 (Operand.tmp 15)) 29 "slot.go:75" #[Edge.mk 2 Ground.data] none) (v := ?_) rfl (by kernel_rfl) (by kernel_rfl) (by kernel_rfl) (fun _ _ _ h => h) (Or.inl ⟨by rfl, ?_⟩) (by assumption) ?_
  rotate_left 1
  · (intro w hSw; (try dsimp only at hSw); go_simp; (try with_reducible rfl))
  try simp only [Act.put, List.setIfInBounds_toArray, List.set_cons_zero, List.set_cons_succ]
  refine wpAnyH_take (i := 4) (oi := Oper.mk (some 17) (Op.move (Operand.tmp 2)) 3 "slot.go:75" #[] none) (v := ?_) rfl (by kernel_rfl) (by kernel_rfl) (by kernel_rfl) (fun _ _ _ h => h) (Or.inl ⟨by rfl, ?_⟩) (by assumption) ?_
  rotate_left 1
  · (intro w hSw; (try dsimp only at hSw); go_simp; (try with_reducible rfl))
  try simp only [Act.put, List.setIfInBounds_toArray, List.set_cons_zero, List.set_cons_succ]
  refine wpAnyH_take (i := 5) (oi := Oper.mk (some 18) (Op.move (Operand.tmp 1)) 45 "slot.go:75" #[] none) (v := ?_) rfl (by kernel_rfl) (by kernel_rfl) (by kernel_rfl) (fun _ _ _ h => h) (Or.inl ⟨by rfl, ?_⟩) (by assumption) ?_
  rotate_left 1
  · (intro w hSw; (try dsimp only at hSw); go_simp; (try with_reducible rfl))
  try simp only [Act.put, List.setIfInBounds_toArray, List.set_cons_zero, List.set_cons_succ]
  refine wpAnyH_take (i := 6) (oi := Oper.mk (some 19) (Op.move (Operand.tmp 2)) 3 "slot.go:75" #[] none) (v := ?_) rfl (by kernel_rfl) (by kernel_rfl) (by kernel_rfl) (fun _ _ _ h => h) (Or.inl ⟨by rfl, ?_⟩) (by assumption) ?_
  rotate_left 1
  · (intro w hSw; (try dsimp only at hSw); go_simp; (try with_reducible rfl))
  try simp only [Act.put, List.setIfInBounds_toArray, List.set_cons_zero, List.set_cons_succ]
  refine wpAnyH_take (i := 7) (oi := Oper.mk (some 20) (Op.indexAddr 45 (Operand.tmp 18) (Operand.tmp 19)) 0 "slot.go:75" #[Edge.mk 5 Ground.data, Edge.mk 6 Ground.data] none) (v := ?_) rfl (by kernel_rfl) (by kernel_rfl) (by kernel_rfl) (fun _ _ _ h => h) (Or.inl ⟨by rfl, ?_⟩) (by assumption) ?_
  rotate_left 1
  · (intro w hSw; (try dsimp only at hSw); go_simp; (try with_reducible rfl))
  try simp only [Act.put, List.setIfInBounds_toArray, List.set_cons_zero, List.set_cons_succ]
  refine wpAnyH_take (i := 8) (oi := Oper.mk (some 21) (Op.load 86 (Operand.tmp 20)) 86 "slot.go:75" #[Edge.mk 7 Ground.data] none) (v := ?_) rfl (by kernel_rfl) (by kernel_rfl) (by kernel_rfl) (fun _ _ _ h => h) (Or.inl ⟨by rfl, ?_⟩) (by assumption) ?_
  rotate_left 1
  · (intro w hSw; (try dsimp only at hSw); go_simp; (try with_reducible rfl))
  try simp only [Act.put, List.setIfInBounds_toArray, List.set_cons_zero, List.set_cons_succ]
  refine wpAnyH_take (i := 9) (oi := Oper.mk (some 22) (Op.load 9 (Operand.tmp 8)) 9 "slot.go:75" #[] none) (v := ?_) rfl (by kernel_rfl) (by kernel_rfl) (by kernel_rfl) (fun _ _ _ h => h) (Or.inl ⟨by rfl, ?_⟩) (by assumption) ?_
  rotate_left 1
  · (intro w hSw; (try dsimp only at hSw); go_simp; (try with_reducible rfl))
  try simp only [Act.put, List.setIfInBounds_toArray, List.set_cons_zero, List.set_cons_succ]
  refine wpAnyH_take (i := 10) (oi := Oper.mk (some 23) (Op.move (Operand.tmp 4)) 3 "slot.go:75" #[] none) (v := ?_) rfl (by kernel_rfl) (by kernel_rfl) (by kernel_rfl) (fun _ _ _ h => h) (Or.inl ⟨by rfl, ?_⟩) (by assumption) ?_
  rotate_left 1
  · (intro w hSw; (try dsimp only at hSw); go_simp; (try with_reducible rfl))
  try simp only [Act.put, List.setIfInBounds_toArray, List.set_cons_zero, List.set_cons_succ]
  refine wpAnyH_ready (rs := [11]) (by kernel_rfl) (by simp) ?_
  refine (AllReadyH.cons (o := Oper.mk (some 24) (Op.call (Call.mk (Callee.value (Operand.func 65)) #[Operand.tmp 21, Operand.tmp 22, Operand.tmp 23] #[86, 9, 3])) 3 "slot.go:75" #[Edge.mk 8 Ground.data, Edge.mk 9 Ground.data, Edge.mk 10 Ground.data] none) rfl (fun K hK => ?_) AllReadyH.nil)
  go_simp
  go_at_call 65
  (with_reducible refine (yields_any s z key mode X0).mono ?_)
  rintro e9 X1 ⟨rfl, hb⟩
  have HB1 := Lib.hid (HB0.out.trans (.ofBelow hb))
  have PX1 := Lib.hid (PX0.out.below hb)
  clear hb HB0 PX0
  go_wp2_with fail
  refine hK.out _ _ ?_ (fun hH1 => ?_)
  · exact SH.out _ HB1.out
  clear hK K
  try clear hH0
  try simp only [Act.put, List.setIfInBounds_toArray, List.set_cons_zero, List.set_cons_succ]
  refine wpAnyH_take (i := 12) (oi := Oper.mk (some 25) (Op.indexAddr 29 (Operand.tmp 16) (Operand.tmp 17)) 0 "slot.go:75" #[Edge.mk 3 Ground.data, Edge.mk 4 Ground.data, Edge.mk 0 Ground.phase, Edge.mk 1 Ground.phase, Edge.mk 2 Ground.phase, Edge.mk 3 Ground.phase, Edge.mk 4 Ground.phase, Edge.mk 5 Ground.phase, Edge.mk 6 Ground.phase, Edge.mk 7 Ground.phase, Edge.mk 8 Ground.phase, Edge.mk 9 Ground.phase, Edge.mk 10 Ground.phase, Edge.mk 11 Ground.phase] none) (v := ?_) rfl (by kernel_rfl) (by kernel_rfl) (by kernel_rfl) (fun _ _ _ h => h) (Or.inl ⟨by rfl, ?_⟩) (by assumption) ?_
  rotate_left 1
  · (intro w hSw; (try dsimp only at hSw); go_simp; (try with_reducible rfl))
  try simp only [Act.put, List.setIfInBounds_toArray, List.set_cons_zero, List.set_cons_succ]
  refine wpAnyH_ready (rs := [13]) (by kernel_rfl) (by simp) ?_
  refine (AllReadyH.cons (o := Oper.mk none (Op.store 3 (Operand.tmp 25) (Operand.tmp 24)) 0 "slot.go:75" #[Edge.mk 12 Ground.data, Edge.mk 11 Ground.data, Edge.mk 11 Ground.chain, Edge.mk 0 Ground.phase, Edge.mk 1 Ground.phase, Edge.mk 2 Ground.phase, Edge.mk 3 Ground.phase, Edge.mk 4 Ground.phase, Edge.mk 5 Ground.phase, Edge.mk 6 Ground.phase, Edge.mk 7 Ground.phase, Edge.mk 8 Ground.phase, Edge.mk 9 Ground.phase, Edge.mk 10 Ground.phase, Edge.mk 11 Ground.phase] none) rfl (fun K hK => ?_) AllReadyH.nil)
  have e0 := PX1.out.at (i := a) (by omega)
  have p0 := PX1.out.frozenE a
  go_simp
  obtain ⟨X2, hX⟩ : ∃ Xq, Xq = X1.setCell ⟨eb, a, none⟩ (.int .i64 (yieldI z key mode)) := ⟨_, rfl⟩
  rw [← hX]
  clear e0 p0
  have HB2 := Lib.hid (show Beside (fun g => g = eb) U X2 by rw [hX]; exact HB1.out.set (.inl rfl) a _)
  have PX2 := Lib.hid (show PW X2 bp eb base n (E0.set a (yieldI z key mode)) tk st rl by rw [hX]; exact PX1.out.setE a _)
  clear hX HB1 PX1
  refine hK.out _ _ ?_ (fun hH2 => ?_)
  · exact SH.out _ HB2.out
  clear hK K
  try clear hH1
  try simp only [Act.put, List.setIfInBounds_toArray, List.set_cons_zero, List.set_cons_succ]
  refine wpAnyH_done (by kernel_rfl) ?_ _
  have BX := Lib.hid (show Beside (badP bp eb) U X2 from HB2.out.mono (fun g hg => Or.inr hg))
  have PX := PX2
  clear HB2 PX2
  obtain ⟨X, hX⟩ : ∃ W, W = X2 := ⟨_, rfl⟩
  rw [← hX] at BX PX ⊢
  clear hX
  replace PX : Hid (PW X bp eb base n E1 tk st rl) := by show PW _ _ _ _ _ _ _ _ _; rw [HE1.out]; exact PX.out
  have KX := (World.cell?_of_block (a := ⟨bk, 0, none⟩) (BX.out.block bk HKL.out HKN.out)).trans HKU.out
  have BWX := Lib.hid (BX.out.below HB0U.out HB0U.out.size HBAD.out)
  have HAX := Lib.hid (HA0.out.below BWX.out)
  go_wp2_with fail
  refine (index_back _ n c L bk (backQ L key) X HN.out (by omega) HAX.out (fun W i hi hb => by
    have hkl : bk < X.heap.size := Nat.lt_of_lt_of_le HKL.out BX.out.size
    exact (replace1_any _ _ bk key W ((hb.cell (p := ⟨bk, 0, none⟩) hkl).trans KX) (Nat.lt_of_lt_of_le hkl hb.size)))).mono ?_
  rintro e9 Y ⟨rfl, hb⟩
  rw [HBK.out]
  have PY := Lib.hid (PX.out.below hb)
  have BY := Lib.hid (BX.out.trans (.ofBelow hb))
  clear hb PX BX KX BWX HAX
  have e0 := PY.out.blk.cell 0 (v := .slice (some ⟨eb, 0, none⟩) n n) rfl
  have e1 := PY.out.blk.cell 1 (v := .int .i64 tk) rfl
  have p1 := PY.out.blk.frozen 1
  go_upto_region 6 with fail
  obtain ⟨Z, hZ⟩ : ∃ W, W = Y.setCell ⟨bp, 1, none⟩ (.int .i64 (b : Int)) := ⟨_, rfl⟩
  rw [← hZ]
  have PZ := Lib.hid (show PW Z bp eb base n E1 (b : Int) st rl by rw [hZ]; exact PY.out.setT _)
  have BZ := Lib.hid (show Beside (badP bp eb) U Z by rw [hZ]; exact BY.out.set (.inl (.inl rfl)) 1 _)
  clear hZ e0 e1 p1 PY BY
  have e0 := PZ.out.blk.cell 0 (v := .slice (some ⟨eb, 0, none⟩) n n) rfl
  have eb0 := PZ.out.at (i := b) hbn
  have pb0 := PZ.out.frozenE b
  go_upto_region 9 with fail
  obtain ⟨Z2, hZ⟩ : ∃ W, W = Z.setCell ⟨eb, b, none⟩ (.int .i64 4) := ⟨_, rfl⟩
  rw [← hZ]
  have PZ2 := Lib.hid (show PW Z2 bp eb base n E2 (b : Int) st rl by rw [hZ, HE2.out]; exact PZ.out.setE b 4)
  have BZ2 := Lib.hid (show Beside (badP bp eb) U Z2 by rw [hZ]; exact BZ.out.set (.inl (.inr rfl)) b _)
  clear hZ e0 eb0 pb0 PZ BZ
  have BWZ := Lib.hid (BZ2.out.below HB0U.out HB0U.out.size HBAD.out)
  have hkb := (BWZ.out.cell (p := ⟨b1, o1 + b * 2 + 1, none⟩) hb2).trans HCB.out
  have e0 := PZ2.out.blk.cell 0 (v := .slice (some ⟨eb, 0, none⟩) n n) rfl
  have e2 := PZ2.out.blk.cell 2 (v := .int .i64 st) rfl
  have p2 := PZ2.out.blk.frozen 2
  go_wp2_with fail
  go_returns
  exact ⟨rfl, by rw [HRE.out]; exact PZ2.out.setS 0, HBWU.out.trans' (BZ2.out.set (.inl (.inl rfl)) 2 _)⟩
set_option maxHeartbeats 4000000 in
set_option maxRecDepth 100000 in
theorem repl_101000 (a b : Nat) (bp eb base : Nat) (A : Option Addr) (n c : Nat) (L : List Sk) (key : ByteArray) (mode : Int) (rl : Value) (W0 w : World) (hn : n = L.length) (h1 : n ≤ 1000) (ha : At W0 A (scs L)) (hb0 : Below W0.heap.size W0 w) (hp : PW w bp eb base n (zs n) (-2) 0 rl) (hbp : W0.heap.size ≤ bp) (heb : W0.heap.size ≤ eb) (hcur : cur L = some a) (hkey : ¬ key = ByteArray.empty) (hback : back L key = some b) (hheld : ¬ (sk L b).2 = 4) (hmode : ¬ mode = 1) :
    Calls Try.prog 49 #[.pointer (some ⟨bp, 0, none⟩), .slice A n c, .int .i64 (oI (cur L)), .string key, .int .i64 mode] w fun e w' => e = .returned (.tuple #[]) ∧ PW w' bp eb base n (repl L key mode).each (repl L key mode).take (repl L key mode).start rl ∧ Beside (badP bp eb) w w' := by
  obtain ⟨bk, hbk⟩ : ∃ b, b = w.heap.size := ⟨_, rfl⟩
  obtain ⟨U, hU⟩ : ∃ W, W = w.alloc (.cells #[.string key] 9) := ⟨_, rfl⟩
  have hbU : Below w.heap.size w U := by rw [hU]; exact below_alloc w _
  have HKB : Hid (Blk U bk 9 #[.string key]) := by show Blk _ _ _ _; rw [hU, hbk]; exact Blk.new w _ _
  have HKU := Lib.hid (HKB.out.cell 0 (v := .string key) rfl)
  have HKL := Lib.hid HKB.out.lt
  have HKN : Hid (¬ badP bp eb bk) := by
    rintro (e | e)
    · have := hp.blk.lt; omega
    · have : eb < w.heap.size := (hp.row.lt _ rfl).2; omega
  obtain ⟨E0, hE0⟩ : ∃ E, E = zs n := ⟨_, rfl⟩
  obtain ⟨tk, htk⟩ : ∃ z : Int, z = -2 := ⟨_, rfl⟩
  obtain ⟨st, hst⟩ : ∃ z : Int, z = 0 := ⟨_, rfl⟩
  have hp' := hp
  rw [← hE0, ← htk, ← hst] at hp'
  have PU := Lib.hid (hp'.below hbU)
  have HB0U := Lib.hid (hb0.trans (hbU.mono hb0.size))
  have HBAD : Hid (∀ g, badP bp eb g → W0.heap.size ≤ g) := by
    rintro g (e | e)
    · omega
    · omega
  have HBWU := Lib.hid hbU
  have HA0 := Lib.hid ha
  have HN := Lib.hid hn
  have HU := Lib.hid hU
  have HG := Lib.hid hbk
  have han := (cur_some hcur).1
  rw [← hn] at han
  obtain ⟨b1, o1, hA1, hbb1, hc0, hc1⟩ := at_sk ha (k := a) (by omega)
  obtain ⟨s, hs⟩ : ∃ s, s = (sk L a).1 := ⟨_, rfl⟩
  obtain ⟨z, hz⟩ : ∃ s, s = (sk L a).2 := ⟨_, rfl⟩
  rw [← hs] at hc0
  rw [← hz] at hc1
  have HE1 : Hid (each1 L key mode = E0.set a (yieldI z key mode)) := by show _ = _; unfold each1; rw [hcur, hE0, hz, hn]
  have hbn := (back_some hback).1
  rw [← hn] at hbn
  obtain ⟨b2, o2, hA2, hb2, _, hcb⟩ := at_sk ha (k := b) (by omega)
  obtain ⟨y, hy⟩ : ∃ s, s = (sk L b).2 := ⟨_, rfl⟩
  rw [← hy] at hcb hheld
  have HCB := Lib.hid hcb
  have HE2 : Hid (each2 L key mode = (each1 L key mode).set b 4) := by show _ = _; unfold each2; rw [hback]
  have HBK : Hid (oI (fi (backQ L key) n) = (b : Int)) := by show _ = _; rw [hn]; show oI (back L key) = _; rw [hback]; rfl
  have HRE : Hid (repl L key mode = ⟨each2 L key mode, (b : Int), 1⟩) := by
    have hbh : backHeld L key = false := by unfold backHeld; rw [hback]; show decide _ = _; rw [← hy]; exact decide_eq_false hheld
    show _ = _
    unfold repl
    rw [if_neg hkey, hback]
    have : startB L key mode = 1 := by unfold startB; rw [hbh, if_neg (by simp), if_neg (fun h => hmode h.1)]
    rw [this]
    rfl
  have hsk : key.toList.isEmpty = false := str_ne hkey
  have hyk : (y == 4) = false := by simpa using hheld
  have hmk : (mode == 1) = false := by simpa using hmode
  obtain ⟨E2, hE2⟩ : ∃ E, E = each2 L key mode := ⟨_, rfl⟩
  rw [← hE2] at HE2 HRE
  obtain ⟨E1, hE1⟩ : ∃ E, E = each1 L key mode := ⟨_, rfl⟩
  rw [← hE1] at HE1 HE2
  have SH := Lib.hid (fun W (BW : Beside (fun g => g = eb) U W) => by
    have BL := Lib.hid ((BW.mono (fun g hg => Or.inr hg) : Beside (badP bp eb) U W).below HB0U.out HB0U.out.size HBAD.out)
    exact (⟨(World.cell?_of_block (a := ⟨bp, 0, none⟩) (BW.block bp PU.out.blk.lt (fun e => PU.out.ne e.symm))).trans (PU.out.blk.cell 0 rfl), (BL.out.cell (p := ⟨b1, o1 + a * 2, none⟩) hbb1).trans hc0, (BL.out.cell (p := ⟨b1, o1 + a * 2 + 1, none⟩) hbb1).trans hc1, (World.cell?_of_block (a := ⟨bk, 0, none⟩) (BW.block bk HKL.out (fun e => HKN.out (.inr e)))).trans HKU.out⟩ : (fun w' => w'.cell? ⟨bp, 0, none⟩ = some (.slice (some ⟨eb, 0, none⟩) n n) ∧ w'.cell? ⟨b1, o1 + a * 2, none⟩ = some (.string s) ∧ w'.cell? ⟨b1, o1 + a * 2 + 1, none⟩ = some (.int .i64 z) ∧ w'.cell? ⟨bk, 0, none⟩ = some (.string key)) W))
  subst hA1
  injection hA2 with e2
  injection e2 with e3 e4
  subst e3 e4
  rw [hcur]
  rw [show oI (some a) = (a : Int) from rfl]
  clear hU hbk hbU hp hp' hE0 htk hst ha hn hb0 hbp heb HKB hc0 hc1 hs hz hkey hcb hy hheld hmode hE2 hE1 hback hcur
  go_enter Try.func49, Try.ntmps49
  go_upto_region 1 with fail
  rw [← HU.out, ← HG.out]
  go_upto_region 2 with fail
  have HB0 := Lib.hid (show Beside (fun g => g = eb) U U.drew from Beside.drewN (Beside.refl _ _) 1)
  obtain ⟨X0, hX0⟩ : ∃ X, X = U.drew := ⟨_, rfl⟩
  refine wp_region_held_drew (S := (fun w' => w'.cell? ⟨bp, 0, none⟩ = some (.slice (some ⟨eb, 0, none⟩) n n) ∧ w'.cell? ⟨b1, o1 + a * 2, none⟩ = some (.string s) ∧ w'.cell? ⟨b1, o1 + a * 2 + 1, none⟩ = some (.int .i64 z) ∧ w'.cell? ⟨bk, 0, none⟩ = some (.string key))) (by kernel_rfl) (SH.out _ HB0.out) (fun hH0 => ?_)
  rw [← hX0] at HB0 hH0 ⊢
  have PX0 := Lib.hid (show PW X0 bp eb base n E0 tk st rl by rw [hX0]; exact PU.out.below (Below_drew (Below.refl _ _)))
  clear hX0
  refine wpAnyH_take (i := 0) (oi := Oper.mk (some 13) (Op.move (Operand.tmp 0)) 102 "slot.go:75" #[] none) (v := ?_) rfl (by kernel_rfl) (by kernel_rfl) (by kernel_rfl) (fun _ _ _ h => h) (Or.inl ⟨by rfl, ?_⟩) (by assumption) ?_
  rotate_left 1
  · (intro w hSw; (try dsimp only at hSw); go_simp; (try with_reducible rfl))
  try simp only [Act.put, List.setIfInBounds_toArray, List.set_cons_zero, List.set_cons_succ]
  refine wpAnyH_take (i := 1) (oi := Oper.mk (some 14) (Op.nilCheck (Operand.tmp 13)) 0 "slot.go:75" #[Edge.mk 0 Ground.data] none) (v := ?_) rfl (by kernel_rfl) (by kernel_rfl) (by kernel_rfl) (fun _ _ _ h => h) (Or.inl ⟨by rfl, ?_⟩) (by assumption) ?_
  rotate_left 1
  · (intro w hSw; (try dsimp only at hSw); go_simp; (try with_reducible rfl))
  try simp only [Act.put, List.setIfInBounds_toArray, List.set_cons_zero, List.set_cons_succ]
  refine wpAnyH_take (i := 2) (oi := Oper.mk (some 15) (Op.fieldAddr 50 (Operand.tmp 14) 0) 0 "slot.go:75" #[Edge.mk 1 Ground.data] none) (v := ?_) rfl (by kernel_rfl) (by kernel_rfl) (by kernel_rfl) (fun _ _ _ h => h) (Or.inl ⟨by rfl, ?_⟩) (by assumption) ?_
  rotate_left 1
  · (intro w hSw; (try dsimp only at hSw); go_simp; (try with_reducible rfl))
  try simp only [Act.put, List.setIfInBounds_toArray, List.set_cons_zero, List.set_cons_succ]
  refine wpAnyH_take (i := 3) (oi := Oper.mk (some 16) (Op.load 29 (Operand.tmp 15)) 29 "slot.go:75" #[Edge.mk 2 Ground.data] none) (v := ?_) rfl (by kernel_rfl) (by kernel_rfl) (by kernel_rfl) (fun _ _ _ h => h) (Or.inl ⟨by rfl, ?_⟩) (by assumption) ?_
  rotate_left 1
  · (intro w hSw; (try dsimp only at hSw); go_simp; (try with_reducible rfl))
  try simp only [Act.put, List.setIfInBounds_toArray, List.set_cons_zero, List.set_cons_succ]
  refine wpAnyH_take (i := 4) (oi := Oper.mk (some 17) (Op.move (Operand.tmp 2)) 3 "slot.go:75" #[] none) (v := ?_) rfl (by kernel_rfl) (by kernel_rfl) (by kernel_rfl) (fun _ _ _ h => h) (Or.inl ⟨by rfl, ?_⟩) (by assumption) ?_
  rotate_left 1
  · (intro w hSw; (try dsimp only at hSw); go_simp; (try with_reducible rfl))
  try simp only [Act.put, List.setIfInBounds_toArray, List.set_cons_zero, List.set_cons_succ]
  refine wpAnyH_take (i := 5) (oi := Oper.mk (some 18) (Op.move (Operand.tmp 1)) 45 "slot.go:75" #[] none) (v := ?_) rfl (by kernel_rfl) (by kernel_rfl) (by kernel_rfl) (fun _ _ _ h => h) (Or.inl ⟨by rfl, ?_⟩) (by assumption) ?_
  rotate_left 1
  · (intro w hSw; (try dsimp only at hSw); go_simp; (try with_reducible rfl))
  try simp only [Act.put, List.setIfInBounds_toArray, List.set_cons_zero, List.set_cons_succ]
  refine wpAnyH_take (i := 6) (oi := Oper.mk (some 19) (Op.move (Operand.tmp 2)) 3 "slot.go:75" #[] none) (v := ?_) rfl (by kernel_rfl) (by kernel_rfl) (by kernel_rfl) (fun _ _ _ h => h) (Or.inl ⟨by rfl, ?_⟩) (by assumption) ?_
  rotate_left 1
  · (intro w hSw; (try dsimp only at hSw); go_simp; (try with_reducible rfl))
  try simp only [Act.put, List.setIfInBounds_toArray, List.set_cons_zero, List.set_cons_succ]
  refine wpAnyH_take (i := 7) (oi := Oper.mk (some 20) (Op.indexAddr 45 (Operand.tmp 18) (Operand.tmp 19)) 0 "slot.go:75" #[Edge.mk 5 Ground.data, Edge.mk 6 Ground.data] none) (v := ?_) rfl (by kernel_rfl) (by kernel_rfl) (by kernel_rfl) (fun _ _ _ h => h) (Or.inl ⟨by rfl, ?_⟩) (by assumption) ?_
  rotate_left 1
  · (intro w hSw; (try dsimp only at hSw); go_simp; (try with_reducible rfl))
  try simp only [Act.put, List.setIfInBounds_toArray, List.set_cons_zero, List.set_cons_succ]
  refine wpAnyH_take (i := 8) (oi := Oper.mk (some 21) (Op.load 86 (Operand.tmp 20)) 86 "slot.go:75" #[Edge.mk 7 Ground.data] none) (v := ?_) rfl (by kernel_rfl) (by kernel_rfl) (by kernel_rfl) (fun _ _ _ h => h) (Or.inl ⟨by rfl, ?_⟩) (by assumption) ?_
  rotate_left 1
  · (intro w hSw; (try dsimp only at hSw); go_simp; (try with_reducible rfl))
  try simp only [Act.put, List.setIfInBounds_toArray, List.set_cons_zero, List.set_cons_succ]
  refine wpAnyH_take (i := 9) (oi := Oper.mk (some 22) (Op.load 9 (Operand.tmp 8)) 9 "slot.go:75" #[] none) (v := ?_) rfl (by kernel_rfl) (by kernel_rfl) (by kernel_rfl) (fun _ _ _ h => h) (Or.inl ⟨by rfl, ?_⟩) (by assumption) ?_
  rotate_left 1
  · (intro w hSw; (try dsimp only at hSw); go_simp; (try with_reducible rfl))
  try simp only [Act.put, List.setIfInBounds_toArray, List.set_cons_zero, List.set_cons_succ]
  refine wpAnyH_take (i := 10) (oi := Oper.mk (some 23) (Op.move (Operand.tmp 4)) 3 "slot.go:75" #[] none) (v := ?_) rfl (by kernel_rfl) (by kernel_rfl) (by kernel_rfl) (fun _ _ _ h => h) (Or.inl ⟨by rfl, ?_⟩) (by assumption) ?_
  rotate_left 1
  · (intro w hSw; (try dsimp only at hSw); go_simp; (try with_reducible rfl))
  try simp only [Act.put, List.setIfInBounds_toArray, List.set_cons_zero, List.set_cons_succ]
  refine wpAnyH_ready (rs := [11]) (by kernel_rfl) (by simp) ?_
  refine (AllReadyH.cons (o := Oper.mk (some 24) (Op.call (Call.mk (Callee.value (Operand.func 65)) #[Operand.tmp 21, Operand.tmp 22, Operand.tmp 23] #[86, 9, 3])) 3 "slot.go:75" #[Edge.mk 8 Ground.data, Edge.mk 9 Ground.data, Edge.mk 10 Ground.data] none) rfl (fun K hK => ?_) AllReadyH.nil)
  go_simp
  go_at_call 65
  (with_reducible refine (yields_any s z key mode X0).mono ?_)
  rintro e9 X1 ⟨rfl, hb⟩
  have HB1 := Lib.hid (HB0.out.trans (.ofBelow hb))
  have PX1 := Lib.hid (PX0.out.below hb)
  clear hb HB0 PX0
  go_wp2_with fail
  refine hK.out _ _ ?_ (fun hH1 => ?_)
  · exact SH.out _ HB1.out
  clear hK K
  try clear hH0
  try simp only [Act.put, List.setIfInBounds_toArray, List.set_cons_zero, List.set_cons_succ]
  refine wpAnyH_take (i := 12) (oi := Oper.mk (some 25) (Op.indexAddr 29 (Operand.tmp 16) (Operand.tmp 17)) 0 "slot.go:75" #[Edge.mk 3 Ground.data, Edge.mk 4 Ground.data, Edge.mk 0 Ground.phase, Edge.mk 1 Ground.phase, Edge.mk 2 Ground.phase, Edge.mk 3 Ground.phase, Edge.mk 4 Ground.phase, Edge.mk 5 Ground.phase, Edge.mk 6 Ground.phase, Edge.mk 7 Ground.phase, Edge.mk 8 Ground.phase, Edge.mk 9 Ground.phase, Edge.mk 10 Ground.phase, Edge.mk 11 Ground.phase] none) (v := ?_) rfl (by kernel_rfl) (by kernel_rfl) (by kernel_rfl) (fun _ _ _ h => h) (Or.inl ⟨by rfl, ?_⟩) (by assumption) ?_
  rotate_left 1
  · (intro w hSw; (try dsimp only at hSw); go_simp; (try with_reducible rfl))
  try simp only [Act.put, List.setIfInBounds_toArray, List.set_cons_zero, List.set_cons_succ]
  refine wpAnyH_ready (rs := [13]) (by kernel_rfl) (by simp) ?_
  refine (AllReadyH.cons (o := Oper.mk none (Op.store 3 (Operand.tmp 25) (Operand.tmp 24)) 0 "slot.go:75" #[Edge.mk 12 Ground.data, Edge.mk 11 Ground.data, Edge.mk 11 Ground.chain, Edge.mk 0 Ground.phase, Edge.mk 1 Ground.phase, Edge.mk 2 Ground.phase, Edge.mk 3 Ground.phase, Edge.mk 4 Ground.phase, Edge.mk 5 Ground.phase, Edge.mk 6 Ground.phase, Edge.mk 7 Ground.phase, Edge.mk 8 Ground.phase, Edge.mk 9 Ground.phase, Edge.mk 10 Ground.phase, Edge.mk 11 Ground.phase] none) rfl (fun K hK => ?_) AllReadyH.nil)
  have e0 := PX1.out.at (i := a) (by omega)
  have p0 := PX1.out.frozenE a
  go_simp
  obtain ⟨X2, hX⟩ : ∃ Xq, Xq = X1.setCell ⟨eb, a, none⟩ (.int .i64 (yieldI z key mode)) := ⟨_, rfl⟩
  rw [← hX]
  clear e0 p0
  have HB2 := Lib.hid (show Beside (fun g => g = eb) U X2 by rw [hX]; exact HB1.out.set (.inl rfl) a _)
  have PX2 := Lib.hid (show PW X2 bp eb base n (E0.set a (yieldI z key mode)) tk st rl by rw [hX]; exact PX1.out.setE a _)
  clear hX HB1 PX1
  refine hK.out _ _ ?_ (fun hH2 => ?_)
  · exact SH.out _ HB2.out
  clear hK K
  try clear hH1
  try simp only [Act.put, List.setIfInBounds_toArray, List.set_cons_zero, List.set_cons_succ]
  refine wpAnyH_done (by kernel_rfl) ?_ _
  have BX := Lib.hid (show Beside (badP bp eb) U X2 from HB2.out.mono (fun g hg => Or.inr hg))
  have PX := PX2
  clear HB2 PX2
  obtain ⟨X, hX⟩ : ∃ W, W = X2 := ⟨_, rfl⟩
  rw [← hX] at BX PX ⊢
  clear hX
  replace PX : Hid (PW X bp eb base n E1 tk st rl) := by show PW _ _ _ _ _ _ _ _ _; rw [HE1.out]; exact PX.out
  have KX := (World.cell?_of_block (a := ⟨bk, 0, none⟩) (BX.out.block bk HKL.out HKN.out)).trans HKU.out
  have BWX := Lib.hid (BX.out.below HB0U.out HB0U.out.size HBAD.out)
  have HAX := Lib.hid (HA0.out.below BWX.out)
  go_wp2_with fail
  refine (index_back _ n c L bk (backQ L key) X HN.out (by omega) HAX.out (fun W i hi hb => by
    have hkl : bk < X.heap.size := Nat.lt_of_lt_of_le HKL.out BX.out.size
    exact (replace1_any _ _ bk key W ((hb.cell (p := ⟨bk, 0, none⟩) hkl).trans KX) (Nat.lt_of_lt_of_le hkl hb.size)))).mono ?_
  rintro e9 Y ⟨rfl, hb⟩
  rw [HBK.out]
  have PY := Lib.hid (PX.out.below hb)
  have BY := Lib.hid (BX.out.trans (.ofBelow hb))
  clear hb PX BX KX BWX HAX
  have e0 := PY.out.blk.cell 0 (v := .slice (some ⟨eb, 0, none⟩) n n) rfl
  have e1 := PY.out.blk.cell 1 (v := .int .i64 tk) rfl
  have p1 := PY.out.blk.frozen 1
  go_upto_region 6 with fail
  obtain ⟨Z, hZ⟩ : ∃ W, W = Y.setCell ⟨bp, 1, none⟩ (.int .i64 (b : Int)) := ⟨_, rfl⟩
  rw [← hZ]
  have PZ := Lib.hid (show PW Z bp eb base n E1 (b : Int) st rl by rw [hZ]; exact PY.out.setT _)
  have BZ := Lib.hid (show Beside (badP bp eb) U Z by rw [hZ]; exact BY.out.set (.inl (.inl rfl)) 1 _)
  clear hZ e0 e1 p1 PY BY
  have e0 := PZ.out.blk.cell 0 (v := .slice (some ⟨eb, 0, none⟩) n n) rfl
  have eb0 := PZ.out.at (i := b) hbn
  have pb0 := PZ.out.frozenE b
  go_upto_region 9 with fail
  obtain ⟨Z2, hZ⟩ : ∃ W, W = Z.setCell ⟨eb, b, none⟩ (.int .i64 4) := ⟨_, rfl⟩
  rw [← hZ]
  have PZ2 := Lib.hid (show PW Z2 bp eb base n E2 (b : Int) st rl by rw [hZ, HE2.out]; exact PZ.out.setE b 4)
  have BZ2 := Lib.hid (show Beside (badP bp eb) U Z2 by rw [hZ]; exact BZ.out.set (.inl (.inr rfl)) b _)
  clear hZ e0 eb0 pb0 PZ BZ
  have BWZ := Lib.hid (BZ2.out.below HB0U.out HB0U.out.size HBAD.out)
  have hkb := (BWZ.out.cell (p := ⟨b1, o1 + b * 2 + 1, none⟩) hb2).trans HCB.out
  have e0 := PZ2.out.blk.cell 0 (v := .slice (some ⟨eb, 0, none⟩) n n) rfl
  have e2 := PZ2.out.blk.cell 2 (v := .int .i64 st) rfl
  have p2 := PZ2.out.blk.frozen 2
  go_wp2_with fail
  go_returns
  exact ⟨rfl, by rw [HRE.out]; exact PZ2.out.setS 1, HBWU.out.trans' (BZ2.out.set (.inl (.inl rfl)) 2 _)⟩
set_option maxHeartbeats 4000000 in
set_option maxRecDepth 100000 in
theorem repl_101011 (a b : Nat) (bp eb base : Nat) (A : Option Addr) (n c : Nat) (L : List Sk) (key : ByteArray) (mode : Int) (rl : Value) (W0 w : World) (hn : n = L.length) (h1 : n ≤ 1000) (ha : At W0 A (scs L)) (hb0 : Below W0.heap.size W0 w) (hp : PW w bp eb base n (zs n) (-2) 0 rl) (hbp : W0.heap.size ≤ bp) (heb : W0.heap.size ≤ eb) (hcur : cur L = some a) (hkey : ¬ key = ByteArray.empty) (hback : back L key = some b) (hheld : ¬ (sk L b).2 = 4) (hmode : mode = 1) (hcrowd : crowd L (each2 L key mode) = true) :
    Calls Try.prog 49 #[.pointer (some ⟨bp, 0, none⟩), .slice A n c, .int .i64 (oI (cur L)), .string key, .int .i64 mode] w fun e w' => e = .returned (.tuple #[]) ∧ PW w' bp eb base n (repl L key mode).each (repl L key mode).take (repl L key mode).start rl ∧ Beside (badP bp eb) w w' := by
  obtain ⟨bk, hbk⟩ : ∃ b, b = w.heap.size := ⟨_, rfl⟩
  obtain ⟨U, hU⟩ : ∃ W, W = w.alloc (.cells #[.string key] 9) := ⟨_, rfl⟩
  have hbU : Below w.heap.size w U := by rw [hU]; exact below_alloc w _
  have HKB : Hid (Blk U bk 9 #[.string key]) := by show Blk _ _ _ _; rw [hU, hbk]; exact Blk.new w _ _
  have HKU := Lib.hid (HKB.out.cell 0 (v := .string key) rfl)
  have HKL := Lib.hid HKB.out.lt
  have HKN : Hid (¬ badP bp eb bk) := by
    rintro (e | e)
    · have := hp.blk.lt; omega
    · have : eb < w.heap.size := (hp.row.lt _ rfl).2; omega
  obtain ⟨E0, hE0⟩ : ∃ E, E = zs n := ⟨_, rfl⟩
  obtain ⟨tk, htk⟩ : ∃ z : Int, z = -2 := ⟨_, rfl⟩
  obtain ⟨st, hst⟩ : ∃ z : Int, z = 0 := ⟨_, rfl⟩
  have hp' := hp
  rw [← hE0, ← htk, ← hst] at hp'
  have PU := Lib.hid (hp'.below hbU)
  have HB0U := Lib.hid (hb0.trans (hbU.mono hb0.size))
  have HBAD : Hid (∀ g, badP bp eb g → W0.heap.size ≤ g) := by
    rintro g (e | e)
    · omega
    · omega
  have HBWU := Lib.hid hbU
  have HA0 := Lib.hid ha
  have HN := Lib.hid hn
  have HU := Lib.hid hU
  have HG := Lib.hid hbk
  have han := (cur_some hcur).1
  rw [← hn] at han
  obtain ⟨b1, o1, hA1, hbb1, hc0, hc1⟩ := at_sk ha (k := a) (by omega)
  obtain ⟨s, hs⟩ : ∃ s, s = (sk L a).1 := ⟨_, rfl⟩
  obtain ⟨z, hz⟩ : ∃ s, s = (sk L a).2 := ⟨_, rfl⟩
  rw [← hs] at hc0
  rw [← hz] at hc1
  have HE1 : Hid (each1 L key mode = E0.set a (yieldI z key mode)) := by show _ = _; unfold each1; rw [hcur, hE0, hz, hn]
  have hbn := (back_some hback).1
  rw [← hn] at hbn
  obtain ⟨b2, o2, hA2, hb2, _, hcb⟩ := at_sk ha (k := b) (by omega)
  obtain ⟨y, hy⟩ : ∃ s, s = (sk L b).2 := ⟨_, rfl⟩
  rw [← hy] at hcb hheld
  have HCB := Lib.hid hcb
  have HE2 : Hid (each2 L key mode = (each1 L key mode).set b 4) := by show _ = _; unfold each2; rw [hback]
  have HBK : Hid (oI (fi (backQ L key) n) = (b : Int)) := by show _ = _; rw [hn]; show oI (back L key) = _; rw [hback]; rfl
  have HRE : Hid (repl L key mode = ⟨each2 L key mode, (b : Int), 2⟩) := by
    have hbh : backHeld L key = false := by unfold backHeld; rw [hback]; show decide _ = _; rw [← hy]; exact decide_eq_false hheld
    show _ = _
    unfold repl
    rw [if_neg hkey, hback]
    have : startB L key mode = 2 := by unfold startB; rw [hbh, if_neg (by simp), if_pos ⟨hmode, hcrowd⟩]
    rw [this]
    rfl
  have HCR := Lib.hid hcrowd
  have hsk : key.toList.isEmpty = false := str_ne hkey
  have hyk : (y == 4) = false := by simpa using hheld
  have hmk : (mode == 1) = true := by simpa using hmode
  obtain ⟨E2, hE2⟩ : ∃ E, E = each2 L key mode := ⟨_, rfl⟩
  rw [← hE2] at HE2 HRE HCR
  obtain ⟨E1, hE1⟩ : ∃ E, E = each1 L key mode := ⟨_, rfl⟩
  rw [← hE1] at HE1 HE2
  have SH := Lib.hid (fun W (BW : Beside (fun g => g = eb) U W) => by
    have BL := Lib.hid ((BW.mono (fun g hg => Or.inr hg) : Beside (badP bp eb) U W).below HB0U.out HB0U.out.size HBAD.out)
    exact (⟨(World.cell?_of_block (a := ⟨bp, 0, none⟩) (BW.block bp PU.out.blk.lt (fun e => PU.out.ne e.symm))).trans (PU.out.blk.cell 0 rfl), (BL.out.cell (p := ⟨b1, o1 + a * 2, none⟩) hbb1).trans hc0, (BL.out.cell (p := ⟨b1, o1 + a * 2 + 1, none⟩) hbb1).trans hc1, (World.cell?_of_block (a := ⟨bk, 0, none⟩) (BW.block bk HKL.out (fun e => HKN.out (.inr e)))).trans HKU.out⟩ : (fun w' => w'.cell? ⟨bp, 0, none⟩ = some (.slice (some ⟨eb, 0, none⟩) n n) ∧ w'.cell? ⟨b1, o1 + a * 2, none⟩ = some (.string s) ∧ w'.cell? ⟨b1, o1 + a * 2 + 1, none⟩ = some (.int .i64 z) ∧ w'.cell? ⟨bk, 0, none⟩ = some (.string key)) W))
  subst hA1
  injection hA2 with e2
  injection e2 with e3 e4
  subst e3 e4
  rw [hcur]
  rw [show oI (some a) = (a : Int) from rfl]
  clear hU hbk hbU hp hp' hE0 htk hst ha hn hb0 hbp heb HKB hc0 hc1 hs hz hkey hcb hy hheld hmode hcrowd hE2 hE1 hback hcur
  go_enter Try.func49, Try.ntmps49
  go_upto_region 1 with fail
  rw [← HU.out, ← HG.out]
  go_upto_region 2 with fail
  have HB0 := Lib.hid (show Beside (fun g => g = eb) U U.drew from Beside.drewN (Beside.refl _ _) 1)
  obtain ⟨X0, hX0⟩ : ∃ X, X = U.drew := ⟨_, rfl⟩
  refine wp_region_held_drew (S := (fun w' => w'.cell? ⟨bp, 0, none⟩ = some (.slice (some ⟨eb, 0, none⟩) n n) ∧ w'.cell? ⟨b1, o1 + a * 2, none⟩ = some (.string s) ∧ w'.cell? ⟨b1, o1 + a * 2 + 1, none⟩ = some (.int .i64 z) ∧ w'.cell? ⟨bk, 0, none⟩ = some (.string key))) (by kernel_rfl) (SH.out _ HB0.out) (fun hH0 => ?_)
  rw [← hX0] at HB0 hH0 ⊢
  have PX0 := Lib.hid (show PW X0 bp eb base n E0 tk st rl by rw [hX0]; exact PU.out.below (Below_drew (Below.refl _ _)))
  clear hX0
  refine wpAnyH_take (i := 0) (oi := Oper.mk (some 13) (Op.move (Operand.tmp 0)) 102 "slot.go:75" #[] none) (v := ?_) rfl (by kernel_rfl) (by kernel_rfl) (by kernel_rfl) (fun _ _ _ h => h) (Or.inl ⟨by rfl, ?_⟩) (by assumption) ?_
  rotate_left 1
  · (intro w hSw; (try dsimp only at hSw); go_simp; (try with_reducible rfl))
  try simp only [Act.put, List.setIfInBounds_toArray, List.set_cons_zero, List.set_cons_succ]
  refine wpAnyH_take (i := 1) (oi := Oper.mk (some 14) (Op.nilCheck (Operand.tmp 13)) 0 "slot.go:75" #[Edge.mk 0 Ground.data] none) (v := ?_) rfl (by kernel_rfl) (by kernel_rfl) (by kernel_rfl) (fun _ _ _ h => h) (Or.inl ⟨by rfl, ?_⟩) (by assumption) ?_
  rotate_left 1
  · (intro w hSw; (try dsimp only at hSw); go_simp; (try with_reducible rfl))
  try simp only [Act.put, List.setIfInBounds_toArray, List.set_cons_zero, List.set_cons_succ]
  refine wpAnyH_take (i := 2) (oi := Oper.mk (some 15) (Op.fieldAddr 50 (Operand.tmp 14) 0) 0 "slot.go:75" #[Edge.mk 1 Ground.data] none) (v := ?_) rfl (by kernel_rfl) (by kernel_rfl) (by kernel_rfl) (fun _ _ _ h => h) (Or.inl ⟨by rfl, ?_⟩) (by assumption) ?_
  rotate_left 1
  · (intro w hSw; (try dsimp only at hSw); go_simp; (try with_reducible rfl))
  try simp only [Act.put, List.setIfInBounds_toArray, List.set_cons_zero, List.set_cons_succ]
  refine wpAnyH_take (i := 3) (oi := Oper.mk (some 16) (Op.load 29 (Operand.tmp 15)) 29 "slot.go:75" #[Edge.mk 2 Ground.data] none) (v := ?_) rfl (by kernel_rfl) (by kernel_rfl) (by kernel_rfl) (fun _ _ _ h => h) (Or.inl ⟨by rfl, ?_⟩) (by assumption) ?_
  rotate_left 1
  · (intro w hSw; (try dsimp only at hSw); go_simp; (try with_reducible rfl))
  try simp only [Act.put, List.setIfInBounds_toArray, List.set_cons_zero, List.set_cons_succ]
  refine wpAnyH_take (i := 4) (oi := Oper.mk (some 17) (Op.move (Operand.tmp 2)) 3 "slot.go:75" #[] none) (v := ?_) rfl (by kernel_rfl) (by kernel_rfl) (by kernel_rfl) (fun _ _ _ h => h) (Or.inl ⟨by rfl, ?_⟩) (by assumption) ?_
  rotate_left 1
  · (intro w hSw; (try dsimp only at hSw); go_simp; (try with_reducible rfl))
  try simp only [Act.put, List.setIfInBounds_toArray, List.set_cons_zero, List.set_cons_succ]
  refine wpAnyH_take (i := 5) (oi := Oper.mk (some 18) (Op.move (Operand.tmp 1)) 45 "slot.go:75" #[] none) (v := ?_) rfl (by kernel_rfl) (by kernel_rfl) (by kernel_rfl) (fun _ _ _ h => h) (Or.inl ⟨by rfl, ?_⟩) (by assumption) ?_
  rotate_left 1
  · (intro w hSw; (try dsimp only at hSw); go_simp; (try with_reducible rfl))
  try simp only [Act.put, List.setIfInBounds_toArray, List.set_cons_zero, List.set_cons_succ]
  refine wpAnyH_take (i := 6) (oi := Oper.mk (some 19) (Op.move (Operand.tmp 2)) 3 "slot.go:75" #[] none) (v := ?_) rfl (by kernel_rfl) (by kernel_rfl) (by kernel_rfl) (fun _ _ _ h => h) (Or.inl ⟨by rfl, ?_⟩) (by assumption) ?_
  rotate_left 1
  · (intro w hSw; (try dsimp only at hSw); go_simp; (try with_reducible rfl))
  try simp only [Act.put, List.setIfInBounds_toArray, List.set_cons_zero, List.set_cons_succ]
  refine wpAnyH_take (i := 7) (oi := Oper.mk (some 20) (Op.indexAddr 45 (Operand.tmp 18) (Operand.tmp 19)) 0 "slot.go:75" #[Edge.mk 5 Ground.data, Edge.mk 6 Ground.data] none) (v := ?_) rfl (by kernel_rfl) (by kernel_rfl) (by kernel_rfl) (fun _ _ _ h => h) (Or.inl ⟨by rfl, ?_⟩) (by assumption) ?_
  rotate_left 1
  · (intro w hSw; (try dsimp only at hSw); go_simp; (try with_reducible rfl))
  try simp only [Act.put, List.setIfInBounds_toArray, List.set_cons_zero, List.set_cons_succ]
  refine wpAnyH_take (i := 8) (oi := Oper.mk (some 21) (Op.load 86 (Operand.tmp 20)) 86 "slot.go:75" #[Edge.mk 7 Ground.data] none) (v := ?_) rfl (by kernel_rfl) (by kernel_rfl) (by kernel_rfl) (fun _ _ _ h => h) (Or.inl ⟨by rfl, ?_⟩) (by assumption) ?_
  rotate_left 1
  · (intro w hSw; (try dsimp only at hSw); go_simp; (try with_reducible rfl))
  try simp only [Act.put, List.setIfInBounds_toArray, List.set_cons_zero, List.set_cons_succ]
  refine wpAnyH_take (i := 9) (oi := Oper.mk (some 22) (Op.load 9 (Operand.tmp 8)) 9 "slot.go:75" #[] none) (v := ?_) rfl (by kernel_rfl) (by kernel_rfl) (by kernel_rfl) (fun _ _ _ h => h) (Or.inl ⟨by rfl, ?_⟩) (by assumption) ?_
  rotate_left 1
  · (intro w hSw; (try dsimp only at hSw); go_simp; (try with_reducible rfl))
  try simp only [Act.put, List.setIfInBounds_toArray, List.set_cons_zero, List.set_cons_succ]
  refine wpAnyH_take (i := 10) (oi := Oper.mk (some 23) (Op.move (Operand.tmp 4)) 3 "slot.go:75" #[] none) (v := ?_) rfl (by kernel_rfl) (by kernel_rfl) (by kernel_rfl) (fun _ _ _ h => h) (Or.inl ⟨by rfl, ?_⟩) (by assumption) ?_
  rotate_left 1
  · (intro w hSw; (try dsimp only at hSw); go_simp; (try with_reducible rfl))
  try simp only [Act.put, List.setIfInBounds_toArray, List.set_cons_zero, List.set_cons_succ]
  refine wpAnyH_ready (rs := [11]) (by kernel_rfl) (by simp) ?_
  refine (AllReadyH.cons (o := Oper.mk (some 24) (Op.call (Call.mk (Callee.value (Operand.func 65)) #[Operand.tmp 21, Operand.tmp 22, Operand.tmp 23] #[86, 9, 3])) 3 "slot.go:75" #[Edge.mk 8 Ground.data, Edge.mk 9 Ground.data, Edge.mk 10 Ground.data] none) rfl (fun K hK => ?_) AllReadyH.nil)
  go_simp
  go_at_call 65
  (with_reducible refine (yields_any s z key mode X0).mono ?_)
  rintro e9 X1 ⟨rfl, hb⟩
  have HB1 := Lib.hid (HB0.out.trans (.ofBelow hb))
  have PX1 := Lib.hid (PX0.out.below hb)
  clear hb HB0 PX0
  go_wp2_with fail
  refine hK.out _ _ ?_ (fun hH1 => ?_)
  · exact SH.out _ HB1.out
  clear hK K
  try clear hH0
  try simp only [Act.put, List.setIfInBounds_toArray, List.set_cons_zero, List.set_cons_succ]
  refine wpAnyH_take (i := 12) (oi := Oper.mk (some 25) (Op.indexAddr 29 (Operand.tmp 16) (Operand.tmp 17)) 0 "slot.go:75" #[Edge.mk 3 Ground.data, Edge.mk 4 Ground.data, Edge.mk 0 Ground.phase, Edge.mk 1 Ground.phase, Edge.mk 2 Ground.phase, Edge.mk 3 Ground.phase, Edge.mk 4 Ground.phase, Edge.mk 5 Ground.phase, Edge.mk 6 Ground.phase, Edge.mk 7 Ground.phase, Edge.mk 8 Ground.phase, Edge.mk 9 Ground.phase, Edge.mk 10 Ground.phase, Edge.mk 11 Ground.phase] none) (v := ?_) rfl (by kernel_rfl) (by kernel_rfl) (by kernel_rfl) (fun _ _ _ h => h) (Or.inl ⟨by rfl, ?_⟩) (by assumption) ?_
  rotate_left 1
  · (intro w hSw; (try dsimp only at hSw); go_simp; (try with_reducible rfl))
  try simp only [Act.put, List.setIfInBounds_toArray, List.set_cons_zero, List.set_cons_succ]
  refine wpAnyH_ready (rs := [13]) (by kernel_rfl) (by simp) ?_
  refine (AllReadyH.cons (o := Oper.mk none (Op.store 3 (Operand.tmp 25) (Operand.tmp 24)) 0 "slot.go:75" #[Edge.mk 12 Ground.data, Edge.mk 11 Ground.data, Edge.mk 11 Ground.chain, Edge.mk 0 Ground.phase, Edge.mk 1 Ground.phase, Edge.mk 2 Ground.phase, Edge.mk 3 Ground.phase, Edge.mk 4 Ground.phase, Edge.mk 5 Ground.phase, Edge.mk 6 Ground.phase, Edge.mk 7 Ground.phase, Edge.mk 8 Ground.phase, Edge.mk 9 Ground.phase, Edge.mk 10 Ground.phase, Edge.mk 11 Ground.phase] none) rfl (fun K hK => ?_) AllReadyH.nil)
  have e0 := PX1.out.at (i := a) (by omega)
  have p0 := PX1.out.frozenE a
  go_simp
  obtain ⟨X2, hX⟩ : ∃ Xq, Xq = X1.setCell ⟨eb, a, none⟩ (.int .i64 (yieldI z key mode)) := ⟨_, rfl⟩
  rw [← hX]
  clear e0 p0
  have HB2 := Lib.hid (show Beside (fun g => g = eb) U X2 by rw [hX]; exact HB1.out.set (.inl rfl) a _)
  have PX2 := Lib.hid (show PW X2 bp eb base n (E0.set a (yieldI z key mode)) tk st rl by rw [hX]; exact PX1.out.setE a _)
  clear hX HB1 PX1
  refine hK.out _ _ ?_ (fun hH2 => ?_)
  · exact SH.out _ HB2.out
  clear hK K
  try clear hH1
  try simp only [Act.put, List.setIfInBounds_toArray, List.set_cons_zero, List.set_cons_succ]
  refine wpAnyH_done (by kernel_rfl) ?_ _
  have BX := Lib.hid (show Beside (badP bp eb) U X2 from HB2.out.mono (fun g hg => Or.inr hg))
  have PX := PX2
  clear HB2 PX2
  obtain ⟨X, hX⟩ : ∃ W, W = X2 := ⟨_, rfl⟩
  rw [← hX] at BX PX ⊢
  clear hX
  replace PX : Hid (PW X bp eb base n E1 tk st rl) := by show PW _ _ _ _ _ _ _ _ _; rw [HE1.out]; exact PX.out
  have KX := (World.cell?_of_block (a := ⟨bk, 0, none⟩) (BX.out.block bk HKL.out HKN.out)).trans HKU.out
  have BWX := Lib.hid (BX.out.below HB0U.out HB0U.out.size HBAD.out)
  have HAX := Lib.hid (HA0.out.below BWX.out)
  go_wp2_with fail
  refine (index_back _ n c L bk (backQ L key) X HN.out (by omega) HAX.out (fun W i hi hb => by
    have hkl : bk < X.heap.size := Nat.lt_of_lt_of_le HKL.out BX.out.size
    exact (replace1_any _ _ bk key W ((hb.cell (p := ⟨bk, 0, none⟩) hkl).trans KX) (Nat.lt_of_lt_of_le hkl hb.size)))).mono ?_
  rintro e9 Y ⟨rfl, hb⟩
  rw [HBK.out]
  have PY := Lib.hid (PX.out.below hb)
  have BY := Lib.hid (BX.out.trans (.ofBelow hb))
  clear hb PX BX KX BWX HAX
  have e0 := PY.out.blk.cell 0 (v := .slice (some ⟨eb, 0, none⟩) n n) rfl
  have e1 := PY.out.blk.cell 1 (v := .int .i64 tk) rfl
  have p1 := PY.out.blk.frozen 1
  go_upto_region 6 with fail
  obtain ⟨Z, hZ⟩ : ∃ W, W = Y.setCell ⟨bp, 1, none⟩ (.int .i64 (b : Int)) := ⟨_, rfl⟩
  rw [← hZ]
  have PZ := Lib.hid (show PW Z bp eb base n E1 (b : Int) st rl by rw [hZ]; exact PY.out.setT _)
  have BZ := Lib.hid (show Beside (badP bp eb) U Z by rw [hZ]; exact BY.out.set (.inl (.inl rfl)) 1 _)
  clear hZ e0 e1 p1 PY BY
  have e0 := PZ.out.blk.cell 0 (v := .slice (some ⟨eb, 0, none⟩) n n) rfl
  have eb0 := PZ.out.at (i := b) hbn
  have pb0 := PZ.out.frozenE b
  go_upto_region 9 with fail
  obtain ⟨Z2, hZ⟩ : ∃ W, W = Z.setCell ⟨eb, b, none⟩ (.int .i64 4) := ⟨_, rfl⟩
  rw [← hZ]
  have PZ2 := Lib.hid (show PW Z2 bp eb base n E2 (b : Int) st rl by rw [hZ, HE2.out]; exact PZ.out.setE b 4)
  have BZ2 := Lib.hid (show Beside (badP bp eb) U Z2 by rw [hZ]; exact BZ.out.set (.inl (.inr rfl)) b _)
  clear hZ e0 eb0 pb0 PZ BZ
  have BWZ := Lib.hid (BZ2.out.below HB0U.out HB0U.out.size HBAD.out)
  have hkb := (BWZ.out.cell (p := ⟨b1, o1 + b * 2 + 1, none⟩) hb2).trans HCB.out
  have e0 := PZ2.out.blk.cell 0 (v := .slice (some ⟨eb, 0, none⟩) n n) rfl
  go_wp2_with fail
  refine (crowded_any bp _ n c L _ n E2 _ _ _ Z2 HN.out PZ2.out.len.symm (by omega) PZ2.out.blk (HA0.out.below BWZ.out) (At.own PZ2.out.row)).mono ?_
  rintro e9 Z3 ⟨rfl, hb⟩
  rw [HCR.out]
  have PZ3 := Lib.hid (PZ2.out.below hb)
  have BZ3 := Lib.hid (BZ2.out.trans (.ofBelow hb))
  have e3 := PZ3.out.blk.cell 2 (v := .int .i64 st) rfl
  have p3 := PZ3.out.blk.frozen 2
  clear hb e0 PZ2 BZ2 BWZ
  go_wp2_with fail
  go_returns
  exact ⟨rfl, by rw [HRE.out]; exact PZ3.out.setS 2, HBWU.out.trans' (BZ3.out.set (.inl (.inl rfl)) 2 _)⟩
set_option maxHeartbeats 4000000 in
set_option maxRecDepth 100000 in
theorem repl_101010 (a b : Nat) (bp eb base : Nat) (A : Option Addr) (n c : Nat) (L : List Sk) (key : ByteArray) (mode : Int) (rl : Value) (W0 w : World) (hn : n = L.length) (h1 : n ≤ 1000) (ha : At W0 A (scs L)) (hb0 : Below W0.heap.size W0 w) (hp : PW w bp eb base n (zs n) (-2) 0 rl) (hbp : W0.heap.size ≤ bp) (heb : W0.heap.size ≤ eb) (hcur : cur L = some a) (hkey : ¬ key = ByteArray.empty) (hback : back L key = some b) (hheld : ¬ (sk L b).2 = 4) (hmode : mode = 1) (hcrowd : crowd L (each2 L key mode) = false) :
    Calls Try.prog 49 #[.pointer (some ⟨bp, 0, none⟩), .slice A n c, .int .i64 (oI (cur L)), .string key, .int .i64 mode] w fun e w' => e = .returned (.tuple #[]) ∧ PW w' bp eb base n (repl L key mode).each (repl L key mode).take (repl L key mode).start rl ∧ Beside (badP bp eb) w w' := by
  obtain ⟨bk, hbk⟩ : ∃ b, b = w.heap.size := ⟨_, rfl⟩
  obtain ⟨U, hU⟩ : ∃ W, W = w.alloc (.cells #[.string key] 9) := ⟨_, rfl⟩
  have hbU : Below w.heap.size w U := by rw [hU]; exact below_alloc w _
  have HKB : Hid (Blk U bk 9 #[.string key]) := by show Blk _ _ _ _; rw [hU, hbk]; exact Blk.new w _ _
  have HKU := Lib.hid (HKB.out.cell 0 (v := .string key) rfl)
  have HKL := Lib.hid HKB.out.lt
  have HKN : Hid (¬ badP bp eb bk) := by
    rintro (e | e)
    · have := hp.blk.lt; omega
    · have : eb < w.heap.size := (hp.row.lt _ rfl).2; omega
  obtain ⟨E0, hE0⟩ : ∃ E, E = zs n := ⟨_, rfl⟩
  obtain ⟨tk, htk⟩ : ∃ z : Int, z = -2 := ⟨_, rfl⟩
  obtain ⟨st, hst⟩ : ∃ z : Int, z = 0 := ⟨_, rfl⟩
  have hp' := hp
  rw [← hE0, ← htk, ← hst] at hp'
  have PU := Lib.hid (hp'.below hbU)
  have HB0U := Lib.hid (hb0.trans (hbU.mono hb0.size))
  have HBAD : Hid (∀ g, badP bp eb g → W0.heap.size ≤ g) := by
    rintro g (e | e)
    · omega
    · omega
  have HBWU := Lib.hid hbU
  have HA0 := Lib.hid ha
  have HN := Lib.hid hn
  have HU := Lib.hid hU
  have HG := Lib.hid hbk
  have han := (cur_some hcur).1
  rw [← hn] at han
  obtain ⟨b1, o1, hA1, hbb1, hc0, hc1⟩ := at_sk ha (k := a) (by omega)
  obtain ⟨s, hs⟩ : ∃ s, s = (sk L a).1 := ⟨_, rfl⟩
  obtain ⟨z, hz⟩ : ∃ s, s = (sk L a).2 := ⟨_, rfl⟩
  rw [← hs] at hc0
  rw [← hz] at hc1
  have HE1 : Hid (each1 L key mode = E0.set a (yieldI z key mode)) := by show _ = _; unfold each1; rw [hcur, hE0, hz, hn]
  have hbn := (back_some hback).1
  rw [← hn] at hbn
  obtain ⟨b2, o2, hA2, hb2, _, hcb⟩ := at_sk ha (k := b) (by omega)
  obtain ⟨y, hy⟩ : ∃ s, s = (sk L b).2 := ⟨_, rfl⟩
  rw [← hy] at hcb hheld
  have HCB := Lib.hid hcb
  have HE2 : Hid (each2 L key mode = (each1 L key mode).set b 4) := by show _ = _; unfold each2; rw [hback]
  have HBK : Hid (oI (fi (backQ L key) n) = (b : Int)) := by show _ = _; rw [hn]; show oI (back L key) = _; rw [hback]; rfl
  have HRE : Hid (repl L key mode = ⟨each2 L key mode, (b : Int), 1⟩) := by
    have hbh : backHeld L key = false := by unfold backHeld; rw [hback]; show decide _ = _; rw [← hy]; exact decide_eq_false hheld
    show _ = _
    unfold repl
    rw [if_neg hkey, hback]
    have : startB L key mode = 1 := by unfold startB; rw [hbh, if_neg (by simp), if_neg (fun h => by rw [hcrowd] at h; cases h.2)]
    rw [this]
    rfl
  have HCR := Lib.hid hcrowd
  have hsk : key.toList.isEmpty = false := str_ne hkey
  have hyk : (y == 4) = false := by simpa using hheld
  have hmk : (mode == 1) = true := by simpa using hmode
  obtain ⟨E2, hE2⟩ : ∃ E, E = each2 L key mode := ⟨_, rfl⟩
  rw [← hE2] at HE2 HRE HCR
  obtain ⟨E1, hE1⟩ : ∃ E, E = each1 L key mode := ⟨_, rfl⟩
  rw [← hE1] at HE1 HE2
  have SH := Lib.hid (fun W (BW : Beside (fun g => g = eb) U W) => by
    have BL := Lib.hid ((BW.mono (fun g hg => Or.inr hg) : Beside (badP bp eb) U W).below HB0U.out HB0U.out.size HBAD.out)
    exact (⟨(World.cell?_of_block (a := ⟨bp, 0, none⟩) (BW.block bp PU.out.blk.lt (fun e => PU.out.ne e.symm))).trans (PU.out.blk.cell 0 rfl), (BL.out.cell (p := ⟨b1, o1 + a * 2, none⟩) hbb1).trans hc0, (BL.out.cell (p := ⟨b1, o1 + a * 2 + 1, none⟩) hbb1).trans hc1, (World.cell?_of_block (a := ⟨bk, 0, none⟩) (BW.block bk HKL.out (fun e => HKN.out (.inr e)))).trans HKU.out⟩ : (fun w' => w'.cell? ⟨bp, 0, none⟩ = some (.slice (some ⟨eb, 0, none⟩) n n) ∧ w'.cell? ⟨b1, o1 + a * 2, none⟩ = some (.string s) ∧ w'.cell? ⟨b1, o1 + a * 2 + 1, none⟩ = some (.int .i64 z) ∧ w'.cell? ⟨bk, 0, none⟩ = some (.string key)) W))
  subst hA1
  injection hA2 with e2
  injection e2 with e3 e4
  subst e3 e4
  rw [hcur]
  rw [show oI (some a) = (a : Int) from rfl]
  clear hU hbk hbU hp hp' hE0 htk hst ha hn hb0 hbp heb HKB hc0 hc1 hs hz hkey hcb hy hheld hmode hcrowd hE2 hE1 hback hcur
  go_enter Try.func49, Try.ntmps49
  go_upto_region 1 with fail
  rw [← HU.out, ← HG.out]
  go_upto_region 2 with fail
  have HB0 := Lib.hid (show Beside (fun g => g = eb) U U.drew from Beside.drewN (Beside.refl _ _) 1)
  obtain ⟨X0, hX0⟩ : ∃ X, X = U.drew := ⟨_, rfl⟩
  refine wp_region_held_drew (S := (fun w' => w'.cell? ⟨bp, 0, none⟩ = some (.slice (some ⟨eb, 0, none⟩) n n) ∧ w'.cell? ⟨b1, o1 + a * 2, none⟩ = some (.string s) ∧ w'.cell? ⟨b1, o1 + a * 2 + 1, none⟩ = some (.int .i64 z) ∧ w'.cell? ⟨bk, 0, none⟩ = some (.string key))) (by kernel_rfl) (SH.out _ HB0.out) (fun hH0 => ?_)
  rw [← hX0] at HB0 hH0 ⊢
  have PX0 := Lib.hid (show PW X0 bp eb base n E0 tk st rl by rw [hX0]; exact PU.out.below (Below_drew (Below.refl _ _)))
  clear hX0
  refine wpAnyH_take (i := 0) (oi := Oper.mk (some 13) (Op.move (Operand.tmp 0)) 102 "slot.go:75" #[] none) (v := ?_) rfl (by kernel_rfl) (by kernel_rfl) (by kernel_rfl) (fun _ _ _ h => h) (Or.inl ⟨by rfl, ?_⟩) (by assumption) ?_
  rotate_left 1
  · (intro w hSw; (try dsimp only at hSw); go_simp; (try with_reducible rfl))
  try simp only [Act.put, List.setIfInBounds_toArray, List.set_cons_zero, List.set_cons_succ]
  refine wpAnyH_take (i := 1) (oi := Oper.mk (some 14) (Op.nilCheck (Operand.tmp 13)) 0 "slot.go:75" #[Edge.mk 0 Ground.data] none) (v := ?_) rfl (by kernel_rfl) (by kernel_rfl) (by kernel_rfl) (fun _ _ _ h => h) (Or.inl ⟨by rfl, ?_⟩) (by assumption) ?_
  rotate_left 1
  · (intro w hSw; (try dsimp only at hSw); go_simp; (try with_reducible rfl))
  try simp only [Act.put, List.setIfInBounds_toArray, List.set_cons_zero, List.set_cons_succ]
  refine wpAnyH_take (i := 2) (oi := Oper.mk (some 15) (Op.fieldAddr 50 (Operand.tmp 14) 0) 0 "slot.go:75" #[Edge.mk 1 Ground.data] none) (v := ?_) rfl (by kernel_rfl) (by kernel_rfl) (by kernel_rfl) (fun _ _ _ h => h) (Or.inl ⟨by rfl, ?_⟩) (by assumption) ?_
  rotate_left 1
  · (intro w hSw; (try dsimp only at hSw); go_simp; (try with_reducible rfl))
  try simp only [Act.put, List.setIfInBounds_toArray, List.set_cons_zero, List.set_cons_succ]
  refine wpAnyH_take (i := 3) (oi := Oper.mk (some 16) (Op.load 29 (Operand.tmp 15)) 29 "slot.go:75" #[Edge.mk 2 Ground.data] none) (v := ?_) rfl (by kernel_rfl) (by kernel_rfl) (by kernel_rfl) (fun _ _ _ h => h) (Or.inl ⟨by rfl, ?_⟩) (by assumption) ?_
  rotate_left 1
  · (intro w hSw; (try dsimp only at hSw); go_simp; (try with_reducible rfl))
  try simp only [Act.put, List.setIfInBounds_toArray, List.set_cons_zero, List.set_cons_succ]
  refine wpAnyH_take (i := 4) (oi := Oper.mk (some 17) (Op.move (Operand.tmp 2)) 3 "slot.go:75" #[] none) (v := ?_) rfl (by kernel_rfl) (by kernel_rfl) (by kernel_rfl) (fun _ _ _ h => h) (Or.inl ⟨by rfl, ?_⟩) (by assumption) ?_
  rotate_left 1
  · (intro w hSw; (try dsimp only at hSw); go_simp; (try with_reducible rfl))
  try simp only [Act.put, List.setIfInBounds_toArray, List.set_cons_zero, List.set_cons_succ]
  refine wpAnyH_take (i := 5) (oi := Oper.mk (some 18) (Op.move (Operand.tmp 1)) 45 "slot.go:75" #[] none) (v := ?_) rfl (by kernel_rfl) (by kernel_rfl) (by kernel_rfl) (fun _ _ _ h => h) (Or.inl ⟨by rfl, ?_⟩) (by assumption) ?_
  rotate_left 1
  · (intro w hSw; (try dsimp only at hSw); go_simp; (try with_reducible rfl))
  try simp only [Act.put, List.setIfInBounds_toArray, List.set_cons_zero, List.set_cons_succ]
  refine wpAnyH_take (i := 6) (oi := Oper.mk (some 19) (Op.move (Operand.tmp 2)) 3 "slot.go:75" #[] none) (v := ?_) rfl (by kernel_rfl) (by kernel_rfl) (by kernel_rfl) (fun _ _ _ h => h) (Or.inl ⟨by rfl, ?_⟩) (by assumption) ?_
  rotate_left 1
  · (intro w hSw; (try dsimp only at hSw); go_simp; (try with_reducible rfl))
  try simp only [Act.put, List.setIfInBounds_toArray, List.set_cons_zero, List.set_cons_succ]
  refine wpAnyH_take (i := 7) (oi := Oper.mk (some 20) (Op.indexAddr 45 (Operand.tmp 18) (Operand.tmp 19)) 0 "slot.go:75" #[Edge.mk 5 Ground.data, Edge.mk 6 Ground.data] none) (v := ?_) rfl (by kernel_rfl) (by kernel_rfl) (by kernel_rfl) (fun _ _ _ h => h) (Or.inl ⟨by rfl, ?_⟩) (by assumption) ?_
  rotate_left 1
  · (intro w hSw; (try dsimp only at hSw); go_simp; (try with_reducible rfl))
  try simp only [Act.put, List.setIfInBounds_toArray, List.set_cons_zero, List.set_cons_succ]
  refine wpAnyH_take (i := 8) (oi := Oper.mk (some 21) (Op.load 86 (Operand.tmp 20)) 86 "slot.go:75" #[Edge.mk 7 Ground.data] none) (v := ?_) rfl (by kernel_rfl) (by kernel_rfl) (by kernel_rfl) (fun _ _ _ h => h) (Or.inl ⟨by rfl, ?_⟩) (by assumption) ?_
  rotate_left 1
  · (intro w hSw; (try dsimp only at hSw); go_simp; (try with_reducible rfl))
  try simp only [Act.put, List.setIfInBounds_toArray, List.set_cons_zero, List.set_cons_succ]
  refine wpAnyH_take (i := 9) (oi := Oper.mk (some 22) (Op.load 9 (Operand.tmp 8)) 9 "slot.go:75" #[] none) (v := ?_) rfl (by kernel_rfl) (by kernel_rfl) (by kernel_rfl) (fun _ _ _ h => h) (Or.inl ⟨by rfl, ?_⟩) (by assumption) ?_
  rotate_left 1
  · (intro w hSw; (try dsimp only at hSw); go_simp; (try with_reducible rfl))
  try simp only [Act.put, List.setIfInBounds_toArray, List.set_cons_zero, List.set_cons_succ]
  refine wpAnyH_take (i := 10) (oi := Oper.mk (some 23) (Op.move (Operand.tmp 4)) 3 "slot.go:75" #[] none) (v := ?_) rfl (by kernel_rfl) (by kernel_rfl) (by kernel_rfl) (fun _ _ _ h => h) (Or.inl ⟨by rfl, ?_⟩) (by assumption) ?_
  rotate_left 1
  · (intro w hSw; (try dsimp only at hSw); go_simp; (try with_reducible rfl))
  try simp only [Act.put, List.setIfInBounds_toArray, List.set_cons_zero, List.set_cons_succ]
  refine wpAnyH_ready (rs := [11]) (by kernel_rfl) (by simp) ?_
  refine (AllReadyH.cons (o := Oper.mk (some 24) (Op.call (Call.mk (Callee.value (Operand.func 65)) #[Operand.tmp 21, Operand.tmp 22, Operand.tmp 23] #[86, 9, 3])) 3 "slot.go:75" #[Edge.mk 8 Ground.data, Edge.mk 9 Ground.data, Edge.mk 10 Ground.data] none) rfl (fun K hK => ?_) AllReadyH.nil)
  go_simp
  go_at_call 65
  (with_reducible refine (yields_any s z key mode X0).mono ?_)
  rintro e9 X1 ⟨rfl, hb⟩
  have HB1 := Lib.hid (HB0.out.trans (.ofBelow hb))
  have PX1 := Lib.hid (PX0.out.below hb)
  clear hb HB0 PX0
  go_wp2_with fail
  refine hK.out _ _ ?_ (fun hH1 => ?_)
  · exact SH.out _ HB1.out
  clear hK K
  try clear hH0
  try simp only [Act.put, List.setIfInBounds_toArray, List.set_cons_zero, List.set_cons_succ]
  refine wpAnyH_take (i := 12) (oi := Oper.mk (some 25) (Op.indexAddr 29 (Operand.tmp 16) (Operand.tmp 17)) 0 "slot.go:75" #[Edge.mk 3 Ground.data, Edge.mk 4 Ground.data, Edge.mk 0 Ground.phase, Edge.mk 1 Ground.phase, Edge.mk 2 Ground.phase, Edge.mk 3 Ground.phase, Edge.mk 4 Ground.phase, Edge.mk 5 Ground.phase, Edge.mk 6 Ground.phase, Edge.mk 7 Ground.phase, Edge.mk 8 Ground.phase, Edge.mk 9 Ground.phase, Edge.mk 10 Ground.phase, Edge.mk 11 Ground.phase] none) (v := ?_) rfl (by kernel_rfl) (by kernel_rfl) (by kernel_rfl) (fun _ _ _ h => h) (Or.inl ⟨by rfl, ?_⟩) (by assumption) ?_
  rotate_left 1
  · (intro w hSw; (try dsimp only at hSw); go_simp; (try with_reducible rfl))
  try simp only [Act.put, List.setIfInBounds_toArray, List.set_cons_zero, List.set_cons_succ]
  refine wpAnyH_ready (rs := [13]) (by kernel_rfl) (by simp) ?_
  refine (AllReadyH.cons (o := Oper.mk none (Op.store 3 (Operand.tmp 25) (Operand.tmp 24)) 0 "slot.go:75" #[Edge.mk 12 Ground.data, Edge.mk 11 Ground.data, Edge.mk 11 Ground.chain, Edge.mk 0 Ground.phase, Edge.mk 1 Ground.phase, Edge.mk 2 Ground.phase, Edge.mk 3 Ground.phase, Edge.mk 4 Ground.phase, Edge.mk 5 Ground.phase, Edge.mk 6 Ground.phase, Edge.mk 7 Ground.phase, Edge.mk 8 Ground.phase, Edge.mk 9 Ground.phase, Edge.mk 10 Ground.phase, Edge.mk 11 Ground.phase] none) rfl (fun K hK => ?_) AllReadyH.nil)
  have e0 := PX1.out.at (i := a) (by omega)
  have p0 := PX1.out.frozenE a
  go_simp
  obtain ⟨X2, hX⟩ : ∃ Xq, Xq = X1.setCell ⟨eb, a, none⟩ (.int .i64 (yieldI z key mode)) := ⟨_, rfl⟩
  rw [← hX]
  clear e0 p0
  have HB2 := Lib.hid (show Beside (fun g => g = eb) U X2 by rw [hX]; exact HB1.out.set (.inl rfl) a _)
  have PX2 := Lib.hid (show PW X2 bp eb base n (E0.set a (yieldI z key mode)) tk st rl by rw [hX]; exact PX1.out.setE a _)
  clear hX HB1 PX1
  refine hK.out _ _ ?_ (fun hH2 => ?_)
  · exact SH.out _ HB2.out
  clear hK K
  try clear hH1
  try simp only [Act.put, List.setIfInBounds_toArray, List.set_cons_zero, List.set_cons_succ]
  refine wpAnyH_done (by kernel_rfl) ?_ _
  have BX := Lib.hid (show Beside (badP bp eb) U X2 from HB2.out.mono (fun g hg => Or.inr hg))
  have PX := PX2
  clear HB2 PX2
  obtain ⟨X, hX⟩ : ∃ W, W = X2 := ⟨_, rfl⟩
  rw [← hX] at BX PX ⊢
  clear hX
  replace PX : Hid (PW X bp eb base n E1 tk st rl) := by show PW _ _ _ _ _ _ _ _ _; rw [HE1.out]; exact PX.out
  have KX := (World.cell?_of_block (a := ⟨bk, 0, none⟩) (BX.out.block bk HKL.out HKN.out)).trans HKU.out
  have BWX := Lib.hid (BX.out.below HB0U.out HB0U.out.size HBAD.out)
  have HAX := Lib.hid (HA0.out.below BWX.out)
  go_wp2_with fail
  refine (index_back _ n c L bk (backQ L key) X HN.out (by omega) HAX.out (fun W i hi hb => by
    have hkl : bk < X.heap.size := Nat.lt_of_lt_of_le HKL.out BX.out.size
    exact (replace1_any _ _ bk key W ((hb.cell (p := ⟨bk, 0, none⟩) hkl).trans KX) (Nat.lt_of_lt_of_le hkl hb.size)))).mono ?_
  rintro e9 Y ⟨rfl, hb⟩
  rw [HBK.out]
  have PY := Lib.hid (PX.out.below hb)
  have BY := Lib.hid (BX.out.trans (.ofBelow hb))
  clear hb PX BX KX BWX HAX
  have e0 := PY.out.blk.cell 0 (v := .slice (some ⟨eb, 0, none⟩) n n) rfl
  have e1 := PY.out.blk.cell 1 (v := .int .i64 tk) rfl
  have p1 := PY.out.blk.frozen 1
  go_upto_region 6 with fail
  obtain ⟨Z, hZ⟩ : ∃ W, W = Y.setCell ⟨bp, 1, none⟩ (.int .i64 (b : Int)) := ⟨_, rfl⟩
  rw [← hZ]
  have PZ := Lib.hid (show PW Z bp eb base n E1 (b : Int) st rl by rw [hZ]; exact PY.out.setT _)
  have BZ := Lib.hid (show Beside (badP bp eb) U Z by rw [hZ]; exact BY.out.set (.inl (.inl rfl)) 1 _)
  clear hZ e0 e1 p1 PY BY
  have e0 := PZ.out.blk.cell 0 (v := .slice (some ⟨eb, 0, none⟩) n n) rfl
  have eb0 := PZ.out.at (i := b) hbn
  have pb0 := PZ.out.frozenE b
  go_upto_region 9 with fail
  obtain ⟨Z2, hZ⟩ : ∃ W, W = Z.setCell ⟨eb, b, none⟩ (.int .i64 4) := ⟨_, rfl⟩
  rw [← hZ]
  have PZ2 := Lib.hid (show PW Z2 bp eb base n E2 (b : Int) st rl by rw [hZ, HE2.out]; exact PZ.out.setE b 4)
  have BZ2 := Lib.hid (show Beside (badP bp eb) U Z2 by rw [hZ]; exact BZ.out.set (.inl (.inr rfl)) b _)
  clear hZ e0 eb0 pb0 PZ BZ
  have BWZ := Lib.hid (BZ2.out.below HB0U.out HB0U.out.size HBAD.out)
  have hkb := (BWZ.out.cell (p := ⟨b1, o1 + b * 2 + 1, none⟩) hb2).trans HCB.out
  have e0 := PZ2.out.blk.cell 0 (v := .slice (some ⟨eb, 0, none⟩) n n) rfl
  go_wp2_with fail
  refine (crowded_any bp _ n c L _ n E2 _ _ _ Z2 HN.out PZ2.out.len.symm (by omega) PZ2.out.blk (HA0.out.below BWZ.out) (At.own PZ2.out.row)).mono ?_
  rintro e9 Z3 ⟨rfl, hb⟩
  rw [HCR.out]
  have PZ3 := Lib.hid (PZ2.out.below hb)
  have BZ3 := Lib.hid (BZ2.out.trans (.ofBelow hb))
  have e3 := PZ3.out.blk.cell 2 (v := .int .i64 st) rfl
  have p3 := PZ3.out.blk.frozen 2
  clear hb e0 PZ2 BZ2 BWZ
  go_wp2_with fail
  go_returns
  exact ⟨rfl, by rw [HRE.out]; exact PZ3.out.setS 1, HBWU.out.trans' (BZ3.out.set (.inl (.inl rfl)) 2 _)⟩
end Go.Proofs.Ytfapghekakdpgaa
