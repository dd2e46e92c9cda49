/- Contract of a plan's replace. -/
import Derived.Test.YtfapghekakdpgaaSlW2
import Derived.Handy
namespace Go.Proofs.Ytfapghekakdpgaa
open Go.RowKit Gr Go.Maps Sl
set_option linter.unusedVariables false
set_option linter.unusedSimpArgs false
theorem _root_.Go.RowKit.Below.trans' {bad : Nat → Prop} {a b c : World} (h : Below a.heap.size a b) (k : Beside bad b c) : Beside bad a c := (Beside.ofBelow h).trans k
set_option maxHeartbeats 4000000 in
set_option maxRecDepth 100000 in
theorem repl_010000 (a b : Nat) (bp eb base : Nat) (A : Option Addr) (n c : Nat) (L : List Sk) (key : ByteArray) (mode : Int) (rl : Value) (W0 w : World) (hn : n = L.length) (h1 : n ≤ 1000) (ha : At W0 A (scs L)) (hb0 : Below W0.heap.size W0 w) (hp : PW w bp eb base n (zs n) (-2) 0 rl) (hbp : W0.heap.size ≤ bp) (heb : W0.heap.size ≤ eb) (hcur : cur L = none) (hkey : key = ByteArray.empty) :
    Calls Try.prog 49 #[.pointer (some ⟨bp, 0, none⟩), .slice A n c, .int .i64 (oI (cur L)), .string key, .int .i64 mode] w fun e w' => e = .returned (.tuple #[]) ∧ PW w' bp eb base n (repl L key mode).each (repl L key mode).take (repl L key mode).start rl ∧ Beside (badP bp eb) w w' := by
  obtain ⟨bk, hbk⟩ : ∃ b, b = w.heap.size := ⟨_, rfl⟩
  obtain ⟨U, hU⟩ : ∃ W, W = w.alloc (.cells #[.string key] 9) := ⟨_, rfl⟩
  have hbU : Below w.heap.size w U := by rw [hU]; exact below_alloc w _
  have HKB : Hid (Blk U bk 9 #[.string key]) := by show Blk _ _ _ _; rw [hU, hbk]; exact Blk.new w _ _
  have HKU := Lib.hid (HKB.out.cell 0 (v := .string key) rfl)
  have HKL := Lib.hid HKB.out.lt
  have HKN : Hid (¬ badP bp eb bk) := by
    rintro (e | e)
    · have := hp.blk.lt; omega
    · have : eb < w.heap.size := (hp.row.lt _ rfl).2; omega
  obtain ⟨E0, hE0⟩ : ∃ E, E = zs n := ⟨_, rfl⟩
  obtain ⟨tk, htk⟩ : ∃ z : Int, z = -2 := ⟨_, rfl⟩
  obtain ⟨st, hst⟩ : ∃ z : Int, z = 0 := ⟨_, rfl⟩
  have hp' := hp
  rw [← hE0, ← htk, ← hst] at hp'
  have PU := Lib.hid (hp'.below hbU)
  have HB0U := Lib.hid (hb0.trans (hbU.mono hb0.size))
  have HBAD : Hid (∀ g, badP bp eb g → W0.heap.size ≤ g) := by
    rintro g (e | e)
    · omega
    · omega
  have HBWU := Lib.hid hbU
  have HA0 := Lib.hid ha
  have HN := Lib.hid hn
  have HU := Lib.hid hU
  have HG := Lib.hid hbk
  have HE1 : Hid (each1 L key mode = E0) := by show _ = _; unfold each1; rw [hcur, hE0, hn]
  have HRE : Hid (repl L key mode = ⟨each1 L key mode, tk, st⟩) := by show _ = _; unfold repl; rw [if_pos hkey, htk, hst]
  have hsk : key.toList.isEmpty = true := str_em hkey
  obtain ⟨E1, hE1⟩ : ∃ E, E = each1 L key mode := ⟨_, rfl⟩
  rw [← hE1] at HE1 HRE
  rw [hcur]
  rw [show oI none = -1 from rfl]
  clear hU hbk hbU hp hp' hE0 htk hst ha hn hb0 hbp heb HKB hkey hE1 hcur
  go_enter Try.func49, Try.ntmps49
  go_upto_region 1 with fail
  rw [← HU.out, ← HG.out]
  have PX := PU
  have BX : Hid (Beside (badP bp eb) U U) := Beside.refl _ _
  obtain ⟨X, hX⟩ : ∃ W, W = U := ⟨_, rfl⟩
  rw [← hX]
  rw [show Hid (PW U bp eb base n E0 tk st rl) = Hid (PW X bp eb base n E0 tk st rl) by rw [hX]] at PX
  replace BX : Hid (Beside (badP bp eb) U X) := by rw [hX]; exact Beside.refl _ _
  clear hX
  replace PX : Hid (PW X bp eb base n E1 tk st rl) := by show PW _ _ _ _ _ _ _ _ _; rw [HE1.out]; exact PX.out
  have KX := (World.cell?_of_block (a := ⟨bk, 0, none⟩) (BX.out.block bk HKL.out HKN.out)).trans HKU.out
  have BWX := Lib.hid (BX.out.below HB0U.out HB0U.out.size HBAD.out)
  have HAX := Lib.hid (HA0.out.below BWX.out)
  go_wp2_with fail
  go_returns
  exact ⟨rfl, by rw [HRE.out]; exact PX.out, HBWU.out.trans' BX.out⟩
set_option maxHeartbeats 4000000 in
set_option maxRecDepth 100000 in
theorem repl_000000 (a b : Nat) (bp eb base : Nat) (A : Option Addr) (n c : Nat) (L : List Sk) (key : ByteArray) (mode : Int) (rl : Value) (W0 w : World) (hn : n = L.length) (h1 : n ≤ 1000) (ha : At W0 A (scs L)) (hb0 : Below W0.heap.size W0 w) (hp : PW w bp eb base n (zs n) (-2) 0 rl) (hbp : W0.heap.size ≤ bp) (heb : W0.heap.size ≤ eb) (hcur : cur L = none) (hkey : ¬ key = ByteArray.empty) (hback : back L key = none) (hmode : ¬ mode = 1) :
    Calls Try.prog 49 #[.pointer (some ⟨bp, 0, none⟩), .slice A n c, .int .i64 (oI (cur L)), .string key, .int .i64 mode] w fun e w' => e = .returned (.tuple #[]) ∧ PW w' bp eb base n (repl L key mode).each (repl L key mode).take (repl L key mode).start rl ∧ Beside (badP bp eb) w w' := by
  obtain ⟨bk, hbk⟩ : ∃ b, b = w.heap.size := ⟨_, rfl⟩
  obtain ⟨U, hU⟩ : ∃ W, W = w.alloc (.cells #[.string key] 9) := ⟨_, rfl⟩
  have hbU : Below w.heap.size w U := by rw [hU]; exact below_alloc w _
  have HKB : Hid (Blk U bk 9 #[.string key]) := by show Blk _ _ _ _; rw [hU, hbk]; exact Blk.new w _ _
  have HKU := Lib.hid (HKB.out.cell 0 (v := .string key) rfl)
  have HKL := Lib.hid HKB.out.lt
  have HKN : Hid (¬ badP bp eb bk) := by
    rintro (e | e)
    · have := hp.blk.lt; omega
    · have : eb < w.heap.size := (hp.row.lt _ rfl).2; omega
  obtain ⟨E0, hE0⟩ : ∃ E, E = zs n := ⟨_, rfl⟩
  obtain ⟨tk, htk⟩ : ∃ z : Int, z = -2 := ⟨_, rfl⟩
  obtain ⟨st, hst⟩ : ∃ z : Int, z = 0 := ⟨_, rfl⟩
  have hp' := hp
  rw [← hE0, ← htk, ← hst] at hp'
  have PU := Lib.hid (hp'.below hbU)
  have HB0U := Lib.hid (hb0.trans (hbU.mono hb0.size))
  have HBAD : Hid (∀ g, badP bp eb g → W0.heap.size ≤ g) := by
    rintro g (e | e)
    · omega
    · omega
  have HBWU := Lib.hid hbU
  have HA0 := Lib.hid ha
  have HN := Lib.hid hn
  have HU := Lib.hid hU
  have HG := Lib.hid hbk
  have HE1 : Hid (each1 L key mode = E0) := by show _ = _; unfold each1; rw [hcur, hE0, hn]
  have HE2 : Hid (each2 L key mode = each1 L key mode) := by show _ = _; unfold each2; rw [hback]
  have HBK : Hid (oI (fi (backQ L key) n) = -1) := by show _ = _; rw [hn]; show oI (back L key) = _; rw [hback]; rfl
  have HRE : Hid (repl L key mode = ⟨each2 L key mode, -1, 1⟩) := by
    have hbh : backHeld L key = false := by unfold backHeld; rw [hback]
    show _ = _
    unfold repl
    rw [if_neg hkey, hback]
    have : startB L key mode = 1 := by unfold startB; rw [hbh, if_neg (by simp), if_neg (fun h => hmode h.1)]
    rw [this]
    rfl
  have hsk : key.toList.isEmpty = false := str_ne hkey
  have hmk : (mode == 1) = false := by simpa using hmode
  obtain ⟨E2, hE2⟩ : ∃ E, E = each2 L key mode := ⟨_, rfl⟩
  rw [← hE2] at HE2 HRE
  obtain ⟨E1, hE1⟩ : ∃ E, E = each1 L key mode := ⟨_, rfl⟩
  rw [← hE1] at HE1 HE2
  rw [hcur]
  rw [show oI none = -1 from rfl]
  clear hU hbk hbU hp hp' hE0 htk hst ha hn hb0 hbp heb HKB hkey hmode hE2 hE1 hback hcur
  go_enter Try.func49, Try.ntmps49
  go_upto_region 1 with fail
  rw [← HU.out, ← HG.out]
  have PX := PU
  have BX : Hid (Beside (badP bp eb) U U) := Beside.refl _ _
  obtain ⟨X, hX⟩ : ∃ W, W = U := ⟨_, rfl⟩
  rw [← hX]
  rw [show Hid (PW U bp eb base n E0 tk st rl) = Hid (PW X bp eb base n E0 tk st rl) by rw [hX]] at PX
  replace BX : Hid (Beside (badP bp eb) U X) := by rw [hX]; exact Beside.refl _ _
  clear hX
  replace PX : Hid (PW X bp eb base n E1 tk st rl) := by show PW _ _ _ _ _ _ _ _ _; rw [HE1.out]; exact PX.out
  have KX := (World.cell?_of_block (a := ⟨bk, 0, none⟩) (BX.out.block bk HKL.out HKN.out)).trans HKU.out
  have BWX := Lib.hid (BX.out.below HB0U.out HB0U.out.size HBAD.out)
  have HAX := Lib.hid (HA0.out.below BWX.out)
  go_wp2_with fail
  refine (index_back _ n c L bk (backQ L key) X HN.out (by omega) HAX.out (fun W i hi hb => by
    have hkl : bk < X.heap.size := Nat.lt_of_lt_of_le HKL.out BX.out.size
    exact (replace1_any _ _ bk key W ((hb.cell (p := ⟨bk, 0, none⟩) hkl).trans KX) (Nat.lt_of_lt_of_le hkl hb.size)))).mono ?_
  rintro e9 Y ⟨rfl, hb⟩
  rw [HBK.out]
  have PY := Lib.hid (PX.out.below hb)
  have BY := Lib.hid (BX.out.trans (.ofBelow hb))
  clear hb PX BX KX BWX HAX
  have e0 := PY.out.blk.cell 0 (v := .slice (some ⟨eb, 0, none⟩) n n) rfl
  have e1 := PY.out.blk.cell 1 (v := .int .i64 tk) rfl
  have p1 := PY.out.blk.frozen 1
  go_upto_region 6 with fail
  obtain ⟨Z, hZ⟩ : ∃ W, W = Y.setCell ⟨bp, 1, none⟩ (.int .i64 (-1)) := ⟨_, rfl⟩
  rw [← hZ]
  have PZ := Lib.hid (show PW Z bp eb base n E1 (-1) st rl by rw [hZ]; exact PY.out.setT _)
  have BZ := Lib.hid (show Beside (badP bp eb) U Z by rw [hZ]; exact BY.out.set (.inl (.inl rfl)) 1 _)
  clear hZ e0 e1 p1 PY BY
  obtain ⟨Z2, hZ⟩ : ∃ W, W = Z := ⟨_, rfl⟩
  rw [← hZ]
  have PZ2 := Lib.hid (show PW Z2 bp eb base n E2 (-1) st rl by rw [hZ, HE2.out]; exact PZ.out)
  have BZ2 := Lib.hid (show Beside (badP bp eb) U Z2 by rw [hZ]; exact BZ.out)
  clear hZ PZ BZ
  have BWZ := Lib.hid (BZ2.out.below HB0U.out HB0U.out.size HBAD.out)
  have e0 := PZ2.out.blk.cell 0 (v := .slice (some ⟨eb, 0, none⟩) n n) rfl
  have e2 := PZ2.out.blk.cell 2 (v := .int .i64 st) rfl
  have p2 := PZ2.out.blk.frozen 2
  go_wp2_with fail
  go_returns
  exact ⟨rfl, by rw [HRE.out]; exact PZ2.out.setS 1, HBWU.out.trans' (BZ2.out.set (.inl (.inl rfl)) 2 _)⟩
set_option maxHeartbeats 4000000 in
set_option maxRecDepth 100000 in
theorem repl_000011 (a b : Nat) (bp eb base : Nat) (A : Option Addr) (n c : Nat) (L : List Sk) (key : ByteArray) (mode : Int) (rl : Value) (W0 w : World) (hn : n = L.length) (h1 : n ≤ 1000) (ha : At W0 A (scs L)) (hb0 : Below W0.heap.size W0 w) (hp : PW w bp eb base n (zs n) (-2) 0 rl) (hbp : W0.heap.size ≤ bp) (heb : W0.heap.size ≤ eb) (hcur : cur L = none) (hkey : ¬ key = ByteArray.empty) (hback : back L key = none) (hmode : mode = 1) (hcrowd : crowd L (each2 L key mode) = true) :
    Calls Try.prog 49 #[.pointer (some ⟨bp, 0, none⟩), .slice A n c, .int .i64 (oI (cur L)), .string key, .int .i64 mode] w fun e w' => e = .returned (.tuple #[]) ∧ PW w' bp eb base n (repl L key mode).each (repl L key mode).take (repl L key mode).start rl ∧ Beside (badP bp eb) w w' := by
  obtain ⟨bk, hbk⟩ : ∃ b, b = w.heap.size := ⟨_, rfl⟩
  obtain ⟨U, hU⟩ : ∃ W, W = w.alloc (.cells #[.string key] 9) := ⟨_, rfl⟩
  have hbU : Below w.heap.size w U := by rw [hU]; exact below_alloc w _
  have HKB : Hid (Blk U bk 9 #[.string key]) := by show Blk _ _ _ _; rw [hU, hbk]; exact Blk.new w _ _
  have HKU := Lib.hid (HKB.out.cell 0 (v := .string key) rfl)
  have HKL := Lib.hid HKB.out.lt
  have HKN : Hid (¬ badP bp eb bk) := by
    rintro (e | e)
    · have := hp.blk.lt; omega
    · have : eb < w.heap.size := (hp.row.lt _ rfl).2; omega
  obtain ⟨E0, hE0⟩ : ∃ E, E = zs n := ⟨_, rfl⟩
  obtain ⟨tk, htk⟩ : ∃ z : Int, z = -2 := ⟨_, rfl⟩
  obtain ⟨st, hst⟩ : ∃ z : Int, z = 0 := ⟨_, rfl⟩
  have hp' := hp
  rw [← hE0, ← htk, ← hst] at hp'
  have PU := Lib.hid (hp'.below hbU)
  have HB0U := Lib.hid (hb0.trans (hbU.mono hb0.size))
  have HBAD : Hid (∀ g, badP bp eb g → W0.heap.size ≤ g) := by
    rintro g (e | e)
    · omega
    · omega
  have HBWU := Lib.hid hbU
  have HA0 := Lib.hid ha
  have HN := Lib.hid hn
  have HU := Lib.hid hU
  have HG := Lib.hid hbk
  have HE1 : Hid (each1 L key mode = E0) := by show _ = _; unfold each1; rw [hcur, hE0, hn]
  have HE2 : Hid (each2 L key mode = each1 L key mode) := by show _ = _; unfold each2; rw [hback]
  have HBK : Hid (oI (fi (backQ L key) n) = -1) := by show _ = _; rw [hn]; show oI (back L key) = _; rw [hback]; rfl
  have HRE : Hid (repl L key mode = ⟨each2 L key mode, -1, 2⟩) := by
    have hbh : backHeld L key = false := by unfold backHeld; rw [hback]
    show _ = _
    unfold repl
    rw [if_neg hkey, hback]
    have : startB L key mode = 2 := by unfold startB; rw [hbh, if_neg (by simp), if_pos ⟨hmode, hcrowd⟩]
    rw [this]
    rfl
  have HCR := Lib.hid hcrowd
  have hsk : key.toList.isEmpty = false := str_ne hkey
  have hmk : (mode == 1) = true := by simpa using hmode
  obtain ⟨E2, hE2⟩ : ∃ E, E = each2 L key mode := ⟨_, rfl⟩
  rw [← hE2] at HE2 HRE HCR
  obtain ⟨E1, hE1⟩ : ∃ E, E = each1 L key mode := ⟨_, rfl⟩
  rw [← hE1] at HE1 HE2
  rw [hcur]
  rw [show oI none = -1 from rfl]
  clear hU hbk hbU hp hp' hE0 htk hst ha hn hb0 hbp heb HKB hkey hmode hcrowd hE2 hE1 hback hcur
  go_enter Try.func49, Try.ntmps49
  go_upto_region 1 with fail
  rw [← HU.out, ← HG.out]
  have PX := PU
  have BX : Hid (Beside (badP bp eb) U U) := Beside.refl _ _
  obtain ⟨X, hX⟩ : ∃ W, W = U := ⟨_, rfl⟩
  rw [← hX]
  rw [show Hid (PW U bp eb base n E0 tk st rl) = Hid (PW X bp eb base n E0 tk st rl) by rw [hX]] at PX
  replace BX : Hid (Beside (badP bp eb) U X) := by rw [hX]; exact Beside.refl _ _
  clear hX
  replace PX : Hid (PW X bp eb base n E1 tk st rl) := by show PW _ _ _ _ _ _ _ _ _; rw [HE1.out]; exact PX.out
  have KX := (World.cell?_of_block (a := ⟨bk, 0, none⟩) (BX.out.block bk HKL.out HKN.out)).trans HKU.out
  have BWX := Lib.hid (BX.out.below HB0U.out HB0U.out.size HBAD.out)
  have HAX := Lib.hid (HA0.out.below BWX.out)
  go_wp2_with fail
  refine (index_back _ n c L bk (backQ L key) X HN.out (by omega) HAX.out (fun W i hi hb => by
    have hkl : bk < X.heap.size := Nat.lt_of_lt_of_le HKL.out BX.out.size
    exact (replace1_any _ _ bk key W ((hb.cell (p := ⟨bk, 0, none⟩) hkl).trans KX) (Nat.lt_of_lt_of_le hkl hb.size)))).mono ?_
  rintro e9 Y ⟨rfl, hb⟩
  rw [HBK.out]
  have PY := Lib.hid (PX.out.below hb)
  have BY := Lib.hid (BX.out.trans (.ofBelow hb))
  clear hb PX BX KX BWX HAX
  have e0 := PY.out.blk.cell 0 (v := .slice (some ⟨eb, 0, none⟩) n n) rfl
  have e1 := PY.out.blk.cell 1 (v := .int .i64 tk) rfl
  have p1 := PY.out.blk.frozen 1
  go_upto_region 6 with fail
  obtain ⟨Z, hZ⟩ : ∃ W, W = Y.setCell ⟨bp, 1, none⟩ (.int .i64 (-1)) := ⟨_, rfl⟩
  rw [← hZ]
  have PZ := Lib.hid (show PW Z bp eb base n E1 (-1) st rl by rw [hZ]; exact PY.out.setT _)
  have BZ := Lib.hid (show Beside (badP bp eb) U Z by rw [hZ]; exact BY.out.set (.inl (.inl rfl)) 1 _)
  clear hZ e0 e1 p1 PY BY
  obtain ⟨Z2, hZ⟩ : ∃ W, W = Z := ⟨_, rfl⟩
  rw [← hZ]
  have PZ2 := Lib.hid (show PW Z2 bp eb base n E2 (-1) st rl by rw [hZ, HE2.out]; exact PZ.out)
  have BZ2 := Lib.hid (show Beside (badP bp eb) U Z2 by rw [hZ]; exact BZ.out)
  clear hZ PZ BZ
  have BWZ := Lib.hid (BZ2.out.below HB0U.out HB0U.out.size HBAD.out)
  have e0 := PZ2.out.blk.cell 0 (v := .slice (some ⟨eb, 0, none⟩) n n) rfl
  go_wp2_with fail
  refine (crowded_any bp _ n c L _ n E2 _ _ _ Z2 HN.out PZ2.out.len.symm (by omega) PZ2.out.blk (HA0.out.below BWZ.out) (At.own PZ2.out.row)).mono ?_
  rintro e9 Z3 ⟨rfl, hb⟩
  rw [HCR.out]
  have PZ3 := Lib.hid (PZ2.out.below hb)
  have BZ3 := Lib.hid (BZ2.out.trans (.ofBelow hb))
  have e3 := PZ3.out.blk.cell 2 (v := .int .i64 st) rfl
  have p3 := PZ3.out.blk.frozen 2
  clear hb e0 PZ2 BZ2 BWZ
  go_wp2_with fail
  go_returns
  exact ⟨rfl, by rw [HRE.out]; exact PZ3.out.setS 2, HBWU.out.trans' (BZ3.out.set (.inl (.inl rfl)) 2 _)⟩
set_option maxHeartbeats 4000000 in
set_option maxRecDepth 100000 in
theorem repl_000010 (a b : Nat) (bp eb base : Nat) (A : Option Addr) (n c : Nat) (L : List Sk) (key : ByteArray) (mode : Int) (rl : Value) (W0 w : World) (hn : n = L.length) (h1 : n ≤ 1000) (ha : At W0 A (scs L)) (hb0 : Below W0.heap.size W0 w) (hp : PW w bp eb base n (zs n) (-2) 0 rl) (hbp : W0.heap.size ≤ bp) (heb : W0.heap.size ≤ eb) (hcur : cur L = none) (hkey : ¬ key = ByteArray.empty) (hback : back L key = none) (hmode : mode = 1) (hcrowd : crowd L (each2 L key mode) = false) :
    Calls Try.prog 49 #[.pointer (some ⟨bp, 0, none⟩), .slice A n c, .int .i64 (oI (cur L)), .string key, .int .i64 mode] w fun e w' => e = .returned (.tuple #[]) ∧ PW w' bp eb base n (repl L key mode).each (repl L key mode).take (repl L key mode).start rl ∧ Beside (badP bp eb) w w' := by
  obtain ⟨bk, hbk⟩ : ∃ b, b = w.heap.size := ⟨_, rfl⟩
  obtain ⟨U, hU⟩ : ∃ W, W = w.alloc (.cells #[.string key] 9) := ⟨_, rfl⟩
  have hbU : Below w.heap.size w U := by rw [hU]; exact below_alloc w _
  have HKB : Hid (Blk U bk 9 #[.string key]) := by show Blk _ _ _ _; rw [hU, hbk]; exact Blk.new w _ _
  have HKU := Lib.hid (HKB.out.cell 0 (v := .string key) rfl)
  have HKL := Lib.hid HKB.out.lt
  have HKN : Hid (¬ badP bp eb bk) := by
    rintro (e | e)
    · have := hp.blk.lt; omega
    · have : eb < w.heap.size := (hp.row.lt _ rfl).2; omega
  obtain ⟨E0, hE0⟩ : ∃ E, E = zs n := ⟨_, rfl⟩
  obtain ⟨tk, htk⟩ : ∃ z : Int, z = -2 := ⟨_, rfl⟩
  obtain ⟨st, hst⟩ : ∃ z : Int, z = 0 := ⟨_, rfl⟩
  have hp' := hp
  rw [← hE0, ← htk, ← hst] at hp'
  have PU := Lib.hid (hp'.below hbU)
  have HB0U := Lib.hid (hb0.trans (hbU.mono hb0.size))
  have HBAD : Hid (∀ g, badP bp eb g → W0.heap.size ≤ g) := by
    rintro g (e | e)
    · omega
    · omega
  have HBWU := Lib.hid hbU
  have HA0 := Lib.hid ha
  have HN := Lib.hid hn
  have HU := Lib.hid hU
  have HG := Lib.hid hbk
  have HE1 : Hid (each1 L key mode = E0) := by show _ = _; unfold each1; rw [hcur, hE0, hn]
  have HE2 : Hid (each2 L key mode = each1 L key mode) := by show _ = _; unfold each2; rw [hback]
  have HBK : Hid (oI (fi (backQ L key) n) = -1) := by show _ = _; rw [hn]; show oI (back L key) = _; rw [hback]; rfl
  have HRE : Hid (repl L key mode = ⟨each2 L key mode, -1, 1⟩) := by
    have hbh : backHeld L key = false := by unfold backHeld; rw [hback]
    show _ = _
    unfold repl
    rw [if_neg hkey, hback]
    have : startB L key mode = 1 := by unfold startB; rw [hbh, if_neg (by simp), if_neg (fun h => by rw [hcrowd] at h; cases h.2)]
    rw [this]
    rfl
  have HCR := Lib.hid hcrowd
  have hsk : key.toList.isEmpty = false := str_ne hkey
  have hmk : (mode == 1) = true := by simpa using hmode
  obtain ⟨E2, hE2⟩ : ∃ E, E = each2 L key mode := ⟨_, rfl⟩
  rw [← hE2] at HE2 HRE HCR
  obtain ⟨E1, hE1⟩ : ∃ E, E = each1 L key mode := ⟨_, rfl⟩
  rw [← hE1] at HE1 HE2
  rw [hcur]
  rw [show oI none = -1 from rfl]
  clear hU hbk hbU hp hp' hE0 htk hst ha hn hb0 hbp heb HKB hkey hmode hcrowd hE2 hE1 hback hcur
  go_enter Try.func49, Try.ntmps49
  go_upto_region 1 with fail
  rw [← HU.out, ← HG.out]
  have PX := PU
  have BX : Hid (Beside (badP bp eb) U U) := Beside.refl _ _
  obtain ⟨X, hX⟩ : ∃ W, W = U := ⟨_, rfl⟩
  rw [← hX]
  rw [show Hid (PW U bp eb base n E0 tk st rl) = Hid (PW X bp eb base n E0 tk st rl) by rw [hX]] at PX
  replace BX : Hid (Beside (badP bp eb) U X) := by rw [hX]; exact Beside.refl _ _
  clear hX
  replace PX : Hid (PW X bp eb base n E1 tk st rl) := by show PW _ _ _ _ _ _ _ _ _; rw [HE1.out]; exact PX.out
  have KX := (World.cell?_of_block (a := ⟨bk, 0, none⟩) (BX.out.block bk HKL.out HKN.out)).trans HKU.out
  have BWX := Lib.hid (BX.out.below HB0U.out HB0U.out.size HBAD.out)
  have HAX := Lib.hid (HA0.out.below BWX.out)
  go_wp2_with fail
  refine (index_back _ n c L bk (backQ L key) X HN.out (by omega) HAX.out (fun W i hi hb => by
    have hkl : bk < X.heap.size := Nat.lt_of_lt_of_le HKL.out BX.out.size
    exact (replace1_any _ _ bk key W ((hb.cell (p := ⟨bk, 0, none⟩) hkl).trans KX) (Nat.lt_of_lt_of_le hkl hb.size)))).mono ?_
  rintro e9 Y ⟨rfl, hb⟩
  rw [HBK.out]
  have PY := Lib.hid (PX.out.below hb)
  have BY := Lib.hid (BX.out.trans (.ofBelow hb))
  clear hb PX BX KX BWX HAX
  have e0 := PY.out.blk.cell 0 (v := .slice (some ⟨eb, 0, none⟩) n n) rfl
  have e1 := PY.out.blk.cell 1 (v := .int .i64 tk) rfl
  have p1 := PY.out.blk.frozen 1
  go_upto_region 6 with fail
  obtain ⟨Z, hZ⟩ : ∃ W, W = Y.setCell ⟨bp, 1, none⟩ (.int .i64 (-1)) := ⟨_, rfl⟩
  rw [← hZ]
  have PZ := Lib.hid (show PW Z bp eb base n E1 (-1) st rl by rw [hZ]; exact PY.out.setT _)
  have BZ := Lib.hid (show Beside (badP bp eb) U Z by rw [hZ]; exact BY.out.set (.inl (.inl rfl)) 1 _)
  clear hZ e0 e1 p1 PY BY
  obtain ⟨Z2, hZ⟩ : ∃ W, W = Z := ⟨_, rfl⟩
  rw [← hZ]
  have PZ2 := Lib.hid (show PW Z2 bp eb base n E2 (-1) st rl by rw [hZ, HE2.out]; exact PZ.out)
  have BZ2 := Lib.hid (show Beside (badP bp eb) U Z2 by rw [hZ]; exact BZ.out)
  clear hZ PZ BZ
  have BWZ := Lib.hid (BZ2.out.below HB0U.out HB0U.out.size HBAD.out)
  have e0 := PZ2.out.blk.cell 0 (v := .slice (some ⟨eb, 0, none⟩) n n) rfl
  go_wp2_with fail
  refine (crowded_any bp _ n c L _ n E2 _ _ _ Z2 HN.out PZ2.out.len.symm (by omega) PZ2.out.blk (HA0.out.below BWZ.out) (At.own PZ2.out.row)).mono ?_
  rintro e9 Z3 ⟨rfl, hb⟩
  rw [HCR.out]
  have PZ3 := Lib.hid (PZ2.out.below hb)
  have BZ3 := Lib.hid (BZ2.out.trans (.ofBelow hb))
  have e3 := PZ3.out.blk.cell 2 (v := .int .i64 st) rfl
  have p3 := PZ3.out.blk.frozen 2
  clear hb e0 PZ2 BZ2 BWZ
  go_wp2_with fail
  go_returns
  exact ⟨rfl, by rw [HRE.out]; exact PZ3.out.setS 1, HBWU.out.trans' (BZ3.out.set (.inl (.inl rfl)) 2 _)⟩
set_option maxHeartbeats 4000000 in
set_option maxRecDepth 100000 in
theorem repl_001100 (a b : Nat) (bp eb base : Nat) (A : Option Addr) (n c : Nat) (L : List Sk) (key : ByteArray) (mode : Int) (rl : Value) (W0 w : World) (hn : n = L.length) (h1 : n ≤ 1000) (ha : At W0 A (scs L)) (hb0 : Below W0.heap.size W0 w) (hp : PW w bp eb base n (zs n) (-2) 0 rl) (hbp : W0.heap.size ≤ bp) (heb : W0.heap.size ≤ eb) (hcur : cur L = none) (hkey : ¬ key = ByteArray.empty) (hback : back L key = some b) (hheld : (sk L b).2 = 4) :
    Calls Try.prog 49 #[.pointer (some ⟨bp, 0, none⟩), .slice A n c, .int .i64 (oI (cur L)), .string key, .int .i64 mode] w fun e w' => e = .returned (.tuple #[]) ∧ PW w' bp eb base n (repl L key mode).each (repl L key mode).take (repl L key mode).start rl ∧ Beside (badP bp eb) w w' := by
  obtain ⟨bk, hbk⟩ : ∃ b, b = w.heap.size := ⟨_, rfl⟩
  obtain ⟨U, hU⟩ : ∃ W, W = w.alloc (.cells #[.string key] 9) := ⟨_, rfl⟩
  have hbU : Below w.heap.size w U := by rw [hU]; exact below_alloc w _
  have HKB : Hid (Blk U bk 9 #[.string key]) := by show Blk _ _ _ _; rw [hU, hbk]; exact Blk.new w _ _
  have HKU := Lib.hid (HKB.out.cell 0 (v := .string key) rfl)
  have HKL := Lib.hid HKB.out.lt
  have HKN : Hid (¬ badP bp eb bk) := by
    rintro (e | e)
    · have := hp.blk.lt; omega
    · have : eb < w.heap.size := (hp.row.lt _ rfl).2; omega
  obtain ⟨E0, hE0⟩ : ∃ E, E = zs n := ⟨_, rfl⟩
  obtain ⟨tk, htk⟩ : ∃ z : Int, z = -2 := ⟨_, rfl⟩
  obtain ⟨st, hst⟩ : ∃ z : Int, z = 0 := ⟨_, rfl⟩
  have hp' := hp
  rw [← hE0, ← htk, ← hst] at hp'
  have PU := Lib.hid (hp'.below hbU)
  have HB0U := Lib.hid (hb0.trans (hbU.mono hb0.size))
  have HBAD : Hid (∀ g, badP bp eb g → W0.heap.size ≤ g) := by
    rintro g (e | e)
    · omega
    · omega
  have HBWU := Lib.hid hbU
  have HA0 := Lib.hid ha
  have HN := Lib.hid hn
  have HU := Lib.hid hU
  have HG := Lib.hid hbk
  have HE1 : Hid (each1 L key mode = E0) := by show _ = _; unfold each1; rw [hcur, hE0, hn]
  have hbn := (back_some hback).1
  rw [← hn] at hbn
  obtain ⟨b2, o2, hA2, hb2, _, hcb⟩ := at_sk ha (k := b) (by omega)
  obtain ⟨y, hy⟩ : ∃ s, s = (sk L b).2 := ⟨_, rfl⟩
  rw [← hy] at hcb hheld
  have HCB := Lib.hid hcb
  have HE2 : Hid (each2 L key mode = (each1 L key mode).set b 4) := by show _ = _; unfold each2; rw [hback]
  have HBK : Hid (oI (fi (backQ L key) n) = (b : Int)) := by show _ = _; rw [hn]; show oI (back L key) = _; rw [hback]; rfl
  have HRE : Hid (repl L key mode = ⟨each2 L key mode, (b : Int), 0⟩) := by
    have hbh : backHeld L key = true := by unfold backHeld; rw [hback]; show decide _ = _; rw [← hy]; exact decide_eq_true hheld
    show _ = _
    unfold repl
    rw [if_neg hkey, hback]
    have : startB L key mode = 0 := by unfold startB; rw [hbh, if_pos rfl]
    rw [this]
    rfl
  have hsk : key.toList.isEmpty = false := str_ne hkey
  have hyk : (y == 4) = true := by simpa using hheld
  obtain ⟨E2, hE2⟩ : ∃ E, E = each2 L key mode := ⟨_, rfl⟩
  rw [← hE2] at HE2 HRE
  obtain ⟨E1, hE1⟩ : ∃ E, E = each1 L key mode := ⟨_, rfl⟩
  rw [← hE1] at HE1 HE2
  subst hA2
  rw [hcur]
  rw [show oI none = -1 from rfl]
  clear hU hbk hbU hp hp' hE0 htk hst ha hn hb0 hbp heb HKB hkey hcb hy hheld hE2 hE1 hback hcur
  go_enter Try.func49, Try.ntmps49
  go_upto_region 1 with fail
  rw [← HU.out, ← HG.out]
  have PX := PU
  have BX : Hid (Beside (badP bp eb) U U) := Beside.refl _ _
  obtain ⟨X, hX⟩ : ∃ W, W = U := ⟨_, rfl⟩
  rw [← hX]
  rw [show Hid (PW U bp eb base n E0 tk st rl) = Hid (PW X bp eb base n E0 tk st rl) by rw [hX]] at PX
  replace BX : Hid (Beside (badP bp eb) U X) := by rw [hX]; exact Beside.refl _ _
  clear hX
  replace PX : Hid (PW X bp eb base n E1 tk st rl) := by show PW _ _ _ _ _ _ _ _ _; rw [HE1.out]; exact PX.out
  have KX := (World.cell?_of_block (a := ⟨bk, 0, none⟩) (BX.out.block bk HKL.out HKN.out)).trans HKU.out
  have BWX := Lib.hid (BX.out.below HB0U.out HB0U.out.size HBAD.out)
  have HAX := Lib.hid (HA0.out.below BWX.out)
  go_wp2_with fail
  refine (index_back _ n c L bk (backQ L key) X HN.out (by omega) HAX.out (fun W i hi hb => by
    have hkl : bk < X.heap.size := Nat.lt_of_lt_of_le HKL.out BX.out.size
    exact (replace1_any _ _ bk key W ((hb.cell (p := ⟨bk, 0, none⟩) hkl).trans KX) (Nat.lt_of_lt_of_le hkl hb.size)))).mono ?_
  rintro e9 Y ⟨rfl, hb⟩
  rw [HBK.out]
  have PY := Lib.hid (PX.out.below hb)
  have BY := Lib.hid (BX.out.trans (.ofBelow hb))
  clear hb PX BX KX BWX HAX
  have e0 := PY.out.blk.cell 0 (v := .slice (some ⟨eb, 0, none⟩) n n) rfl
  have e1 := PY.out.blk.cell 1 (v := .int .i64 tk) rfl
  have p1 := PY.out.blk.frozen 1
  go_upto_region 6 with fail
  obtain ⟨Z, hZ⟩ : ∃ W, W = Y.setCell ⟨bp, 1, none⟩ (.int .i64 (b : Int)) := ⟨_, rfl⟩
  rw [← hZ]
  have PZ := Lib.hid (show PW Z bp eb base n E1 (b : Int) st rl by rw [hZ]; exact PY.out.setT _)
  have BZ := Lib.hid (show Beside (badP bp eb) U Z by rw [hZ]; exact BY.out.set (.inl (.inl rfl)) 1 _)
  clear hZ e0 e1 p1 PY BY
  have e0 := PZ.out.blk.cell 0 (v := .slice (some ⟨eb, 0, none⟩) n n) rfl
  have eb0 := PZ.out.at (i := b) hbn
  have pb0 := PZ.out.frozenE b
  go_upto_region 9 with fail
  obtain ⟨Z2, hZ⟩ : ∃ W, W = Z.setCell ⟨eb, b, none⟩ (.int .i64 4) := ⟨_, rfl⟩
  rw [← hZ]
  have PZ2 := Lib.hid (show PW Z2 bp eb base n E2 (b : Int) st rl by rw [hZ, HE2.out]; exact PZ.out.setE b 4)
  have BZ2 := Lib.hid (show Beside (badP bp eb) U Z2 by rw [hZ]; exact BZ.out.set (.inl (.inr rfl)) b _)
  clear hZ e0 eb0 pb0 PZ BZ
  have BWZ := Lib.hid (BZ2.out.below HB0U.out HB0U.out.size HBAD.out)
  have hkb := (BWZ.out.cell (p := ⟨b2, o2 + b * 2 + 1, none⟩) hb2).trans HCB.out
  have e0 := PZ2.out.blk.cell 0 (v := .slice (some ⟨eb, 0, none⟩) n n) rfl
  have e2 := PZ2.out.blk.cell 2 (v := .int .i64 st) rfl
  have p2 := PZ2.out.blk.frozen 2
  go_wp2_with fail
  go_returns
  exact ⟨rfl, by rw [HRE.out]; exact PZ2.out.setS 0, HBWU.out.trans' (BZ2.out.set (.inl (.inl rfl)) 2 _)⟩
set_option maxHeartbeats 4000000 in
set_option maxRecDepth 100000 in
theorem repl_001000 (a b : Nat) (bp eb base : Nat) (A : Option Addr) (n c : Nat) (L : List Sk) (key : ByteArray) (mode : Int) (rl : Value) (W0 w : World) (hn : n = L.length) (h1 : n ≤ 1000) (ha : At W0 A (scs L)) (hb0 : Below W0.heap.size W0 w) (hp : PW w bp eb base n (zs n) (-2) 0 rl) (hbp : W0.heap.size ≤ bp) (heb : W0.heap.size ≤ eb) (hcur : cur L = none) (hkey : ¬ key = ByteArray.empty) (hback : back L key = some b) (hheld : ¬ (sk L b).2 = 4) (hmode : ¬ mode = 1) :
    Calls Try.prog 49 #[.pointer (some ⟨bp, 0, none⟩), .slice A n c, .int .i64 (oI (cur L)), .string key, .int .i64 mode] w fun e w' => e = .returned (.tuple #[]) ∧ PW w' bp eb base n (repl L key mode).each (repl L key mode).take (repl L key mode).start rl ∧ Beside (badP bp eb) w w' := by
  obtain ⟨bk, hbk⟩ : ∃ b, b = w.heap.size := ⟨_, rfl⟩
  obtain ⟨U, hU⟩ : ∃ W, W = w.alloc (.cells #[.string key] 9) := ⟨_, rfl⟩
  have hbU : Below w.heap.size w U := by rw [hU]; exact below_alloc w _
  have HKB : Hid (Blk U bk 9 #[.string key]) := by show Blk _ _ _ _; rw [hU, hbk]; exact Blk.new w _ _
  have HKU := Lib.hid (HKB.out.cell 0 (v := .string key) rfl)
  have HKL := Lib.hid HKB.out.lt
  have HKN : Hid (¬ badP bp eb bk) := by
    rintro (e | e)
    · have := hp.blk.lt; omega
    · have : eb < w.heap.size := (hp.row.lt _ rfl).2; omega
  obtain ⟨E0, hE0⟩ : ∃ E, E = zs n := ⟨_, rfl⟩
  obtain ⟨tk, htk⟩ : ∃ z : Int, z = -2 := ⟨_, rfl⟩
  obtain ⟨st, hst⟩ : ∃ z : Int, z = 0 := ⟨_, rfl⟩
  have hp' := hp
  rw [← hE0, ← htk, ← hst] at hp'
  have PU := Lib.hid (hp'.below hbU)
  have HB0U := Lib.hid (hb0.trans (hbU.mono hb0.size))
  have HBAD : Hid (∀ g, badP bp eb g → W0.heap.size ≤ g) := by
    rintro g (e | e)
    · omega
    · omega
  have HBWU := Lib.hid hbU
  have HA0 := Lib.hid ha
  have HN := Lib.hid hn
  have HU := Lib.hid hU
  have HG := Lib.hid hbk
  have HE1 : Hid (each1 L key mode = E0) := by show _ = _; unfold each1; rw [hcur, hE0, hn]
  have hbn := (back_some hback).1
  rw [← hn] at hbn
  obtain ⟨b2, o2, hA2, hb2, _, hcb⟩ := at_sk ha (k := b) (by omega)
  obtain ⟨y, hy⟩ : ∃ s, s = (sk L b).2 := ⟨_, rfl⟩
  rw [← hy] at hcb hheld
  have HCB := Lib.hid hcb
  have HE2 : Hid (each2 L key mode = (each1 L key mode).set b 4) := by show _ = _; unfold each2; rw [hback]
  have HBK : Hid (oI (fi (backQ L key) n) = (b : Int)) := by show _ = _; rw [hn]; show oI (back L key) = _; rw [hback]; rfl
  have HRE : Hid (repl L key mode = ⟨each2 L key mode, (b : Int), 1⟩) := by
    have hbh : backHeld L key = false := by unfold backHeld; rw [hback]; show decide _ = _; rw [← hy]; exact decide_eq_false hheld
    show _ = _
    unfold repl
    rw [if_neg hkey, hback]
    have : startB L key mode = 1 := by unfold startB; rw [hbh, if_neg (by simp), if_neg (fun h => hmode h.1)]
    rw [this]
    rfl
  have hsk : key.toList.isEmpty = false := str_ne hkey
  have hyk : (y == 4) = false := by simpa using hheld
  have hmk : (mode == 1) = false := by simpa using hmode
  obtain ⟨E2, hE2⟩ : ∃ E, E = each2 L key mode := ⟨_, rfl⟩
  rw [← hE2] at HE2 HRE
  obtain ⟨E1, hE1⟩ : ∃ E, E = each1 L key mode := ⟨_, rfl⟩
  rw [← hE1] at HE1 HE2
  subst hA2
  rw [hcur]
  rw [show oI none = -1 from rfl]
  clear hU hbk hbU hp hp' hE0 htk hst ha hn hb0 hbp heb HKB hkey hcb hy hheld hmode hE2 hE1 hback hcur
  go_enter Try.func49, Try.ntmps49
  go_upto_region 1 with fail
  rw [← HU.out, ← HG.out]
  have PX := PU
  have BX : Hid (Beside (badP bp eb) U U) := Beside.refl _ _
  obtain ⟨X, hX⟩ : ∃ W, W = U := ⟨_, rfl⟩
  rw [← hX]
  rw [show Hid (PW U bp eb base n E0 tk st rl) = Hid (PW X bp eb base n E0 tk st rl) by rw [hX]] at PX
  replace BX : Hid (Beside (badP bp eb) U X) := by rw [hX]; exact Beside.refl _ _
  clear hX
  replace PX : Hid (PW X bp eb base n E1 tk st rl) := by show PW _ _ _ _ _ _ _ _ _; rw [HE1.out]; exact PX.out
  have KX := (World.cell?_of_block (a := ⟨bk, 0, none⟩) (BX.out.block bk HKL.out HKN.out)).trans HKU.out
  have BWX := Lib.hid (BX.out.below HB0U.out HB0U.out.size HBAD.out)
  have HAX := Lib.hid (HA0.out.below BWX.out)
  go_wp2_with fail
  refine (index_back _ n c L bk (backQ L key) X HN.out (by omega) HAX.out (fun W i hi hb => by
    have hkl : bk < X.heap.size := Nat.lt_of_lt_of_le HKL.out BX.out.size
    exact (replace1_any _ _ bk key W ((hb.cell (p := ⟨bk, 0, none⟩) hkl).trans KX) (Nat.lt_of_lt_of_le hkl hb.size)))).mono ?_
  rintro e9 Y ⟨rfl, hb⟩
  rw [HBK.out]
  have PY := Lib.hid (PX.out.below hb)
  have BY := Lib.hid (BX.out.trans (.ofBelow hb))
  clear hb PX BX KX BWX HAX
  have e0 := PY.out.blk.cell 0 (v := .slice (some ⟨eb, 0, none⟩) n n) rfl
  have e1 := PY.out.blk.cell 1 (v := .int .i64 tk) rfl
  have p1 := PY.out.blk.frozen 1
  go_upto_region 6 with fail
  obtain ⟨Z, hZ⟩ : ∃ W, W = Y.setCell ⟨bp, 1, none⟩ (.int .i64 (b : Int)) := ⟨_, rfl⟩
  rw [← hZ]
  have PZ := Lib.hid (show PW Z bp eb base n E1 (b : Int) st rl by rw [hZ]; exact PY.out.setT _)
  have BZ := Lib.hid (show Beside (badP bp eb) U Z by rw [hZ]; exact BY.out.set (.inl (.inl rfl)) 1 _)
  clear hZ e0 e1 p1 PY BY
  have e0 := PZ.out.blk.cell 0 (v := .slice (some ⟨eb, 0, none⟩) n n) rfl
  have eb0 := PZ.out.at (i := b) hbn
  have pb0 := PZ.out.frozenE b
  go_upto_region 9 with fail
  obtain ⟨Z2, hZ⟩ : ∃ W, W = Z.setCell ⟨eb, b, none⟩ (.int .i64 4) := ⟨_, rfl⟩
  rw [← hZ]
  have PZ2 := Lib.hid (show PW Z2 bp eb base n E2 (b : Int) st rl by rw [hZ, HE2.out]; exact PZ.out.setE b 4)
  have BZ2 := Lib.hid (show Beside (badP bp eb) U Z2 by rw [hZ]; exact BZ.out.set (.inl (.inr rfl)) b _)
  clear hZ e0 eb0 pb0 PZ BZ
  have BWZ := Lib.hid (BZ2.out.below HB0U.out HB0U.out.size HBAD.out)
  have hkb := (BWZ.out.cell (p := ⟨b2, o2 + b * 2 + 1, none⟩) hb2).trans HCB.out
  have e0 := PZ2.out.blk.cell 0 (v := .slice (some ⟨eb, 0, none⟩) n n) rfl
  have e2 := PZ2.out.blk.cell 2 (v := .int .i64 st) rfl
  have p2 := PZ2.out.blk.frozen 2
  go_wp2_with fail
  go_returns
  exact ⟨rfl, by rw [HRE.out]; exact PZ2.out.setS 1, HBWU.out.trans' (BZ2.out.set (.inl (.inl rfl)) 2 _)⟩
set_option maxHeartbeats 4000000 in
set_option maxRecDepth 100000 in
theorem repl_001011 (a b : Nat) (bp eb base : Nat) (A : Option Addr) (n c : Nat) (L : List Sk) (key : ByteArray) (mode : Int) (rl : Value) (W0 w : World) (hn : n = L.length) (h1 : n ≤ 1000) (ha : At W0 A (scs L)) (hb0 : Below W0.heap.size W0 w) (hp : PW w bp eb base n (zs n) (-2) 0 rl) (hbp : W0.heap.size ≤ bp) (heb : W0.heap.size ≤ eb) (hcur : cur L = none) (hkey : ¬ key = ByteArray.empty) (hback : back L key = some b) (hheld : ¬ (sk L b).2 = 4) (hmode : mode = 1) (hcrowd : crowd L (each2 L key mode) = true) :
    Calls Try.prog 49 #[.pointer (some ⟨bp, 0, none⟩), .slice A n c, .int .i64 (oI (cur L)), .string key, .int .i64 mode] w fun e w' => e = .returned (.tuple #[]) ∧ PW w' bp eb base n (repl L key mode).each (repl L key mode).take (repl L key mode).start rl ∧ Beside (badP bp eb) w w' := by
  obtain ⟨bk, hbk⟩ : ∃ b, b = w.heap.size := ⟨_, rfl⟩
  obtain ⟨U, hU⟩ : ∃ W, W = w.alloc (.cells #[.string key] 9) := ⟨_, rfl⟩
  have hbU : Below w.heap.size w U := by rw [hU]; exact below_alloc w _
  have HKB : Hid (Blk U bk 9 #[.string key]) := by show Blk _ _ _ _; rw [hU, hbk]; exact Blk.new w _ _
  have HKU := Lib.hid (HKB.out.cell 0 (v := .string key) rfl)
  have HKL := Lib.hid HKB.out.lt
  have HKN : Hid (¬ badP bp eb bk) := by
    rintro (e | e)
    · have := hp.blk.lt; omega
    · have : eb < w.heap.size := (hp.row.lt _ rfl).2; omega
  obtain ⟨E0, hE0⟩ : ∃ E, E = zs n := ⟨_, rfl⟩
  obtain ⟨tk, htk⟩ : ∃ z : Int, z = -2 := ⟨_, rfl⟩
  obtain ⟨st, hst⟩ : ∃ z : Int, z = 0 := ⟨_, rfl⟩
  have hp' := hp
  rw [← hE0, ← htk, ← hst] at hp'
  have PU := Lib.hid (hp'.below hbU)
  have HB0U := Lib.hid (hb0.trans (hbU.mono hb0.size))
  have HBAD : Hid (∀ g, badP bp eb g → W0.heap.size ≤ g) := by
    rintro g (e | e)
    · omega
    · omega
  have HBWU := Lib.hid hbU
  have HA0 := Lib.hid ha
  have HN := Lib.hid hn
  have HU := Lib.hid hU
  have HG := Lib.hid hbk
  have HE1 : Hid (each1 L key mode = E0) := by show _ = _; unfold each1; rw [hcur, hE0, hn]
  have hbn := (back_some hback).1
  rw [← hn] at hbn
  obtain ⟨b2, o2, hA2, hb2, _, hcb⟩ := at_sk ha (k := b) (by omega)
  obtain ⟨y, hy⟩ : ∃ s, s = (sk L b).2 := ⟨_, rfl⟩
  rw [← hy] at hcb hheld
  have HCB := Lib.hid hcb
  have HE2 : Hid (each2 L key mode = (each1 L key mode).set b 4) := by show _ = _; unfold each2; rw [hback]
  have HBK : Hid (oI (fi (backQ L key) n) = (b : Int)) := by show _ = _; rw [hn]; show oI (back L key) = _; rw [hback]; rfl
  have HRE : Hid (repl L key mode = ⟨each2 L key mode, (b : Int), 2⟩) := by
    have hbh : backHeld L key = false := by unfold backHeld; rw [hback]; show decide _ = _; rw [← hy]; exact decide_eq_false hheld
    show _ = _
    unfold repl
    rw [if_neg hkey, hback]
    have : startB L key mode = 2 := by unfold startB; rw [hbh, if_neg (by simp), if_pos ⟨hmode, hcrowd⟩]
    rw [this]
    rfl
  have HCR := Lib.hid hcrowd
  have hsk : key.toList.isEmpty = false := str_ne hkey
  have hyk : (y == 4) = false := by simpa using hheld
  have hmk : (mode == 1) = true := by simpa using hmode
  obtain ⟨E2, hE2⟩ : ∃ E, E = each2 L key mode := ⟨_, rfl⟩
  rw [← hE2] at HE2 HRE HCR
  obtain ⟨E1, hE1⟩ : ∃ E, E = each1 L key mode := ⟨_, rfl⟩
  rw [← hE1] at HE1 HE2
  subst hA2
  rw [hcur]
  rw [show oI none = -1 from rfl]
  clear hU hbk hbU hp hp' hE0 htk hst ha hn hb0 hbp heb HKB hkey hcb hy hheld hmode hcrowd hE2 hE1 hback hcur
  go_enter Try.func49, Try.ntmps49
  go_upto_region 1 with fail
  rw [← HU.out, ← HG.out]
  have PX := PU
  have BX : Hid (Beside (badP bp eb) U U) := Beside.refl _ _
  obtain ⟨X, hX⟩ : ∃ W, W = U := ⟨_, rfl⟩
  rw [← hX]
  rw [show Hid (PW U bp eb base n E0 tk st rl) = Hid (PW X bp eb base n E0 tk st rl) by rw [hX]] at PX
  replace BX : Hid (Beside (badP bp eb) U X) := by rw [hX]; exact Beside.refl _ _
  clear hX
  replace PX : Hid (PW X bp eb base n E1 tk st rl) := by show PW _ _ _ _ _ _ _ _ _; rw [HE1.out]; exact PX.out
  have KX := (World.cell?_of_block (a := ⟨bk, 0, none⟩) (BX.out.block bk HKL.out HKN.out)).trans HKU.out
  have BWX := Lib.hid (BX.out.below HB0U.out HB0U.out.size HBAD.out)
  have HAX := Lib.hid (HA0.out.below BWX.out)
  go_wp2_with fail
  refine (index_back _ n c L bk (backQ L key) X HN.out (by omega) HAX.out (fun W i hi hb => by
    have hkl : bk < X.heap.size := Nat.lt_of_lt_of_le HKL.out BX.out.size
    exact (replace1_any _ _ bk key W ((hb.cell (p := ⟨bk, 0, none⟩) hkl).trans KX) (Nat.lt_of_lt_of_le hkl hb.size)))).mono ?_
  rintro e9 Y ⟨rfl, hb⟩
  rw [HBK.out]
  have PY := Lib.hid (PX.out.below hb)
  have BY := Lib.hid (BX.out.trans (.ofBelow hb))
  clear hb PX BX KX BWX HAX
  have e0 := PY.out.blk.cell 0 (v := .slice (some ⟨eb, 0, none⟩) n n) rfl
  have e1 := PY.out.blk.cell 1 (v := .int .i64 tk) rfl
  have p1 := PY.out.blk.frozen 1
  go_upto_region 6 with fail
  obtain ⟨Z, hZ⟩ : ∃ W, W = Y.setCell ⟨bp, 1, none⟩ (.int .i64 (b : Int)) := ⟨_, rfl⟩
  rw [← hZ]
  have PZ := Lib.hid (show PW Z bp eb base n E1 (b : Int) st rl by rw [hZ]; exact PY.out.setT _)
  have BZ := Lib.hid (show Beside (badP bp eb) U Z by rw [hZ]; exact BY.out.set (.inl (.inl rfl)) 1 _)
  clear hZ e0 e1 p1 PY BY
  have e0 := PZ.out.blk.cell 0 (v := .slice (some ⟨eb, 0, none⟩) n n) rfl
  have eb0 := PZ.out.at (i := b) hbn
  have pb0 := PZ.out.frozenE b
  go_upto_region 9 with fail
  obtain ⟨Z2, hZ⟩ : ∃ W, W = Z.setCell ⟨eb, b, none⟩ (.int .i64 4) := ⟨_, rfl⟩
  rw [← hZ]
  have PZ2 := Lib.hid (show PW Z2 bp eb base n E2 (b : Int) st rl by rw [hZ, HE2.out]; exact PZ.out.setE b 4)
  have BZ2 := Lib.hid (show Beside (badP bp eb) U Z2 by rw [hZ]; exact BZ.out.set (.inl (.inr rfl)) b _)
  clear hZ e0 eb0 pb0 PZ BZ
  have BWZ := Lib.hid (BZ2.out.below HB0U.out HB0U.out.size HBAD.out)
  have hkb := (BWZ.out.cell (p := ⟨b2, o2 + b * 2 + 1, none⟩) hb2).trans HCB.out
  have e0 := PZ2.out.blk.cell 0 (v := .slice (some ⟨eb, 0, none⟩) n n) rfl
  go_wp2_with fail
  refine (crowded_any bp _ n c L _ n E2 _ _ _ Z2 HN.out PZ2.out.len.symm (by omega) PZ2.out.blk (HA0.out.below BWZ.out) (At.own PZ2.out.row)).mono ?_
  rintro e9 Z3 ⟨rfl, hb⟩
  rw [HCR.out]
  have PZ3 := Lib.hid (PZ2.out.below hb)
  have BZ3 := Lib.hid (BZ2.out.trans (.ofBelow hb))
  have e3 := PZ3.out.blk.cell 2 (v := .int .i64 st) rfl
  have p3 := PZ3.out.blk.frozen 2
  clear hb e0 PZ2 BZ2 BWZ
  go_wp2_with fail
  go_returns
  exact ⟨rfl, by rw [HRE.out]; exact PZ3.out.setS 2, HBWU.out.trans' (BZ3.out.set (.inl (.inl rfl)) 2 _)⟩
set_option maxHeartbeats 4000000 in
set_option maxRecDepth 100000 in
theorem repl_001010 (a b : Nat) (bp eb base : Nat) (A : Option Addr) (n c : Nat) (L : List Sk) (key : ByteArray) (mode : Int) (rl : Value) (W0 w : World) (hn : n = L.length) (h1 : n ≤ 1000) (ha : At W0 A (scs L)) (hb0 : Below W0.heap.size W0 w) (hp : PW w bp eb base n (zs n) (-2) 0 rl) (hbp : W0.heap.size ≤ bp) (heb : W0.heap.size ≤ eb) (hcur : cur L = none) (hkey : ¬ key = ByteArray.empty) (hback : back L key = some b) (hheld : ¬ (sk L b).2 = 4) (hmode : mode = 1) (hcrowd : crowd L (each2 L key mode) = false) :
    Calls Try.prog 49 #[.pointer (some ⟨bp, 0, none⟩), .slice A n c, .int .i64 (oI (cur L)), .string key, .int .i64 mode] w fun e w' => e = .returned (.tuple #[]) ∧ PW w' bp eb base n (repl L key mode).each (repl L key mode).take (repl L key mode).start rl ∧ Beside (badP bp eb) w w' := by
  obtain ⟨bk, hbk⟩ : ∃ b, b = w.heap.size := ⟨_, rfl⟩
  obtain ⟨U, hU⟩ : ∃ W, W = w.alloc (.cells #[.string key] 9) := ⟨_, rfl⟩
  have hbU : Below w.heap.size w U := by rw [hU]; exact below_alloc w _
  have HKB : Hid (Blk U bk 9 #[.string key]) := by show Blk _ _ _ _; rw [hU, hbk]; exact Blk.new w _ _
  have HKU := Lib.hid (HKB.out.cell 0 (v := .string key) rfl)
  have HKL := Lib.hid HKB.out.lt
  have HKN : Hid (¬ badP bp eb bk) := by
    rintro (e | e)
    · have := hp.blk.lt; omega
    · have : eb < w.heap.size := (hp.row.lt _ rfl).2; omega
  obtain ⟨E0, hE0⟩ : ∃ E, E = zs n := ⟨_, rfl⟩
  obtain ⟨tk, htk⟩ : ∃ z : Int, z = -2 := ⟨_, rfl⟩
  obtain ⟨st, hst⟩ : ∃ z : Int, z = 0 := ⟨_, rfl⟩
  have hp' := hp
  rw [← hE0, ← htk, ← hst] at hp'
  have PU := Lib.hid (hp'.below hbU)
  have HB0U := Lib.hid (hb0.trans (hbU.mono hb0.size))
  have HBAD : Hid (∀ g, badP bp eb g → W0.heap.size ≤ g) := by
    rintro g (e | e)
    · omega
    · omega
  have HBWU := Lib.hid hbU
  have HA0 := Lib.hid ha
  have HN := Lib.hid hn
  have HU := Lib.hid hU
  have HG := Lib.hid hbk
  have HE1 : Hid (each1 L key mode = E0) := by show _ = _; unfold each1; rw [hcur, hE0, hn]
  have hbn := (back_some hback).1
  rw [← hn] at hbn
  obtain ⟨b2, o2, hA2, hb2, _, hcb⟩ := at_sk ha (k := b) (by omega)
  obtain ⟨y, hy⟩ : ∃ s, s = (sk L b).2 := ⟨_, rfl⟩
  rw [← hy] at hcb hheld
  have HCB := Lib.hid hcb
  have HE2 : Hid (each2 L key mode = (each1 L key mode).set b 4) := by show _ = _; unfold each2; rw [hback]
  have HBK : Hid (oI (fi (backQ L key) n) = (b : Int)) := by show _ = _; rw [hn]; show oI (back L key) = _; rw [hback]; rfl
  have HRE : Hid (repl L key mode = ⟨each2 L key mode, (b : Int), 1⟩) := by
    have hbh : backHeld L key = false := by unfold backHeld; rw [hback]; show decide _ = _; rw [← hy]; exact decide_eq_false hheld
    show _ = _
    unfold repl
    rw [if_neg hkey, hback]
    have : startB L key mode = 1 := by unfold startB; rw [hbh, if_neg (by simp), if_neg (fun h => by rw [hcrowd] at h; cases h.2)]
    rw [this]
    rfl
  have HCR := Lib.hid hcrowd
  have hsk : key.toList.isEmpty = false := str_ne hkey
  have hyk : (y == 4) = false := by simpa using hheld
  have hmk : (mode == 1) = true := by simpa using hmode
  obtain ⟨E2, hE2⟩ : ∃ E, E = each2 L key mode := ⟨_, rfl⟩
  rw [← hE2] at HE2 HRE HCR
  obtain ⟨E1, hE1⟩ : ∃ E, E = each1 L key mode := ⟨_, rfl⟩
  rw [← hE1] at HE1 HE2
  subst hA2
  rw [hcur]
  rw [show oI none = -1 from rfl]
  clear hU hbk hbU hp hp' hE0 htk hst ha hn hb0 hbp heb HKB hkey hcb hy hheld hmode hcrowd hE2 hE1 hback hcur
  go_enter Try.func49, Try.ntmps49
  go_upto_region 1 with fail
  rw [← HU.out, ← HG.out]
  have PX := PU
  have BX : Hid (Beside (badP bp eb) U U) := Beside.refl _ _
  obtain ⟨X, hX⟩ : ∃ W, W = U := ⟨_, rfl⟩
  rw [← hX]
  rw [show Hid (PW U bp eb base n E0 tk st rl) = Hid (PW X bp eb base n E0 tk st rl) by rw [hX]] at PX
  replace BX : Hid (Beside (badP bp eb) U X) := by rw [hX]; exact Beside.refl _ _
  clear hX
  replace PX : Hid (PW X bp eb base n E1 tk st rl) := by show PW _ _ _ _ _ _ _ _ _; rw [HE1.out]; exact PX.out
  have KX := (World.cell?_of_block (a := ⟨bk, 0, none⟩) (BX.out.block bk HKL.out HKN.out)).trans HKU.out
  have BWX := Lib.hid (BX.out.below HB0U.out HB0U.out.size HBAD.out)
  have HAX := Lib.hid (HA0.out.below BWX.out)
  go_wp2_with fail
  refine (index_back _ n c L bk (backQ L key) X HN.out (by omega) HAX.out (fun W i hi hb => by
    have hkl : bk < X.heap.size := Nat.lt_of_lt_of_le HKL.out BX.out.size
    exact (replace1_any _ _ bk key W ((hb.cell (p := ⟨bk, 0, none⟩) hkl).trans KX) (Nat.lt_of_lt_of_le hkl hb.size)))).mono ?_
  rintro e9 Y ⟨rfl, hb⟩
  rw [HBK.out]
  have PY := Lib.hid (PX.out.below hb)
  have BY := Lib.hid (BX.out.trans (.ofBelow hb))
  clear hb PX BX KX BWX HAX
  have e0 := PY.out.blk.cell 0 (v := .slice (some ⟨eb, 0, none⟩) n n) rfl
  have e1 := PY.out.blk.cell 1 (v := .int .i64 tk) rfl
  have p1 := PY.out.blk.frozen 1
  go_upto_region 6 with fail
  obtain ⟨Z, hZ⟩ : ∃ W, W = Y.setCell ⟨bp, 1, none⟩ (.int .i64 (b : Int)) := ⟨_, rfl⟩
  rw [← hZ]
  have PZ := Lib.hid (show PW Z bp eb base n E1 (b : Int) st rl by rw [hZ]; exact PY.out.setT _)
  have BZ := Lib.hid (show Beside (badP bp eb) U Z by rw [hZ]; exact BY.out.set (.inl (.inl rfl)) 1 _)
  clear hZ e0 e1 p1 PY BY
  have e0 := PZ.out.blk.cell 0 (v := .slice (some ⟨eb, 0, none⟩) n n) rfl
  have eb0 := PZ.out.at (i := b) hbn
  have pb0 := PZ.out.frozenE b
  go_upto_region 9 with fail
  obtain ⟨Z2, hZ⟩ : ∃ W, W = Z.setCell ⟨eb, b, none⟩ (.int .i64 4) := ⟨_, rfl⟩
  rw [← hZ]
  have PZ2 := Lib.hid (show PW Z2 bp eb base n E2 (b : Int) st rl by rw [hZ, HE2.out]; exact PZ.out.setE b 4)
  have BZ2 := Lib.hid (show Beside (badP bp eb) U Z2 by rw [hZ]; exact BZ.out.set (.inl (.inr rfl)) b _)
  clear hZ e0 eb0 pb0 PZ BZ
  have BWZ := Lib.hid (BZ2.out.below HB0U.out HB0U.out.size HBAD.out)
  have hkb := (BWZ.out.cell (p := ⟨b2, o2 + b * 2 + 1, none⟩) hb2).trans HCB.out
  have e0 := PZ2.out.blk.cell 0 (v := .slice (some ⟨eb, 0, none⟩) n n) rfl
  go_wp2_with fail
  refine (crowded_any bp _ n c L _ n E2 _ _ _ Z2 HN.out PZ2.out.len.symm (by omega) PZ2.out.blk (HA0.out.below BWZ.out) (At.own PZ2.out.row)).mono ?_
  rintro e9 Z3 ⟨rfl, hb⟩
  rw [HCR.out]
  have PZ3 := Lib.hid (PZ2.out.below hb)
  have BZ3 := Lib.hid (BZ2.out.trans (.ofBelow hb))
  have e3 := PZ3.out.blk.cell 2 (v := .int .i64 st) rfl
  have p3 := PZ3.out.blk.frozen 2
  clear hb e0 PZ2 BZ2 BWZ
  go_wp2_with fail
  go_returns
  exact ⟨rfl, by rw [HRE.out]; exact PZ3.out.setS 1, HBWU.out.trans' (BZ3.out.set (.inl (.inl rfl)) 2 _)⟩
end Go.Proofs.Ytfapghekakdpgaa
