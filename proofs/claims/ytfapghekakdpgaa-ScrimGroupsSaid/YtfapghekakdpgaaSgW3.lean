/- ScrimGroups. -/
import Derived.Test.YtfapghekakdpgaaSgW2
import Derived.Test.YtfapghekakdpgaaGrOpen
namespace Go.Proofs.Ytfapghekakdpgaa
open Go.RowKit We Gr Sg Go.Maps
open M (clean few cutS)
set_option linter.unusedVariables false
set_option linter.unusedSimpArgs false
attribute [-go_sem] Builtin.append_
theorem infoM : (Try.prog.info? 70).map (fun i => (i.zero, i.size, i.bytes)) = some (some (.agg #[.int .i64 0, .string { data := #[] }, .bool false]), 3, 32) := by kernel_rfl
theorem infoG : (Try.prog.info? 66).map (fun i => (i.zero, i.size, i.bytes)) = some (some (.agg #[.string { data := #[] }, .bool false]), 2, 24) := by kernel_rfl
theorem zeroM (w : World) : (zeroValue 70).run Try.prog w = .ok (.agg #[.int .i64 0, .string { data := #[] }, .bool false]) w := by kernel_rfl
@[go_sem] theorem field_gh (x0 x1 x2 : Value) (w : World) : (Instr.field 70 (.agg #[x0, x1, x2]) 2).run Try.prog w = .ok x2 w := by
  have u1 := Try.underlying70
  have u2 := Try.underlying4
  have a1 := Try.isAgg70
  have a2 := Try.isAgg4
  have z1 := Try.sizeOf70
  have z2 := Try.sizeOf4
  simp only [Instr.field]
  go_simp
  try rfl
theorem okI_small {x : Int} (h0 : -1000000 ≤ x) (h1 : x ≤ 1000000) : OkI x := by
  exact WalkArith.wf_i64 ⟨by omega, by omega⟩
namespace Sg
abbrev Row := Option Addr × Nat × Nat × List ByteArray
def rc (r : Row) : List Value := [.slice r.1 r.2.1 r.2.2.1]
theorem olds_next (K : List Mb) (k : Nat) (h : k < K.length) : olds (K.take (k + 1)) = olds (K.take k) ++ [(mb K k).2] := by
  unfold olds; rw [List.take_succ_eq_append_getElem h, List.map_append, mb_eq K k h]; rfl
theorem ids_next (K : List Mb) (k : Nat) (h : k < K.length) : ids (K.take (k + 1)) = ids (K.take k) ++ [(mb K k).1] := by
  unfold ids; rw [List.take_succ_eq_append_getElem h, List.map_append, mb_eq K k h]; rfl
def lA : List Gk := [(⟨#[97]⟩, false)]
theorem lA1 : leaves lA (tks lA []) = [0] := by decide +kernel
theorem rAt_ge (l : List Int) (x : Int) : decide (0 ≤ rAt l x) = decide (x ∈ l) := by
  by_cases h : x ∈ l
  · rw [rAt_yes h, decide_eq_true h, decide_eq_true (by omega)]
  · rw [rAt_no h, decide_eq_false h]; rfl
theorem ghost_in (L : List Gk) (T : List Int) (k : Nat) (h : k < L.length) : decide ((k : Int) ∈ nI (ghosts L T)) = !decide ((k : Int) ∈ T) := by
  have : ((k : Int) ∈ nI (ghosts L T)) ↔ ¬ (k : Int) ∈ T := by
    rw [nI_mem]
    unfold ghosts
    rw [mem_wh]
    unfold ghostQ
    simp [h]
  by_cases h2 : (k : Int) ∈ T
  · rw [decide_eq_true h2, decide_eq_false (fun h3 => this.mp h3 h2)]; rfl
  · rw [decide_eq_false h2, decide_eq_true (this.mpr h2)]; rfl
def seenTo (K : List Mb) (ks : List ByteArray) (nx : Int) (k : Nat) : List Int := ((mrg K ks nx).take k).filter (fun x => !(mem K ks nx x).2.2)
theorem seen_next (K : List Mb) (ks : List ByteArray) (nx : Int) (k : Nat) (h : k < (mrg K ks nx).length) : seenTo K ks nx (k + 1) = if (mem K ks nx (at' (mrg K ks nx) k)).2.2 = true then seenTo K ks nx k else seenTo K ks nx k ++ [at' (mrg K ks nx) k] := by
  unfold seenTo
  rw [We.take_next h, List.filter_append]
  cases hg : (mem K ks nx (at' (mrg K ks nx) k)).2.2 <;> simp [hg]
theorem seen_le (K : List Mb) (ks : List ByteArray) (nx : Int) (k : Nat) : (seenTo K ks nx k).length ≤ k := by
  unfold seenTo
  refine Nat.le_trans (List.length_filter_le _ _) ?_
  rw [List.length_take]; omega
def toTo (K : List Mb) (ks : List ByteArray) (nx : Int) (k : Nat) : List Mb := ((mrg K ks nx).take k).map (mem K ks nx)
theorem to_next (K : List Mb) (ks : List ByteArray) (nx : Int) (k : Nat) (h : k < (mrg K ks nx).length) : toTo K ks nx (k + 1) = toTo K ks nx k ++ [mem K ks nx (at' (mrg K ks nx) k)] := by
  unfold toTo; rw [We.take_next h, List.map_append]; rfl
theorem toTo_len (K : List Mb) (ks : List ByteArray) (nx : Int) (k : Nat) : (toTo K ks nx k).length ≤ k := by unfold toTo; rw [List.length_map, List.length_take]; omega
theorem tos_alive {K : List Mb} {ks : List ByteArray} {nx : Int} (hv : Inv K nx) : alive (tos K ks nx) = live K ks nx ks.length := by
  unfold alive tos
  rw [List.filter_map, List.map_map]
  have h : ((fun m : Mb => m.1) ∘ mem K ks nx) = id := funext fun x => mem_id x
  rw [h, List.map_id]
  exact seen_is hv
end Sg
theorem below_drewN {B : Nat} {a b : World} (h : Below B a b) (hs : B ≤ b.heap.size) (q : Nat) : Below B a (b.drewN q) := Beside.below ((Beside.refl (fun _ => False) b).drewN q) h hs (fun g hg => hg.elim)
theorem map_set {f : Int → Option Value} {n mz g : Nat} {w : World} (h : MapOf Try.prog 3 ikey OkI w mz f n) (hne : mz ≠ g) (j : Nat) (u : Value) : MapOf Try.prog 3 ikey OkI (w.setCell ⟨g, j, none⟩ u) mz f n := h.block (set_other hne j u)
set_option maxHeartbeats 32000000 in
set_option maxRecDepth 100000 in
theorem scrimGroups_any (A : Option Addr) (n c : Nat) (R : List Row) (w : World) (hn : n = R.length) (ha : At w A (R.flatMap rc)) (hr : ∀ r ∈ R, r.2.1 = r.2.2.2.length ∧ r.2.1 ≤ maxLen ∧ At w r.1 (sv r.2.2.2) ∧ ∀ k ∈ r.2.2.2, OkS k) :
    Calls Try.prog 10 #[.slice A n c] w fun e w' => e = .returned (.bool true) ∧ Below w.heap.size w w' := by
  obtain ⟨i0, hi, hz0, hz1, hz2⟩ := info_parts infoInt
  obtain ⟨j0, ji, jz0, jz1, jz2⟩ := info_parts infoM
  obtain ⟨k0, ki, kz0, kz1, kz2⟩ := info_parts infoG
  have hmm := @run_makeMap Try.prog
  obtain ⟨U, hU⟩ : ∃ W, W = w.alloc (.cells #[.string ⟨#[97]⟩, .bool false] 66) := ⟨_, rfl⟩
  have C1 := of_any (some ⟨w.heap.size, 0, none⟩) 1 1 lA none 0 0 [] U rfl rfl (by omega) (by omega) (by rw [hU]; exact at_new w _ _ _ rfl _ rfl) (At.nil _ _) (fun k hk => by rw [List.mem_singleton.mp hk]; show (1 : Nat) ≤ maxLen; unfold maxLen; omega) (fun k hk => by cases hk)
  rw [lA1] at C1
  have C1 := Lib.hid C1
  have HBU := Lib.hid (show Below w.heap.size w U by rw [hU]; exact below_alloc w _)
  have HU := Lib.hid hU
  have HN := Lib.hid hn
  have HA := Lib.hid ha
  have HR := Lib.hid hr
  clear hU hn ha hr
  go_enter Try.func10, Try.ntmps10
  go_wp2_with fail
  rw [← HU.out]
  refine C1.out.mono ?_
  rintro e w1 ⟨v1, v2, rfl, o1, o2, hb1⟩
  obtain ⟨A1, c1, rfl, _, _⟩ := own_slice o1
  obtain ⟨A2, c2, rfl, _, _⟩ := own_slice o2
  obtain ⟨g1, hg1⟩ : ∃ g, g = w1.heap.size := ⟨_, rfl⟩
  obtain ⟨W1, hW1⟩ : ∃ W, W = w1.alloc (.cells #[.slice A1 1 c1, .slice A2 0 c2] 31) := ⟨_, rfl⟩
  have hb2 : Below w1.heap.size w1 W1 := by rw [hW1]; exact below_alloc w1 _
  have K1 := Lib.hid (show Blk W1 g1 31 #[.slice A1 1 c1, .slice A2 0 c2] by rw [hW1, hg1]; exact Blk.new w1 _ _)
  have HB1 := Lib.hid ((HBU.out.trans (hb1.mono HBU.out.size)).trans (hb2.mono (Nat.le_trans HBU.out.size hb1.size)))
  have HW1 := Lib.hid hW1
  have HG1 := Lib.hid hg1
  clear o1 o2 hb1 hb2 hW1 hg1 C1
  go_upto_region 2 with fail
  rw [← show W1 = w1.alloc (.cells #[.slice A1 1 c1, .slice A2 0 c2] 31) from HW1.out, ← HG1.out]
  have k0' := K1.out.cell 0 (v := .slice A1 1 c1) rfl
  go_wp2_with fail
  clear k0' K1 HW1 HG1 HBU
  go_loopw [4, 5, 6] (fun x4 x5 x6 wr => ∃ (A4 : Option Addr) (n4 c4 : Nat) (K : List Mb) (nx : Int) (i : Nat), x4 = .slice A4 n4 c4 ∧ x5 = .int .i64 nx ∧ x6 = .int .i64 i ∧ i ≤ 8 ∧ i ≤ n ∧ n4 ≤ 6 * i ∧ nx ≤ 1 + 6 * (i : Int) ∧ 1 ≤ nx ∧ n4 ≤ c4 ∧ c4 ≤ maxLen ∧ Hid (n4 = K.length) ∧ Hid (Inv K nx) ∧ Hid (wr.ownsRow w.heap.size 70 3 (.slice A4 n4 c4) n4 (mcs K)) ∧ Hid (Below w.heap.size w wr)) (fun _ _ i _ => 8 - (intOf i).toNat)
  case atStart => exact ⟨none, 0, 0, [], 1, 0, rfl, rfl, rfl, by omega, by omega, by omega, by omega, by omega, by omega, by omega, rfl, Inv.nil, World.ownsRow_nil _ _ _ _, HB1⟩
  case round =>
    clear HB1
    obtain ⟨A4, n4, c4, K, nx, i, rfl, rfl, rfl, hi8, hin, hn4, hnx6, hnx1, hnc4, hc4, hKl, hInv, hO, hbel⟩ := hrel
    by_cases hlt : i < n
    · by_cases h8 : i < 8
      · have hd1 : decide ((i : Int) < (n : Int)) = true := decide_eq_true (by omega)
        have hd2 : decide ((i : Int) < 8) = true := decide_eq_true (by omega)
        obtain ⟨r, hr⟩ : ∃ r, r = R[i]'(by have := HN.out; omega) := ⟨_, rfl⟩
        have hrm : r ∈ R := by rw [hr]; exact List.getElem_mem _
        obtain ⟨rA, rn, rk, ss⟩ := r
        obtain ⟨hr1, hr2, hr3, hr4⟩ := HR.out _ hrm
        dsimp only at hr1 hr2 hr3 hr4
        have hri : (R.flatMap rc)[i]? = some (.slice rA rn rk) := by
          have := Op.flat_at rc 1 (fun _ => rfl) R i (by have := HN.out; omega) 0 (by omega)
          rw [Nat.mul_one, Nat.add_zero, ← hr] at this
          exact this
        obtain ⟨b0, o0, rfl, hb0, hc0⟩ := HA.out.one hri
        have hd0 := (hbel.out.cell (p := ⟨b0, o0 + i, none⟩) hb0).trans hc0
        have CF := Lib.hid (few_any rA rn rk 6 ss wr hr1 hr2 (by omega) (by omega) (hr3.below hbel.out))
        rw [show (6 : Int).toNat = 6 from rfl] at CF
        have FO : Hid (∀ k ∈ few ss 6, OkS k) := fun k hk => by
          unfold few at hk
          obtain ⟨q, hq, rfl⟩ := List.mem_map.mp hk
          have h9 := hr4 q (List.mem_of_mem_take hq)
          show (cutS q 20).size ≤ maxLen
          have h8 : q.size ≤ maxLen := h9
          unfold cutS
          split
          · rw [ByteArray.size_extract]; unfold maxLen; omega
          · exact h8
        have FL : Hid ((few ss 6).length ≤ 6) := M.few_len ss 6
        generalize few ss 6 = fs at *
        clear hr hrm hr1 hr2 hr3 hr4 hri hc0
        go_wp2_with fail
        refine CF.out.mono ?_
        rintro e w1' ⟨v1', rfl, ho1, hb1⟩
        obtain ⟨A3, c3, rfl, hc3, hm3⟩ := own_slice ho1
        have hfl := FL.out
        have T3 := Lib.hid (At.own ho1)
        have B1 := Lib.hid (hbel.out.trans (hb1.mono hbel.out.size))
        have O1 := Lib.hid (own_below hO.out hb1)
        obtain ⟨fn, hfn⟩ : ∃ q, q = fs.length := ⟨_, rfl⟩
        rw [← hfn] at hc3 hfl ⊢
        have HFN := Lib.hid hfn
        clear ho1 hb1 hfn CF hbel hO hd0
        go_wp2_with fail
        refine (rclean_any A3 fn c3 fs w1' HFN.out hc3 hm3 (by omega) T3.out).mono ?_
        rintro e w2 ⟨v2', rfl, ho2, hb2⟩
        have HND : Hid (clean fs).Nodup := M.nodup_clean fs
        have HKO : Hid (∀ k ∈ clean fs, OkS k) := fun k hk => FO.out k ((M.mem_clean fs k).mp hk)
        have HKL : Hid ((clean fs).length ≤ 6) := by have h9 := M.clean_len fs; have h8 := FL.out; show _ ≤ _; omega
        generalize clean fs = ks at *
        obtain ⟨m, hm⟩ : ∃ q, q = ks.length := ⟨_, rfl⟩
        rw [← hm] at ho2 HKL
        obtain ⟨KA, kc, rfl, hkc, hkm⟩ := own_slice ho2
        have hm6 := HKL.out
        have HM := Lib.hid hm
        have TK := Lib.hid (At.own ho2)
        have O2 := Lib.hid (own_below O1.out hb2)
        have B2 := Lib.hid (B1.out.trans (hb2.mono B1.out.size))
        clear ho2 hb2 hm B1 O1 T3 FO FL HFN HKL
        go_wp2_with fail
        go_loopw [8, 9, 50] (fun x8 x9 x50 wr => ∃ (k : Nat), x50 = .int .i64 k ∧ k ≤ n4 ∧ Hid (wr.ownsRow w2.heap.size 66 2 x8 k (gcs (olds (K.take k)))) ∧ Hid (wr.ownsRow w2.heap.size 3 1 x9 k (iv (ids (K.take k)))) ∧ Hid (Below w2.heap.size w2 wr)) (fun _ _ i _ => n4 - (intOf i).toNat)
        case atStart => exact ⟨0, rfl, Nat.zero_le _, World.ownsRow_nil _ _ _ _, own_made w2 _ rfl (Nat.le_refl _), below_alloc w2 _⟩
        case round =>
          obtain ⟨k, rfl, hk, h8', h9', hb⟩ := hrel
          obtain ⟨A8, c8, rfl, hc8, hm8⟩ := own_slice h8'.out
          obtain ⟨A9, c9, rfl, hc9, hm9⟩ := own_slice h9'.out
          by_cases hkl : k < n4
          · have hk' : k < K.length := by have := hKl.out; omega
            have T4 := At.own (own_below O2.out hb.out)
            obtain ⟨b4, o4, rfl, hb4, hc0, hc1, hc2⟩ := at_mb T4 hk'
            have hnx8 := olds_next K k hk'
            have hnx9 := ids_next K k hk'
            rw [show (mb K k).2 = ((mb K k).2.1, (mb K k).2.2) from rfl] at hnx8
            generalize (mb K k).1 = x at *
            generalize (mb K k).2.1 = s at *
            generalize (mb K k).2.2 = z at *
            have HX8 := Lib.hid hnx8
            have HX9 := Lib.hid hnx9
            obtain ⟨gk, hgk⟩ : ∃ q, q = wr.heap.size := ⟨_, rfl⟩
            obtain ⟨W3, hW3⟩ : ∃ W, W = wr.alloc (.cells #[.int .i64 x, .string s, .bool z] 70) := ⟨_, rfl⟩
            have hb3 : Below wr.heap.size wr W3 := by rw [hW3]; exact below_alloc wr _
            have K3 := Lib.hid (show Blk W3 gk 70 #[.int .i64 x, .string s, .bool z] by rw [hW3, hgk]; exact Blk.new wr _ _)
            have R8 := Lib.hid (own_below h8'.out hb3)
            have R9 := Lib.hid (own_below h9'.out hb3)
            have B3 := Lib.hid (hb.out.trans (hb3.mono hb.out.size))
            have HW3 := Lib.hid hW3
            have HGK := Lib.hid hgk
            have hgs : gk < W3.heap.size := K3.out.lt
            have HG2 : Hid (w2.heap.size ≤ gk) := by rw [hgk]; exact hb.out.size
            have HL8 : Hid (∀ q, (Value.slice A8 k c8).ownBlock = some q → q < gk) := fun q hq => by rw [hgk]; exact (h8'.out.lt q hq).2
            clear hnx8 hnx9 hW3 hgk hb3 T4
            go_upto_region 15 with fail
            rw [← HW3.out, ← HGK.out]
            clear hc0 hc1 hc2
            have f1 := K3.out.cell 1 (v := .string s) rfl
            have f2 := K3.out.cell 2 (v := .bool z) rfl
            obtain ⟨v5, w5, hrun, hown5, hgrow5, _, _⟩ := run_append_own_at (P := Try.prog) (W3.alloc (.cells #[.string s, .bool z] 66)) w2.heap.size 25 25 66 k0 (.agg #[.string { data := #[] }, .bool false]) 2 24 Try.underlying25 ki kz0 kz1 kz2 rfl (by decide) _ _ _ (R8.out.alloc (.cells #[.string s, .bool z] 66)) ⟨W3.heap.size, 0, none⟩ 1 1 [.string s, .bool z] rfl (cells_new' _ _ _ _ rfl _ rfl) (fun u hu => by simp at hu; rcases hu with rfl | rfl <;> rfl) (by unfold maxLen; omega) (by omega) (by rw [size_alloc]; have := B3.out.size; omega)
            obtain ⟨A5, c5, rfl, hc5, hm5⟩ := own_slice hown5
            have R95 := Lib.hid ((R9.out.alloc (.cells #[.string s, .bool z] 66)).kept hgrow5 ((own_ne (R9.out) (R8.out) (by decide)).imp id id))
            have K5 := Lib.hid ((K3.out.alloc (.cells #[.string s, .bool z] 66)).grown hgrow5 (fun e => by have := HL8.out gk e.symm; omega))
            have B5 := Lib.hid (Below.grown (B3.out.alloc B3.out.size (.cells #[.string s, .bool z] 66)) hgrow5 (by rw [size_alloc]; have := B3.out.size; omega) (fun j hj => own_from R8.out j hj))
            have R85 := Lib.hid hown5
            clear hown5 hgrow5
            go_upto_region 16 with fail
            clear hrun f1 f2
            have f0 := K5.out.cell 0 (v := .int .i64 x) rfl
            obtain ⟨v6, w6, hrun, hown6, hgrow6, _, _⟩ := run_append_own_at (P := Try.prog) (w5.alloc (.cells #[.int .i64 x] 3)) w2.heap.size 29 29 3 i0 (.int .i64 0) 1 8 Try.underlying29 hi hz0 hz1 hz2 rfl (by decide) _ _ _ (R95.out.alloc (.cells #[.int .i64 x] 3)) ⟨w5.heap.size, 0, none⟩ 1 1 [.int .i64 x] rfl (cells_new' _ _ _ _ rfl _ rfl) (fun u hu => by simp at hu; subst hu; rfl) (by unfold maxLen; omega) (by omega) (by rw [size_alloc]; have := B5.out.size; omega)
            obtain ⟨A6, c6, rfl, hc6, hm6'⟩ := own_slice hown6
            have R86 := Lib.hid ((R85.out.alloc (.cells #[.int .i64 x] 3)).kept hgrow6 ((own_ne (R85.out) (R95.out) (by decide)).imp id id))
            have B6 := Lib.hid (Below.grown (B5.out.alloc B5.out.size (.cells #[.int .i64 x] 3)) hgrow6 (by rw [size_alloc]; have := B5.out.size; omega) (fun j hj => own_from R95.out j hj))
            have N8 : Hid (w6.ownsRow w2.heap.size 66 2 (.slice A5 (k + 1) c5) (k + 1) (gcs (olds (K.take (k + 1))))) := by
              show World.ownsRow _ _ _ _ _ _ _
              rw [HX8.out, gcs_app]
              exact R86.out
            have N9 : Hid (w6.ownsRow w2.heap.size 3 1 (.slice A6 (k + 1) c6) (k + 1) (iv (ids (K.take (k + 1))))) := by
              show World.ownsRow _ _ _ _ _ _ _
              rw [HX9.out, iv_app]
              exact hown6
            clear hown6 hgrow6 R86 R85 R95 R8 R9 h8' h9' hb
            go_wp2_with fail
            clear hrun
            go_roundw
            case rel => exact ⟨k + 1, by go_num, by omega, N8, N9, B6⟩
            case measure => simp [intOf]; omega
          · obtain rfl : n4 = k := by omega
            rw [show K.take n4 = K by rw [hKl.out, List.take_length]] at h8' h9'
            have T8 := Lib.hid (At.own h8'.out)
            have T9 := Lib.hid (At.own h9'.out)
            have HOL : Hid (n4 = (olds K).length) := by show _ = _; rw [Sg.olds_len]; exact hKl.out
            have HOO : Hid (∀ k ∈ olds K, OkS k.1) := fun q hq => by
              obtain ⟨j, hj, rfl⟩ := List.getElem_of_mem hq
              have hj' : j < K.length := by rw [Sg.olds_len] at hj; exact hj
              have := hInv.out.ok j hj'
              rw [← gk_eq (olds K) j hj, olds_at K hj']
              exact this
            have C3 := Lib.hid (of_any A8 n4 c8 (olds K) KA m kc ks wr HOL.out HM.out (by omega) (by omega) T8.out (TK.out.below hb.out) HOO.out HKO.out)
            rw [show tks (olds K) ks = tk K ks from rfl] at C3
            go_wp2_with fail
            refine C3.out.mono ?_
            rintro e w3 ⟨v3, v4, rfl, o3, o4, hb3⟩
            obtain ⟨ln, hln⟩ : ∃ q, q = (leaves (olds K) (tk K ks)).length := ⟨_, rfl⟩
            rw [← hln] at o3
            obtain ⟨LA, lc, rfl, _, _⟩ := own_slice o3
            obtain ⟨TA, tc, rfl, _, _⟩ := own_slice o4
            have HLN := Lib.hid hln
            obtain ⟨gp, hgp⟩ : ∃ g, g = w3.heap.size := ⟨_, rfl⟩
            obtain ⟨V, hV⟩ : ∃ W, W = w3.alloc (.cells #[.slice LA ln lc, .slice TA m tc] 31) := ⟨_, rfl⟩
            have hb4 : Below w3.heap.size w3 V := by rw [hV]; exact below_alloc w3 _
            have KP := Lib.hid (show Blk V gp 31 #[.slice LA ln lc, .slice TA m tc] by rw [hV, hgp]; exact Blk.new w3 _ _)
            have hb2V : Below w2.heap.size w2 V := (hb.out.trans (hb3.mono hb.out.size)).trans (hb4.mono (Nat.le_trans hb.out.size hb3.size))
            have hbrV : Below wr.heap.size wr V := hb3.trans (hb4.mono hb3.size)
            have TL := Lib.hid ((At.own o3).below hb4)
            have TT := Lib.hid ((At.own o4).below hb4)
            have T8V := Lib.hid (T8.out.below hbrV)
            have T9V := Lib.hid (T9.out.below hbrV)
            have OV := Lib.hid (own_below O2.out hb2V)
            have TKV := Lib.hid (TK.out.below hb2V)
            have BV := Lib.hid (B2.out.trans (hb2V.mono B2.out.size))
            have HV := Lib.hid hV
            have HGP := Lib.hid hgp
            clear o3 o4 hb3 hb4 hb2V hbrV hV hgp hln C3 T8 T9 TK O2 B2 h8' h9' hb hnc4
            go_upto_region 19 with fail
            rw [← show V = w3.alloc (.cells #[.slice LA ln lc, .slice TA m tc] 31) from HV.out, ← HGP.out]
            have p1 := KP.out.cell 1 (v := .slice TA m tc) rfl
            clear HV HGP
            obtain ⟨mz, hmb⟩ : ∃ g, g = V.heap.size + 1 := ⟨_, rfl⟩
            obtain ⟨V', hV'⟩ : ∃ W, W = V.alloc (.cells #[] 3) := ⟨_, rfl⟩
            obtain ⟨V2, hV2⟩ : ∃ W, W = V'.alloc (.map #[] 0) := ⟨_, rfl⟩
            have hbV' : Below V.heap.size V V' := by rw [hV']; exact below_alloc V _
            have OL0 := Lib.hid (show V'.ownsRow V.heap.size 3 1 (.slice (some ⟨V.heap.size, 0, none⟩) 0 0) 0 (iv []) by rw [hV']; exact own_made V _ rfl (Nat.le_refl _))
            have hszV : V'.heap.size = V.heap.size + 1 := by rw [hV']; simp
            have HMP : Hid (MapOf Try.prog 3 ikey OkI V2 mz (fun _ => none) 0) := by
              show MapOf _ _ _ _ _ _ _ _
              have h9 := MapOf.made Try.prog 3 ikey OkI V'
              rw [hszV, ← hmb, ← hV2] at h9
              exact h9
            have BV2 := Lib.hid (show Below V'.heap.size V' V2 by rw [hV2]; exact below_alloc V' _)
            have HBV' := Lib.hid hbV'
            have HSZ := Lib.hid hszV
            have HMB := Lib.hid hmb
            have HV' := Lib.hid hV'
            have HV2 := Lib.hid hV2
            clear hV' hV2 hbV' hszV hmb
            go_upto_region 24 with fail
            rw [← HV'.out, ← HV2.out, ← HMB.out]
            clear p1
            go_wp2_with fail
            go_loopw [81] (fun x81 wr => ∃ (k nn : Nat) (f : Int → Option Value), x81 = .int .i64 k ∧ k ≤ n4 ∧ nn ≤ k ∧ Hid (MapOf Try.prog 3 ikey OkI wr mz f nn) ∧ Hid (Spec1 K ks f k) ∧ Hid (Below V'.heap.size V' wr)) (fun i _ => n4 - (intOf i).toNat)
            case atStart => exact ⟨0, 0, _, rfl, Nat.zero_le _, Nat.le_refl _, HMP, Lib.hid (fun j hj => absurd hj (Nat.not_lt_zero _)), BV2⟩
            case round =>
              clear HMP BV2 HV2
              obtain ⟨k, nn, f, rfl, hk, hnn, hM, hS, hb⟩ := hrel
              have hbV := Lib.hid (HBV'.out.trans (hb.out.mono HBV'.out.size))
              by_cases hkl : k < n4
              · have hk' : k < K.length := by have := hKl.out; omega
                obtain ⟨b4, o4, rfl, hb4, hc0, hc1, hc2⟩ := at_mb (At.own (own_below OV.out hbV.out)) hk'
                have hsp := spec1_next hInv.out hk' hS.out
                have hox : OkI (mb K k).1 := okI_small (by have := hInv.out.low k hk'; omega) (by have := hInv.out.low k hk'; omega)
                obtain ⟨gh, hgh⟩ : ∃ q, q = !decide ((k : Int) ∈ tk K ks) := ⟨_, rfl⟩
                rw [show mv (was K ks k) = .agg #[.int .i64 (mb K k).1, .string (mb K k).2.1, .bool gh] by rw [hgh]; rfl] at hsp
                generalize (mb K k).1 = x at *
                generalize (mb K k).2.1 = s at *
                generalize (mb K k).2.2 = z at *
                have HSP := Lib.hid hsp
                have HOX := Lib.hid hox
                obtain ⟨v, hv⟩ : ∃ v, v = rAt (nI (ghosts (olds K) (tk K ks))) (k : Int) := ⟨_, rfl⟩
                have hvg : decide (0 ≤ v) = gh := by rw [hv, rAt_ge, hgh]; exact ghost_in _ _ _ (by rw [Sg.olds_len]; exact hk')
                obtain ⟨gk, hgk⟩ : ∃ q, q = wr.heap.size := ⟨_, rfl⟩
                obtain ⟨W3, hW3⟩ : ∃ W, W = wr.alloc (.cells #[.int .i64 x, .string s, .bool z] 70) := ⟨_, rfl⟩
                have hb3 : Below wr.heap.size wr W3 := by rw [hW3]; exact below_alloc wr _
                have K3 := Lib.hid (show Blk W3 gk 70 #[.int .i64 x, .string s, .bool z] by rw [hW3, hgk]; exact Blk.new wr _ _)
                have B3 := Lib.hid (hb.out.trans (hb3.mono hb.out.size))
                have B3V := Lib.hid (hbV.out.trans (hb3.mono hbV.out.size))
                have M3 := Lib.hid (hM.out.below hb3)
                have HGM : Hid (mz ≠ gk ∧ V'.heap.size ≤ gk ∧ V'.heap.size ≤ mz) := ⟨by have := hM.out.lt; omega, by rw [hgk]; exact hb.out.size, by have := HSZ.out; have := HMB.out; omega⟩
                have HW3 := Lib.hid hW3
                have HGK := Lib.hid hgk
                have HVQ := Lib.hid hv
                have CG := Lib.hid (ghosts_any LA ln lc (olds K) (tk K ks) A8 n4 c8 TA m tc W3 (by rw [tk_len]; exact HM.out) HOL.out (by omega) (by omega) HLN.out (TL.out.below B3V.out) (T8V.out.below B3V.out) (TT.out.below B3V.out))
                have q0 := (KP.out.below B3V.out).cell 0 (v := .slice LA ln lc) rfl
                have q1 := (KP.out.below B3V.out).cell 1 (v := .slice TA m tc) rfl
                clear hsp hox hgh hv hW3 hgk hb3 hS hM hb hbV
                go_upto_region 26 with fail
                rw [← HW3.out, ← HGK.out]
                clear hc0 hc1 hc2
                go_wp2_with fail
                refine CG.out.mono ?_
                rintro e w5 ⟨v5, rfl, ho5, hb5⟩
                obtain ⟨gn, hgn⟩ : ∃ q, q = (ghosts (olds K) (tk K ks)).length := ⟨_, rfl⟩
                have hgl : gn ≤ n4 := by rw [hgn, hKl.out, ← Sg.olds_len K]; exact wh_le _ _
                rw [← hgn, ← iv_nI] at ho5
                have HGN : Hid (gn = (nI (ghosts (olds K) (tk K ks))).length) := by show _ = _; rw [hgn]; simp [nI]
                obtain ⟨A5, c5, rfl, _, _⟩ := own_slice ho5
                have T5 := Lib.hid (At.own ho5)
                have K5 := Lib.hid (K3.out.below hb5)
                have M5 := Lib.hid (M3.out.below hb5)
                have B5 := Lib.hid (B3.out.trans (hb5.mono B3.out.size))
                have C5 := Lib.hid (rat_any A5 gn c5 (nI (ghosts (olds K) (tk K ks))) (k : Int) v w5 HGN.out (by omega) T5.out HVQ.out.symm)
                clear ho5 hb5 hgn CG q0 q1 M3 B3V B3
                go_wp2_with fail
                refine C5.out.mono ?_
                rintro e w6 ⟨rfl, rfl⟩
                have s2 := K5.out.cell 2 (v := .bool z) rfl
                have t2 := K5.out.frozen 2
                obtain ⟨W7, hW7⟩ : ∃ W, W = w5.setCell ⟨gk, 2, none⟩ (.bool gh) := ⟨_, rfl⟩
                have K7 := Lib.hid (show Blk W7 gk 70 #[.int .i64 x, .string s, .bool gh] by rw [hW7]; exact K5.out.set 2 _)
                have M7 := Lib.hid (show MapOf Try.prog 3 ikey OkI W7 mz f nn by rw [hW7]; exact map_set M5.out HGM.out.1 _ _)
                have B7 := Lib.hid (show Below V'.heap.size V' W7 by rw [hW7]; exact B5.out.setCell (p := ⟨gk, 2, none⟩) HGM.out.2.1 _)
                have HW7 := Lib.hid hW7
                clear hW7 M5 B5
                go_upto_region 27 with fail
                rw [← HW7.out]
                clear s2 t2 hvg
                have f0 := K7.out.cell 0 (v := .int .i64 x) rfl
                have f1 := K7.out.cell 1 (v := .string s) rfl
                have f2 := K7.out.cell 2 (v := .bool gh) rfl
                go_wp2_with (refine wpList_store_mo rfl _ _ _ 71 3 70 rfl (intWay Try.underlying3) Try.underlying71 mz _ _ rfl M7.out (by unfold maxLen; omega) x HOX.out (.agg #[.int .i64 x, .string s, .bool gh]) rfl rfl ?_; intro w8 hm8 hg8 hs8; have M8 := Lib.hid hm8; have B8 := Lib.hid (B7.out.grown hg8 B7.out.size (fun q e => by injection e with e; have := HGM.out.2.2; omega)); clear hm8 hg8 hs8)
                go_roundw
                case rel => exact ⟨k + 1, _, _, by go_num, by omega, (by split <;> omega : (if (f x).isSome then nn else nn + 1) ≤ k + 1), M8, HSP, B8⟩
                case measure => simp [intOf]; omega
              · obtain rfl : n4 = k := by omega
                have HS2 : Hid (Spec2 K ks nx f 0) := ⟨by rw [← hKl.out]; exact hS.out, fun i hi => absurd hi (Nat.not_lt_zero _)⟩
                have OL1 := Lib.hid (own_below OL0.out hb.out)
                have p1 := (KP.out.below hbV.out).cell 1 (v := .slice TA m tc) rfl
                have M1 := hM
                have BW := hbV
                clear hS hb OL0 HBV' hM hbV
                go_wp2_with fail
                go_loopw [5, 13, 101] (fun x5 x13 x101 wr => ∃ (k q : Nat) (f : Int → Option Value), x101 = .int .i64 k ∧ x5 = .int .i64 (nx + (cnt K ks k : Int)) ∧ k ≤ m ∧ q ≤ n4 + k ∧ Hid (MapOf Try.prog 3 ikey OkI wr mz f q) ∧ Hid (Spec2 K ks nx f k) ∧ Hid (wr.ownsRow V.heap.size 3 1 x13 k (iv (live K ks nx k))) ∧ Hid (Below V.heap.size V wr)) (fun _ _ i _ => m - (intOf i).toNat)
                case atStart => exact ⟨0, nn, f, rfl, by rw [show cnt K ks 0 = 0 from rfl]; simp, Nat.zero_le _, by omega, M1, HS2, OL1, BW⟩
                case round =>
                  clear M1 HS2 OL1 BW p1
                  clear f
                  obtain ⟨k, q, f, rfl, rfl, hk, hqn, hM, hS, hO13, hb⟩ := hrel
                  obtain ⟨A13, c13, rfl, hc13, hm13⟩ := own_slice hO13.out
                  have hcl := cnt_le (K := K) (ks := ks) k
                  by_cases hkl : k < m
                  · have hk' : k < ks.length := by have := HM.out; omega
                    have hid0 := lid_is hInv.out HND.out hk'
                    have hsp2 := spec2_next hInv.out HND.out hk' hS.out
                    have hat := fun j => spec2_at (k := k) (j := j) hInv.out HND.out hk' hS.out
                    have hln := live_next (K := K) (ks := ks) (next := nx) k
                    have hcn := cnt_next (K := K) (ks := ks) k
                    have htt : (iv (tk K ks))[k]? = some (.int .i64 (ats (tk K ks) k)) := iv_at _ k (by rw [tk_len]; exact hk')
                    obtain ⟨tb, t9, rfl, htb, htc⟩ := TT.out.one htt
                    have ht1 := (hb.out.cell (p := ⟨tb, t9 + k, none⟩) htb).trans htc
                    have hkk : (sv ks)[k]? = some (.string (key ks k)) := by unfold sv; rw [List.getElem?_map, List.getElem?_eq_getElem hk', ← key_eq ks k hk']; rfl
                    obtain ⟨kb, ko, rfl, hkb, hkc'⟩ := TKV.out.one hkk
                    have hk1 := (hb.out.cell (p := ⟨kb, ko + k, none⟩) hkb).trans hkc'
                    have HKC : Hid (V.cell? ⟨kb, ko + k, none⟩ = some (.string (key ks k))) := hkc'
                    obtain ⟨l, hl⟩ : ∃ l, l = lid K ks nx k := ⟨_, rfl⟩
                    rw [show mv (now K ks nx k) = .agg #[.int .i64 l, .string (key ks k), .bool false] by rw [hl]; rfl] at hsp2
                    have hat2 : ∀ j : Nat, ats (tk K ks) k = (j : Int) → j < K.length → f (mb K j).1 = some (.agg #[.int .i64 l, .string (key ks k), .bool false]) ∧ (mb K j).1 = l ∧ (mb K j).2.1 = key ks k := fun j h1 h2 => by
                      obtain ⟨a1, a2, a3⟩ := hat j h1 h2
                      exact ⟨by rw [a1, hl]; rfl, by rw [a2, hl], a3⟩
                    clear hat
                    have hat := hat2
                    clear hat2
                    generalize key ks k = s at *
                    rw [← hl] at hid0 hsp2 hln
                    have hlo : -1000 ≤ l ∧ l ≤ 1000 := by
                      rcases hid0 with ⟨_, h2, _⟩ | ⟨j, _, h2, _, h3⟩
                      · have := HM.out; omega
                      · have := hInv.out.low j h2; omega
                    have HID := Lib.hid hid0
                    have HSP := Lib.hid hsp2
                    have HAT := Lib.hid hat
                    have HLN2 := Lib.hid hln
                    have HOL2 : Hid (OkI l) := okI_small (by omega) (by omega)
                    obtain ⟨cn, hcnq⟩ : ∃ q, q = cnt K ks (k + 1) := ⟨_, rfl⟩
                    obtain ⟨ck, hck⟩ : ∃ q, q = cnt K ks k := ⟨_, rfl⟩
                    rw [← hcnq, ← hck] at hcn
                    rw [← hck] at hid0 hcl ⊢
                    have HCN := Lib.hid hcn
                    have HCQ := Lib.hid hcnq
                    have HCK := Lib.hid hck
                    obtain ⟨t, ht⟩ : ∃ t, t = ats (tk K ks) k := ⟨_, rfl⟩
                    rw [← ht] at ht1 hcn
                    have HTT := Lib.hid ht
                    obtain ⟨gk, hgk⟩ : ∃ q, q = wr.heap.size := ⟨_, rfl⟩
                    obtain ⟨W3, hW3⟩ : ∃ W, W = wr.alloc (.cells #[.int .i64 (nx + (ck : Int)), .string s, .bool false] 70) := ⟨_, rfl⟩
                    have hb3 : Below wr.heap.size wr W3 := by rw [hW3]; exact below_alloc wr _
                    have K3 := Lib.hid (show Blk W3 gk 70 #[.int .i64 (nx + (ck : Int)), .string s, .bool false] by rw [hW3, hgk]; exact Blk.new wr _ _)
                    have B3 := Lib.hid (hb.out.trans (hb3.mono hb.out.size))
                    have M3 := Lib.hid (hM.out.below hb3)
                    have R3 := Lib.hid (own_below hO13.out hb3)
                    have HGM : Hid (mz ≠ gk ∧ V.heap.size ≤ gk ∧ V.heap.size ≤ mz ∧ (∀ q, (Value.slice A13 k c13).ownBlock = some q → q < gk)) := ⟨by have := hM.out.lt; omega, by rw [hgk]; exact hb.out.size, by have := HMB.out; omega, fun q hq => by rw [hgk]; exact (hO13.out.lt q hq).2⟩
                    have HW3 := Lib.hid hW3
                    have HGK := Lib.hid hgk
                    clear htt htc hkk hkc' hl hid0 hsp2 hat hln hcnq hck ht hW3 hgk hb3 hM hS hO13 hcn
                    go_upto_region 33 with fail
                    rw [← HW3.out, ← HGK.out]
                    clear ht1 hk1
                    have HGL : Hid (gk < W3.heap.size) := K3.out.lt
                    go_cut [115] (fun p wx => p = .bool false ∧ wx = W3)
                    case first =>
                      have ht2 : t < (n4 : Int) := by
                        rcases HID.out with ⟨h1, _⟩ | ⟨j, h1, h2, _⟩
                        · have := HTT.out; omega
                        · have := HTT.out; have := hKl.out; omega
                      have hd3 : decide ((n4 : Int) ≤ t) = false := decide_eq_false (by omega)
                      go_wp2_with fail
                      go_meet
                      exact ⟨rfl, rfl⟩
                    case rest =>
                      obtain ⟨rfl, rfl⟩ := hcut
                      rename World => W3
                      go_upto_if 117 with fail
                      go_cut [5] (fun p wx => p = .int .i64 (nx + (cn : Int)) ∧ Hid (Blk wx gk 70 #[.int .i64 l, .string s, .bool false]) ∧ Hid (MapOf Try.prog 3 ikey OkI wx mz f q) ∧ Hid (wx.ownsRow V.heap.size 3 1 (.slice A13 k c13) k (iv (live K ks nx k))) ∧ Hid (Below V.heap.size V wx) ∧ Hid (gk < wx.heap.size))
                      case first =>
                        rcases HID.out with ⟨h1, h2, _⟩ | ⟨j, h1, h2, h3, h4⟩
                        · have ht2 : t = -1 := by rw [HTT.out]; exact h1
                          have hcnn : cn = ck + 1 := by have := HCN.out; rw [if_pos (by omega)] at this; exact this
                          have HL : Hid (l = nx + (ck : Int)) := by show _ = _; rw [h2, HCK.out]
                          have HC1 : Hid (nx + (ck : Int) + 1 = nx + (cn : Int)) := by show _ = _; omega
                          clear h1 h2 hcnn
                          subst ht2
                          have hw9 : IntKind.i64.wrap (nx + (ck : Int) + 1) = nx + (ck : Int) + 1 := by rw [IntKind.wrap_i64]; omega
                          go_wp2_with fail
                          go_meet
                          exact ⟨by rw [HC1.out], by rw [HL.out]; exact K3, M3, R3, B3, HGL⟩
                        · have ht2 : t = (j : Int) := by rw [HTT.out]; exact h1
                          have hcnn : cn = ck := by have := HCN.out; rw [if_neg (by omega)] at this; exact this
                          obtain ⟨hf, hl, hks⟩ := HAT.out j h1 h2
                          have hjn : j < n4 := by have := hKl.out; omega
                          obtain ⟨b4, o4, rfl, hb4, hc0, hc1, hc2⟩ := at_mb (At.own (own_below OV.out B3.out)) h2
                          have hlk := M3.out.look (t := 71) (E := 70) (intWay Try.underlying3) Try.underlying71 zeroM l HOL2.out
                          rw [hl] at hf hc0
                          rw [hf] at hlk
                          rw [show (some (Value.agg #[.int .i64 l, .string s, .bool false])).getD (.agg #[.int .i64 0, .string { data := #[] }, .bool false]) = .agg #[.int .i64 l, .string s, .bool false] from rfl] at hlk
                          have hk3 := (B3.out.cell (p := ⟨kb, ko + k, none⟩) hkb).trans HKC.out
                          have e0 := K3.out.cell 0 (v := .int .i64 (nx + (ck : Int))) rfl
                          have e1 := K3.out.cell 1 (v := .string s) rfl
                          have e2 := K3.out.cell 2 (v := .bool false) rfl
                          have y0 := K3.out.frozen 0
                          have y1 := K3.out.frozen 1
                          have y2 := K3.out.frozen 2
                          have hst : (s.toList == s.toList) = true := by simp
                          have ha0 : (0 : Int) ≤ (j : Int) := by omega
                          have ha1 : (j : Int) < (n4 : Int) := by omega
                          obtain ⟨W7, hW7⟩ : ∃ W, W = ((W3.setCell ⟨gk, 0, none⟩ (.int .i64 l)).setCell ⟨gk, 1, none⟩ (.string s)).setCell ⟨gk, 2, none⟩ (.bool false) := ⟨_, rfl⟩
                          have K7 := Lib.hid (show Blk W7 gk 70 #[.int .i64 l, .string s, .bool false] by rw [hW7]; exact ((K3.out.set 0 _).set 1 _).set 2 _)
                          have BS : Beside (fun y => y = gk) W3 W7 := by rw [hW7]; exact (((Beside.refl (fun y => y = gk) W3).set (.inl rfl) 0 _).set (.inl rfl) 1 _).set (.inl rfl) 2 _
                          have M7 := Lib.hid (M3.out.block (BS.block mz M3.out.lt (fun e => HGM.out.1 e)))
                          have R7 := Lib.hid (BS.keepsOwn R3.out (fun q hq e => by have := HGM.out.2.2.2 q hq; omega))
                          have B7 := Lib.hid (BS.below B3.out B3.out.size (fun g hg => by have := HGM.out.2.1; omega))
                          have L7 : Hid (gk < W7.heap.size) := K7.out.lt
                          have hk7 := (B7.out.cell (p := ⟨kb, ko + k, none⟩) hkb).trans HKC.out
                          have HW7 := Lib.hid hW7
                          have HC1 : Hid (nx + (ck : Int) = nx + (cn : Int)) := by show _ = _; rw [hcnn]
                          clear h1 hcnn hf hl hks hW7 BS h3 h4
                          subst ht2
                          go_upto_region 37 with fail
                          rw [← HW7.out]
                          clear e0 e1 e2 y0 y1 y2 hlk hc0 hc1 hc2 hk3
                          have e1 := K7.out.cell 1 (v := .string s) rfl
                          have e2 := K7.out.cell 2 (v := .bool false) rfl
                          have hsn : (s.toList != s.toList) = false := by simp
                          go_big_quiet (fail)
                          go_wp2_with fail
                          go_meet
                          exact ⟨by rw [HC1.out], K7, M7, R7, Lib.hid (below_drewN B7.out B7.out.size _), L7⟩
                      case rest =>
                        obtain ⟨rfl, K4, M4, R4, B4, L4⟩ := hcut
                        rename World => W4
                        clear K3 M3 R3 B3 HW3 HGL
                        have f0 := K4.out.cell 0 (v := .int .i64 l) rfl
                        have f1 := K4.out.cell 1 (v := .string s) rfl
                        have f2 := K4.out.cell 2 (v := .bool false) rfl
                        go_upto_region 41 with (refine wpList_store_mo rfl _ _ _ 71 3 70 rfl (intWay Try.underlying3) Try.underlying71 mz _ _ rfl M4.out (by unfold maxLen; omega) l HOL2.out (.agg #[.int .i64 l, .string s, .bool false]) rfl rfl ?_; intro w8 hm8 hg8 hs8; have M8 := Lib.hid hm8; have B8 := Lib.hid (B4.out.grown hg8 B4.out.size (fun q e => by injection e with e; have := HGM.out.2.2.1; omega)); have K8 := Lib.hid (K4.out.grown hg8 (fun e => by injection e with e; exact HGM.out.1 e.symm)); have R8' := Lib.hid (R4.out.kept hg8 (by
                            cases e : (Value.slice A13 k c13).ownBlock with
                            | none => exact .inl rfl
                            | some y => exact .inr (fun e2 => by injection e2 with e2; exact map_not_typed M4.out (typed_own R4.out e) e2.symm))); clear hm8 hg8 hs8)
                        clear f0 f1 f2 K4 R4 B4 M4
                        have f0 := K8.out.cell 0 (v := .int .i64 l) rfl
                        obtain ⟨v6, w6, hrun, hown6, hgrow6, _, _⟩ := run_append_own_at (P := Try.prog) (w8.alloc (.cells #[.int .i64 l] 3)) V.heap.size 29 29 3 i0 (.int .i64 0) 1 8 Try.underlying29 hi hz0 hz1 hz2 rfl (by decide) _ _ _ (R8'.out.alloc (.cells #[.int .i64 l] 3)) ⟨w8.heap.size, 0, none⟩ 1 1 [.int .i64 l] rfl (cells_new' _ _ _ _ rfl _ rfl) (fun u hu => by simp at hu; subst hu; rfl) (by unfold maxLen; omega) (by omega) (by rw [size_alloc]; have := B8.out.size; omega)
                        obtain ⟨A6, c6, rfl, hc6, hm6'⟩ := own_slice hown6
                        have M6 := Lib.hid ((M8.out.below (below_alloc w8 (.cells #[.int .i64 l] 3))).grown hgrow6 (fun e => map_not_typed M8.out (typed_own R8'.out e.symm) rfl))
                        have B6 := Lib.hid (Below.grown (B8.out.alloc B8.out.size (.cells #[.int .i64 l] 3)) hgrow6 (by rw [size_alloc]; have := B8.out.size; omega) (fun j hj => own_from R8'.out j hj))
                        have N13 : Hid (w6.ownsRow V.heap.size 3 1 (.slice A6 (k + 1) c6) (k + 1) (iv (live K ks nx (k + 1)))) := by
                          show World.ownsRow _ _ _ _ _ _ _
                          rw [HLN2.out, iv_app]
                          exact hown6
                        clear hown6 hgrow6 R8' B8 M8
                        go_wp2_with fail
                        clear hrun
                        go_roundw
                        case rel => exact ⟨k + 1, _, _, by go_num, by rw [HCQ.out], by omega, (by split <;> omega : (if (f l).isSome then q else q + 1) ≤ n4 + (k + 1)), M6, HSP, N13, B6⟩
                        case measure => simp [intOf]; omega
                  · obtain rfl : m = k := by omega
                    rw [HM.out] at hS
                    have HSM := Lib.hid (fun x => spec2_mem (x := x) hInv.out HND.out hS.out)
                    have HLV : Hid (live K ks nx m = live K ks nx ks.length) := by show _ = _; rw [HM.out]
                    have HLO : Hid (∀ x ∈ live K ks nx m, OkI x) := fun x hx => by
                      rw [HLV.out] at hx
                      obtain ⟨i, hi, rfl⟩ := live_mem.mp hx
                      have := cnt_le (K := K) (ks := ks) i
                      have := HM.out
                      rcases lid_is hInv.out HND.out hi with ⟨_, h2, _⟩ | ⟨j, _, h2, _, h3⟩
                      · exact okI_small (by omega) (by omega)
                      · have := hInv.out.low j h2; exact okI_small (by omega) (by omega)
                    have HIO : Hid (∀ x ∈ ids K, OkI x) := fun x hx => by
                      have h1 := ix_lt hx
                      have h2 := get_ix hx
                      rw [ids_len] at h1
                      rw [ids_at K h1] at h2
                      have := hInv.out.low _ h1
                      exact okI_small (by omega) (by omega)
                    rename World => WO
                    have T13 := Lib.hid (At.own hO13.out)
                    obtain ⟨V5, hV5⟩ : ∃ W, W = WO.alloc (.cells #[] 3) := ⟨_, rfl⟩
                    have hb5 : Below WO.heap.size WO V5 := by rw [hV5]; exact below_alloc WO _
                    have C7 := Lib.hid (merge_any A9 A13 n4 c9 m c13 (ids K) (live K ks nx m) V5 (by rw [ids_len]; exact hKl.out) (by rw [live_len]) (by omega) (by omega) (T9V.out.below (hb.out.trans (hb5.mono hb.out.size))) (T13.out.below hb5) HIO.out HLO.out)
                    rw [once_of_nodup hInv.out.nd, once_of_nodup (by rw [HLV.out]; exact live_nodup hInv.out HND.out), show merge (ids K) (live K ks nx m) = mrg K ks nx by unfold mrg; rw [HLV.out]] at C7
                    have M5 := Lib.hid (hM.out.below hb5)
                    have OS5 := Lib.hid (show V5.ownsRow WO.heap.size 3 1 (.slice (some ⟨WO.heap.size, 0, none⟩) 0 0) 0 (iv []) by rw [hV5]; exact own_made WO _ rfl (Nat.le_refl _))
                    have HMW : Hid (mz < WO.heap.size) := hM.out.lt
                    have H55 : Hid (WO.heap.size < V5.heap.size) := by show _ < _; rw [hV5]; simp
                    have HB5 := Lib.hid hb5
                    have HV5 := Lib.hid hV5
                    have BVO := hb
                    clear hV5 hb5 hM hO13 hb hS
                    go_upto_region 45 with fail
                    rw [← HV5.out]
                    go_wp2_with fail
                    refine C7.out.mono ?_
                    rintro e V6 ⟨v6, rfl, ho6, hb6⟩
                    obtain ⟨mn, hmn⟩ : ∃ q, q = (mrg K ks nx).length := ⟨_, rfl⟩
                    have hml : mn ≤ m + n4 := by rw [hmn]; unfold mrg; have := merge_len (W := ids K) (L := live K ks nx ks.length); rw [live_len, ids_len] at this; have := HM.out; have := hKl.out; omega
                    rw [← hmn] at ho6
                    obtain ⟨A6, c6, rfl, _, _⟩ := own_slice ho6
                    have HMN := Lib.hid hmn
                    have R6 := Lib.hid ho6
                    have M6 := Lib.hid (M5.out.below hb6)
                    have OS6 := Lib.hid (own_below OS5.out hb6)
                    have BO6 := Lib.hid (HB5.out.trans (hb6.mono HB5.out.size))
                    have NE6 : Hid (∀ q, (Value.slice A6 mn c6).ownBlock = some q → (Value.slice (some ⟨WO.heap.size, 0, none⟩) 0 0).ownBlock ≠ some q) := fun q hq e => by
                      have h1 := own_from ho6 q hq
                      have h2 := H55.out
                      have e2 : some WO.heap.size = some q := e
                      injection e2 with e2
                      omega
                    have HS6 : Hid (V5.heap.size ≤ V6.heap.size) := hb6.size
                    clear ho6 hb6 hmn C7 M5 OS5 HV5
                    go_wp2_with fail
                    go_loopw [20, 21, 153] (fun x20 x21 x153 wr => ∃ (k : Nat), x153 = .int .i64 k ∧ k ≤ mn ∧ Hid (wr.ownsRow V6.heap.size 70 3 x20 k (mcs (toTo K ks nx k))) ∧ Hid (wr.ownsRow WO.heap.size 3 1 x21 (seenTo K ks nx k).length (iv (seenTo K ks nx k))) ∧ Hid (MapOf Try.prog 3 ikey OkI wr mz f q) ∧ Hid (Below WO.heap.size WO wr) ∧ Hid (wr.ownsRow V5.heap.size 3 1 (.slice A6 mn c6) mn (iv (mrg K ks nx))) ∧ Hid (V6.heap.size ≤ wr.heap.size) ∧ Hid (∀ q, (Value.slice A6 mn c6).ownBlock = some q → x21.ownBlock ≠ some q)) (fun _ _ i _ => mn - (intOf i).toNat)
                    case atStart => exact ⟨0, rfl, Nat.zero_le _, World.ownsRow_nil _ _ _ _, OS6, M6, BO6, R6, Nat.le_refl _, NE6⟩
                    case round =>
                      clear R6 M6 OS6 BO6 NE6
                      obtain ⟨k, rfl, hk, hTo, hSn, hM, hb, hR6, hsz, hNE⟩ := hrel
                      obtain ⟨A20, c20, rfl, hc20, hm20⟩ := own_slice hTo.out
                      obtain ⟨A21, c21, rfl, hc21, hm21⟩ := own_slice hSn.out
                      have hsl := seen_le K ks nx k
                      by_cases hkl : k < mn
                      · have hk' : k < (mrg K ks nx).length := by have := HMN.out; omega
                        obtain ⟨tb, t9, rfl, htb, htc⟩ := (At.own hR6.out).one (iv_at (mrg K ks nx) k hk')
                        rw [show ats (mrg K ks nx) k = at' (mrg K ks nx) k from rfl] at htc
                        have hxm := at_mem hk'
                        have hox : OkI (at' (mrg K ks nx) k) := by
                          rcases merge_mem.mp hxm with h | h
                          · exact HLO.out _ (by rw [HLV.out]; exact h)
                          · exact HIO.out _ h
                        have hsp := HSM.out _ hxm
                        have hsn := seen_next K ks nx k hk'
                        have htn := to_next K ks nx k hk'
                        have hid := mem_id (K := K) (ks := ks) (next := nx) (at' (mrg K ks nx) k)
                        generalize at' (mrg K ks nx) k = x at *
                        rw [show mem K ks nx x = ((mem K ks nx x).1, (mem K ks nx x).2.1, (mem K ks nx x).2.2) from rfl, hid] at hsp htn
                        generalize (mem K ks nx x).2.1 = s at *
                        generalize (mem K ks nx x).2.2 = z at *
                        have hlk := hM.out.look (t := 71) (E := 70) (intWay Try.underlying3) Try.underlying71 zeroM x hox
                        rw [hsp, show (some (mv (x, s, z))).getD (.agg #[.int .i64 0, .string { data := #[] }, .bool false]) = .agg #[.int .i64 x, .string s, .bool z] from rfl] at hlk
                        obtain ⟨sn, hsq⟩ : ∃ q, q = (seenTo K ks nx k).length := ⟨_, rfl⟩
                        rw [← hsq] at hsl hSn hNE ⊢
                        have HSQ := Lib.hid hsq
                        have HSN := Lib.hid hsn
                        have HTN := Lib.hid htn
                        have HSP := Lib.hid hsp
                        have HOX := Lib.hid hox
                        obtain ⟨v5, w5, hrun, hown5, hgrow5, _, _⟩ := run_append_own_at (P := Try.prog) (wr.alloc (.cells #[.int .i64 x, .string s, .bool z] 70)) V6.heap.size 67 67 70 j0 (.agg #[.int .i64 0, .string { data := #[] }, .bool false]) 3 32 Try.underlying67 ji jz0 jz1 jz2 rfl (by decide) _ _ _ (hTo.out.alloc (.cells #[.int .i64 x, .string s, .bool z] 70)) ⟨wr.heap.size, 0, none⟩ 1 1 [.int .i64 x, .string s, .bool z] rfl (cells_new' _ _ _ _ rfl _ rfl) (fun u hu => by simp at hu; rcases hu with rfl | rfl | rfl <;> rfl) (by unfold maxLen; omega) (by omega) (by rw [size_alloc]; have := hsz.out; omega)
                        obtain ⟨A5, c5, rfl, hc5, hm5⟩ := own_slice hown5
                        have hne1 := own_ne hSn.out hTo.out (by decide)
                        have hne2 := own_ne hR6.out hTo.out (by decide)
                        have hsV := HS6.out
                        have hV5 := H55.out
                        have S5 := Lib.hid ((hSn.out.alloc (.cells #[.int .i64 x, .string s, .bool z] 70)).kept hgrow5 (hne1.imp id id))
                        have R65 := Lib.hid ((hR6.out.alloc (.cells #[.int .i64 x, .string s, .bool z] 70)).kept hgrow5 (hne2.imp id id))
                        have M5 := Lib.hid ((hM.out.below (below_alloc wr (.cells #[.int .i64 x, .string s, .bool z] 70))).grown hgrow5 (fun e => map_not_typed hM.out (typed_own hTo.out e.symm) rfl))
                        have B5 := Lib.hid (Below.grown (hb.out.alloc hb.out.size (.cells #[.int .i64 x, .string s, .bool z] 70)) hgrow5 (by rw [size_alloc]; have := hb.out.size; omega) (fun j hj => by have := own_from hTo.out j hj; omega))
                        have hs5 := hgrow5.size
                        rw [size_alloc] at hs5
                        have hlk2 := M5.out.look (t := 71) (E := 70) (intWay Try.underlying3) Try.underlying71 zeroM x HOX.out
                        rw [HSP.out, show (some (mv (x, s, z))).getD (.agg #[.int .i64 0, .string { data := #[] }, .bool false]) = .agg #[.int .i64 x, .string s, .bool z] from rfl] at hlk2
                        have T5 : Hid (w5.ownsRow V6.heap.size 70 3 (.slice A5 (k + 1) c5) (k + 1) (mcs (toTo K ks nx (k + 1)))) := by
                          show World.ownsRow _ _ _ _ _ _ _
                          rw [HTN.out, mcs_app]
                          exact hown5
                        have Z5 : Hid (V6.heap.size ≤ w5.heap.size) := by have := hsz.out; show _ ≤ _; omega
                        clear hown5 hgrow5 hne1 hne2 hTo hSn hM hb hR6 hsz hsp hox hxm hsn htn hsq hid
                        go_upto_region 49 with fail
                        clear hrun hlk htc
                        cases z with
                        | true =>
                          have HE : Hid (seenTo K ks nx (k + 1) = seenTo K ks nx k) := by have := HSN.out; rw [if_pos rfl] at this; exact this
                          go_wp2_with fail
                          go_roundw
                          case rel => exact ⟨k + 1, by go_num, by omega, T5, by rw [HE.out, ← HSQ.out]; exact S5, M5, B5, R65, Z5, hNE⟩
                          case measure => simp [intOf]; omega
                        | false =>
                          have HE : Hid (seenTo K ks nx (k + 1) = seenTo K ks nx k ++ [x]) := by have := HSN.out; rw [if_neg (by simp)] at this; exact this
                          obtain ⟨v6, w6, hrun, hown6, hgrow6, _, hat6⟩ := run_append_own_at (P := Try.prog) (w5.alloc (.cells #[.int .i64 x] 3)) WO.heap.size 29 29 3 i0 (.int .i64 0) 1 8 Try.underlying29 hi hz0 hz1 hz2 rfl (by decide) _ _ _ (S5.out.alloc (.cells #[.int .i64 x] 3)) ⟨w5.heap.size, 0, none⟩ 1 1 [.int .i64 x] rfl (cells_new' _ _ _ _ rfl _ rfl) (fun u hu => by simp at hu; subst hu; rfl) (by unfold maxLen; omega) (by omega) (by rw [size_alloc]; have := B5.out.size; omega)
                          obtain ⟨A7, c7, rfl, hc7, hm7⟩ := own_slice hown6
                          have T6 := Lib.hid ((T5.out.alloc (.cells #[.int .i64 x] 3)).kept hgrow6 ((own_ne T5.out S5.out (by decide)).imp id id))
                          have R66 := Lib.hid ((R65.out.alloc (.cells #[.int .i64 x] 3)).kept hgrow6 (by
                            cases e : (Value.slice (some ⟨tb, t9, none⟩) mn c6).ownBlock with
                            | none => exact .inl rfl
                            | some y => exact .inr (fun e2 => hNE.out y e e2.symm)))
                          have M6 := Lib.hid ((M5.out.below (below_alloc w5 (.cells #[.int .i64 x] 3))).grown hgrow6 (fun e => map_not_typed M5.out (typed_own S5.out e.symm) rfl))
                          have B6 := Lib.hid (Below.grown (B5.out.alloc B5.out.size (.cells #[.int .i64 x] 3)) hgrow6 (by rw [size_alloc]; have := B5.out.size; omega) (fun j hj => own_from S5.out j hj))
                          have hs6 := hgrow6.size
                          rw [size_alloc] at hs6
                          have N21 : Hid (w6.ownsRow WO.heap.size 3 1 (.slice A7 (sn + 1) c7) (seenTo K ks nx (k + 1)).length (iv (seenTo K ks nx (k + 1)))) := by
                            show World.ownsRow _ _ _ _ _ _ _
                            rw [HE.out, List.length_append, iv_app, ← HSQ.out]
                            exact hown6
                          have Z6 : Hid (V6.heap.size ≤ w6.heap.size) := by have := Z5.out; show _ ≤ _; omega
                          have NE7 : Hid (∀ q, (Value.slice (some ⟨tb, t9, none⟩) mn c6).ownBlock = some q → (Value.slice A7 (sn + 1) c7).ownBlock ≠ some q) := fun q hq e => by
                            rcases hat6 with h5 | h5
                            · exact hNE.out q hq (h5 ▸ e)
                            · rw [h5] at e
                              injection e with e
                              have := (R65.out.lt q hq).2
                              rw [size_alloc] at e
                              omega
                          clear hown6 hgrow6 hat6
                          go_wp2_with fail
                          clear hrun
                          go_roundw
                          case rel => exact ⟨k + 1, by go_num, by omega, T6, N21, M6, B6, R66, Z6, NE7⟩
                          case measure => simp [intOf]; omega
                      · obtain rfl : mn = k := by omega
                        have HTT : Hid (toTo K ks nx mn = tos K ks nx) := by show _ = _; unfold toTo tos; rw [HMN.out, List.take_length]
                        have HSS : Hid (seenTo K ks nx mn = live K ks nx m) := by
                          show _ = _
                          unfold seenTo
                          rw [HMN.out, List.take_length, HLV.out]
                          exact seen_is hInv.out
                        rw [HTT.out] at hTo
                        rw [HSS.out, live_len] at hSn ⊢
                        have hYl : Hid (mn = (tos K ks nx).length) := by show _ = _; unfold tos; rw [List.length_map]; exact HMN.out
                        have HST : Hid (∀ i, i < mn → (mb (tos K ks nx) i).2.2 = true → nearF (alive (tos K ks nx)) (mb (tos K ks nx) i).1 (ids (tos K ks nx)) (-1) = nearF (alive (tos K ks nx)) (mb (tos K ks nx) i).1 (ids K) (-1)) := fun i hi hg => by
                          have hi' : i < (mrg K ks nx).length := by have := HMN.out; omega
                          rw [to_at hi'] at hg ⊢
                          rw [mem_id, to_ids, tos_alive hInv.out]
                          exact stand_is hInv.out HND.out (at_mem hi') hg
                        have HIN := Lib.hid (inv_next hInv.out HND.out HKO.out)
                        have HIN2 : Hid (Inv (tos K ks nx) (nx + (cnt K ks m : Int))) := by show Inv _ _; rw [HM.out]; exact HIN.out
                        have HKY : Hid (∀ i j, i < mn → j < mn → (mb (tos K ks nx) i).2.1 = (mb (tos K ks nx) j).2.1 → i = j) := fun i j h1 h2 e => HIN.out.keys i j (by have := hYl.out; omega) (by have := hYl.out; omega) e
                        have T21 := Lib.hid (At.own hSn.out)
                        have T13w := Lib.hid (T13.out.below hb.out)
                        have BVW := Lib.hid (BVO.out.trans (hb.out.mono BVO.out.size))
                        have C8 := Lib.hid (numbersI_any A21 A13 m c21 m c13 (live K ks nx m) (live K ks nx m) wr (by rw [live_len]) (by rw [live_len]) (by omega) (by omega) T21.out T13w.out)
                        rw [decide_eq_true (show live K ks nx m = live K ks nx m from rfl)] at C8
                        have hcm := cnt_le (K := K) (ks := ks) m
                        clear hM hR6 hSn hsl
                        go_wp2_with fail
                        refine C8.out.mono ?_
                        rintro e w8 ⟨rfl, q8, rfl⟩
                        have hdr : Below wr.heap.size wr (wr.drewN q8) := below_drewN (Below.refl _ _) (Nat.le_refl _) q8
                        have hnY : mn ≤ 1000 := by omega
                        have C9 := Lib.hid (stand_any A4 n4 c4 K A20 mn c20 (tos K ks nx) (wr.drewN q8) hKl.out hYl.out (by omega) hnY (At.own (own_below OV.out (BVW.out.trans (hdr.mono BVW.out.size)))) ((At.own hTo.out).drewN q8) HST.out)
                        have O9 := Lib.hid (own_below hTo.out hdr)
                        have B9 := Lib.hid (BVW.out.trans (hdr.mono BVW.out.size))
                        clear hdr C8
                        go_wp2_with fail
                        refine C9.out.mono ?_
                        rintro e w9 ⟨rfl, hb9⟩
                        have O10 := Lib.hid (own_below O9.out hb9)
                        have B10 := Lib.hid (B9.out.trans (hb9.mono B9.out.size))
                        have C10 := Lib.hid (sonce_any A20 mn c20 (tos K ks nx) w9 hYl.out hnY hc20 hm20 (At.own O10.out) HKY.out)
                        clear hb9 C9
                        go_wp2_with fail
                        refine C10.out.mono ?_
                        rintro e w10 ⟨rfl, hb10⟩
                        have hVW := BV.out.size
                        have hV6 : w.heap.size ≤ V6.heap.size := by have := BVO.out.size; have := H55.out; have := HS6.out; omega
                        have O11 := Lib.hid (own_mono (own_below O10.out hb10) hV6)
                        have B11 := Lib.hid (BV.out.trans ((B10.out.trans (hb10.mono B10.out.size)).mono hVW))
                        clear hb10 C10 O10 B10 O9 B9 hTo
                        go_wp2_with fail
                        go_roundw
                        case rel => exact ⟨A20, mn, c20, tos K ks nx, nx + (cnt K ks m : Int), i + 1, rfl, rfl, by go_num, by omega, by omega, by omega, by omega, by omega, hc20, hm20, hYl, HIN2, O11, B11⟩
                        case measure => simp [intOf]; omega
      · obtain rfl : i = 8 := by omega
        have HF := hbel
        go_wp2_with fail
        go_ret
        exact ⟨rfl, HF.out⟩
    · obtain rfl : n = i := by omega
      have HF := hbel
      go_wp2_with fail
      go_ret
      exact ⟨rfl, HF.out⟩
end Go.Proofs.Ytfapghekakdpgaa
