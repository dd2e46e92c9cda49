/- The contract of the document's own Turn. -/
import Derived.Test.YtibcfmfihcgijaaClW8
namespace Go.Proofs.Ytibcfmfihcgijaa
open Go.RowKit M
theorem drewN_below {B : Nat} {a w : World} (h : Below B a w) (q : Nat) : Below B a (w.drewN q) := ⟨h.os, h.tape, h.output, h.size, h.block⟩
set_option maxHeartbeats 6000000 in
set_option maxRecDepth 100000 in
theorem rturn_any (A B : Option Addr) (n c m d : Nat) (a b : List ByteArray) (w : World) (hn : n = a.length) (hnc : n ≤ c) (hcm : c ≤ maxLen) (hm : m = b.length) (hmd : m ≤ d) (hdm : d ≤ maxLen) (hb : n ≤ 100000) (hb2 : m ≤ 100000)
    (ha : At w A (sv a)) (hs : At w B (sv b)) :
    Calls Try.prog 26 #[.slice A n c, .slice B m d] w fun e w' => ∃ v, e = .returned v ∧ w'.ownsRow w.heap.size 35 2 v (turn a b).length (stv (turn a b)) ∧ Below w.heap.size w w' := by
  have HA := Lib.hid (rclean_any A n c a w hn hnc hcm (by omega) ha)
  have HB : Hid (∀ w1 : World, Below w.heap.size w w1 → Calls Try.prog 17 #[.slice B m d] w1 fun e w' => ∃ v, e = .returned v ∧ w'.ownsRow w1.heap.size 9 1 v (clean b).length (sv (clean b)) ∧ Below w1.heap.size w1 w') :=
    fun w1 h1 => rclean_any B m d b w1 hm hmd hdm (by omega) (hs.below h1)
  have hla := clean_len a
  have hlb := clean_len b
  rw [← hn] at hla
  rw [← hm] at hlb
  clear ha hs hn hm hnc hcm hmd hdm
  obtain ⟨P, hP⟩ : ∃ P, P = clean a := ⟨_, rfl⟩
  obtain ⟨R, hR⟩ : ∃ R, R = clean b := ⟨_, rfl⟩
  have HT : Hid (turn a b = drs (gd P R) ++ addsOf (R.drop (gk P R))) := by show turn a b = _; rw [hP, hR]; rfl
  have HFIL : Hid (gd P R = P.filter (fun x => !has (R.take (gk P R)) x)) := by show _ = _; rw [hP, hR]; exact gd_filter _ _ (nodup_clean a) (nodup_clean b)
  rw [← hP] at hla HA
  rw [← hR] at hlb HB
  clear hP hR
  obtain ⟨i1, hi', hz0', hz1', hz2'⟩ := info_parts infoRStep
  go_enter Try.func26, Try.ntmps26
  go_wp2_with (first | (go_at_call 17; (with_reducible refine HA.out.mono ?_); rintro e w1 ⟨v, rfl, hown, hbel⟩; obtain ⟨A1, c1, rfl, hc1, hm1, hat1⟩ := at_of_own hown; have HAT1 := Lib.hid hat1; have HB1 := Lib.hid hbel; clear hown hbel hat1) | (go_at_call 17; (with_reducible refine (HB.out _ HB1.out).mono ?_); rintro e w2 ⟨v2, rfl, hown2, hbel2⟩; obtain ⟨A2, c2, rfl, hc2, hm2, hat2⟩ := at_of_own hown2; have HAT2 := Lib.hid hat2; have HB2 := Lib.hid hbel2; clear hown2 hbel2 hat2))
  have HAP : Hid (At w2 A1 (sv P)) := HAT1.out.below HB2.out
  have HBW : Hid (Below w.heap.size w w2) := HB1.out.trans (HB2.out.mono HB1.out.size)
  obtain ⟨G, hG⟩ : ∃ G, G = gk P R := ⟨_, rfl⟩
  have hg1 := gk_le P R
  have hgd := gd_len P R
  rw [← hG] at hg1 hgd HFIL
  have HGG := Lib.hid hG
  clear hG
  go_loopw [7] (fun v wr => ∃ q k : Nat, v = .int .i64 k ∧ G ≤ k ∧ k ≤ R.length ∧ wr = w2.drewN q) (fun v _ => (intOf v).toNat)
  case atStart => exact ⟨0, R.length, rfl, hg1, Nat.le_refl _, rfl⟩
  case round =>
    obtain ⟨q, k, rfl, hk1, hk2, rfl⟩ := hrel
    have HSt := Lib.hid (gk_stands P R k hk2)
    have HKT : Hid (k = (R.take k).length) := by show k = _; rw [List.length_take]; omega
    have HST : Hid (Calls Try.prog 47 #[.slice A1 P.length c1, .slice A2 k c2] (w2.drewN q) fun e w' => e = .returned (.bool (stands P (R.take k))) ∧ ∃ q2, w' = (w2.drewN q).drewN q2) :=
      stands_any (P.length + 1) A1 A2 P.length c1 k c2 P (R.take k) (w2.drewN q) (by omega) rfl hc1 hm1 HKT.out (by omega) hm2 HAP.out (by rw [sv_take]; exact HAT2.out.take k)
    by_cases hkg : G < k
    · have HF : Hid (stands P (R.take k) = false) := by show _ = _; rw [HSt.out, ← HGG.out, decide_eq_false_iff_not]; omega
      go_wp2_with (go_at_call 47; refine HST.out.mono ?_; rintro e w3 ⟨rfl, q2, rfl⟩; rw [HF.out])
      go_roundw
      case rel => exact ⟨_, k - 1, by go_num, by omega, by omega, rfl⟩
      case measure => simp [intOf]; omega
    · have HF : Hid (stands P (R.take k) = true) := by show _ = _; rw [HSt.out, ← HGG.out, decide_eq_true_iff]; omega
      have HKG : Hid (k = G) := by show k = G; omega
      go_wp2_with (go_at_call 47; refine HST.out.mono ?_; rintro e w3 ⟨rfl, q2, rfl⟩; rw [HF.out])
      have hb0 : Below w2.heap.size w2 (w2.drewN q) := drewN_below (Below.refl _ _) q
      have hk0 := HKG.out
      subst hk0
      go_loopw [8, 30] (fun v i wr => ∃ j : Nat, j ≤ P.length ∧ i = .int .i64 j ∧ Hid (wr.ownsRow w2.heap.size 35 2 v ((P.take j).filter (fun x => !has (R.take k) x)).length (stv (drs ((P.take j).filter (fun x => !has (R.take k) x))))) ∧ Below w2.heap.size w2 wr) (fun _ i _ => P.length - (intOf i).toNat)
      case atStart => exact ⟨0, Nat.zero_le _, rfl, own_made _ _ (by simp) (Nat.le_refl _), by first | exact drewN_below (below_alloc _ _) _ | exact (drewN_below (Below.refl _ _) _).alloc (Nat.le_refl _) _⟩
      case round =>
        obtain ⟨j, hj, rfl, hown, hbel⟩ := hrel
        have hf3 := filter_take_le P (fun x => !has (R.take k) x) j
        by_cases hjl : j < P.length
        · obtain ⟨b1, o1, rfl, hlb1, hc10⟩ := HAP.out.one (sv_at P j hjl)
          rename World => w4
          have hc1' := (below_cells hbel).1 b1 (o1 + j) hlb1
          rw [hc10] at hc1'
          clear hc10
          have hY := filter_take_yes P (fun x => !has (R.take k) x) j hjl
          have hZ := filter_take_no P (fun x => !has (R.take k) x) j hjl
          obtain ⟨x, hx⟩ : ∃ x, x = P[j] := ⟨_, rfl⟩
          rw [← hx] at hY hZ hc1'
          clear hx
          have hsz := hbel.size
          have HTA : Hid (At w4 A2 (sv (R.take k))) := by show At _ _ _; rw [sv_take]; exact (HAT2.out.below hbel).take k
          by_cases hin : x ∈ R.take k
          · have HH := Lib.hid (has_yes hin)
            have HX := Lib.hid (hZ (by simp [has, hin]))
            clear hin hY hZ
            go_wp2_with (go_at_call 14; refine (rhas_any A2 k c2 (R.take k) x _ HKT.out (by unfold maxLen; omega) HTA.out).mono ?_; rintro e w' ⟨rfl, rfl⟩; rw [HH.out])
            go_roundw
            case rel => exact ⟨j + 1, by omega, by go_num, by show World.ownsRow _ _ _ _ _ _ _; rw [HX.out]; exact hown.out, hbel⟩
            case measure => simp [intOf]; omega
          · have HH := Lib.hid (has_no hin)
            have HX := Lib.hid (hY (by simp [has, hin]))
            clear hin hY hZ
            go_wp2_with (first | (go_at_call 14; refine (rhas_any A2 k c2 (R.take k) x _ HKT.out (by unfold maxLen; omega) HTA.out).mono ?_; rintro e w' ⟨rfl, rfl⟩; rw [HH.out]) | (at_builtin; refine wpList_append_own _ rfl _ _ 32 rfl w2.heap.size 35 i1 (.agg #[.bool false, .string { data := #[] }]) 2 24 Try.underlying32 hi' hz0' hz1' hz2' rfl (by decide) _ _ _ rfl (hown.out.alloc _) ⟨_, 0, none⟩ 1 1 [.bool true, .string x] rfl rfl (cells_new _ _ _ _ rfl) (stv_one [(true, x)]) (by unfold maxLen; omega) (by omega) (by simp; omega) ?_; intro v1 w5 hown1 hgrow1 _hnil1; have HO := Lib.hid hown1; have HG1 := Lib.hid hgrow1; clear hown1 hgrow1 _hnil1))
            go_roundw
            case rel => exact ⟨j + 1, by omega, by go_num, by show World.ownsRow _ _ _ _ _ _ _; rw [HX.out, drs_snoc, stv_app, List.length_append]; exact HO.out, (hbel.alloc hsz _).grown HG1.out (by simp; omega) (own_from hown.out)⟩
            case measure => simp [intOf]; omega
        · have hPj : P.take j = P := List.take_of_length_le (by omega)
          rw [hPj] at hown hf3
          have hf4 : (gd P R).length = (P.filter (fun x => !has (R.take k) x)).length := by rw [HFIL.out]
          have HFIN := HFIL.out
          have hc2b : R.length ≤ c2 := hc2
          have hcut : At w2 (if c2 = k then A2 else A2.map (fun x => x.add k)) (sv (R.drop k)) := by rw [sv_drop]; exact HAT2.out.cut k c2 (by rw [sv_len]; exact hc2)
          have HCUT := Lib.hid hcut
          have HFIN' := Lib.hid HFIN
          have HF4 := Lib.hid hf4
          clear hcut HFIN hf4
          by_cases hck : c2 = k
          · have HC3 : Hid (At w2 A2 (sv (R.drop k))) := by have h := HCUT.out; rw [if_pos hck] at h; exact h
            have hgdl : (gd P R).length ≤ P.length := by omega
            have hk3 : R.length ≤ k := by omega
            have hck' := hck.symm
            subst hck'
            go_wp2
            have HFD : Hid (gd P R = P.filter (fun x => !has (R.take k) x)) := HFIN'.out
            go_loopw [8, 50] (fun v i wr => ∃ j : Nat, j ≤ R.length - k ∧ i = .int .i64 j ∧ Hid (wr.ownsRow w2.heap.size 35 2 v ((gd P R).length + j) (stv (drs (gd P R) ++ addsOf ((R.drop k).take j)))) ∧ Below w2.heap.size w2 wr) (fun _ i _ => R.length - k - (intOf i).toNat)
            case atStart => exact ⟨0, Nat.zero_le _, rfl, by show World.ownsRow _ _ _ _ _ _ _; rw [HFD.out]; simpa [addsOf] using hown.out, hbel⟩
            case round =>
              clear hown hbel
              obtain ⟨j, hj, rfl, hown, hbel⟩ := hrel
              by_cases hjl : j < R.length - k
              · exfalso; omega
              · have hje : Hid ((R.drop k).take j = R.drop k) := List.take_of_length_le (by rw [List.length_drop]; omega)
                have hjn : Hid (j = (R.drop k).length) := by show j = _; rw [List.length_drop]; omega
                go_wp2
                go_ret
                refine ⟨_, rfl, ?_, HBW.out.trans (hbel.mono HBW.out.size)⟩
                have h1 := own_mono hown.out (base' := w.heap.size) HBW.out.size
                rw [hje.out, hjn.out] at h1
                have h2 : (drs (gd P R) ++ addsOf (R.drop k)).length = (gd P R).length + (R.drop k).length := by rw [List.length_append, drs_len]; simp [addsOf]
                rw [HT.out, ← HGG.out, h2]
                exact h1

          · have HC3' : Hid (At w2 (A2.map (fun x => x.add k)) (sv (R.drop k))) := by have h := HCUT.out; rw [if_neg hck] at h; exact h
            have hgdl : (gd P R).length ≤ P.length := by omega
            go_wp2
            generalize A2.map (fun x => x.add k) = A3 at HC3'
            have HC3 := HC3'
            have HFD : Hid (gd P R = P.filter (fun x => !has (R.take k) x)) := HFIN'.out
            go_loopw [8, 50] (fun v i wr => ∃ j : Nat, j ≤ R.length - k ∧ i = .int .i64 j ∧ Hid (wr.ownsRow w2.heap.size 35 2 v ((gd P R).length + j) (stv (drs (gd P R) ++ addsOf ((R.drop k).take j)))) ∧ Below w2.heap.size w2 wr) (fun _ i _ => R.length - k - (intOf i).toNat)
            case atStart => exact ⟨0, Nat.zero_le _, rfl, by show World.ownsRow _ _ _ _ _ _ _; rw [HFD.out]; simpa [addsOf] using hown.out, hbel⟩
            case round =>
              clear hown hbel
              obtain ⟨j, hj, rfl, hown, hbel⟩ := hrel
              by_cases hjl : j < R.length - k
              · have hjd : j < (R.drop k).length := by rw [List.length_drop]; exact hjl
                obtain ⟨b3, o3, rfl, hlb3, hc30⟩ := HC3.out.one (sv_at (R.drop k) j hjd)
                rename World => w4
                have hc3' := (below_cells hbel).1 b3 (o3 + j) hlb3
                rw [hc30] at hc3'
                clear hc30
                have hXs := addsOf_next (R.drop k) j hjd
                obtain ⟨x, hx⟩ : ∃ x, x = (R.drop k)[j] := ⟨_, rfl⟩
                rw [← hx] at hc3' hXs
                have HX := Lib.hid hXs
                clear hx hXs hjd
                have hsz := hbel.size
                go_wp2_with (at_builtin; refine wpList_append_own _ rfl _ _ 32 rfl w2.heap.size 35 i1 (.agg #[.bool false, .string { data := #[] }]) 2 24 Try.underlying32 hi' hz0' hz1' hz2' rfl (by decide) _ _ _ rfl (hown.out.alloc _) ⟨_, 0, none⟩ 1 1 [.bool false, .string x] rfl rfl (cells_new _ _ _ _ rfl) (stv_one [(false, x)]) (by unfold maxLen; omega) (by omega) (by simp; omega) ?_; intro v1 w5 hown1 hgrow1 _hnil1; have HO := Lib.hid hown1; have HG1 := Lib.hid hgrow1; clear hown1 hgrow1 _hnil1)
                go_roundw
                case rel => exact ⟨j + 1, by omega, by go_num, by show World.ownsRow _ _ _ _ _ _ _; rw [HX.out, ← List.append_assoc, stv_app]; exact HO.out, (hbel.alloc hsz _).grown HG1.out (by simp; omega) (own_from hown.out)⟩
                case measure => simp [intOf]; omega
              · have hje : Hid ((R.drop k).take j = R.drop k) := List.take_of_length_le (by rw [List.length_drop]; omega)
                have hjn : Hid (j = (R.drop k).length) := by show j = _; rw [List.length_drop]; omega
                go_wp2
                go_ret
                refine ⟨_, rfl, ?_, HBW.out.trans (hbel.mono HBW.out.size)⟩
                have h1 := own_mono hown.out (base' := w.heap.size) HBW.out.size
                rw [hje.out, hjn.out] at h1
                have h2 : (drs (gd P R) ++ addsOf (R.drop k)).length = (gd P R).length + (R.drop k).length := by rw [List.length_append, drs_len]; simp [addsOf]
                rw [HT.out, ← HGG.out, h2]
                exact h1

end Go.Proofs.Ytibcfmfihcgijaa
