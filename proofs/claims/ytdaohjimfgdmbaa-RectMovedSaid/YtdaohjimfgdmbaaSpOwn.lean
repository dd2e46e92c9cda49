/- Contract of the statements' Own: entries, as the program's and as the document's. -/
import Derived.Test.YtdaohjimfgdmbaaSpSame
namespace Go.Proofs.Ytdaohjimfgdmbaa
open Go.RowKit Sn
theorem below_moreS {w W : World} (h : Below w.heap.size w W) (o : Obj) : Below w.heap.size w (W.alloc o) := h.alloc h.size o
theorem below_own {w W W' : World} {e : TypeId} {size n : Nat} {v : Value} {xs : List Value} (h : Below w.heap.size w W) (ho : W.ownsRow w.heap.size e size v n xs) (hg : W.grownBy W' v.ownBlock) : Below w.heap.size w W' :=
  Below.grown h hg h.size (fun q hq => own_from ho q hq)
theorem infoEn1 : (Try.prog.info? 74).map (fun i => (i.zero, i.size, i.bytes)) = some (some zE0, 5, 40) := by kernel_rfl
set_option maxHeartbeats 16000000 in
set_option maxRecDepth 100000 in
theorem own13_any (A : Option Addr) (n c m : Nat) (L : List En) (w : World) (hn : n = L.length) (hb : n ≤ maxLen) (hm : m ≤ 1000) (ha : At w A (ecs L)) :
    Calls Try.prog 11 #[.slice A n c, .int .i64 m] w fun e w' => ∃ v u, e = .returned (.tuple #[v, u]) ∧ w'.ownsRow w.heap.size 74 5 v (L.take m).length (ecs (L.take m)) ∧ w'.ownsRow w.heap.size 44 5 u (L.take m).length (ecs (L.take m)) ∧ Below w.heap.size w w' := by
  unfold maxLen at hb
  have HN := Lib.hid hn
  have HD := Lib.hid ha
  clear hn ha
  obtain ⟨i1, hi1, hz10, hz11, hz12⟩ := info_parts infoEn1
  obtain ⟨i2, hi2, hz20, hz21, hz22⟩ := info_parts infoEnR
  go_enter Try.func11, Try.ntmps11
  go_wp2_with fail
  go_loopw [6, 7, 8] (fun v u i wr => ∃ k : Nat, k ≤ n ∧ k ≤ m ∧ i = .int .i64 k ∧ Hid (wr.ownsRow w.heap.size 74 5 v k (ecs (L.take k))) ∧ Hid (wr.ownsRow w.heap.size 44 5 u k (ecs (L.take k))) ∧ Below w.heap.size w wr) (fun _ _ i _ => m - (intOf i).toNat)
  case atStart => exact ⟨0, Nat.zero_le _, Nat.zero_le _, rfl, World.ownsRow_nil _ _ _ _, World.ownsRow_nil _ _ _ _, Below.refl _ _⟩
  case round =>
    obtain ⟨k, hk, hkm, rfl, hown, hownu, hbel⟩ := hrel
    by_cases hlt : k < n ∧ k < m
    · obtain ⟨hlt1, hlt2⟩ := hlt
      have hkL : k < L.length := by have := HN.out; omega
      obtain ⟨A7, c7, rfl, hc7, hm7⟩ := own_slice hown.out
      obtain ⟨A8, c8, rfl, hc8, hm8⟩ := own_slice hownu.out
      obtain ⟨b1, o1, rfl, hlb1, hc10, hc11, hc12, hc13, hc14⟩ := at_en HD.out hkL
      have hnx : ecs (L.take (k + 1)) = ecs (L.take k) ++ ec (el L k) := by
        rw [List.take_succ_eq_append_getElem hkL, ecs_snoc, el_eq hkL]
      generalize el L k = e5 at *
      obtain ⟨x0, x1, x2, x3, x4⟩ := e5
      dsimp only at hc10 hc11 hc12 hc13 hc14
      have HC0 := Lib.hid hc10
      have HC1 := Lib.hid hc11
      have HC2 := Lib.hid hc12
      have HC3 := Lib.hid hc13
      have HC4 := Lib.hid hc14
      have hd0 := (below_cells hbel).1 b1 (o1 + k * 5) hlb1
      have hd1 := (below_cells hbel).1 b1 (o1 + k * 5 + 1) hlb1
      have hd2 := (below_cells hbel).1 b1 (o1 + k * 5 + 2) hlb1
      have hd3 := (below_cells hbel).1 b1 (o1 + k * 5 + 3) hlb1
      have hd4 := (below_cells hbel).1 b1 (o1 + k * 5 + 4) hlb1
      rw [hc10] at hd0
      rw [hc11] at hd1
      rw [hc12] at hd2
      rw [hc13] at hd3
      rw [hc14] at hd4
      have HNXT := Lib.hid hnx
      clear hc10 hc11 hc12 hc13 hc14 hnx hkL
      generalize ecs (L.take k) = LL at *
      have hsz := hbel.size
      have HBEL := Lib.hid hbel
      have hkk : (0 : Int) ≤ (k : Int) := by omega
      have hkk2 : (k : Int) < (n : Int) := by omega
      have HNE := Lib.hid (own_ne hownu.out hown.out (by decide))
      have HLT : Hid (∀ h, (Value.slice A7 k c7).ownBlock = some h → h < wr.heap.size) := fun h e => (hown.out.lt h e).2
      go_upto_region 6 with fail
      go_region_held3 (fun w' => w'.cell? ⟨b1, o1 + k * 5, none⟩ = some (.int .i64 x0) ∧ w'.cell? ⟨b1, o1 + k * 5 + 1, none⟩ = some (.int .i64 x1) ∧ w'.cell? ⟨b1, o1 + k * 5 + 2, none⟩ = some (.int .i64 x2) ∧ w'.cell? ⟨b1, o1 + k * 5 + 3, none⟩ = some (.int .i64 x3) ∧ w'.cell? ⟨b1, o1 + k * 5 + 4, none⟩ = some (.int .i64 x4) ∧ Below w.heap.size w w')
        (first | (refine ⟨?_, ?_, ?_, ?_, ?_, ?_⟩ <;> first | with_reducible assumption | (refine Lib.cell?_alloc_some _ ?_; with_reducible assumption) | with_reducible exact Below_drew (below_moreS HBEL.out _) | with_reducible exact Below_drew (below_moreS (below_moreS HBEL.out _) _) | with_reducible exact below_moreS HBEL.out _ | with_reducible exact below_moreS (below_moreS HBEL.out _) _ | (with_reducible refine below_moreS ?_ _; with_reducible assumption) | (with_reducible refine Below_drew (below_moreS ?_ _); with_reducible assumption) | (with_reducible refine Below_drew (below_moreS (below_moreS ?_ _) _); with_reducible assumption) | (with_reducible refine below_moreS (below_moreS ?_ _) _; with_reducible assumption) | with_reducible exact Below_drew hbel | exact Below_drew hbel | assumption | go_keep) | (go_split_ands; refine ⟨?_, ?_, ?_, ?_, ?_, ?_⟩ <;> first | with_reducible assumption | (refine Lib.cell?_alloc_some _ ?_; with_reducible assumption) | with_reducible exact Below_drew (below_moreS HBEL.out _) | with_reducible exact Below_drew (below_moreS (below_moreS HBEL.out _) _) | with_reducible exact below_moreS HBEL.out _ | with_reducible exact below_moreS (below_moreS HBEL.out _) _ | (with_reducible refine below_moreS ?_ _; with_reducible assumption) | (with_reducible refine Below_drew (below_moreS ?_ _); with_reducible assumption) | (with_reducible refine Below_drew (below_moreS (below_moreS ?_ _) _); with_reducible assumption) | (with_reducible refine below_moreS (below_moreS ?_ _) _; with_reducible assumption)) | go_keep)
        (first
          | (refine step_append_at (by rfl) (.tmp 20) (.tmp 32) 25 (by rfl) w.heap.size 74 i1 _ 5 40 Try.underlying25 hi1 hz10 hz11 hz12 rfl (by decide) (.slice A7 k c7) k LL (by rfl) ?_ (some ⟨_, 0, none⟩) 1 1 [.int .i64 x0, .int .i64 x1, .int .i64 x2, .int .i64 x3, .int .i64 x4] (by rfl) (fun h => nomatch h) rfl ?_ (fun u hu => ec_one ⟨x0, x1, x2, x3, x4⟩ u hu) ?_ ?_ ?_ ?_; (first | exact own_heap (hown.out.alloc _) rfl | exact own_heap ((hown.out.alloc _).alloc _) rfl); (first | exact at_push1 wr.heap #[.int .i64 x0, .int .i64 x1, .int .i64 x2, .int .i64 x3, .int .i64 x4] 74 wr.heap.size [.int .i64 x0, .int .i64 x1, .int .i64 x2, .int .i64 x3, .int .i64 x4] rfl rfl rfl | exact at_push2 wr.heap #[.int .i64 x0, .int .i64 x1, .int .i64 x2, .int .i64 x3, .int .i64 x4] 74 (.cells #[.int .i64 x0, .int .i64 x1, .int .i64 x2, .int .i64 x3, .int .i64 x4] 44) wr.heap.size [.int .i64 x0, .int .i64 x1, .int .i64 x2, .int .i64 x3, .int .i64 x4] rfl rfl rfl | (refine at_push1 (wr.heap.push (.cells #[.int .i64 x0, .int .i64 x1, .int .i64 x2, .int .i64 x3, .int .i64 x4] 44)) #[.int .i64 x0, .int .i64 x1, .int .i64 x2, .int .i64 x3, .int .i64 x4] 74 (wr.heap.size + 1) [.int .i64 x0, .int .i64 x1, .int .i64 x2, .int .i64 x3, .int .i64 x4] rfl ?_ rfl; simp)); (unfold maxLen; omega); omega; (simp <;> omega); intro v8 w8 hown8 hgrow8; go_split_ands; have B8 : Below w.heap.size w w8 := (by refine Below.grown ?_ hgrow8 (by simp <;> omega) (fun q hq => by have h5 := own_from hown.out q hq; omega); first | with_reducible assumption | with_reducible exact Below_drew (below_moreS HBEL.out _) | with_reducible exact Below_drew (below_moreS (below_moreS HBEL.out _) _) | with_reducible exact below_moreS HBEL.out _ | with_reducible exact below_moreS (below_moreS HBEL.out _) _ | (with_reducible refine below_moreS ?_ _; with_reducible assumption) | (with_reducible refine Below_drew (below_moreS ?_ _); with_reducible assumption) | (with_reducible refine Below_drew (below_moreS (below_moreS ?_ _) _); with_reducible assumption) | (with_reducible refine below_moreS (below_moreS ?_ _) _; with_reducible assumption)); have r0 := (B8.cell (p := ⟨b1, o1 + k * 5, none⟩) hlb1).trans HC0.out; have r1 := (B8.cell (p := ⟨b1, o1 + k * 5 + 1, none⟩) hlb1).trans HC1.out; have r2 := (B8.cell (p := ⟨b1, o1 + k * 5 + 2, none⟩) hlb1).trans HC2.out; have r3 := (B8.cell (p := ⟨b1, o1 + k * 5 + 3, none⟩) hlb1).trans HC3.out; have r4 := (B8.cell (p := ⟨b1, o1 + k * 5 + 4, none⟩) hlb1).trans HC4.out)
          | (refine step_append_at (by rfl) (.tmp 34) (.tmp 39) 22 (by rfl) w.heap.size 44 i2 _ 5 40 Try.underlying22 hi2 hz20 hz21 hz22 rfl (by decide) (.slice A8 k c8) k LL (by rfl) ?_ (some ⟨_, 0, none⟩) 1 1 [.int .i64 x0, .int .i64 x1, .int .i64 x2, .int .i64 x3, .int .i64 x4] (by rfl) (fun h => nomatch h) rfl ?_ (fun u hu => ec_one ⟨x0, x1, x2, x3, x4⟩ u hu) ?_ ?_ ?_ ?_; (first | (refine own_heap (World.ownsRow.alloc (World.ownsRow.kept ?_ hgrow8 HNE.out) _) rfl; exact own_heap (hownu.out.alloc _) rfl) | (refine own_heap (World.ownsRow.kept ?_ hgrow8 HNE.out) rfl; exact own_heap ((hownu.out.alloc _).alloc _) rfl)); (first | exact at_push1 w8.heap #[.int .i64 x0, .int .i64 x1, .int .i64 x2, .int .i64 x3, .int .i64 x4] 44 w8.heap.size [.int .i64 x0, .int .i64 x1, .int .i64 x2, .int .i64 x3, .int .i64 x4] rfl rfl rfl | (refine at_new_grown hgrow8 (wr.heap.push (.cells #[.int .i64 x0, .int .i64 x1, .int .i64 x2, .int .i64 x3, .int .i64 x4] 74)) #[.int .i64 x0, .int .i64 x1, .int .i64 x2, .int .i64 x3, .int .i64 x4] 44 (wr.heap.size + 1) [.int .i64 x0, .int .i64 x1, .int .i64 x2, .int .i64 x3, .int .i64 x4] rfl ?_ rfl ?_; simp; (intro e; have h5 := HLT.out _ e.symm; omega)) | (refine at_new_alloc_grown hgrow8 wr.heap #[.int .i64 x0, .int .i64 x1, .int .i64 x2, .int .i64 x3, .int .i64 x4] 44 (.cells #[.int .i64 x0, .int .i64 x1, .int .i64 x2, .int .i64 x3, .int .i64 x4] 74) wr.heap.size [.int .i64 x0, .int .i64 x1, .int .i64 x2, .int .i64 x3, .int .i64 x4] rfl rfl rfl ?_; (intro e; have h5 := HLT.out _ e.symm; omega))); (unfold maxLen; omega); omega; (have h5 := hgrow8.size; simp at h5 ⊢ <;> omega); intro v9 w9 hown9 hgrow9; go_split_ands; have B9 : Below w.heap.size w w9 := (by refine Below.grown ?_ hgrow9 (by have h5 := B8.size; simp <;> omega) (fun q hq => by have h5 := own_from hownu.out q hq; omega); first | with_reducible assumption | with_reducible exact Below_drew (below_moreS HBEL.out _) | with_reducible exact Below_drew (below_moreS (below_moreS HBEL.out _) _) | with_reducible exact below_moreS HBEL.out _ | with_reducible exact below_moreS (below_moreS HBEL.out _) _ | (with_reducible refine below_moreS ?_ _; with_reducible assumption) | (with_reducible refine Below_drew (below_moreS ?_ _); with_reducible assumption) | (with_reducible refine Below_drew (below_moreS (below_moreS ?_ _) _); with_reducible assumption) | (with_reducible refine below_moreS (below_moreS ?_ _) _; with_reducible assumption)); have r0 := (B9.cell (p := ⟨b1, o1 + k * 5, none⟩) hlb1).trans HC0.out; have r1 := (B9.cell (p := ⟨b1, o1 + k * 5 + 1, none⟩) hlb1).trans HC1.out; have r2 := (B9.cell (p := ⟨b1, o1 + k * 5 + 2, none⟩) hlb1).trans HC2.out; have r3 := (B9.cell (p := ⟨b1, o1 + k * 5 + 3, none⟩) hlb1).trans HC3.out; have r4 := (B9.cell (p := ⟨b1, o1 + k * 5 + 4, none⟩) hlb1).trans HC4.out))
      all_goals
        have X8 : w8.ownsRow w.heap.size 44 5 (.slice A8 k c8) k LL := by
          refine World.ownsRow.kept ?_ hgrow8 HNE.out
          first | exact own_heap (hownu.out.alloc _) rfl | exact own_heap ((hownu.out.alloc _).alloc _) rfl
        have o8 : w9.ownsRow w.heap.size 74 5 v8 (k + 1) (LL ++ [.int .i64 x0, .int .i64 x1, .int .i64 x2, .int .i64 x3, .int .i64 x4]) := by
          first
          | (refine World.ownsRow.kept ?_ hgrow9 (own_ne (w := w8) hown8 X8 (by decide)); first | exact own_heap (hown8.alloc _) rfl | exact hown8)
        have O8 := Lib.hid o8
        have O9 := Lib.hid hown9
        have HB9 : Hid (Below w.heap.size w w9) := B9
        clear B8 B9 o8 X8 hown8 hown9 hgrow8 hgrow9
        go_wp2
        go_roundw
        case rel => exact ⟨k + 1, by omega, by omega, by go_num, by show World.ownsRow _ _ _ _ _ _ _; rw [HNXT.out]; exact O8.out, by show World.ownsRow _ _ _ _ _ _ _; rw [HNXT.out]; exact O9.out, HB9.out⟩
        case measure => simp [intOf]; omega
    · have hmin : Hid ((L.take m).length = k) := by show (L.take m).length = k; rw [List.length_take]; have := HN.out; omega
      have HB0 := Lib.hid hbel
      have hBK : Hid (L.take m = L.take k) := by
        show _ = _
        rcases Nat.lt_or_ge k m with h | h
        · rw [List.take_of_length_le (by have := HN.out; omega), List.take_of_length_le (by have := HN.out; omega)]
        · rw [show m = k by omega]
      by_cases hlt1 : k < n
      · have hlt2 : ¬ k < m := fun h => hlt ⟨hlt1, h⟩
        clear hlt
        go_wp2
        go_ret2
        exact ⟨_, _, rfl, by rw [hmin.out, hBK.out]; exact hown.out, by rw [hmin.out, hBK.out]; exact hownu.out, HB0.out⟩
      · clear hlt
        go_wp2
        go_ret2
        exact ⟨_, _, rfl, by rw [hmin.out, hBK.out]; exact hown.out, by rw [hmin.out, hBK.out]; exact hownu.out, HB0.out⟩
end Go.Proofs.Ytdaohjimfgdmbaa
