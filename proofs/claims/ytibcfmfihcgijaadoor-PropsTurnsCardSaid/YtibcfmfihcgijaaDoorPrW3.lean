/- The contract of layer 4's document's own Of. -/
import Derived.Test.YtibcfmfihcgijaaDoorPrW2
import Derived.WalkLawsBesides
namespace Go.Proofs.YtibcfmfihcgijaaDoor
open Go.RowKit M
def sliceLen : Value → Nat | .slice _ n _ => n | _ => 0
theorem frz_of {w : World} {g : Nat} {cs : Array Value} {t : TypeId} (hh : w.heap[g]? = some (.cells cs t (0, 0))) (i : Nat) : w.frozen? ⟨g, i, none⟩ = false := by simp [World.frozen?, hh]
theorem drewN_below' {B : Nat} {a w : World} (h : Below B a w) (q : Nat) : Below B a (w.drewN q) := ⟨h.os, h.tape, h.output, h.size, h.block⟩
theorem ahead_yes {a p : ByteArray} (h : blt a p = true) : Op.bytesLess p.toList a.toList = false ∧ (p.toList == a.toList) = false :=
  ⟨blt_asymm h, str_no fun e => blt_ne h e.symm⟩
theorem ahead_no {a p : ByteArray} (h : ¬ blt a p = true) : Op.bytesLess p.toList a.toList = true ∨ (Op.bytesLess p.toList a.toList = false ∧ (p.toList == a.toList) = true) := by
  rcases blt_tri a p with h1 | h1 | h1
  · exact absurd h1 h
  · subst h1; exact .inr ⟨blt_irrefl _, str_yes rfl⟩
  · exact .inl h1
set_option maxHeartbeats 8000000 in
set_option maxRecDepth 100000 in
theorem rof_any (A : Option Addr) (n c : Nat) (l : List Par) (w : World) (hn : n = l.length) (hb : n ≤ 100000) (ha : At w A (pv l)) :
    Calls Tryd.prog 16 #[.slice A n c] w fun e w' => ∃ v, e = .returned v ∧ w'.ownsRow w.heap.size 38 2 v (ofP l).length (pv (ofP l)) ∧ Below w.heap.size w w' := by
  have HN := Lib.hid hn
  have HA := Lib.hid ha
  have hml := ofP_len l
  rw [← hn] at hml
  clear hn ha
  obtain ⟨i0, hi, hz0, hz1, hz2⟩ := info_parts infoPar
  have HNX := Lib.hid (next_at l)
  obtain ⟨R, hM⟩ : ∃ R, R = ofP l := ⟨_, rfl⟩
  rw [← hM] at hml HNX
  rw [← hM]
  clear hM
  go_enter Tryd.func16, Tryd.ntmps16
  go_wp2
  go_loopw [3] (fun v wr => ∃ j : Nat, j ≤ R.length ∧ Hid (wr.ownsRow w.heap.size 38 2 v j (pv (R.take j))) ∧ Below w.heap.size w wr) (fun v _ => R.length - sliceLen v)
  case atStart => exact ⟨0, Nat.zero_le _, World.ownsRow_made w #[] 0 (Nat.le_refl _) (Nat.zero_le _) rfl, below_alloc _ _⟩
  case round =>
    obtain ⟨j, hj, hown, hbel⟩ := hrel
    obtain ⟨A7, c7, rfl, hc7, hm7, hat7⟩ := at_of_own' hown.out
    have HAT7 := Lib.hid hat7
    clear hat7
    obtain ⟨wo, hwo⟩ : ∃ wo : World, wo = wr := ⟨_, rfl⟩
    subst hwo
    have hszo := hbel.size
    go_wp2
    go_loopw [4, 13] (fun f i wi => ∃ (k : Nat) (acc : Option Par) (s0 : ByteArray) (z0 : Int), k ≤ n ∧ i = .int .i64 k ∧ f = .bool acc.isSome ∧ Hid (acc = nextF (lastN R j) (l.take k)) ∧ Hid (∀ q, acc = some q → s0 = q.1 ∧ z0 = q.2) ∧ wi.cell? ⟨wo.heap.size, 0, none⟩ = some (.string s0) ∧ wi.cell? ⟨wo.heap.size, 1, none⟩ = some (.int .i64 z0) ∧ wi.frozen? ⟨wo.heap.size, 0, none⟩ = false ∧ wi.frozen? ⟨wo.heap.size, 1, none⟩ = false ∧ wo.heap.size < wi.heap.size ∧ Below wo.heap.size wo wi) (fun _ i _ => n - (intOf i).toNat)
    case atStart => exact ⟨0, none, ⟨#[]⟩, 0, Nat.zero_le _, rfl, rfl, rfl, (fun q h => nomatch h), by simp, by simp, frz_of (heap_alloc_new _ _) _, frz_of (heap_alloc_new _ _) _, by simp, below_alloc _ _⟩
    case round =>
      obtain ⟨k, acc, s0, z0, hk, rfl, rfl, hacc, hbest, hb0, hb1, hf0, hf1, hlt5, hbeli⟩ := hrel
      have hszi := hbeli.size
      by_cases hlt : k < n
      · have hk1 : k < l.length := by have := HN.out; omega
        obtain ⟨b, off, rfl, hlb, hc0, hc1⟩ := at_pair HA.out hk1
        rename World => wi
        have hd0 := (below_cells (hbel.trans (hbeli.mono hszo))).1 b (off + k * 2) hlb
        have hd1 := (below_cells (hbel.trans (hbeli.mono hszo))).1 b (off + k * 2 + 1) hlb
        rw [hc0] at hd0
        rw [hc1] at hd1
        clear hc0 hc1
        have hnx := nextF_snoc (lastN R j) l k hk1
        rw [← hacc.out] at hnx
        obtain ⟨x, hx⟩ : ∃ x, x = l[k].1 := ⟨_, rfl⟩
        obtain ⟨z, hz⟩ : ∃ z, z = l[k].2 := ⟨_, rfl⟩
        have hp : l[k] = (x, z) := by rw [hx, hz]
        rw [← hx] at hd0
        rw [← hz] at hd1
        rw [hp] at hnx
        have HNF := Lib.hid hnx
        clear hx hz hp hnx
        have ga0 : ∀ o, (wi.alloc o).cell? ⟨wo.heap.size, 0, none⟩ = some (.string s0) := fun o => Lib.cell?_alloc_some _ hb0
        have ga1 : ∀ o, (wi.alloc o).cell? ⟨wo.heap.size, 1, none⟩ = some (.int .i64 z0) := fun o => Lib.cell?_alloc_some _ hb1
        have gf0 : ∀ o, (wi.alloc o).frozen? ⟨wo.heap.size, 0, none⟩ = false := fun o => by rw [World.frozen?_alloc_old _ _ _ (by show wo.heap.size ≠ wi.heap.size; omega)]; exact hf0
        have gf1 : ∀ o, (wi.alloc o).frozen? ⟨wo.heap.size, 1, none⟩ = false := fun o => by rw [World.frozen?_alloc_old _ _ _ (by show wo.heap.size ≠ wi.heap.size; omega)]; exact hf1
        by_cases hj0 : j = 0
        · have hj0' : ((j : Int) == 0) = true := by rw [beq_iff_eq]; omega
          have HAH : Hid (M.ahead (lastN R j) (x, z) = true) := by show _ = _; unfold lastN; rw [if_pos hj0]; rfl
          clear hj0
          cases acc with
          | none =>
            have HTAKE : Hid (some (x, z) = nextOne (lastN R j) none (x, z)) := by show _ = _; simp [nextOne, HAH.out]
            go_wp2
            go_quiet (fail)
            go_wp2
            go_roundw
            case rel => exact ⟨k + 1, some (x, z), x, z, by omega, by go_num, rfl, by show _ = _; rw [HNF.out]; exact HTAKE.out, (fun q h => by injection h with h; subst h; exact ⟨rfl, rfl⟩), cell_heap (cells_set2 (ga0 (.cells #[.string x, .int .i64 z] 38)) (ga1 _) (.string x) (.int .i64 z)).1 rfl, cell_heap (cells_set2 (ga0 (.cells #[.string x, .int .i64 z] 38)) (ga1 _) (.string x) (.int .i64 z)).2 rfl, by simp [gf0], by simp [gf1], by simp; omega, drewN_below' (((hbeli.alloc hszi _).setCell (p := ⟨wo.heap.size, 0, none⟩) (Nat.le_refl _) _).setCell (p := ⟨wo.heap.size, 1, none⟩) (Nat.le_refl _) _) _⟩
            case measure => simp [intOf]; omega
          | some q =>
            obtain ⟨e1, e2⟩ := hbest.out q rfl
            by_cases hq : blt s0 x = true
            · have HSAME : Hid (some q = nextOne (lastN R j) (some q) (x, z)) := by show _ = _; simp [nextOne, HAH.out, ← e1, hq]
              obtain ⟨g1, g2⟩ := ahead_yes hq
              clear e1 e2 hq
              go_wp2
              go_quiet (fail)
              go_wp2
              go_roundw
              case rel => exact ⟨k + 1, some q, s0, z0, by omega, by go_num, rfl, by show _ = _; rw [HNF.out]; exact HSAME.out, hbest.out, by simp [ga0], by simp [ga1], by simp [gf0], by simp [gf1], by simp; omega, drewN_below' (hbeli.alloc hszi _) _⟩
              case measure => simp [intOf]; omega
            · have HTAKE : Hid (some (x, z) = nextOne (lastN R j) (some q) (x, z)) := by show _ = _; simp [nextOne, HAH.out, ← e1, hq]
              have hno := ahead_no hq
              clear e1 e2 hq
              rcases hno with g1 | ⟨g1, g2⟩
              · go_wp2
                go_quiet (fail)
                go_wp2
                go_roundw
                case rel => exact ⟨k + 1, some (x, z), x, z, by omega, by go_num, rfl, by show _ = _; rw [HNF.out]; exact HTAKE.out, (fun q h => by injection h with h; subst h; exact ⟨rfl, rfl⟩), cell_heap (cells_set2 (ga0 (.cells #[.string x, .int .i64 z] 38)) (ga1 _) (.string x) (.int .i64 z)).1 rfl, cell_heap (cells_set2 (ga0 (.cells #[.string x, .int .i64 z] 38)) (ga1 _) (.string x) (.int .i64 z)).2 rfl, by simp [gf0], by simp [gf1], by simp; omega, drewN_below' (((hbeli.alloc hszi _).setCell (p := ⟨wo.heap.size, 0, none⟩) (Nat.le_refl _) _).setCell (p := ⟨wo.heap.size, 1, none⟩) (Nat.le_refl _) _) _⟩
                case measure => simp [intOf]; omega
              · go_wp2
                go_quiet (fail)
                go_wp2
                go_roundw
                case rel => exact ⟨k + 1, some (x, z), x, z, by omega, by go_num, rfl, by show _ = _; rw [HNF.out]; exact HTAKE.out, (fun q h => by injection h with h; subst h; exact ⟨rfl, rfl⟩), cell_heap (cells_set2 (ga0 (.cells #[.string x, .int .i64 z] 38)) (ga1 _) (.string x) (.int .i64 z)).1 rfl, cell_heap (cells_set2 (ga0 (.cells #[.string x, .int .i64 z] 38)) (ga1 _) (.string x) (.int .i64 z)).2 rfl, by simp [gf0], by simp [gf1], by simp; omega, drewN_below' (((hbeli.alloc hszi _).setCell (p := ⟨wo.heap.size, 0, none⟩) (Nat.le_refl _) _).setCell (p := ⟨wo.heap.size, 1, none⟩) (Nat.le_refl _) _) _⟩
                case measure => simp [intOf]; omega
        · have hj0' : ((j : Int) == 0) = false := by rw [beq_eq_false_iff_ne]; omega
          have hjm : j - 1 < (R.take j).length := by rw [List.length_take]; omega
          obtain ⟨b7, o7, rfl, hlb7, hc70, hc71⟩ := at_pair HAT7.out hjm
          clear hc71
          have hlast : lastN R j = some (R.take j)[j - 1].1 := by
            unfold lastN
            rw [if_neg hj0, List.getElem_take, List.getElem?_eq_getElem (by omega)]
            rfl
          obtain ⟨a, ha⟩ : ∃ a, a = (R.take j)[j - 1].1 := ⟨_, rfl⟩
          rw [← ha] at hc70 hlast
          have hc7i := (below_cells hbeli).1 b7 (o7 + (j - 1) * 2) hlb7
          rw [hc70] at hc7i
          have gc7 : ∀ o, (wi.alloc o).cell? ⟨b7, o7 + (j - 1) * 2, none⟩ = some (.string a) := fun o => Lib.cell?_alloc_some _ hc7i
          have HLA := Lib.hid hlast
          have hj1 : (0 : Int) ≤ (j : Int) - 1 := by omega
          have hj2 : (1 : Int) ≤ (j : Int) := by omega
          clear ha hlast hc70 hj0 hjm
          by_cases hah : blt a x = true
          · have HAH : Hid (M.ahead (lastN R j) (x, z) = true) := by show _ = _; rw [HLA.out]; exact hah
            obtain ⟨k1, k2⟩ := ahead_yes hah
            clear hah
            cases acc with
            | none =>
              have HTAKE : Hid (some (x, z) = nextOne (lastN R j) none (x, z)) := by show _ = _; simp [nextOne, HAH.out]
              go_wp2
              go_quiet (fail)
              go_wp2
              go_roundw
              case rel => exact ⟨k + 1, some (x, z), x, z, by omega, by go_num, rfl, by show _ = _; rw [HNF.out]; exact HTAKE.out, (fun q h => by injection h with h; subst h; exact ⟨rfl, rfl⟩), cell_heap (cells_set2 (ga0 (.cells #[.string x, .int .i64 z] 38)) (ga1 _) (.string x) (.int .i64 z)).1 rfl, cell_heap (cells_set2 (ga0 (.cells #[.string x, .int .i64 z] 38)) (ga1 _) (.string x) (.int .i64 z)).2 rfl, by simp [gf0], by simp [gf1], by simp; omega, drewN_below' (((hbeli.alloc hszi _).setCell (p := ⟨wo.heap.size, 0, none⟩) (Nat.le_refl _) _).setCell (p := ⟨wo.heap.size, 1, none⟩) (Nat.le_refl _) _) _⟩
              case measure => simp [intOf]; omega
            | some q =>
              obtain ⟨e1, e2⟩ := hbest.out q rfl
              by_cases hq : blt s0 x = true
              · have HSAME : Hid (some q = nextOne (lastN R j) (some q) (x, z)) := by show _ = _; simp [nextOne, HAH.out, ← e1, hq]
                obtain ⟨g1, g2⟩ := ahead_yes hq
                clear e1 e2 hq
                go_wp2
                go_quiet (fail)
                go_wp2
                go_roundw
                case rel => exact ⟨k + 1, some q, s0, z0, by omega, by go_num, rfl, by show _ = _; rw [HNF.out]; exact HSAME.out, hbest.out, by simp [ga0], by simp [ga1], by simp [gf0], by simp [gf1], by simp; omega, drewN_below' (hbeli.alloc hszi _) _⟩
                case measure => simp [intOf]; omega
              · have HTAKE : Hid (some (x, z) = nextOne (lastN R j) (some q) (x, z)) := by show _ = _; simp [nextOne, HAH.out, ← e1, hq]
                have hno := ahead_no hq
                clear e1 e2 hq
                rcases hno with g1 | ⟨g1, g2⟩
                · go_wp2
                  go_quiet (fail)
                  go_wp2
                  go_roundw
                  case rel => exact ⟨k + 1, some (x, z), x, z, by omega, by go_num, rfl, by show _ = _; rw [HNF.out]; exact HTAKE.out, (fun q h => by injection h with h; subst h; exact ⟨rfl, rfl⟩), cell_heap (cells_set2 (ga0 (.cells #[.string x, .int .i64 z] 38)) (ga1 _) (.string x) (.int .i64 z)).1 rfl, cell_heap (cells_set2 (ga0 (.cells #[.string x, .int .i64 z] 38)) (ga1 _) (.string x) (.int .i64 z)).2 rfl, by simp [gf0], by simp [gf1], by simp; omega, drewN_below' (((hbeli.alloc hszi _).setCell (p := ⟨wo.heap.size, 0, none⟩) (Nat.le_refl _) _).setCell (p := ⟨wo.heap.size, 1, none⟩) (Nat.le_refl _) _) _⟩
                  case measure => simp [intOf]; omega
                · go_wp2
                  go_quiet (fail)
                  go_wp2
                  go_roundw
                  case rel => exact ⟨k + 1, some (x, z), x, z, by omega, by go_num, rfl, by show _ = _; rw [HNF.out]; exact HTAKE.out, (fun q h => by injection h with h; subst h; exact ⟨rfl, rfl⟩), cell_heap (cells_set2 (ga0 (.cells #[.string x, .int .i64 z] 38)) (ga1 _) (.string x) (.int .i64 z)).1 rfl, cell_heap (cells_set2 (ga0 (.cells #[.string x, .int .i64 z] 38)) (ga1 _) (.string x) (.int .i64 z)).2 rfl, by simp [gf0], by simp [gf1], by simp; omega, drewN_below' (((hbeli.alloc hszi _).setCell (p := ⟨wo.heap.size, 0, none⟩) (Nat.le_refl _) _).setCell (p := ⟨wo.heap.size, 1, none⟩) (Nat.le_refl _) _) _⟩
                  case measure => simp [intOf]; omega
          · have HAH : Hid (M.ahead (lastN R j) (x, z) = false) := by show _ = _; rw [HLA.out]; simpa [M.ahead] using hah
            have HSAME : Hid (acc = nextOne (lastN R j) acc (x, z)) := by show _ = _; cases acc <;> simp [nextOne, HAH.out]
            have hno := ahead_no hah
            clear hah
            rcases hno with k1 | ⟨k1, k2⟩
            · go_wp2
              go_quiet (fail)
              go_wp2
              go_roundw
              case rel => exact ⟨k + 1, acc, s0, z0, by omega, by go_num, rfl, by show _ = _; rw [HNF.out]; exact HSAME.out, hbest.out, by simp [ga0], by simp [ga1], by simp [gf0], by simp [gf1], by simp; omega, drewN_below' (hbeli.alloc hszi _) _⟩
              case measure => simp [intOf]; omega
            · go_wp2
              go_quiet (fail)
              go_wp2
              go_roundw
              case rel => exact ⟨k + 1, acc, s0, z0, by omega, by go_num, rfl, by show _ = _; rw [HNF.out]; exact HSAME.out, hbest.out, by simp [ga0], by simp [ga1], by simp [gf0], by simp [gf1], by simp; omega, drewN_below' (hbeli.alloc hszi _) _⟩
              case measure => simp [intOf]; omega
      · have HKT : Hid (l.take k = l) := List.take_of_length_le (by have := HN.out; omega)
        rw [HKT.out, HNX.out j hj] at hacc
        have HOW := Lib.hid (own_below hown.out hbeli)
        have hbw := hbel.trans (hbeli.mono hszo)
        cases acc with
        | none =>
          have hjl : Hid (R.length ≤ j) := by
            have h := hacc.out
            show R.length ≤ j
            rcases Nat.lt_or_ge j R.length with h1 | h1
            · rw [List.getElem?_eq_getElem h1] at h; cases h
            · exact h1
          go_wp2
          go_ret
          refine ⟨_, rfl, ?_, hbw⟩
          have h1 := HOW.out
          have h2 : j = R.length := by have := hjl.out; omega
          rw [List.take_of_length_le hjl.out, h2] at h1
          rw [h2]
          exact h1
        | some q =>
          obtain ⟨e1, e2⟩ := hbest.out q rfl
          have hjl : j < R.length := by
            have h := hacc.out
            rcases Nat.lt_or_ge j R.length with h1 | h1
            · exact h1
            · rw [List.getElem?_eq_none h1] at h; cases h
          have HQ : Hid (pv (R.take (j + 1)) = pv (R.take j) ++ [.string s0, .int .i64 z0]) := by
            have h := hacc.out
            rw [List.getElem?_eq_getElem hjl] at h
            injection h with h
            show _ = _
            rw [take_next R j hjl, pv_app, ← h, e1, e2]
            rfl
          have hszw := hbw.size
          clear e1 e2
          go_wp2_with (at_builtin; refine wpList_append_own _ rfl _ _ 22 rfl w.heap.size 38 i0 (.agg #[.string { data := #[] }, .int .i64 0]) 2 24 Tryd.underlying22 hi hz0 hz1 hz2 rfl (by decide) _ _ _ rfl (HOW.out.alloc _) ⟨_, 0, none⟩ 1 1 [.string s0, .int .i64 z0] rfl rfl (cells_new' _ _ _ _ rfl _ (by simp)) (pv_one [(s0, z0)]) (by unfold maxLen; omega) (by omega) (by simp; omega) ?_; intro v1 w1 hown1 hgrow1 _hnil1; obtain ⟨A9, c9, rfl, hc9, hm9, hat9⟩ := at_of_own' hown1; have HO := Lib.hid hown1; have HG := Lib.hid hgrow1; clear hown1 hgrow1 _hnil1 hat9)
          go_roundw
          case rel => exact ⟨j + 1, by omega, by show World.ownsRow _ _ _ _ _ _ _; rw [HQ.out]; exact HO.out, (hbw.alloc hszw _).grown HG.out (by simp; omega) (own_from HOW.out)⟩
          case measure => simp [sliceLen]; omega
end Go.Proofs.YtibcfmfihcgijaaDoor
