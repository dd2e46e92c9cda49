/- Contracts of what props hands to the library's sort at steps, Clone, and the sort, in the sort's words. -/
import Derived.Test.YtibcfmfihcgijaaDoorPrS1
import Derived.Test.YtibcfmfihcgijaaDoorPrS4
import Derived.Test.YtibcfmfihcgijaaDoorStSI3
namespace Go.Proofs.YtibcfmfihcgijaaDoor
open Go.RowKit Go.Sort M
/-- a step as a name with what is said of it. -/
abbrev Tp := BA × (Bool × Int)
def encT (p : Tp) : List Value := [.bool p.2.1, .string p.1, .int .i64 p.2.2]
theorem encT_len (p : Tp) : (encT p).length = 3 := rfl
theorem encT_one (p : Tp) : ∀ v ∈ encT p, v.oneCell' = true := by
  intro v hv
  simp [encT] at hv
  rcases hv with rfl | rfl | rfl <;> rfl
def tv (l : List Tp) : List Value := l.flatMap encT
theorem tv_len (l : List Tp) : (tv l).length = l.length * 3 := St.flat_len (enc := encT) encT_len l
theorem tv_app (a b : List Tp) : tv (a ++ b) = tv a ++ tv b := by simp [tv]
theorem tv_one (l : List Tp) : ∀ u ∈ tv l, u.oneCell' = true := by
  intro u hu
  simp only [tv, List.mem_flatMap] at hu
  obtain ⟨s, _, h⟩ := hu
  exact encT_one s u h
theorem at_trip {w : World} {A : Option Addr} {L : List Tp} (h : At w A (tv L)) {k : Nat} (hk : k < L.length) :
    ∃ b off, A = some ⟨b, off, none⟩ ∧ b < w.heap.size ∧ w.cell? ⟨b, off + k * 3, none⟩ = some (.bool L[k].2.1) ∧ w.cell? ⟨b, off + k * 3 + 1, none⟩ = some (.string L[k].1) ∧ w.cell? ⟨b, off + k * 3 + 2, none⟩ = some (.int .i64 L[k].2.2) := by
  have h1 := St.flat_at (enc := encT) encT_len L k hk 0 (by omega)
  have h2 := St.flat_at (enc := encT) encT_len L k hk 1 (by omega)
  have h3 := St.flat_at (enc := encT) encT_len L k hk 2 (by omega)
  obtain ⟨b, off, e, hb, hc⟩ := h (fun e => by rw [show L.flatMap encT = [] from e] at h1; simp [encT] at h1)
  exact ⟨b, off, e, hb, hc _ _ h1, hc _ _ h2, hc _ _ h3⟩
theorem ap1_g (d : Bool) (s : ByteArray) (z : Int) (w : World) :
    Calls Tryd.prog 56 #[.agg #[.bool d, .string s, .int .i64 z]] w fun e w' => e = .returned (.string s) ∧ ∃ q os', w' = grow (w.drewN q) os' := by
  go_enter Tryd.func56, Tryd.ntmps56
  go_wp2
  go_ret
  exact ⟨rfl, 0, _, alloc_eq_grow _ _⟩
set_option maxHeartbeats 4000000 in
set_option maxRecDepth 100000 in
theorem latestT_g (d f : Bool) (s t : ByteArray) (y z : Int) (B : Nat) (w : World) (hB : w.cell? ⟨B, 0, none⟩ = some (.func (.func 56) #[] #[])) :
    Calls Tryd.prog 79 #[.agg #[.bool d, .string s, .int .i64 y], .agg #[.bool f, .string t, .int .i64 z], .pointer (some ⟨B, 0, none⟩)] w fun e w' => e = .returned (.int .i64 (St.cmpN s t)) ∧ ∃ q os', w' = grow (w.drewN q) os' := by
  have mixed : Tryd.prog.follows .mixedOrders = true := by kernel_rfl
  have hlt : B < w.heap.size := World.block_lt_of_cell? w _ hB
  go_enter Tryd.func79, Tryd.ntmps79
  go_wp2_with fail
  obtain ⟨W, hW⟩ : ∃ W, W = (w.alloc (.cells #[.bool d, .string s, .int .i64 y] 63)).alloc (.cells #[.bool f, .string t, .int .i64 z] 63) := ⟨_, rfl⟩
  have HWG := Lib.hid (show W = grow w (#[.cells #[.bool d, .string s, .int .i64 y] 63] ++ #[.cells #[.bool f, .string t, .int .i64 z] 63]) by rw [hW, alloc_eq_grow, alloc_eq_grow, grow_grow])
  have hs : W.heap.size = w.heap.size + 2 := by rw [hW]; simp
  have f0 : ∀ n os, (grow (W.drewN n) os).cell? ⟨B, 0, none⟩ = some (.func (.func 56) #[] #[]) := cell_grown (by show B < _; omega) (by rw [hW]; exact Lib.cell?_alloc_some _ (Lib.cell?_alloc_some _ hB))
  have f1 : ∀ n os, (grow (W.drewN n) os).cell? ⟨w.heap.size, 0, none⟩ = some (.bool d) := cell_grown (by show w.heap.size < _; omega) (by rw [hW]; simp)
  have f2 : ∀ n os, (grow (W.drewN n) os).cell? ⟨w.heap.size, 1, none⟩ = some (.string s) := cell_grown (by show w.heap.size < _; omega) (by rw [hW]; simp)
  have f3 : ∀ n os, (grow (W.drewN n) os).cell? ⟨w.heap.size, 2, none⟩ = some (.int .i64 y) := cell_grown (by show w.heap.size < _; omega) (by rw [hW]; simp)
  have f4 : ∀ n os, (grow (W.drewN n) os).cell? ⟨w.heap.size + 1, 0, none⟩ = some (.bool f) := cell_grown (by show w.heap.size + 1 < _; omega) (by rw [hW]; simp)
  have f5 : ∀ n os, (grow (W.drewN n) os).cell? ⟨w.heap.size + 1, 1, none⟩ = some (.string t) := cell_grown (by show w.heap.size + 1 < _; omega) (by rw [hW]; simp)
  have f6 : ∀ n os, (grow (W.drewN n) os).cell? ⟨w.heap.size + 1, 2, none⟩ = some (.int .i64 z) := cell_grown (by show w.heap.size + 1 < _; omega) (by rw [hW]; simp)
  rw [← hW]
  clear hW hs hB hlt
  generalize w.heap.size = g at f1 f2 f3 f4 f5 f6
  go_quiet_grown (first | (go_at_call 56; refine Calls.grown_of (ap1_g _ _ _ _)) | (go_at_call 61; refine Calls.grown_of (compare_g _ _ _)))
  go_wp2
  go_ret
  exact ⟨rfl, nq, _, by rw [HWG.out]; exact grow_grow (w.drewN nq) _ osq⟩
/-- what the sort asks of the comparison. -/
theorem cmpT_lays (B blk size : Nat) (w : World) (hB : w.cell? ⟨B, 0, none⟩ = some (.func (.func 56) #[] #[])) (hne : B ≠ blk) :
    CmpLays Tryd.prog 79 #[.pointer (some ⟨B, 0, none⟩)] encT 3 St.cfP blk 0 size w := fun m os dk _ x y => by
  have hlt : B < w.heap.size := World.block_lt_of_cell? w _ hB
  refine latestT_g x.2.1 y.2.1 x.1 y.1 x.2.2 y.2.2 B _ ?_
  unfold sortWorldK
  rw [cell?_grow _ _ _ (by rw [size_putRowK]; exact hlt), cell?_putRowK_other encT 3 _ blk 0 dk _ (by exact hne)]
  exact hB
set_option maxHeartbeats 2000000 in
set_option maxRecDepth 100000 in
theorem cloneT_any (A : Option Addr) (n c : Nat) (l : List Tp) (w : World) (hn : n = l.length) (hb : n ≤ 1000000000000) (hA0 : A = none → n = 0 ∧ c = 0) (ha : At w A (tv l)) :
    Calls Tryd.prog 77 #[.slice A n c] w fun e w' => ∃ v, e = .returned v ∧ w'.ownsRow w.heap.size 63 3 v n (tv l) ∧ Below w.heap.size w w' := by
  have hl := tv_len l
  rw [← hn] at hl
  clear hn
  have HL := Lib.hid hl
  have HA := Lib.hid ha
  clear hl ha
  obtain ⟨i0, hi, hz0, hz1, hz2⟩ := info_parts infoPStp
  have q22 : ∀ (w : World) (a : Option Addr) (n c n' c' : Nat), (binOp .eql 55 (.slice a n c) (.slice none n' c')).run Tryd.prog w = .ok (.bool a.isNone) w := fun w a n c n' c' => Lib.run_eql_slice_nil w _ _ a n c n' c' Tryd.underlying55
  cases A with
  | none =>
    obtain ⟨rfl, rfl⟩ := hA0 rfl
    go_enter Tryd.func77, Tryd.ntmps77
    go_wp2
    go_ret
    refine ⟨_, rfl, ?_, Below.refl _ _⟩
    have h0 : tv l = [] := List.eq_nil_of_length_eq_zero (by simpa using HL.out)
    rw [h0]
    exact World.ownsRow_nil _ _ _ _
  | some a =>
    go_enter Tryd.func77, Tryd.ntmps77
    go_wp2_with (at_builtin; refine wpList_append_at rfl _ _ 55 rfl w.heap.size 63 i0 _ 3 32 Tryd.underlying55 hi hz0 hz1 hz2 rfl (by decide) _ 0 [] rfl (own_made w _ rfl (Nat.le_refl _)) (some a) n c (tv l) rfl (fun h => nomatch h) HL.out (HA.out.alloc _) (tv_one l) ?_ ?_ ?_ ?_)
    · unfold maxLen; omega
    · omega
    · simp
    · intro v w1 hown hgrow
      go_wp2
      go_ret
      refine ⟨v, rfl, by simpa using hown, ?_⟩
      exact ((Below.refl _ w).alloc (Nat.le_refl _) _).grown hgrow (by simp) (by intro k hk; simp [Value.ownBlock] at hk; omega)
/-- the library's stable sort at a row of one's own. -/
theorem sortT_own (B g n c base : Nat) (l : List Tp) (w : World) (hB : w.cell? ⟨B, 0, none⟩ = some (.func (.func 56) #[] #[])) (hne : B ≠ g) (hb : n ≤ 10000000000)
    (hown : w.ownsRow base 63 3 (.slice (some ⟨g, 0, none⟩) n c) n (tv l)) (hn : n = l.length) (D : Nat) (hD : D ≤ g) (hDw : D ≤ w.heap.size) :
    Calls Tryd.prog 78 #[.slice (some ⟨g, 0, none⟩) n c, .func (.func 79) #[] #[.pointer (some ⟨B, 0, none⟩)]] w fun e w' =>
      e = .returned (.tuple #[]) ∧ ∃ l' : List Tp, l'.length = n ∧ St.lasts l' = ofP l ∧ At w' (some ⟨g, 0, none⟩) (tv l') ∧ Below D w w' ∧ (g < w'.heap.size) ∧ w'.cell? ⟨B, 0, none⟩ = some (.func (.func 56) #[] #[]) := by
  subst hn
  obtain ⟨hH, hg⟩ := St.holds_of_own (enc := encT) (k := 3) encT_len hown
  have hlt : B < w.heap.size := World.block_lt_of_cell? w _ hB
  have hs := St.SI.sorts (nm := (Prod.fst : Tp → ByteArray)) encT St.cfP St.swoP St.neP 79 #[.pointer (some ⟨B, 0, none⟩)] g 0 c l.toArray w
    (enters_of Tryd.func79 (by kernel_rfl) rfl) (cmpT_lays B g l.toArray.size w hB hne) ⟨encT_len, encT_one, hH, hg⟩ (by simp; omega)
  rw [show l.toArray.size = l.length from by simp] at hs
  refine hs.mono ?_
  rintro e w' ⟨rfl, d', hk, hs', hw⟩
  have hsz : d'.size = l.length := by have := hk.size; simpa using this
  have hle : g < w'.heap.size := hw.lt hg
  refine ⟨rfl, d'.toList, by simpa using hsz, ?_, ?_, St.swk_below hw hD hDw, hle, ?_⟩
  · have := St.sorted_map (d := l.toArray) (d' := d') (by simpa using hk) (by simpa using hs')
    simpa using this
  · exact St.at_of_holds (enc := encT) (k := 3) encT_len (hw.holds hg hH (by simpa using hsz)) hle
  · obtain ⟨m, os, rfl⟩ := hw
    unfold sortWorldK
    rw [cell?_grow _ _ _ (by rw [size_putRowK]; exact hlt), cell?_putRowK_other encT 3 _ g 0 d' _ (by exact hne)]
    exact hB
/-- .. and at nil. -/
theorem sortT_any (B n base : Nat) (v : Value) (l : List Tp) (w : World) (hB : w.cell? ⟨B, 0, none⟩ = some (.func (.func 56) #[] #[])) (hne : B < base) (hb : n ≤ 10000000000)
    (hown : w.ownsRow base 63 3 v n (tv l)) (hn : n = l.length) (hbase : base ≤ w.heap.size) :
    Calls Tryd.prog 78 #[v, .func (.func 79) #[] #[.pointer (some ⟨B, 0, none⟩)]] w fun e w' =>
      e = .returned (.tuple #[]) ∧ ∃ (l' : List Tp) (A1 : Option Addr) (c1 : Nat), v = .slice A1 n c1 ∧ l'.length = n ∧ St.lasts l' = ofP l ∧ At w' A1 (tv l') ∧ Below base w w' ∧ (∀ b off, A1 = some ⟨b, off, none⟩ → b < w'.heap.size) ∧ w'.cell? ⟨B, 0, none⟩ = some (.func (.func 56) #[] #[]) := by
  rcases hown.2 with ⟨rfl, rfl⟩ | ⟨g, c, cur, rfl, hg, _⟩
  · refine (St.SI.sorts_none none 0 (.func (.func 79) #[] #[.pointer (some ⟨B, 0, none⟩)]) w).mono ?_
    rintro e w' ⟨rfl, rfl⟩
    have hl : l = [] := List.eq_nil_of_length_eq_zero hn.symm
    subst hl
    exact ⟨rfl, [], none, 0, rfl, rfl, rfl, At.nil _ _, Below.refl _ _, (fun b off h => nomatch h), hB⟩
  · refine (sortT_own B g n c base l w hB (by omega) hb hown hn base hg hbase).mono ?_
    rintro e w' ⟨rfl, l', h1, h2, h3, h4, h5, h6⟩
    exact ⟨rfl, l', _, c, rfl, h1, h2, h3, h4, (fun b off h => by injection h with h; injection h with h; omega), h6⟩
end Go.Proofs.YtibcfmfihcgijaaDoor
