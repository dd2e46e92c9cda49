/- As PrS1, at pairs of texts (made by gen_str.py). -/
import Derived.Test.YtcboeehmhpkodaaPrS1
import Derived.Test.YtcboeehmhpkodaaPrS0
namespace Go.Proofs.Ytcboeehmhpkodaa
open Go.RowKit Go.Sort M
abbrev ParS := BA × BA
theorem infoPParS : (Try.prog.info? 42).map (fun i => (i.zero, i.size, i.bytes)) = some (some (.agg #[.string { data := #[] }, .string { data := #[] }]), 2, 32) := by kernel_rfl
def encPS (p : ParS) : List Value := [.string p.1, .string p.2]
theorem encP_lenS (p : ParS) : (encPS p).length = 2 := rfl
theorem encP_oneS (p : ParS) : ∀ v ∈ encPS p, v.oneCell' = true := by
  intro v hv
  simp [encPS] at hv
  rcases hv with rfl | rfl <;> rfl
def pvS (l : List ParS) : List Value := l.flatMap encPS
theorem pv_lenS (l : List ParS) : (pvS l).length = l.length * 2 := St.flat_len (enc := encPS) encP_lenS l
theorem pv_appS (a b : List ParS) : pvS (a ++ b) = pvS a ++ pvS b := by simp [pvS]
theorem pv_oneS (l : List ParS) : ∀ u ∈ pvS l, u.oneCell' = true := by
  intro u hu
  simp only [pvS, List.mem_flatMap] at hu
  obtain ⟨s, _, h⟩ := hu
  exact encP_oneS s u h
theorem at_pairS {w : World} {A : Option Addr} {L : List ParS} (h : At w A (pvS L)) {k : Nat} (hk : k < L.length) :
    ∃ b off, A = some ⟨b, off, none⟩ ∧ b < w.heap.size ∧ w.cell? ⟨b, off + k * 2, none⟩ = some (.string L[k].1) ∧ w.cell? ⟨b, off + k * 2 + 1, none⟩ = some (.string L[k].2) := by
  have h1 := St.flat_at (enc := encPS) encP_lenS L k hk 0 (by omega)
  have h2 := St.flat_at (enc := encPS) encP_lenS L k hk 1 (by omega)
  obtain ⟨b, off, e, hb, hc⟩ := h (fun e => by rw [show L.flatMap encPS = [] from e] at h1; simp [encPS] at h1)
  exact ⟨b, off, e, hb, hc _ _ h1, hc _ _ h2⟩
theorem pv_flatS (l : List ParS) : pvS l = l.flatMap encPS := rfl
theorem of1_gS (s : ByteArray) (z : ByteArray) (w : World) :
    Calls Try.prog 36 #[.agg #[.string s, .string z]] w fun e w' => e = .returned (.string s) ∧ ∃ q os', w' = grow (w.drewN q) os' := by
  go_enter Try.func36, Try.ntmps36
  go_wp2
  go_ret
  exact ⟨rfl, 0, _, alloc_eq_grow _ _⟩
set_option maxHeartbeats 4000000 in
set_option maxRecDepth 100000 in
theorem latest1_gS (s t : ByteArray) (y z : ByteArray) (B : Nat) (w : World) (hB : w.cell? ⟨B, 0, none⟩ = some (.func (.func 36) #[] #[])) :
    Calls Try.prog 46 #[.agg #[.string s, .string y], .agg #[.string t, .string z], .pointer (some ⟨B, 0, none⟩)] w fun e w' => e = .returned (.int .i64 (St.cmpN s t)) ∧ ∃ q os', w' = grow (w.drewN q) os' := by
  have mixed : Try.prog.follows .mixedOrders = true := by kernel_rfl
  have hlt : B < w.heap.size := World.block_lt_of_cell? w _ hB
  go_enter Try.func46, Try.ntmps46
  go_wp2_with fail
  obtain ⟨W, hW⟩ : ∃ W, W = (w.alloc (.cells #[.string s, .string y] 42)).alloc (.cells #[.string t, .string z] 42) := ⟨_, rfl⟩
  have HWG := Lib.hid (show W = grow w (#[.cells #[.string s, .string y] 42] ++ #[.cells #[.string t, .string z] 42]) by rw [hW, alloc_eq_grow, alloc_eq_grow, grow_grow])
  have hs : W.heap.size = w.heap.size + 2 := by rw [hW]; simp
  have f0 : ∀ n os, (grow (W.drewN n) os).cell? ⟨B, 0, none⟩ = some (.func (.func 36) #[] #[]) := cell_grown (by show B < _; omega) (by rw [hW]; exact Lib.cell?_alloc_some _ (Lib.cell?_alloc_some _ hB))
  have f1 : ∀ n os, (grow (W.drewN n) os).cell? ⟨w.heap.size, 0, none⟩ = some (.string s) := cell_grown (by show w.heap.size < _; omega) (by rw [hW]; simp)
  have f2 : ∀ n os, (grow (W.drewN n) os).cell? ⟨w.heap.size, 1, none⟩ = some (.string y) := cell_grown (by show w.heap.size < _; omega) (by rw [hW]; simp)
  have f3 : ∀ n os, (grow (W.drewN n) os).cell? ⟨w.heap.size + 1, 0, none⟩ = some (.string t) := cell_grown (by show w.heap.size + 1 < _; omega) (by rw [hW]; simp)
  have f4 : ∀ n os, (grow (W.drewN n) os).cell? ⟨w.heap.size + 1, 1, none⟩ = some (.string z) := cell_grown (by show w.heap.size + 1 < _; omega) (by rw [hW]; simp)
  rw [← hW]
  clear hW hs hB hlt
  generalize w.heap.size = g at f1 f2 f3 f4
  go_quiet_grown (first | (go_at_call 36; refine Calls.grown_of (of1_gS _ _ _)) | (go_at_call 47; refine Calls.grown_of (compare_g _ _ _)))
  go_wp2
  go_ret
  exact ⟨rfl, nq, _, by rw [HWG.out]; exact grow_grow (w.drewN nq) _ osq⟩
/-- what the sort asks of the comparison. -/
theorem cmp_laysS (B blk size : Nat) (w : World) (hB : w.cell? ⟨B, 0, none⟩ = some (.func (.func 36) #[] #[])) (hne : B ≠ blk) :
    CmpLays Try.prog 46 #[.pointer (some ⟨B, 0, none⟩)] encPS 2 St.cfP blk 0 size w := fun m os dk _ x y => by
  have hlt : B < w.heap.size := World.block_lt_of_cell? w _ hB
  refine latest1_gS x.1 y.1 x.2 y.2 B _ ?_
  unfold sortWorldK
  rw [cell?_grow _ _ _ (by rw [size_putRowK]; exact hlt), cell?_putRowK_other encPS 2 _ blk 0 dk _ (by exact hne)]
  exact hB
set_option maxHeartbeats 2000000 in
set_option maxRecDepth 100000 in
theorem cloneP_anyS (A : Option Addr) (n c : Nat) (l : List ParS) (w : World) (hn : n = l.length) (hb : n ≤ 1000000000000) (hA0 : A = none → n = 0 ∧ c = 0) (ha : At w A (pvS l)) :
    Calls Try.prog 44 #[.slice A n c] w fun e w' => ∃ v, e = .returned v ∧ w'.ownsRow w.heap.size 42 2 v n (pvS l) ∧ Below w.heap.size w w' := by
  have hl := pv_lenS l
  rw [← hn] at hl
  clear hn
  have HL := Lib.hid hl
  have HA := Lib.hid ha
  clear hl ha
  obtain ⟨i0, hi, hz0, hz1, hz2⟩ := info_parts infoPParS
  have q22 : ∀ (w : World) (a : Option Addr) (n c n' c' : Nat), (binOp .eql 31 (.slice a n c) (.slice none n' c')).run Try.prog w = .ok (.bool a.isNone) w := fun w a n c n' c' => Lib.run_eql_slice_nil w _ _ a n c n' c' Try.underlying31
  cases A with
  | none =>
    obtain ⟨rfl, rfl⟩ := hA0 rfl
    go_enter Try.func44, Try.ntmps44
    go_wp2
    go_ret
    refine ⟨_, rfl, ?_, Below.refl _ _⟩
    have h0 : pvS l = [] := List.eq_nil_of_length_eq_zero (by simpa using HL.out)
    rw [h0]
    exact World.ownsRow_nil _ _ _ _
  | some a =>
    go_enter Try.func44, Try.ntmps44
    go_wp2_with (at_builtin; refine wpList_append_at rfl _ _ 31 rfl w.heap.size 42 i0 _ 2 32 Try.underlying31 hi hz0 hz1 hz2 rfl (by decide) _ 0 [] rfl (own_made w _ rfl (Nat.le_refl _)) (some a) n c (pvS l) rfl (fun h => nomatch h) HL.out (HA.out.alloc _) (pv_oneS l) ?_ ?_ ?_ ?_)
    · unfold maxLen; omega
    · omega
    · simp
    · intro v w1 hown hgrow
      go_wp2
      go_ret
      refine ⟨v, rfl, by simpa using hown, ?_⟩
      exact ((Below.refl _ w).alloc (Nat.le_refl _) _).grown hgrow (by simp) (by intro k hk; simp [Value.ownBlock] at hk; omega)
end Go.Proofs.Ytcboeehmhpkodaa
