/- Contract of wheel's List: the timers in their order. -/
import Derived.Test.YtdbgmogllncffaaWhWB
import Derived.Test.YtdbgmogllncffaaHold
import Derived.Test.YtdbgmogllncffaaAppAt
import Derived.Test.YtdbgmogllncffaaShelf
namespace Go.Proofs.Ytdbgmogllncffaa
open Go.RowKit Go.Sort Wh
instance : Inhabited Tm := ⟨dft⟩
theorem lt_cf (x y : Tm) : ltOf cfT x y = decide (lt x y) := by
  unfold ltOf
  rw [Bool.eq_iff_iff]
  simp [cf_lt]
theorem swoT : SWO (ltOf cfT) where
  irrefl x := by rw [lt_cf]; simp [lt]
  trans x y z h1 h2 := by rw [lt_cf] at *; simp only [decide_eq_true_eq] at *; unfold lt at *; omega
  ntrans x y z h1 h2 := by rw [lt_cf] at *; simp only [decide_eq_false_iff_not] at *; unfold lt at *; omega
theorem cmp_lays (blk size : Nat) (w : World) : CmpLays Try.prog 25 #[] tc 4 cfT blk 0 size w := fun _ _ _ _ x y => inOrder_g x y _
def Srt (L : List Tm) : Prop := L.Pairwise lt
theorem srt_unique : ∀ {L M : List Tm}, Srt L → L.Perm M → M.Pairwise (fun x y => ¬ lt y x) → L = M
  | [], M, _, hp, _ => (List.perm_nil.1 hp.symm).symm
  | a :: L, M, hs, hp, hm => by
    cases M with
    | nil => exact absurd hp.length_eq (by simp)
    | cons b M =>
      have hs' := List.pairwise_cons.1 hs
      have hm' := List.pairwise_cons.1 hm
      have hab : a = b := by
        rcases List.mem_cons.1 (hp.mem_iff.2 (List.mem_cons_self (a := b) (l := M))) with h1 | h1
        · exact h1.symm
        · rcases List.mem_cons.1 (hp.mem_iff.1 (List.mem_cons_self (a := a) (l := L))) with h2 | h2
          · exact h2
          · exact absurd (hs'.1 b h1) (hm'.1 a h2)
      subst hab
      rw [srt_unique hs'.2 hp.cons_inv hm'.2]
theorem sorted_pairwise {d : Array Tm} (h : SortedIn (ltOf cfT) 0 d.size d) : d.toList.Pairwise (fun x y => ¬ lt y x) := by
  rw [List.pairwise_iff_getElem]
  intro i j hi hj hij
  have := h i j (Nat.zero_le _) hij (by simpa using hj)
  rw [lt_cf, decide_eq_false_iff_not] at this
  have e : ∀ k (hk : k < d.size), d[k]! = d[k] := fun k hk => getElem!_pos d k hk
  rw [e i (by simpa using hi), e j (by simpa using hj)] at this
  simpa using this
set_option maxHeartbeats 2000000 in
set_option maxRecDepth 100000 in
theorem clone_any (A : Option Addr) (n c : Nat) (xs : List Tm) (w : World) (hn : n = xs.length) (hb : n ≤ 1000000) (hA0 : A = none → n = 0 ∧ c = 0) (ha : At w A (tv xs)) :
    Calls Try.prog 23 #[.slice A n c] w fun e w' => ∃ v, e = .returned v ∧ w'.ownsRow w.heap.size 47 4 v n (tv xs) ∧ Below w.heap.size w w' := by
  have hl := tv_len xs
  rw [← hn] at hl
  clear hn
  have HL := Lib.hid hl
  have HA := Lib.hid ha
  clear hl ha
  obtain ⟨i0, hi, hz0, hz1, hz2⟩ := info_parts infoTm
  have q22 : ∀ (w : World) (a : Option Addr) (n c n' c' : Nat), (binOp .eql 38 (.slice a n c) (.slice none n' c')).run Try.prog w = .ok (.bool a.isNone) w := fun w a n c n' c' => Lib.run_eql_slice_nil w _ _ a n c n' c' Try.underlying38
  cases A with
  | none =>
    obtain ⟨rfl, rfl⟩ := hA0 rfl
    go_enter Try.func23, Try.ntmps23
    go_wp2
    go_ret
    refine ⟨_, rfl, ?_, Below.refl _ _⟩
    have h0 : tv xs = [] := List.eq_nil_of_length_eq_zero (by simpa using HL.out)
    rw [h0]
    exact World.ownsRow_nil _ _ _ _
  | some a =>
    go_enter Try.func23, Try.ntmps23
    go_wp2_with (at_builtin; refine wpList_append_at rfl _ _ 38 rfl w.heap.size 47 i0 _ 4 32 Try.underlying38 hi hz0 hz1 hz2 rfl (by decide) _ 0 [] rfl (own_made w _ rfl (Nat.le_refl _)) (some a) n c (tv xs) rfl (fun h => nomatch h) HL.out (HA.out.alloc _) (tv_one xs) ?_ ?_ ?_ ?_)
    · unfold maxLen; omega
    · omega
    · simp
    · intro v w1 hown hgrow
      go_wp2
      go_ret
      refine ⟨v, rfl, by simpa using hown, ?_⟩
      exact ((Below.refl _ w).alloc (Nat.le_refl _) _).grown hgrow (by simp) (by intro k hk; simp [Value.ownBlock] at hk; omega)
/-- the library's sort at a row of one's own. -/
theorem sort_own (n D : Nat) (v : Value) (xs L : List Tm) (w : World) (hown : w.ownsRow D 47 4 v n (tv xs)) (hn : n = xs.length) (hb : n ≤ 1000000) (hD : D ≤ w.heap.size) (hs : Srt L) (hp : L.Perm xs) :
    Calls Try.prog 24 #[v, .func (.func 25) #[] #[]] w fun e w' => e = .returned (.tuple #[]) ∧ ∃ A c, v = .slice A n c ∧ At w' A (tv L) ∧ Below D w w' := by
  rcases hown.2 with ⟨rfl, rfl⟩ | ⟨g0, c, cur, rfl, hg0, _⟩
  · have h := AnyF.slices_SortFunc_none Try.sortTm none 0 (.func (.func 25) #[] #[]) w
    refine h.mono ?_
    rintro e w' ⟨rfl, rfl⟩
    have hx : xs = [] := List.eq_nil_of_length_eq_zero hn.symm
    rw [hx] at hp
    have hL : L = [] := List.perm_nil.1 hp
    exact ⟨rfl, none, 0, rfl, by rw [hL]; exact At.nil _ _, Below.refl _ _⟩
  · subst hn
    obtain ⟨hH, hg⟩ := St.holds_of_own (enc := tc) (k := 4) tc_len hown
    have h := AnyQ.slices_SortFunc Try.sortTm 4 Try.isAgg47 Try.sizeOf47 tc tc_len tc_one cfT swoT 25 #[] g0 0 c xs.toArray w (enters_of Try.func25 (by kernel_rfl) rfl) (cmp_lays g0 xs.toArray.size w) hH hg (by simp; omega)
    rw [show xs.toArray.size = xs.length from by simp] at h
    refine h.mono ?_
    rintro e w' ⟨rfl, d', m, os, hpm, hso, hw⟩
    have hsz : d'.size = xs.length := by have := hpm.1; simpa using this
    have hperm : d'.toList.Perm xs := by
      have h1 := hpm.2.2
      have e1 : d'.extract 0 xs.length = d' := by rw [← hsz]; simp
      have e2 : xs.toArray.extract 0 xs.length = xs.toArray := by simp
      rw [e1, e2] at h1
      simpa using h1
    have hd : L = d'.toList := srt_unique hs (hp.trans hperm.symm) (sorted_pairwise (by rw [hsz]; exact hso))
    have hsw : SWK tc 4 w g0 0 d' w' := ⟨m, os, hw⟩
    refine ⟨rfl, some ⟨g0, 0, none⟩, c, rfl, ?_, St.swk_below hsw hg0 hD⟩
    have h2 := St.at_of_holds (enc := tc) (k := 4) tc_len (hsw.holds hg hH (by simpa using hsz)) (hsw.lt hg)
    rw [← hd] at h2
    exact h2
theorem at_pl {w : World} {b : Nat} {rv mv : Value} {last most : Int} {xs : List Tm} (h : Pl w b rv mv last most xs) : ∃ A c, rv = .slice A xs.length c ∧ (A = none → xs.length = 0 ∧ c = 0) ∧ At w A (tv xs) := by
  obtain ⟨A, c, rfl, _, _⟩ := own_slice h.row
  exact ⟨A, c, rfl, own_addr h.row, At.own h.row⟩
set_option maxHeartbeats 1000000 in
theorem list_any (b : Nat) (rv mv : Value) (last most : Int) (xs L : List Tm) (w : World) (h : Pl w b rv mv last most xs) (hs : Srt L) (hp : L.Perm xs) :
    Calls Try.prog 12 #[.pointer (some ⟨b, 0, none⟩)] w fun e w' => ∃ A c, e = .returned (.slice A L.length c) ∧ At w' A (tv L) ∧ Below w.heap.size w w' := by
  have hf := h.few
  have hll := hp.length_eq
  obtain ⟨A, c, rfl, hA0, hat⟩ := at_pl h
  have f0 : w.cell? ⟨b, 0, none⟩ = some (.slice A xs.length c) := h.blk.cell 0 rfl
  have C := Lib.hid (clone_any A xs.length c xs w rfl (by omega) hA0 hat)
  have CS := Lib.hid (fun (v : Value) (W : World) (ho : W.ownsRow w.heap.size 47 4 v xs.length (tv xs)) (hsz : w.heap.size ≤ W.heap.size) => sort_own xs.length w.heap.size v xs L W ho rfl (by omega) hsz hs hp)
  clear h hat hA0 hs hp
  rw [hll]
  clear hll hf
  generalize xs.length = N at *
  go_enter Try.func12, Try.ntmps12
  go_wp2_with fail
  refine C.out.mono ?_
  rintro e w1 ⟨v, rfl, ho, hb1⟩
  have CV := Lib.hid (CS.out v w1 ho hb1.size)
  have HB1 := Lib.hid hb1
  obtain ⟨A1, c1, rfl, _, _⟩ := own_slice ho
  clear ho hb1 CS C
  go_wp2_with fail
  refine CV.out.mono ?_
  rintro e w2 ⟨rfl, A2, c2, hv, hat2, hb2⟩
  injection hv with e1 _ e2
  subst e1 e2
  have HAT := Lib.hid hat2
  have HB2 := Lib.hid (HB1.out.trans hb2)
  clear hat2 hb2 CV HB1
  go_wp2
  go_ret
  exact ⟨_, _, rfl, HAT.out, HB2.out⟩
end Go.Proofs.Ytdbgmogllncffaa
