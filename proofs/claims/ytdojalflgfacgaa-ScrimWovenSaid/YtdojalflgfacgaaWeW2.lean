/- Contract of the document's Put. -/
import Derived.Test.YtdojalflgfacgaaWeW1
namespace Go.Proofs.Ytdojalflgfacgaa
open Go.RowKit We
theorem putAt_len (l : List Int) (i : Nat) (x : Int) : (putAt l i x).length = l.length + 1 := by unfold putAt; simp; omega
set_option maxHeartbeats 2000000 in
theorem rput_any (A : Option Addr) (n c i : Nat) (l : List Int) (x : Int) (w : World) (hn : n = l.length) (hb : n ≤ 10000) (hc : n ≤ c) (hc2 : c ≤ maxLen) (hA : A = none → n = 0 ∧ c = 0) (ha : At w A (iv l)) (hi : i ≤ n) :
    Calls Try.prog 30 #[.slice A n c, .int .i64 i, .int .i64 x] w fun e w' => ∃ v, e = .returned v ∧ w'.ownsRow w.heap.size 3 1 v (putAt l i x).length (iv (putAt l i x)) ∧ Below w.heap.size w w' := by
  unfold maxLen at hc2
  have HPL := Lib.hid (putAt_len l i x)
  obtain ⟨i0, hi0, hz0, hz1, hz2⟩ := info_parts infoIntW
  have HO0 := Lib.hid (own_made (base := w.heap.size) (e := 3) (size := 1) w w.heap.size rfl (Nat.le_refl _))
  have HA0 := Lib.hid (ha.alloc (.cells #[] 3))
  cases A with
  | none =>
    obtain ⟨rfl, rfl⟩ := hA rfl
    obtain rfl : i = 0 := by omega
    have HL : Hid (l = []) := List.eq_nil_of_length_eq_zero hn.symm
    clear hA ha hn HA0
    go_enter Try.func30, Try.ntmps30
    go_wp2_with (first
      | (at_builtin; refine wpList_append_at rfl (.tmp 8) (.tmp 11) 22 rfl w.heap.size 3 i0 (.int .i64 0) 1 8 Try.underlying22 hi0 hz0 hz1 hz2 rfl (by decide) _ 0 [] rfl HO0.out none 0 0 [] rfl (fun _ => ⟨rfl, rfl⟩) rfl (At.nil _ _) (fun u hu => nomatch hu) (by unfold maxLen; omega) (by omega) (by simp) ?_; intro v1 w1 hown1 hgrow1; have HO1 := Lib.hid hown1; have HG1 := Lib.hid hgrow1; have hs1 := hgrow1.size; obtain ⟨A1, e1, rfl, _, _⟩ := own_slice hown1; clear hown1 hgrow1)
      | (at_builtin; refine wpList_append_own _ rfl (.tmp 13) (.tmp 15) 22 rfl w.heap.size 3 i0 (.int .i64 0) 1 8 Try.underlying22 hi0 hz0 hz1 hz2 rfl (by decide) _ _ _ rfl (HO1.out.alloc _) ⟨_, 0, none⟩ 1 1 [.int .i64 x] rfl rfl (cell_one_new _ _ _) (iv_one [x]) (by unfold maxLen; omega) (by omega) (by simp at hs1 ⊢; omega) ?_; intro v2 w2 hown2 hgrow2 _hnil2; have HO2 := Lib.hid hown2; have HG2 := Lib.hid hgrow2; have hs2 := hgrow2.size; obtain ⟨A2, e2, rfl, _, _⟩ := own_slice hown2; clear hown2 hgrow2 _hnil2)
      | (at_builtin; refine wpList_append_at rfl (.tmp 17) (.tmp 20) 22 rfl w.heap.size 3 i0 (.int .i64 0) 1 8 Try.underlying22 hi0 hz0 hz1 hz2 rfl (by decide) _ _ _ rfl HO2.out none 0 0 [] rfl (fun _ => ⟨rfl, rfl⟩) rfl (At.nil _ _) (fun u hu => nomatch hu) (by unfold maxLen; omega) (by omega) (by simp at hs1 hs2 ⊢; omega) ?_; intro v3 w3 hown3 hgrow3; have HO3 := Lib.hid hown3; have HG3 := Lib.hid hgrow3; clear hown3 hgrow3))
    go_ret
    have B1 := (below_alloc w (.cells #[] 3)).grown HG1.out (by simp) (own_from HO0.out)
    have B2 := (B1.alloc B1.size (.cells #[.int .i64 x] 3)).grown HG2.out (by simp at hs1 ⊢; omega) (own_from HO1.out)
    have B3 := B2.grown HG3.out B2.size (own_from HO2.out)
    exact ⟨_, rfl, by have h9 := HO3.out; rw [HPL.out, HL.out]; simpa [putAt, iv] using h9, B3⟩
  | some a =>
    have HN := Lib.hid hn
    clear hA hn
    rcases Nat.eq_zero_or_pos n with h0 | h0
    · subst h0
      obtain rfl : i = 0 := by omega
      have HL : Hid (l = []) := List.eq_nil_of_length_eq_zero HN.out.symm
      have hif : ∀ z : Option Addr, True := fun _ => trivial
      clear ha hif HA0
      go_enter Try.func30, Try.ntmps30
      go_wp2_with (first
      | (at_builtin; refine wpList_append_at rfl (.tmp 8) (.tmp 11) 22 rfl w.heap.size 3 i0 (.int .i64 0) 1 8 Try.underlying22 hi0 hz0 hz1 hz2 rfl (by decide) _ 0 [] rfl HO0.out _ _ _ (iv []) rfl (fun h => nomatch h) rfl (At.nil _ _) (iv_one _) (by unfold maxLen; omega) (by omega) (by simp) ?_; intro v1 w1 hown1 hgrow1; have HO1 := Lib.hid hown1; have HG1 := Lib.hid hgrow1; have hs1 := hgrow1.size; obtain ⟨A1, e1, rfl, _, _⟩ := own_slice hown1; clear hown1 hgrow1)
      | (at_builtin; refine wpList_append_own _ rfl (.tmp 13) (.tmp 15) 22 rfl w.heap.size 3 i0 (.int .i64 0) 1 8 Try.underlying22 hi0 hz0 hz1 hz2 rfl (by decide) _ _ _ rfl (HO1.out.alloc _) ⟨_, 0, none⟩ 1 1 [.int .i64 x] rfl rfl (cell_one_new _ _ _) (iv_one [x]) (by unfold maxLen; omega) (by omega) (by simp at hs1 ⊢; omega) ?_; intro v2 w2 hown2 hgrow2 _hnil2; have HO2 := Lib.hid hown2; have HG2 := Lib.hid hgrow2; have hs2 := hgrow2.size; obtain ⟨A2, e2, rfl, _, _⟩ := own_slice hown2; have HT2 := Lib.hid (At.nil w2 none); clear hown2 hgrow2 _hnil2)
      | (at_builtin; refine wpList_append_at rfl (.tmp 17) (.tmp 20) 22 rfl w.heap.size 3 i0 (.int .i64 0) 1 8 Try.underlying22 hi0 hz0 hz1 hz2 rfl (by decide) _ _ _ rfl HO2.out _ _ _ (iv []) rfl (fun h => by first | nomatch h | (split at h <;> nomatch h)) rfl (At.nil _ _) (iv_one _) (by unfold maxLen; omega) (by omega) (by simp at hs1 hs2 ⊢; omega) ?_; intro v3 w3 hown3 hgrow3; have HO3 := Lib.hid hown3; have HG3 := Lib.hid hgrow3; clear hown3 hgrow3))
      go_ret
      have B1 := (below_alloc w (.cells #[] 3)).grown HG1.out (by simp) (own_from HO0.out)
      have B2 := (B1.alloc B1.size (.cells #[.int .i64 x] 3)).grown HG2.out (by simp at hs1 ⊢; omega) (own_from HO1.out)
      have B3 := B2.grown HG3.out B2.size (own_from HO2.out)
      exact ⟨_, rfl, by have h9 := HO3.out; rw [HPL.out]; unfold putAt; rw [iv_app]; have hl := HL.out; subst hl; simpa [iv] using h9, B3⟩
    · obtain ⟨b, off, e1, hb1, _⟩ := ha.one (iv_at l 0 (by have := HN.out; omega))
      injection e1 with e1
      subst e1
      have HT0 := Lib.hid ha
      have hil : i ≤ l.length := by have := HN.out; omega
      have hte : (iv (l.take i)).length = i := by rw [iv_len]; simp; omega
      have hde : (iv (l.drop i)).length = n - i := by rw [iv_len]; simp; have := HN.out; omega
      have HTE := Lib.hid hte
      have HDE := Lib.hid hde
      clear ha hte hde
      have HTA : Hid (At (w.alloc (.cells #[] 3)) (some ⟨b, off, none⟩) (iv (l.take i))) := by
        show At _ _ _
        rw [iv_take]
        exact (HT0.out.alloc _).take i
      have hcut := HT0.out.cut' i c (by rw [iv_len]; have := HN.out; omega)
      rw [← iv_drop] at hcut
      have HFIN : Hid (∀ (W : World) (v : Value) (k : Nat), W.ownsRow w.heap.size 3 1 v k (iv (l.take i) ++ [.int .i64 x] ++ iv (l.drop i)) → k = n + 1 → W.ownsRow w.heap.size 3 1 v (putAt l i x).length (iv (putAt l i x))) := by
        show ∀ (W : World) (v : Value) (k : Nat), _
        intro W v k h hk
        have e : iv (putAt l i x) = iv (l.take i) ++ [.int .i64 x] ++ iv (l.drop i) := by unfold putAt; rw [iv_app]; simp [iv]
        rw [e, HPL.out, ← HN.out, ← hk]
        exact h
      by_cases hci : c = i
      · rw [if_pos hci] at hcut
        have HTB := Lib.hid hcut
        obtain rfl : i = n := by omega
        obtain rfl : i = c := hci.symm
        clear hcut
        go_enter Try.func30, Try.ntmps30
        go_wp2_with (first
      | (at_builtin; refine wpList_append_at rfl (.tmp 8) (.tmp 11) 22 rfl w.heap.size 3 i0 (.int .i64 0) 1 8 Try.underlying22 hi0 hz0 hz1 hz2 rfl (by decide) _ 0 [] rfl HO0.out (some ⟨b, off, none⟩) i _ (iv (l.take i)) rfl (fun h => nomatch h) (by rw [HTE.out]; omega) HTA.out (iv_one _) (by unfold maxLen; omega) (by omega) (by simp) ?_; intro v1 w1 hown1 hgrow1; simp only [Nat.zero_add, List.nil_append] at hown1; have HO1 := Lib.hid hown1; have HB1 := Lib.hid ((below_alloc w (.cells #[] 3)).grown hgrow1 (by simp) (own_from HO0.out)); have hs1 := HB1.out.size; obtain ⟨A1, e1, rfl, _, _⟩ := own_slice hown1; clear hown1 hgrow1)
      | (at_builtin; refine wpList_append_own _ rfl (.tmp 13) (.tmp 15) 22 rfl w.heap.size 3 i0 (.int .i64 0) 1 8 Try.underlying22 hi0 hz0 hz1 hz2 rfl (by decide) _ _ _ rfl (HO1.out.alloc _) ⟨_, 0, none⟩ 1 1 [.int .i64 x] rfl rfl (cell_one_new _ _ _) (iv_one [x]) (by unfold maxLen; omega) (by omega) (by simp; omega) ?_; intro v2 w2 hown2 hgrow2 _hnil2; have HO2 := Lib.hid hown2; have HB2 := Lib.hid ((HB1.out.alloc hs1 _).grown hgrow2 (by simp; omega) (own_from HO1.out)); have hs2 := HB2.out.size; obtain ⟨A2, e2, rfl, _, _⟩ := own_slice hown2; have HT2 := Lib.hid (HTB.out.below HB2.out); clear hown2 hgrow2 _hnil2)
      | (at_builtin; refine wpList_append_at rfl (.tmp 17) (.tmp 20) 22 rfl w.heap.size 3 i0 (.int .i64 0) 1 8 Try.underlying22 hi0 hz0 hz1 hz2 rfl (by decide) _ _ _ rfl HO2.out (some ⟨b, off, none⟩) _ _ (iv (l.drop i)) rfl (fun h => nomatch h) (by rw [HDE.out]; omega) HT2.out (iv_one _) (by unfold maxLen; omega) (by omega) hs2 ?_; intro v3 w3 hown3 hgrow3; have HO3 := Lib.hid hown3; have HB3 := Lib.hid (HB2.out.grown hgrow3 hs2 (own_from HO2.out)); clear hown3 hgrow3))
        go_ret
        exact ⟨_, rfl, HFIN.out _ _ _ HO3.out (by omega), HB3.out⟩
      · rw [if_neg hci] at hcut
        have HTB := Lib.hid hcut
        have hcn : ¬ (c : Int) = (i : Int) := by omega
        clear hcut
        go_enter Try.func30, Try.ntmps30
        go_wp2_with (first
      | (at_builtin; refine wpList_append_at rfl (.tmp 8) (.tmp 11) 22 rfl w.heap.size 3 i0 (.int .i64 0) 1 8 Try.underlying22 hi0 hz0 hz1 hz2 rfl (by decide) _ 0 [] rfl HO0.out (some ⟨b, off, none⟩) i _ (iv (l.take i)) rfl (fun h => nomatch h) (by rw [HTE.out]; omega) HTA.out (iv_one _) (by unfold maxLen; omega) (by omega) (by simp) ?_; intro v1 w1 hown1 hgrow1; simp only [Nat.zero_add, List.nil_append] at hown1; have HO1 := Lib.hid hown1; have HB1 := Lib.hid ((below_alloc w (.cells #[] 3)).grown hgrow1 (by simp) (own_from HO0.out)); have hs1 := HB1.out.size; obtain ⟨A1, e1, rfl, _, _⟩ := own_slice hown1; clear hown1 hgrow1)
      | (at_builtin; refine wpList_append_own _ rfl (.tmp 13) (.tmp 15) 22 rfl w.heap.size 3 i0 (.int .i64 0) 1 8 Try.underlying22 hi0 hz0 hz1 hz2 rfl (by decide) _ _ _ rfl (HO1.out.alloc _) ⟨_, 0, none⟩ 1 1 [.int .i64 x] rfl rfl (cell_one_new _ _ _) (iv_one [x]) (by unfold maxLen; omega) (by omega) (by simp; omega) ?_; intro v2 w2 hown2 hgrow2 _hnil2; have HO2 := Lib.hid hown2; have HB2 := Lib.hid ((HB1.out.alloc hs1 _).grown hgrow2 (by simp; omega) (own_from HO1.out)); have hs2 := HB2.out.size; obtain ⟨A2, e2, rfl, _, _⟩ := own_slice hown2; have HT2 := Lib.hid (HTB.out.below HB2.out); clear hown2 hgrow2 _hnil2)
      | (at_builtin; refine wpList_append_at rfl (.tmp 17) (.tmp 20) 22 rfl w.heap.size 3 i0 (.int .i64 0) 1 8 Try.underlying22 hi0 hz0 hz1 hz2 rfl (by decide) _ _ _ rfl HO2.out (some ⟨b, off + i, none⟩) _ _ (iv (l.drop i)) rfl (fun h => nomatch h) (by rw [HDE.out]; omega) HT2.out (iv_one _) (by unfold maxLen; omega) (by omega) hs2 ?_; intro v3 w3 hown3 hgrow3; have HO3 := Lib.hid hown3; have HB3 := Lib.hid (HB2.out.grown hgrow3 hs2 (own_from HO2.out)); clear hown3 hgrow3))
        go_ret
        exact ⟨_, rfl, HFIN.out _ _ _ HO3.out (by omega), HB3.out⟩
end Go.Proofs.Ytdojalflgfacgaa
