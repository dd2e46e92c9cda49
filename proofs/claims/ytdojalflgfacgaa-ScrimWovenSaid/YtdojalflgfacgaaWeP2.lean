/- Contract of slices.Delete of one int, in a row of the call's own. -/
import Derived.Test.YtdojalflgfacgaaWeP1
import Derived.Test.YtdojalflgfacgaaWeL5
import Derived.ArgAppend
import Derived.Lib.SliceRun
namespace Go.Proofs.Ytdojalflgfacgaa
open Go.RowKit We
attribute [-go_sem] Builtin.append_
theorem own_setCells {base : Nat} {e : TypeId} {g n c : Nat} : ∀ (vs : List Value) (w : World) (off : Nat) (xs : List Value), w.ownsRow base e 1 (.slice (some ⟨g, 0, none⟩) n c) n xs → off + vs.length ≤ n →
    (w.setCells g off vs).ownsRow base e 1 (.slice (some ⟨g, 0, none⟩) n c) n (xs.take off ++ vs ++ xs.drop (off + vs.length)) ∧ w.grownBy (w.setCells g off vs) (some g)
  | [], w, off, xs, h, _ => ⟨by show w.ownsRow _ _ _ _ _ _; simpa using h, World.grownBy.refl w _⟩
  | v :: vs, w, off, xs, h, hl => by
    have hx : xs.length = n := by have := h.1; omega
    simp only [List.length_cons] at hl
    obtain ⟨h2, h3⟩ := h.stored off v
    obtain ⟨h4, h5⟩ := own_setCells vs (w.setCell ⟨g, off, none⟩ v) (off + 1) (xs.set off v) h2 (by omega)
    refine ⟨?_, h3.trans h5⟩
    have e1 : (xs.set off v).take (off + 1) = xs.take off ++ [v] := by
      apply List.ext_getElem?
      intro j
      rw [List.getElem?_take]
      by_cases hj : j < off
      · rw [if_pos (by omega), List.getElem?_set_ne (by omega), List.getElem?_append_left (by rw [List.length_take]; omega), List.getElem?_take, if_pos hj]
      · by_cases hj2 : j = off
        · subst hj2
          rw [if_pos (by omega), List.getElem?_set_self (by omega), List.getElem?_append_right (by rw [List.length_take]; omega), List.length_take]
          simp [Nat.min_eq_left (show j ≤ xs.length by omega)]
        · rw [if_neg (by omega), List.getElem?_eq_none (by rw [List.length_append, List.length_take, List.length_singleton]; omega)]
    have e2 : (xs.set off v).drop (off + 1 + vs.length) = xs.drop (off + (v :: vs).length) := by
      rw [List.drop_set_of_lt (by omega), List.length_cons, show off + 1 + vs.length = off + (vs.length + 1) by omega]
    rw [e1, e2] at h4
    have e3 : xs.take off ++ [v] ++ vs ++ xs.drop (off + (v :: vs).length) = xs.take off ++ v :: vs ++ xs.drop (off + (v :: vs).length) := by simp
    rw [e3] at h4
    exact h4
theorem own_shorter {w : World} {base : Nat} {e : TypeId} {g n c k : Nat} {xs : List Value} (h : w.ownsRow base e 1 (.slice (some ⟨g, 0, none⟩) n c) n xs) (hk : k ≤ n) : w.ownsRow base e 1 (.slice (some ⟨g, 0, none⟩) k c) k (xs.take k) := by
  rcases h with ⟨h1, ⟨hv, _⟩ | ⟨g', c', cur, hv, h3, hh, h4, h5, h6, h7⟩⟩
  · injection hv with hv; cases hv
  · injection hv with hv _ hc
    injection hv with hv
    injection hv with hv
    subst hv hc
    refine ⟨by rw [List.length_take]; omega, .inr ⟨g, c, cur, rfl, h3, hh, by omega, h5, h6, ?_⟩⟩
    rw [← h7, List.take_take]
    congr 1
    omega
set_option maxHeartbeats 2000000 in
theorem delete_any (g n c i base : Nat) (l : List Int) (w : World) (hn : n = l.length) (hi : i < n) (hb : n ≤ 2000) (h : w.ownsRow base 3 1 (.slice (some ⟨g, 0, none⟩) n c) n (iv l)) :
    Calls Try.prog 38 #[.slice (some ⟨g, 0, none⟩) n c, .int .i64 i, .int .i64 ((i + 1 : Nat) : Int)] w fun e w' => e = .returned (.slice (some ⟨g, 0, none⟩) (n - 1) c) ∧ w'.ownsRow base 3 1 (.slice (some ⟨g, 0, none⟩) (n - 1) c) (n - 1) (iv (l.take i ++ l.drop (i + 1))) ∧ Beside (fun x => x = g) w w' := by
  obtain ⟨j0, hj, hz0, hz1, hz2⟩ := info_parts infoIntW
  obtain ⟨A, c', he, hc1, hc2⟩ := own_slice h
  injection he with he1 _ he
  subst he he1
  have H := Lib.hid h
  have HN := Lib.hid hn
  clear hn h
  have hnl : (iv (l.drop (i + 1))).length = n - (i + 1) := by rw [iv_len, List.length_drop]; have := HN.out; omega
  have hlen : (iv l).length = n := by rw [iv_len]; exact HN.out.symm
  have hrun : (Builtin.append_ #[22, 22] 22 #[.slice (some ⟨g, 0, none⟩) i c, .slice (if c = i + 1 then some ⟨g, 0, none⟩ else some ⟨g, i + 1, none⟩) (n - (i + 1)) (c - (i + 1))]).run Try.prog w.drew = .ok (.slice (some ⟨g, 0, none⟩) (n - 1) c) (w.drew.setCells g i (iv (l.drop (i + 1)))) := by
    have key : ∀ ad : Addr, (∀ j u, (iv (l.drop (i + 1)))[j]? = some u → w.drew.cell? (ad.add j) = some u) → (Builtin.append_ #[22, 22] 22 #[.slice (some ⟨g, 0, none⟩) i c, .slice (some ad) (n - (i + 1)) (c - (i + 1))]).run Try.prog w.drew = .ok (.slice (some ⟨g, 0, none⟩) (n - 1) c) (w.drew.setCells g i (iv (l.drop (i + 1)))) := by
      intro ad had
      have h9 := run_append_room_cells (P := Try.prog) w.drew 22 22 3 j0 Try.underlying22 hj g 0 i c ad (n - (i + 1)) (c - (i + 1)) (iv (l.drop (i + 1))) (by rw [hz1, Nat.mul_one]; exact hnl) had (iv_one _) (by omega)
        (by intro j hjl
            rw [hz1, Nat.mul_one, Nat.zero_add]
            have h8 := H.out.cellAt (i + j) (by omega)
            rw [show w.drew.cell? ⟨g, i + j, none⟩ = w.cell? ⟨g, i + j, none⟩ from rfl, h8, List.getElem?_eq_getElem (by omega)]
            rfl)
        (by intro j hjl
            rw [hz1, Nat.mul_one, Nat.zero_add]
            exact H.out.frozenAt (i + j))
      rw [hz1, Nat.mul_one, Nat.zero_add, show i + (n - (i + 1)) = n - 1 by omega] at h9
      exact h9
    by_cases hc : c = i + 1
    · rw [if_pos hc]
      refine key _ (fun j u hu => ?_)
      have := (List.getElem?_eq_some_iff.1 hu).1
      omega
    · rw [if_neg hc]
      refine key _ (fun j u hu => ?_)
      have hjl := (List.getElem?_eq_some_iff.1 hu).1
      have e : (⟨g, i + 1, none⟩ : Addr).add j = ⟨g, i + 1 + j, none⟩ := by
        unfold Addr.add
        by_cases h0 : j = 0 <;> simp [h0]
      rw [e]
      have h8 := H.out.cellAt (i + 1 + j) (by omega)
      rw [show w.drew.cell? ⟨g, i + 1 + j, none⟩ = w.cell? ⟨g, i + 1 + j, none⟩ from rfl, h8, ← hu]
      simp [iv]
  obtain ⟨o1, g1⟩ := own_setCells (iv (l.drop (i + 1))) w.drew i (iv l) (own_heap H.out rfl) (by omega)
  have BD : Beside (fun x => x = g) w w.drew := ⟨rfl, rfl, rfl, Nat.le_refl _, fun _ _ _ => rfl⟩
  have BS1 := Lib.hid (BD.grown g1 (fun q hq => by injection hq with hq; exact .inl hq.symm))
  rw [hnl, show i + (n - (i + 1)) = n - 1 by omega] at o1
  have O1 := Lib.hid o1
  clear o1 g1 BD
  generalize w.drew.setCells g i (iv (l.drop (i + 1))) = W2 at *
  have hcl := fun ty => Lib.run_clear_slice (P := Try.prog) W2 22 3 ty (.int .i64 0) Try.underlying22 zeroIW rfl rfl g (n - 1) (n - (n - 1)) (c - (n - 1)) (by omega)
    (by intro j hjl
        have h8 := O1.out.cellAt (n - 1 + j) (by omega)
        have h9 := O1.out.1
        rw [h8, List.getElem?_eq_getElem (by omega)]
        rfl) (fun j _ => O1.out.frozenAt _)
  obtain ⟨o2, g2⟩ := own_setCells (List.replicate (n - (n - 1)) (.int .i64 0)) W2 (n - 1) _ O1.out (by rw [List.length_replicate]; omega)
  have o3 := own_shorter o2 (show n - 1 ≤ n by omega)
  have BS2 := Lib.hid (BS1.out.grown g2 (fun q hq => by injection hq with hq; exact .inl hq.symm))
  have hfin : (((iv l).take i ++ iv (l.drop (i + 1)) ++ (iv l).drop (n - 1)).take (n - 1) ++ List.replicate (n - (n - 1)) (Value.int .i64 0) ++ ((iv l).take i ++ iv (l.drop (i + 1)) ++ (iv l).drop (n - 1)).drop (n - 1 + (List.replicate (n - (n - 1)) (Value.int .i64 0)).length)).take (n - 1) = iv (l.take i ++ l.drop (i + 1)) := by
    have e1 : ((iv l).take i ++ iv (l.drop (i + 1))).length = n - 1 := by rw [List.length_append, List.length_take, hnl, hlen]; omega
    rw [List.take_left' e1, List.append_assoc, List.take_left' e1, iv_app, iv_take]
  rw [hfin] at o3
  have O3 := Lib.hid o3
  have hne : ¬ c = n - 1 := by omega
  have hii : ¬ ((i : Int) = (i : Int) + 1) := by omega
  clear hfin o2 g2 o3 hnl hlen
  by_cases hcc : c = i + 1
  · subst hcc
    rw [if_pos rfl] at hrun
    obtain rfl : n = i + 1 := by omega
    simp only [Nat.sub_self, Nat.add_sub_cancel, Nat.add_sub_cancel_left] at hrun hcl O3 BS2 ⊢
    clear hne BS1 O1 hc1
    go_enter Try.func38, Try.ntmps38
    go_wp2_with fail
    go_region
    go_wp2_with fail
    go_ret
    exact ⟨rfl, O3.out, BS2.out⟩
  · rw [if_neg hcc] at hrun
    go_enter Try.func38, Try.ntmps38
    go_wp2_with fail
    go_region
    go_wp2_with fail
    go_ret
    exact ⟨rfl, O3.out, BS2.out⟩
end Go.Proofs.Ytdojalflgfacgaa
