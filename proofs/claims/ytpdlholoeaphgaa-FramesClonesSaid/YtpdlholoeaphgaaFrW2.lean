/- Contract of slices.Delete of one job, in a row of the call's own. -/
import Derived.Test.YtpdlholoeaphgaaFrW1
import Derived.ArgAppend
import Derived.Lib.SliceRun
import Derived.Laws.IdiomCopy
namespace Go.Proofs.Ytpdlholoeaphgaa
open Go.RowKit Fr
attribute [-go_sem] Builtin.append_
def Fr.wz : Value := .agg #[.int .i64 0, .int .i64 0, .int .i64 0, .int .i64 0]
theorem Fr.info : (Try.prog.info? 49).map (fun i => (i.zero, i.size, i.bytes)) = some (some wz, 4, 32) := by kernel_rfl
theorem Fr.zeroW (w : World) : (zeroValue 49).run Try.prog w = .ok wz w := by kernel_rfl
theorem Fr.info_parts {P : Program} {e : TypeId} {z : Value} {s b : Nat} (h : (P.info? e).map (fun i => (i.zero, i.size, i.bytes)) = some (some z, s, b)) : ∃ i, P.info? e = some i ∧ i.zero = some z ∧ i.size = s ∧ i.bytes = b := by
  cases hq : P.info? e with
  | none => rw [hq] at h; cases h
  | some i =>
    rw [hq] at h
    injection h with h
    injection h with h1 h2
    injection h2 with h2 h3
    exact ⟨i, rfl, h1, h2, h3⟩
theorem Fr.own_setCells {base size : Nat} {e : TypeId} {g n c : Nat} : ∀ (vs : List Value) (w : World) (off : Nat) (xs : List Value), w.ownsRow base e size (.slice (some ⟨g, 0, none⟩) n c) n xs → off + vs.length ≤ n * size →
    (w.setCells g off vs).ownsRow base e size (.slice (some ⟨g, 0, none⟩) n c) n (xs.take off ++ vs ++ xs.drop (off + vs.length)) ∧ w.grownBy (w.setCells g off vs) (some g)
  | [], w, off, xs, h, _ => ⟨by show w.ownsRow _ _ _ _ _ _; simpa using h, World.grownBy.refl w _⟩
  | v :: vs, w, off, xs, h, hl => by
    have hx : xs.length = n * size := h.1
    simp only [List.length_cons] at hl
    obtain ⟨h2, h3⟩ := h.stored off v
    obtain ⟨h4, h5⟩ := Fr.own_setCells vs (w.setCell ⟨g, off, none⟩ v) (off + 1) (xs.set off v) h2 (by omega)
    refine ⟨?_, h3.trans h5⟩
    have e1 : (xs.set off v).take (off + 1) = xs.take off ++ [v] := by
      apply List.ext_getElem?
      intro j
      rw [List.getElem?_take]
      by_cases hj : j < off
      · rw [if_pos (by omega), List.getElem?_set_ne (by omega), List.getElem?_append_left (by rw [List.length_take]; omega), List.getElem?_take, if_pos hj]
      · by_cases hj2 : j = off
        · subst hj2
          rw [if_pos (by omega), List.getElem?_set_self (by omega), List.getElem?_append_right (by rw [List.length_take]; omega), List.length_take]
          simp [Nat.min_eq_left (show j ≤ xs.length by omega)]
        · rw [if_neg (by omega), List.getElem?_eq_none (by rw [List.length_append, List.length_take, List.length_singleton]; omega)]
    have e2 : (xs.set off v).drop (off + 1 + vs.length) = xs.drop (off + (v :: vs).length) := by
      rw [List.drop_set_of_lt (by omega), List.length_cons, show off + 1 + vs.length = off + (vs.length + 1) by omega]
    rw [e1, e2] at h4
    have e3 : xs.take off ++ [v] ++ vs ++ xs.drop (off + (v :: vs).length) = xs.take off ++ v :: vs ++ xs.drop (off + (v :: vs).length) := by simp
    rw [e3] at h4
    exact h4
theorem Fr.own_shorter {w : World} {base size : Nat} {e : TypeId} {g n c k : Nat} {xs : List Value} (h : w.ownsRow base e size (.slice (some ⟨g, 0, none⟩) n c) n xs) (hk : k ≤ n) : w.ownsRow base e size (.slice (some ⟨g, 0, none⟩) k c) k (xs.take (k * size)) := by
  rcases h with ⟨h1, ⟨hv, _⟩ | ⟨g', c', cur, hv, h3, hh, h4, h5, h6, h7⟩⟩
  · injection hv with hv; cases hv
  · injection hv with hv _ hc
    injection hv with hv
    injection hv with hv
    subst hv hc
    have hm : k * size ≤ n * size := Nat.mul_le_mul_right _ hk
    refine ⟨by rw [List.length_take]; omega, .inr ⟨g, c, cur, rfl, h3, hh, by omega, h5, h6, ?_⟩⟩
    rw [← h7, List.take_take]
    congr 1
    omega
/-- 'clear' of a slice of elements of any number of cells. -/
theorem Fr.run_clear_wide {P : Program} (w : World) (t e ty : TypeId) (z : Value) (ht : P.underlying t = some (.slice e)) (hv : ∀ w, (zeroValue e).run P w = .ok z w) {n : Nat} (h1 : ∀ v ∈ (Builtin.zeroCells z.cells n).toList, v.oneCell' = true) (b o c : Nat) (hn : 0 < n)
    (hc : ∀ j, j < n * z.cells.size → (w.cell? ⟨b, o + j, none⟩).isSome = true) (hf : ∀ j, j < n * z.cells.size → w.frozen? ⟨b, o + j, none⟩ = false) :
    (Builtin.clear_ #[t] ty #[.slice (some ⟨b, o, none⟩) n c]).run P w = .ok (.tuple #[]) (w.setCells b o (Builtin.zeroCells z.cells n).toList) := by
  have hst := run_storeCells_cells (P := P) b o (Builtin.zeroCells z.cells n).toList 0 w (by simpa [Builtin.zeroCells] using hc) (by simpa [Builtin.zeroCells] using hf) h1
  simp only [Nat.add_zero] at hst
  obtain ⟨m, rfl⟩ : ∃ m, n = m + 1 := ⟨n - 1, by omega⟩
  simp [Builtin.clear_, run_underlying ht, hv, hst]
set_option maxHeartbeats 4000000 in
set_option maxRecDepth 100000 in
theorem fdelete_any (g n c i base : Nat) (L : List Wt) (w : World) (hn : n = L.length) (hi : i < n) (hb : n ≤ 70000) (h : w.ownsRow base 49 4 (.slice (some ⟨g, 0, none⟩) n c) n (rowv 0 L)) :
    Calls Try.prog 37 #[.slice (some ⟨g, 0, none⟩) n c, .int .i64 i, .int .i64 ((i + 1 : Nat) : Int)] w fun e w' => e = .returned (.slice (some ⟨g, 0, none⟩) (n - 1) c) ∧ w'.ownsRow base 49 4 (.slice (some ⟨g, 0, none⟩) (n - 1) c) (n - 1) (rowv 0 (L.take i ++ L.drop (i + 1))) ∧ Beside (fun x => x = g) w w' := by
  obtain ⟨j0, hj, hz0, hz1, hz2⟩ := Fr.info_parts Fr.info
  obtain ⟨A, c', he, hc1, hc2⟩ := own_slice h
  injection he with he1 _ he
  subst he he1
  have H := Lib.hid h
  have HN := Lib.hid hn
  clear hn h
  have hnl : (rowv 0 (L.drop (i + 1))).length = (n - (i + 1)) * 4 := by rw [rowv_len, List.length_drop]; have := HN.out; omega
  have hlen : (rowv 0 L).length = n * 4 := by rw [rowv_len]; have := HN.out; omega
  have hrun : (Builtin.append_ #[38, 38] 38 #[.slice (some ⟨g, 0, none⟩) i c, .slice (if c = i + 1 then some ⟨g, 0, none⟩ else some ⟨g, (i + 1) * 4, none⟩) (n - (i + 1)) (c - (i + 1))]).run Try.prog w.drew = .ok (.slice (some ⟨g, 0, none⟩) (n - 1) c) (w.drew.setCells g (i * 4) (rowv 0 (L.drop (i + 1)))) := by
    have key : ∀ ad : Addr, (∀ j u, (rowv 0 (L.drop (i + 1)))[j]? = some u → w.drew.cell? (ad.add j) = some u) → (Builtin.append_ #[38, 38] 38 #[.slice (some ⟨g, 0, none⟩) i c, .slice (some ad) (n - (i + 1)) (c - (i + 1))]).run Try.prog w.drew = .ok (.slice (some ⟨g, 0, none⟩) (n - 1) c) (w.drew.setCells g (i * 4) (rowv 0 (L.drop (i + 1)))) := by
      intro ad had
      have h9 := run_append_room_cells (P := Try.prog) w.drew 38 38 49 j0 Try.underlying38 hj g 0 i c ad (n - (i + 1)) (c - (i + 1)) (rowv 0 (L.drop (i + 1))) (by rw [hz1]; exact hnl) had (rowv_one 0 _) (by omega)
        (by intro j hjl
            rw [hz1, Nat.zero_add]
            have h8 := H.out.cellAt (i * 4 + j) (by omega)
            rw [show w.drew.cell? ⟨g, i * 4 + j, none⟩ = w.cell? ⟨g, i * 4 + j, none⟩ from rfl, h8, List.getElem?_eq_getElem (by omega)]
            rfl)
        (by intro j hjl
            rw [hz1, Nat.zero_add]
            exact H.out.frozenAt (i * 4 + j))
      rw [hz1, Nat.zero_add, show i + (n - (i + 1)) = n - 1 by omega] at h9
      exact h9
    by_cases hc : c = i + 1
    · rw [if_pos hc]
      refine key _ (fun j u hu => ?_)
      have := (List.getElem?_eq_some_iff.1 hu).1
      omega
    · rw [if_neg hc]
      refine key _ (fun j u hu => ?_)
      have hjl := (List.getElem?_eq_some_iff.1 hu).1
      have e : (⟨g, (i + 1) * 4, none⟩ : Addr).add j = ⟨g, (i + 1) * 4 + j, none⟩ := by
        unfold Addr.add
        by_cases h0 : j = 0 <;> simp [h0]
      rw [e]
      have h8 := H.out.cellAt ((i + 1) * 4 + j) (by omega)
      rw [show w.drew.cell? ⟨g, (i + 1) * 4 + j, none⟩ = w.cell? ⟨g, (i + 1) * 4 + j, none⟩ from rfl, h8, ← hu, rowv_drop, List.getElem?_drop]
  obtain ⟨o1, g1⟩ := Fr.own_setCells (rowv 0 (L.drop (i + 1))) w.drew (i * 4) (rowv 0 L) (own_heap H.out rfl) (by omega)
  have BD : Beside (fun x => x = g) w w.drew := ⟨rfl, rfl, rfl, Nat.le_refl _, fun _ _ _ => rfl⟩
  have BS1 := Lib.hid (BD.grown g1 (fun q hq => by injection hq with hq; exact .inl hq.symm))
  rw [hnl, show i * 4 + (n - (i + 1)) * 4 = (n - 1) * 4 by omega] at o1
  have O1 := Lib.hid o1
  clear o1 g1 BD
  generalize w.drew.setCells g (i * 4) (rowv 0 (L.drop (i + 1))) = W2 at *
  have hzl : (Builtin.zeroCells wz.cells 1).toList.length = 4 := by kernel_rfl
  have hz1c : ∀ v ∈ (Builtin.zeroCells wz.cells 1).toList, v.oneCell' = true := by
    have e : (Builtin.zeroCells wz.cells 1).toList = [.int .i64 0, .int .i64 0, .int .i64 0, .int .i64 0] := by kernel_rfl
    rw [e]
    intro v hv
    simp only [List.mem_cons, List.not_mem_nil, or_false] at hv
    rcases hv with rfl | rfl | rfl | rfl <;> rfl
  have hcl := fun ty => Fr.run_clear_wide (P := Try.prog) W2 38 49 ty wz Try.underlying38 Fr.zeroW (n := 1) hz1c g ((n - 1) * 4) (c - (n - 1)) (by omega)
    (by intro j hjl
        have h8 := O1.out.cellAt ((n - 1) * 4 + j) (by have : wz.cells.size = 4 := by kernel_rfl
                                                       omega)
        have h9 := O1.out.1
        have h7 : wz.cells.size = 4 := by kernel_rfl
        rw [h8, List.getElem?_eq_getElem (by omega)]
        rfl) (fun j _ => O1.out.frozenAt _)
  obtain ⟨o2, g2⟩ := Fr.own_setCells (Builtin.zeroCells wz.cells 1).toList W2 ((n - 1) * 4) _ O1.out (by rw [hzl]; omega)
  have o3 := Fr.own_shorter o2 (show n - 1 ≤ n by omega)
  have BS2 := Lib.hid (BS1.out.grown g2 (fun q hq => by injection hq with hq; exact .inl hq.symm))
  generalize (Builtin.zeroCells wz.cells 1).toList = zs at *
  have hfin : (((rowv 0 L).take (i * 4) ++ rowv 0 (L.drop (i + 1)) ++ (rowv 0 L).drop ((n - 1) * 4)).take ((n - 1) * 4) ++ zs ++ ((rowv 0 L).take (i * 4) ++ rowv 0 (L.drop (i + 1)) ++ (rowv 0 L).drop ((n - 1) * 4)).drop ((n - 1) * 4 + zs.length)).take ((n - 1) * 4) = rowv 0 (L.take i ++ L.drop (i + 1)) := by
    have e1 : ((rowv 0 L).take (i * 4) ++ rowv 0 (L.drop (i + 1))).length = (n - 1) * 4 := by rw [List.length_append, List.length_take, hnl, hlen]; omega
    rw [List.take_left' e1, List.append_assoc, List.take_left' e1, rowv_app, rowv_take]
  rw [hfin] at o3
  have O3 := Lib.hid o3
  have hne : ¬ c = n - 1 := by omega
  have hii : ¬ ((i : Int) = (i : Int) + 1) := by omega
  have hn1 : n - (n - 1) = 1 := by omega
  clear hfin o2 g2 o3 hnl hlen
  by_cases hcc : c = i + 1
  · subst hcc
    rw [if_pos rfl] at hrun
    obtain rfl : n = i + 1 := by omega
    simp only [Nat.sub_self, Nat.add_sub_cancel, Nat.add_sub_cancel_left] at hrun hcl O3 BS2 ⊢
    clear hne BS1 O1 hc1
    go_enter Try.func37, Try.ntmps37
    go_wp2_with fail
    go_region
    go_wp2_with fail
    go_ret
    exact ⟨rfl, O3.out, BS2.out⟩
  · rw [if_neg hcc] at hrun
    go_enter Try.func37, Try.ntmps37
    go_wp2_with fail
    go_region
    go_wp2_with fail
    go_ret
    exact ⟨rfl, O3.out, BS2.out⟩
end Go.Proofs.Ytpdlholoeaphgaa
