/- Contracts of the document's At, Once, Without, Put, and of weave's once. -/
import Derived.Test.YtfapghekakdpgaaLiW1
import Derived.Test.YtfapghekakdpgaaWeMath
import Derived.Test.YtfapghekakdpgaaAppAt
import Derived.Test.YtfapghekakdpgaaMapL
namespace Go.Proofs.Ytfapghekakdpgaa
open Go.RowKit We
theorem infoIntW : (Try.prog.info? 3).map (fun i => (i.zero, i.size, i.bytes)) = some (some (.int .i64 0), 1, 8) := by kernel_rfl
theorem zeroIW (w : World) : (zeroValue 3).run Try.prog w = .ok (.int .i64 0) w := by kernel_rfl
theorem iv_app (a b : List Int) : iv (a ++ b) = iv a ++ iv b := by simp [iv]
theorem iv_one (l : List Int) : ∀ u ∈ iv l, u.oneCell' = true := by
  intro u hu
  simp only [iv, List.mem_map] at hu
  obtain ⟨s, _, rfl⟩ := hu
  rfl
theorem iv_drop (l : List Int) (k : Nat) : iv (l.drop k) = (iv l).drop k := by simp [iv, List.map_drop]
def rAt (l : List Int) (x : Int) : Int := if x ∈ l then (ix l x : Int) else -1
theorem rAt_yes {l : List Int} {x : Int} (h : x ∈ l) : rAt l x = (ix l x : Int) := by unfold rAt; rw [if_pos h]
theorem rAt_no {l : List Int} {x : Int} (h : ¬ x ∈ l) : rAt l x = -1 := by unfold rAt; rw [if_neg h]
theorem rAt_neg {l : List Int} {x : Int} : rAt l x < 0 ↔ ¬ x ∈ l := by
  unfold rAt
  split
  · rename_i h; simp [h]
  · rename_i h; simp [h]
theorem ix_first : ∀ {l : List Int} {x : Int} {k : Nat}, k < l.length → at' l k = x → (∀ j, j < k → at' l j ≠ x) → ix l x = k
  | a :: l, x, 0, _, h, _ => by have h0 : a = x := h; unfold ix; rw [if_pos h0]
  | a :: l, x, k + 1, hk, h, hn => by
    unfold ix
    have h0 : ¬ a = x := hn 0 (by omega)
    rw [if_neg h0, ix_first (l := l) (x := x) (k := k) (by simpa using hk) h (fun j hj => hn (j + 1) (by omega))]
theorem not_mem_of {l : List Int} {x : Int} (h : ∀ j, j < l.length → at' l j ≠ x) : ¬ x ∈ l := fun hx => h _ (ix_lt hx) (get_ix hx)
theorem rat_any (A : Option Addr) (n c : Nat) (l : List Int) (x v : Int) (w : World) (hn : n = l.length) (hb : n ≤ 100000) (ha : At w A (iv l)) (hv : rAt l x = v) :
    Calls Try.prog 34 #[.slice A n c, .int .i64 x] w fun e w' => e = .returned (.int .i64 v) ∧ w = w' := by
  have HN := Lib.hid hn
  have HA := Lib.hid ha
  have HV := Lib.hid hv
  clear hn ha hv
  go_enter Try.func34, Try.ntmps34
  go_wp2
  go_loop [9] (fun i => ∃ k : Nat, k ≤ n ∧ i = .int .i64 k ∧ Hid (∀ j, j < k → at' l j ≠ x)) (fun i => n - (intOf i).toNat)
  case atStart => exact ⟨0, Nat.zero_le _, rfl, Lib.hid fun i h => absurd h (Nat.not_lt_zero _)⟩
  case round =>
    obtain ⟨k, hk, rfl, hx⟩ := hrel
    by_cases hlt : k < n
    · have hkl : k < l.length := by have := HN.out; omega
      obtain ⟨b1, o1, rfl, hb1, hc1⟩ := HA.out.one (iv_at l k hkl)
      obtain ⟨y, hy⟩ : ∃ y, y = ats l k := ⟨_, rfl⟩
      rw [← hy] at hc1
      have HY := Lib.hid hy
      clear hy
      by_cases hyk : y = x
      · have HE := Lib.hid hyk
        have h2 : (y == x) = true := beq_iff_eq.2 hyk
        clear hyk
        go_wp2
        go_ret
        have h3 : at' l k = x := HY.out.symm.trans HE.out
        have h4 : v = (k : Int) := by rw [← HV.out, rAt_yes (h3 ▸ at_mem hkl), ix_first hkl h3 hx.out]
        exact ⟨by rw [h4]; rfl, rfl⟩
      · have HE := Lib.hid hyk
        have h2 : (y == x) = false := beq_eq_false_iff_ne.2 hyk
        clear hyk
        go_wp2
        go_round
        case rel => exact ⟨k + 1, by omega, by go_num, Lib.hid (fun j hj => by
          by_cases e : j = k
          · subst e; exact fun h => HE.out (HY.out.trans h)
          · exact hx.out j (by omega))⟩
        case measure => simp [intOf]; omega
    · obtain rfl : k = n := by omega
      go_wp2
      go_ret
      have h4 : v = -1 := by rw [← HV.out, rAt_no (not_mem_of (fun j hj => hx.out j (by have := HN.out; omega)))]
      exact ⟨by rw [h4]; rfl, rfl⟩
def putAt (l : List Int) (i : Nat) (x : Int) : List Int := l.take i ++ x :: l.drop i
/-- where each number stands -/
def posF (r : List Int) (i : Int) : Option Value := if i ∈ r then some (.int .i64 (ix r i : Int)) else none
theorem posF_yes {r : List Int} {i : Int} (h : i ∈ r) : posF r i = some (.int .i64 (ix r i : Int)) := by unfold posF; rw [if_pos h]
theorem posF_no {r : List Int} {i : Int} (h : ¬ i ∈ r) : posF r i = none := by unfold posF; rw [if_neg h]
theorem posF_next {r : List Int} {x : Int} (h : ¬ x ∈ r) : (fun j => if j = x then some (Value.int .i64 (r.length : Int)) else posF r j) = posF (r ++ [x]) := by
  funext j
  by_cases e : j = x
  · subst e
    rw [if_pos rfl, posF_yes (by simp), ix_app_right _ h]
    simp [ix]
  · rw [if_neg e]
    by_cases hj : j ∈ r
    · rw [posF_yes hj, posF_yes (by simp [hj]), ix_app_left _ hj]
    · rw [posF_no hj, posF_no (by simp [hj, e])]
set_option maxHeartbeats 1000000 in
theorem once_any (A : Option Addr) (n c : Nat) (l : List Int) (w : World) (hn : n = l.length) (hb : n ≤ 10000) (ha : At w A (iv l)) (hok : ∀ x ∈ l, OkI x) :
    Calls Try.prog 60 #[.slice A n c] w fun e w' => ∃ v b, e = .returned (.tuple #[v, .map (some b)]) ∧ w'.ownsRow w.heap.size 3 1 v (once l).length (iv (once l)) ∧ MapOf Try.prog 3 ikey OkI w' b (posF (once l)) (once l).length ∧ w.heap.size ≤ b ∧ Below w.heap.size w w' := by
  have HN := Lib.hid hn
  have HA := Lib.hid ha
  have HOK := Lib.hid hok
  have hmm := @run_makeMap Try.prog
  obtain ⟨i0, hi, hz0, hz1, hz2⟩ := info_parts infoIntW
  clear hn ha hok
  go_enter Try.func60, Try.ntmps60
  go_wp2_with fail
  clear hmm
  go_loopw [4, 13] (fun v i wr => ∃ k : Nat, k ≤ n ∧ i = .int .i64 k ∧ Hid (wr.ownsRow (w.heap.size + 1) 3 1 v (once (l.take k)).length (iv (once (l.take k)))) ∧ Hid (MapOf Try.prog 3 ikey OkI wr w.heap.size (posF (once (l.take k))) (once (l.take k)).length) ∧ Hid (Below w.heap.size w wr)) (fun _ i _ => n - (intOf i).toNat)
  case atStart => exact ⟨0, Nat.zero_le _, rfl, World.ownsRow_nil _ _ _ _, (MapOf.made _ _ _ _ _).congr (fun a _ => (posF_no (by simp [once])).symm), below_alloc _ _⟩
  case round =>
    obtain ⟨k, hk, rfl, hown, hmap, hbel⟩ := hrel
    by_cases hlt : k < n
    · have hkl : k < l.length := by have := HN.out; omega
      obtain ⟨b1, o1, rfl, hb1, hc1⟩ := (HA.out.below hbel.out).one (iv_at l k hkl)
      have hnx := once_next l k hkl
      have hol := once_len (l.take k)
      rw [List.length_take] at hol
      obtain ⟨x, hx⟩ : ∃ x, x = ats l k := ⟨_, rfl⟩
      rw [← hx] at hc1
      rw [show at' l k = x from hx.symm] at hnx
      have hOx := Lib.hid (HOK.out x (by rw [hx]; exact at_mem hkl))
      have HNX := Lib.hid hnx
      obtain ⟨acc, hacc⟩ : ∃ acc, acc = once (l.take k) := ⟨_, rfl⟩
      rw [← hacc] at hown hol HNX hmap
      clear hnx hx hacc
      have hszr := hbel.out.size
      have hmlt := hmap.out.lt
      obtain ⟨AE, cE, rfl, hcE, hcE2⟩ := own_slice hown.out
      by_cases hm : x ∈ acc
      · have HS : Hid (once (l.take (k + 1)) = acc) := by show _ = _; rw [HNX.out]; unfold onceStep; rw [if_pos hm]
        have HP := Lib.hid (posF_yes hm)
        clear hm
        go_wp2_with (refine wpList_lookok_mo rfl _ _ 96 3 3 rfl (intWay Try.underlying3) Try.underlying96 zeroIW w.heap.size _ _ rfl hmap.out x hOx.out rfl (.int .i64 (ix acc x : Int)) true (by rw [HP.out]; rfl) (by rw [HP.out]; rfl) ?_)
        go_roundw
        case rel => exact ⟨k + 1, by omega, by go_num, by show World.ownsRow _ _ _ _ _ _ _; rw [HS.out]; exact hown.out, by show MapOf _ _ _ _ _ _ _ _; rw [HS.out]; exact hmap.out, hbel⟩
        case measure => simp [intOf]; omega
      · have HS : Hid (once (l.take (k + 1)) = acc ++ [x]) := by show _ = _; rw [HNX.out]; unfold onceStep; rw [if_neg hm]
        have HP := Lib.hid (posF_no hm)
        have HF := Lib.hid (posF_next hm)
        clear hm
        go_wp2_with (first | (refine wpList_lookok_mo rfl _ _ 96 3 3 rfl (intWay Try.underlying3) Try.underlying96 zeroIW w.heap.size _ _ rfl hmap.out x hOx.out rfl (.int .i64 0) false (by rw [HP.out]; rfl) (by rw [HP.out]; rfl) ?_) | (refine wpList_store_mo rfl _ _ _ 96 3 3 rfl (intWay Try.underlying3) Try.underlying96 w.heap.size _ _ rfl hmap.out (by unfold maxLen; omega) x hOx.out (.int .i64 (acc.length : Int)) rfl rfl ?_; intro w5 hm5 hg5 hs5; rw [HP.out, HF.out] at hm5; have M5 := Lib.hid hm5; have G5 := Lib.hid hg5; have R5 := Lib.hid (hown.out.kept hg5 (.inr (by intro e; have h8 := own_from hown.out _ e; omega))); have B5 := Lib.hid (hbel.out.grown hg5 hszr (fun p hp => by injection hp with hp; omega)); have hsz5 := B5.out.size; have hm5lt := M5.out.lt; clear hm5 hg5 hs5) | (at_builtin; refine wpList_append_own _ rfl _ _ 29 rfl (w.heap.size + 1) 3 i0 (.int .i64 0) 1 8 Try.underlying29 hi hz0 hz1 hz2 rfl (by decide) _ _ _ rfl (R5.out.alloc _) ⟨_, 0, none⟩ 1 1 [.int .i64 x] rfl rfl (cell_one_new _ _ _) (iv_one [x]) (by unfold maxLen; omega) (by omega) (by simp; omega) ?_; intro v1 w1 hown1 hgrow1 _hnil1; have HO1 := Lib.hid hown1; have HG1 := Lib.hid hgrow1; clear hown1 hgrow1 _hnil1))
        go_roundw
        case rel => exact ⟨k + 1, by omega, by go_num, by show World.ownsRow _ _ _ _ _ _ _; rw [HS.out, List.length_append, iv_app]; exact HO1.out, by show MapOf _ _ _ _ _ _ _ _; rw [HS.out, List.length_append]; exact (M5.out.below (below_alloc _ _)).grown HG1.out (by intro e; have h8 := own_from R5.out _ e.symm; omega), (B5.out.alloc hsz5 _).grown HG1.out (by simp; omega) (fun p hp => by have h8 := own_from R5.out _ hp; omega)⟩
        case measure => simp [intOf]; omega
    · obtain rfl : k = n := by omega
      have HT : Hid (l.take k = l) := List.take_of_length_le (by have := HN.out; omega)
      go_wp2
      go_ret2
      exact ⟨_, _, rfl, by have h9 := hown.out; rw [HT.out] at h9; exact own_mono h9 (by omega), by have h9 := hmap.out; rw [HT.out] at h9; exact h9, Nat.le_refl _, hbel.out⟩
end Go.Proofs.Ytfapghekakdpgaa
