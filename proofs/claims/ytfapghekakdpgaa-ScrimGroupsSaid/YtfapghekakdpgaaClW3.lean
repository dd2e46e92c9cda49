/- Contracts of layer 3: Drop and Mine (by the library's DeleteFunc), and the document's own Clean, Drop, Mine. -/
import Derived.Test.YtfapghekakdpgaaClW2
namespace Go.Proofs.Ytfapghekakdpgaa
open Go.RowKit M Go.Sort
theorem at_of_own {w : World} {base : Nat} {e : TypeId} {size n : Nat} {v : Value} {xs : List Value} (h : w.ownsRow base e size v n xs) : ∃ A c, v = .slice A n c ∧ n ≤ c ∧ c ≤ maxLen ∧ At w A xs := by
  obtain ⟨A, c, rfl, h1, h2⟩ := own_slice h
  exact ⟨A, c, rfl, h1, h2, At.own h⟩
/-- the document's Clean: a loop that asks of each whether it stood before. -/
theorem rclean_any (A : Option Addr) (n c : Nat) (ss : List ByteArray) (w : World) (hn : n = ss.length) (hnc : n ≤ c) (_hm : c ≤ maxLen) (hm' : n ≤ 1000000) (ha : At w A (sv ss)) :
    Calls Try.prog 33 #[.slice A n c] w fun e w' => ∃ v, e = .returned v ∧ w'.ownsRow w.heap.size 9 1 v (clean ss).length (sv (clean ss)) ∧ Below w.heap.size w w' := by
  unfold maxLen at _hm
  have HN := Lib.hid hn
  have HA := Lib.hid ha
  clear hn ha
  obtain ⟨i0, hi, hz0, hz1, hz2⟩ := info_parts infoStr
  go_enter Try.func33, Try.ntmps33
  go_wp2
  go_loopw [3, 9] (fun v i wr => ∃ k : Nat, k ≤ n ∧ i = .int .i64 k ∧ Hid (wr.ownsRow w.heap.size 9 1 v (clean (ss.take k)).length (sv (clean (ss.take k)))) ∧ Below w.heap.size w wr) (fun _ i _ => n - (intOf i).toNat)
  case atStart => exact ⟨0, Nat.zero_le _, rfl, World.ownsRow_made w #[] 0 (Nat.le_refl _) (Nat.zero_le _) rfl, below_alloc _ _⟩
  case round =>
    obtain ⟨k, hk, rfl, hown, hbel⟩ := hrel
    by_cases hlt : k < n
    · have hk1 : k < ss.length := by have := HN.out; omega
      obtain ⟨b, off, rfl, hlb, hc0⟩ := HA.out.one (sv_at ss k hk1)
      have hc := (below_cells hbel).1 b (off + k) hlb
      rw [hc0] at hc
      have HC0 := Lib.hid hc0
      clear hc0
      obtain ⟨s, hs⟩ : ∃ s, s = ss[k] := ⟨_, rfl⟩
      rw [← hs] at hc
      have HT : Hid (clean (ss.take (k + 1)) = add (clean (ss.take k)) s) := by show clean (ss.take (k + 1)) = _; rw [hs]; exact clean_next ss k hk1
      have HK : Hid (k = (ss.take k).length) := by show k = _; rw [List.length_take]; omega
      have hlen := clean_len (ss.take k)
      have hlen2 : (ss.take k).length ≤ k := List.length_take_le _ _
      clear hs
      have hsz := hbel.size
      have HAk : Hid (At wr (some ⟨b, off, none⟩) (sv (ss.take k))) := by show At _ _ _; rw [sv_take]; exact (HA.out.below hbel).take k
      have HHAS := Lib.hid (has_clean (ss.take k) s)
      by_cases hx : s ∈ ss.take k
      · have HX : Hid (clean (ss.take (k + 1)) = clean (ss.take k)) := by show clean (ss.take (k + 1)) = _; rw [HT.out]; unfold add; rw [if_pos ((mem_clean _ _).2 hx)]
        have HH := Lib.hid (has_yes hx)
        clear hx
        go_wp2_with (go_at_call 59; refine (rhas_any _ _ _ (ss.take k) s _ HK.out (by unfold maxLen; omega) HAk.out).mono ?_; rintro e w' ⟨rfl, rfl⟩; rw [HH.out])
        go_roundw
        case rel => exact ⟨k + 1, by omega, by go_num, by show World.ownsRow _ _ _ _ _ _ _; rw [HX.out]; exact hown.out, hbel⟩
        case measure => simp [intOf]; omega
      · have HX : Hid (clean (ss.take (k + 1)) = clean (ss.take k) ++ [s]) := by show clean (ss.take (k + 1)) = _; rw [HT.out]; unfold add; rw [if_neg (fun h => hx ((mem_clean _ _).1 h))]
        have HH := Lib.hid (has_no hx)
        clear hx
        go_wp2_with (first | (go_at_call 59; refine (rhas_any _ _ _ (ss.take k) s _ HK.out (by unfold maxLen; omega) HAk.out).mono ?_; rintro e w' ⟨rfl, rfl⟩; rw [HH.out]) | (at_builtin; refine wpList_append_own _ rfl _ _ 23 rfl w.heap.size 9 i0 (.string { data := #[] }) 1 16 Try.underlying23 hi hz0 hz1 hz2 rfl (by decide) _ _ _ rfl (hown.out.alloc _) ⟨_, 0, none⟩ 1 1 [.string s] rfl rfl (cell_one_new _ _ _) (sv_one [s]) (by unfold maxLen; omega) (by omega) (by simp; omega) ?_; intro v1 w1 hown1 hgrow1 _hnil1; have HO := Lib.hid hown1; have HG := Lib.hid hgrow1; clear hown1 hgrow1 _hnil1))
        go_roundw
        case rel => exact ⟨k + 1, by omega, by go_num, by show World.ownsRow _ _ _ _ _ _ _; rw [HX.out, List.length_append, sv_app]; exact HO.out, (hbel.alloc hsz _).grown HG.out (by simp; omega) (own_from hown.out)⟩
        case measure => simp [intOf]; omega
    · go_wp2
      go_ret
      exact ⟨_, rfl, by have h1 := hown.out
                        rw [List.take_of_length_le (by have := HN.out; omega)] at h1; exact h1, hbel⟩
end Go.Proofs.Ytfapghekakdpgaa
