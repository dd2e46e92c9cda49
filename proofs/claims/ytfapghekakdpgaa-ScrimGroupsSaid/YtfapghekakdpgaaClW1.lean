/- Contracts of layer 3's reading functions and of the statements' own helpers: Cut, Few, Same, Has. -/
import Derived.Test.YtfapghekakdpgaaMem
import Derived.Test.YtfapghekakdpgaaClMath
import Derived.Test.YtfapghekakdpgaaProg
import Derived.Deep.QuietTactic
import Derived.BigQuiet
import Derived.RegionTactic
namespace Go.Proofs.Ytfapghekakdpgaa
open Go.RowKit M
theorem cut_any (s : ByteArray) (n : Int) (w : World) (h0 : 0 ≤ n) (_h1 : n ≤ 1000000) :
    Calls Try.prog 25 #[.string s, .int .i64 n] w fun e w' => e = .returned (.string (cutS s n.toNat)) ∧ w = w' := by
  by_cases h : n < s.size
  · have H : Hid (cutS s n.toNat = s.extract 0 n.toNat) := by show cutS s n.toNat = _; unfold cutS; rw [if_pos (by omega)]
    go_enter Try.func25, Try.ntmps25
    go_wp2
    go_ret
    exact ⟨ret_str' H.out.symm, rfl⟩
  · have H : Hid (cutS s n.toNat = s) := by show cutS s n.toNat = _; unfold cutS; rw [if_neg (by omega)]
    go_enter Try.func25, Try.ntmps25
    go_wp2
    go_ret
    exact ⟨ret_str' H.out.symm, rfl⟩
theorem rhas_any (A : Option Addr) (n c : Nat) (ss : List ByteArray) (x : ByteArray) (w : World) (hn : n = ss.length) (hm : n ≤ maxLen) (ha : At w A (sv ss)) :
    Calls Try.prog 59 #[.slice A n c, .string x] w fun e w' => e = .returned (.bool (has ss x)) ∧ w = w' := by
  unfold maxLen at hm
  have HN := Lib.hid hn
  have HA := Lib.hid ha
  clear hn ha
  go_enter Try.func59, Try.ntmps59
  go_wp2
  go_loop [9] (fun i => ∃ k : Nat, k ≤ n ∧ i = .int .i64 k ∧ Hid (¬ x ∈ ss.take k)) (fun i => n - (intOf i).toNat)
  case atStart => exact ⟨0, Nat.zero_le _, rfl, by show ¬ x ∈ ss.take 0; simp⟩
  case round =>
    obtain ⟨k, hk, rfl, hx⟩ := hrel
    by_cases hlt : k < n
    · have hk' : k < ss.length := by have := HN.out; omega
      obtain ⟨b, off, rfl, hb, hc⟩ := HA.out.one (sv_at ss k hk')
      have hT := take_next ss k hk'
      obtain ⟨s, hs⟩ : ∃ s, s = ss[k] := ⟨_, rfl⟩
      rw [← hs] at hc hT
      have HT := Lib.hid hT
      have HM : Hid (s ∈ ss) := by show s ∈ ss; rw [hs]; exact List.getElem_mem _
      clear hs hT
      by_cases hsx : s = x
      · have h1 := str_yes hsx
        have HX := Lib.hid hsx
        clear hsx
        go_wp2
        go_ret
        exact ⟨ret_bool' (has_yes (HX.out ▸ HM.out)).symm, rfl⟩
      · have h1 := str_no hsx
        have HX := Lib.hid hsx
        clear hsx
        go_wp2
        go_round
        case rel => exact ⟨k + 1, by omega, by go_num, by show ¬ x ∈ _; rw [HT.out, List.mem_append]; rintro (h | h); exact hx.out h; exact HX.out (List.mem_singleton.1 h).symm⟩
        case measure => simp [intOf]; omega
    · go_wp2
      go_ret
      exact ⟨ret_bool' (has_no (by have := HN.out; have h2 := hx.out; rw [List.take_of_length_le (by omega)] at h2; exact h2)).symm, rfl⟩
theorem take_eq_next {xs ys : List ByteArray} {k : Nat} (hx : k < xs.length) (hy : k < ys.length) (h : xs.take k = ys.take k) (e : xs[k] = ys[k]) : xs.take (k + 1) = ys.take (k + 1) := by
  rw [take_next xs k hx, take_next ys k hy, h, e]
theorem infoStr : (Try.prog.info? 9).map (fun i => (i.zero, i.size, i.bytes)) = some (some (.string { data := #[] }), 1, 16) := by kernel_rfl
theorem few_any (A : Option Addr) (n c : Nat) (m : Int) (ss : List ByteArray) (w : World) (hn : n = ss.length) (hb : n ≤ maxLen) (h0 : 0 ≤ m) (h1 : m ≤ 1000) (ha : At w A (sv ss)) :
    Calls Try.prog 13 #[.slice A n c, .int .i64 m] w fun e w' => ∃ v, e = .returned v ∧ w'.ownsRow w.heap.size 9 1 v (few ss m.toNat).length (sv (few ss m.toNat)) ∧ Below w.heap.size w w' := by
  unfold maxLen at hb
  have HN := Lib.hid hn
  have HA := Lib.hid ha
  clear hn ha
  obtain ⟨i0, hi, hz0, hz1, hz2⟩ := info_parts infoStr
  go_enter Try.func13, Try.ntmps13
  go_wp2
  go_loopw [5, 6] (fun v i wr => ∃ k : Nat, k ≤ n ∧ (k : Int) ≤ m ∧ i = .int .i64 k ∧ wr.ownsRow w.heap.size 9 1 v k (sv (few ss k)) ∧ Below w.heap.size w wr) (fun _ i _ => n - (intOf i).toNat)
  case atStart => exact ⟨0, Nat.zero_le _, by omega, rfl, World.ownsRow_nil _ _ _ _, Below.refl _ _⟩
  case round =>
    obtain ⟨k, hk, hkm, rfl, hown, hbel⟩ := hrel
    by_cases hlt : k < n
    · by_cases hlm : (k : Int) < m
      · have hk1 : k < ss.length := by have := HN.out; omega
        obtain ⟨b, off, rfl, hlb, hc0⟩ := HA.out.one (sv_at ss k hk1)
        have hc := (below_cells hbel).1 b (off + k) hlb
        rw [hc0] at hc
        have HC0 := Lib.hid hc0
        clear hc0
        obtain ⟨s, hs⟩ : ∃ s, s = ss[k] := ⟨_, rfl⟩
        rw [← hs] at hc
        have HF : Hid (sv (few ss (k + 1)) = sv (few ss k) ++ [.string (cutS s 20)]) := by
          show sv (few ss (k + 1)) = _
          rw [hs, few_take, take_next ss k hk1, List.map_append, sv_app]; rfl
        clear hs
        have hsz := hbel.size
        go_wp2_with (first | (go_at_call 25; refine (cut_any _ _ _ (by omega) (by omega)).mono ?_; rintro e w' ⟨rfl, rfl⟩) | (at_builtin; refine wpList_append_own _ rfl _ _ 23 rfl w.heap.size 9 i0 (.string { data := #[] }) 1 16 Try.underlying23 hi hz0 hz1 hz2 rfl (by decide) _ _ _ rfl (hown.alloc _) ⟨_, 0, none⟩ 1 1 [.string (cutS s 20)] rfl rfl (cell_one_new _ _ _) (sv_one [cutS s 20]) (by unfold maxLen; omega) (by omega) (by simp; omega) ?_; intro v1 w1 hown1 hgrow1 _hnil1; have HO := Lib.hid hown1; have HG := Lib.hid hgrow1; clear hown1 hgrow1 _hnil1))
        go_roundw
        case rel => exact ⟨k + 1, by omega, by omega, by go_num, HF.out ▸ HO.out, (hbel.alloc hsz _).grown HG.out (by simp; omega) (own_from hown)⟩
        case measure => simp [intOf]; omega
      · go_wp2
        go_ret
        exact ⟨_, rfl, by have h1 : m.toNat = k := by omega
                          rw [h1, few_len_eq ss k (by have := HN.out; omega)]; exact hown, hbel⟩
    · go_wp2
      go_ret
      exact ⟨_, rfl, by have h1 : few ss m.toNat = few ss k := few_all ss k m.toNat (by have := HN.out; omega) (by omega)
                        rw [h1, few_len_eq ss k (by have := HN.out; omega)]; exact hown, hbel⟩
end Go.Proofs.Ytfapghekakdpgaa
