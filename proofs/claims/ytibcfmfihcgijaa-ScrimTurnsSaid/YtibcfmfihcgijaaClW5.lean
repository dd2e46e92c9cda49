/- Contracts of layer 3: the steps that add each; whether names stand in a list one behind the other. -/
import Derived.Test.YtibcfmfihcgijaaClW4
namespace Go.Proofs.Ytibcfmfihcgijaa
open Go.RowKit M
theorem infoStep : (Try.prog.info? 36).map (fun i => (i.zero, i.size, i.bytes)) = some (some (.agg #[.bool false, .string { data := #[] }]), 2, 24) := by kernel_rfl
theorem infoRStep : (Try.prog.info? 35).map (fun i => (i.zero, i.size, i.bytes)) = some (some (.agg #[.bool false, .string { data := #[] }]), 2, 24) := by kernel_rfl
theorem adds_any (A : Option Addr) (n c : Nat) (ss : List ByteArray) (w : World) (hn : n = ss.length) (hm : n ≤ 1000000) (ha : At w A (sv ss)) :
    Calls Try.prog 46 #[.slice A n c] w fun e w' => ∃ v, e = .returned v ∧ w'.ownsRow w.heap.size 36 2 v n (stv (addsOf ss)) ∧ Below w.heap.size w w' := by
  have HN := Lib.hid hn
  have HA := Lib.hid ha
  clear hn ha
  obtain ⟨i0, hi, hz0, hz1, hz2⟩ := info_parts infoStep
  go_enter Try.func46, Try.ntmps46
  go_wp2
  go_loopw [3, 8] (fun v i wr => ∃ k : Nat, k ≤ n ∧ i = .int .i64 k ∧ Hid (wr.ownsRow w.heap.size 36 2 v k (stv (addsOf (ss.take k)))) ∧ Below w.heap.size w wr) (fun _ i _ => n - (intOf i).toNat)
  case atStart => exact ⟨0, Nat.zero_le _, rfl, World.ownsRow_nil _ _ _ _, Below.refl _ _⟩
  case round =>
    obtain ⟨k, hk, rfl, hown, hbel⟩ := hrel
    by_cases hlt : k < n
    · have hk1 : k < ss.length := by have := HN.out; omega
      obtain ⟨b, off, rfl, hlb, hc0⟩ := HA.out.one (sv_at ss k hk1)
      have hc := (below_cells hbel).1 b (off + k) hlb
      rw [hc0] at hc
      have HC0 := Lib.hid hc0
      clear hc0
      have hX := addsOf_next ss k hk1
      obtain ⟨s, hs⟩ : ∃ s, s = ss[k] := ⟨_, rfl⟩
      rw [← hs] at hc hX
      have HX := Lib.hid hX
      clear hs hX
      have hsz := hbel.size
      go_wp2_with (at_builtin; refine wpList_append_own _ rfl _ _ 30 rfl w.heap.size 36 i0 (.agg #[.bool false, .string { data := #[] }]) 2 24 Try.underlying30 hi hz0 hz1 hz2 rfl (by decide) _ _ _ rfl (hown.out.alloc _) ⟨_, 0, none⟩ 1 1 [.bool false, .string s] rfl rfl (cells_new _ _ _ _ rfl) (stv_one [(false, s)]) (by unfold maxLen; omega) (by omega) (by simp; omega) ?_; intro v1 w1 hown1 hgrow1 _hnil1; have HO := Lib.hid hown1; have HG := Lib.hid hgrow1; clear hown1 hgrow1 _hnil1)
      go_roundw
      case rel => exact ⟨k + 1, by omega, by go_num, by show World.ownsRow _ _ _ _ _ _ _; rw [HX.out, stv_app]; exact HO.out, (hbel.alloc hsz _).grown HG.out (by simp; omega) (own_from hown.out)⟩
      case measure => simp [intOf]; omega
    · obtain rfl : k = n := by omega
      go_wp2
      go_ret
      exact ⟨_, rfl, by have h1 := hown.out
                        rw [List.take_of_length_le (by have := HN.out; omega)] at h1; exact h1, hbel⟩
theorem stands_any (N : Nat) : ∀ (A B : Option Addr) (n c m d : Nat) (l ns : List ByteArray) (w : World), l.length < N → n = l.length → n ≤ c → c ≤ maxLen → m = ns.length → m ≤ d → d ≤ maxLen → At w A (sv l) → At w B (sv ns) →
    Calls Try.prog 47 #[.slice A n c, .slice B m d] w fun e w' => e = .returned (.bool (stands l ns)) ∧ ∃ q, w' = w.drewN q := by
  induction N with
  | zero =>
    intro A B n c m d l ns w hN
    exact absurd hN (by omega)
  | succ N ih =>
    intro A B n c m d l ns w hN hn hnc hc hm hmd hd ha hb
    have IH := Lib.hid ih
    have HN := Lib.hid hn
    have HM := Lib.hid hm
    have HA := Lib.hid ha
    have HB := Lib.hid hb
    have HL := Lib.hid hN
    unfold maxLen at hc hd
    clear ih hn hm ha hb hN
    by_cases h0 : 0 < m
    · have h0' : ((m : Int) == 0) = false := by rw [beq_eq_false_iff_ne]; omega
      have h0n : 0 < ns.length := by have := HM.out; omega
      obtain ⟨b2, o2, rfl, hlb2, hc2⟩ := HB.out.one (sv_at ns 0 h0n)
      obtain ⟨t, ht⟩ : ∃ t, t = ns[0] := ⟨_, rfl⟩
      rw [← ht, Nat.add_zero] at hc2
      have HT := Lib.hid ht
      clear ht
      go_enter Try.func47, Try.ntmps47
      go_wp2
      go_loop [12] (fun i => ∃ k : Nat, k ≤ n ∧ i = .int .i64 k ∧ Hid (stands l ns = stands (l.drop k) ns)) (fun i => n - (intOf i).toNat)
      case atStart => exact ⟨0, Nat.zero_le _, rfl, rfl⟩
      case round =>
        obtain ⟨k, hk, rfl, hx⟩ := hrel
        by_cases hlt : k < n
        · have hk1 : k < l.length := by have := HN.out; omega
          obtain ⟨b1, o1, rfl, hlb1, hc1⟩ := HA.out.one (sv_at l k hk1)
          obtain ⟨s, hs⟩ : ∃ s, s = l[k] := ⟨_, rfl⟩
          rw [← hs] at hc1
          have HS := Lib.hid hs
          clear hs
          by_cases hst : s = t
          · have h1 := str_yes hst
            have HX := Lib.hid hst
            clear hst
            go_wp2
            have e1 : IntKind.i64.wrap ((k : Int) + 1) = (k : Int) + 1 := IntWalk.i64_in _ (by omega)
            have hL1 : Hid ((sv l).length ≤ c) := by show (sv l).length ≤ c; rw [sv_len]; have := HN.out; omega
            have hL2 : Hid ((sv ns).length ≤ d) := by show (sv ns).length ≤ d; rw [sv_len]; have := HM.out; omega
            have HA1 : Hid (At w (if c = k + 1 then some ⟨b1, o1, none⟩ else some ⟨b1, o1 + (k + 1), none⟩) (sv (l.drop (k + 1)))) := by show At _ _ _; rw [sv_drop]; exact HA.out.cut' (k + 1) c hL1.out
            have HB1 : Hid (At w (if d = 1 then some ⟨b2, o2, none⟩ else some ⟨b2, o2 + 1, none⟩) (sv (ns.drop 1))) := by show At _ _ _; rw [sv_drop]; exact HB.out.cut' 1 d hL2.out
            have HF := Lib.hid (stands_yes l ns k hk1 h0n (by rw [← HS.out, ← HT.out]; exact HX.out))
            have HI : Hid (∀ j, Calls Try.prog 47 #[.slice (if c = k + 1 then some ⟨b1, o1, none⟩ else some ⟨b1, o1 + (k + 1), none⟩) (n - (k + 1)) (c - (k + 1)), .slice (if d = 1 then some ⟨b2, o2, none⟩ else some ⟨b2, o2 + 1, none⟩) (m - 1) (d - 1)] (w.drewN j) fun e w' => e = .returned (.bool (stands (l.drop (k + 1)) (ns.drop 1))) ∧ ∃ q, w' = w.drewN q) := fun j =>
              (IH.out _ _ _ _ _ _ (l.drop (k + 1)) (ns.drop 1) (w.drewN j) (by have := HL.out; simp; omega) (by have := HN.out; simp; omega) (by omega) (by unfold maxLen; omega) (by have := HM.out; simp; omega) (by omega) (by unfold maxLen; omega) HA1.out HB1.out).mono fun e w' ⟨he, q, hq⟩ => ⟨he, _, hq.trans (World.drewN_drewN _ _ _)⟩
            go_quiet ((go_at_call 47; exact HI.out _))
            go_wp2
            all_goals
              go_ret
              exact ⟨ret_bool' (by rw [hx.out, HF.out, List.drop_one]), _, rfl⟩
          · have h1 := str_no hst
            have HX := Lib.hid (stands_no l ns k hk1 h0n (by rw [← HS.out, ← HT.out]; exact hst))
            clear hst
            go_wp2
            go_round
            case rel => exact ⟨k + 1, by omega, by go_num, hx.out.trans HX.out⟩
            case measure => simp [intOf]; omega
        · have HX := Lib.hid (stands_end l ns k (by have := HN.out; omega) h0n)
          go_wp2
          go_ret
          exact ⟨ret_bool' (hx.out.trans HX.out).symm, 0, rfl⟩
    · have hs : ns = [] := List.eq_nil_of_length_eq_zero (by have := HM.out; omega)
      have hm0 : m = 0 := by omega
      subst hs hm0
      go_enter Try.func47, Try.ntmps47
      go_wp2
      go_ret
      exact ⟨ret_bool' (stands_nil l).symm, 0, rfl⟩
end Go.Proofs.Ytibcfmfihcgijaa
