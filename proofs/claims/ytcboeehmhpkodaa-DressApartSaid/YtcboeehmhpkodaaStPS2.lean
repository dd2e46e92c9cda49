/- Walk of the library's merge of two sorted parts, over any program that bears its body. -/
import Derived.Test.YtcboeehmhpkodaaStPS1
import Derived.Test.YtcboeehmhpkodaaProg
import Derived.Shelf.SlSortCmp.KitK
import Derived.Sort.WalkB2
import Derived.Sort.WalkB12
import Derived.Deep.LoopGhost
import Derived.Lib.Hide
import Derived.Deep.DeepCutAuto
import Derived.Shelf.GgSortFunc.LotD
namespace Go.Proofs.Ytcboeehmhpkodaa
open Go.Shelf Go.RowKit Go.Lib Go.Sort Go.Proofs
namespace St
namespace PS
variable {P : Program} {α : Type} [Inhabited α]
variable {β : Type} [DecidableEq β] {nm : α → β}
set_option maxHeartbeats 16000000 in
set_option maxRecDepth 1000000 in
theorem symMerge (L : Lays P) (k : Nat) (aE : ∀ w, (isAgg 42).run P w = .ok true w) (zE : ∀ w, (Go.sizeOf 42).run P w = .ok k w) (enc : α → List Value) (cf : α → α → Int) (hO : SWO (ltOf cf)) (hn : ∀ x y, ltOf cf x y = true → nm x ≠ nm y) (g : Nat) (cb : Array Value) (blk off cap : Nat) (d0 : Array α) (w0 : World)
    (eg : ∀ args w, (callFunc g args).run P w = .ok (.enter g args) w) (hcmp : CmpLays P g cb enc k cf blk off d0.size w0) (R : RowK enc k w0 blk off d0) :
    ∀ (N a m b : Nat) (d : Array α) (w : World), b - a ≤ N → d0.size = d.size → SWK enc k w0 blk off d w → a < m → m < b → b ≤ d.size → d.size < 1000000000000 → SortedIn (ltOf cf) a m d → SortedIn (ltOf cf) m b d →
    Calls P 57 #[.slice (some ⟨blk, off, none⟩) d.size cap, .int .i64 a, .int .i64 m, .int .i64 b, .func (.func g) #[] cb] w fun e w' => e = .returned (.tuple #[]) ∧ ∃ d', Kept nm a b d d' ∧ SortedIn (ltOf cf) a b d' ∧ SWK enc k w0 blk off d' w' := by
  have mixed := L.mixed; have t0 := L.t0; have a0 := L.a0; have z0 := L.z0; have v0 := L.v0; have t3 := L.t3; have a3 := L.a3; have z3 := L.z3; have v3 := L.v3; have t4 := L.t4; have a4 := L.a4; have z4 := L.z4; have v4 := L.v4; have t46 := L.t46; have a46 := L.a46; have z46 := L.z46; have v46 := L.v46; have t100 := L.t100; have a100 := L.a100; have z100 := L.z100; have v100 := L.v100; have t107 := L.t107; have a107 := L.a107; have z107 := L.z107; have v107 := L.v107
  have FG := L.f88
  have e88 : ∀ args w, (callFunc 57 args).run P w = .ok (.enter 57 args) w := enters_of L.f88 (by kernel_rfl) rfl
  have e93 : ∀ args w, (callFunc 61 args).run P w = .ok (.enter 61 args) w := enters_of L.f93 (by kernel_rfl) rfl
  have HC : Aside _ := hcmp
  have HO : Aside _ := hO
  have HN : Aside (∀ x y, ltOf cf x y = true → nm x ≠ nm y) := hn
  clear hcmp hO hn
  intro N
  induction N with
  | zero => intro a m b d w h1 _ _ h2 h3; exfalso; omega
  | succ N ih =>
    intro a m b d w hN hs S ham hmb hb hsz sA sB
    have S0 : Aside (SWK enc k w0 blk off d w) := S
    have SA : Aside (SortedIn (ltOf cf) a m d) := sA
    have SB : Aside (SortedIn (ltOf cf) m b d) := sB
    have IH : Aside _ := ih
    clear S sA sB ih
    go_enter FG, Try.ntmps57
    by_cases c1 : m - a = 1
    · have c1z : (m : Int) - (a : Int) = 1 := by omega
      have c1b : ((m : Int) - (a : Int) == 1) = true := by rw [beq_iff_eq]; exact c1z
      go_wp2
      go_loopg [10, 11] (b - m) (fun kx s10 s11 wr => ∃ i j : Nat, s10 = .int .i64 i ∧ s11 = .int .i64 j ∧ m ≤ i ∧ i ≤ j ∧ j ≤ b ∧ j - i ≤ kx ∧ Aside (SWK enc k w0 blk off d wr) ∧ Hid (∀ t, m ≤ t → t < i → ltOf cf d[t]! d[a]! = true) ∧ Hid (∀ t, j ≤ t → t < b → ltOf cf d[t]! d[a]! = false))
      case atStart => exact ⟨m, b, rfl, rfl, Nat.le_refl _, by omega, Nat.le_refl _, Nat.le_refl _, S0, fun t h1 h2 => absurd h2 (by omega), fun t h1 h2 => absurd h2 (by omega)⟩
      case round =>
        clear S0
        obtain ⟨i, j, rfl, rfl, hmi, hij, hjb, hkx, S1, HY, HZ⟩ := hrel
        by_cases hlt : i < j
        · obtain ⟨h, hh⟩ : ∃ h, h = (i + j) / 2 := ⟨_, rfl⟩
          have h1 : i ≤ h := by omega
          have h2 : h < j := by omega
          have he : ((i : Int) + (j : Int)) / 2 = (h : Int) := by omega
          have hltz : (i : Int) < (j : Int) := by omega
          clear hh
          cases hL : ltOf cf d[h]! d[a]! with
          | true =>
            have ea1 : ((h : Int)).toNat = h := by omega
            have pa1 : (0 : Int) ≤ (h : Int) := by omega
            have ba1 : (h : Int) < (d.size : Int) := by omega
            have ra1 : IntKind.i64.wrap ((h : Int)) = (h : Int) := by rw [IntKind.wrap_i64]; omega
            have ec1 : ((a : Int)).toNat = a := by omega
            have pc1 : (0 : Int) ≤ (a : Int) := by omega
            have bc1 : (a : Int) < (d.size : Int) := by omega
            have rc1 : IntKind.i64.wrap ((a : Int)) = (a : Int) := by rw [IntKind.wrap_i64]; omega
            obtain ⟨x1, hx1⟩ : ∃ x, x = d[h]! := ⟨_, rfl⟩
            obtain ⟨y1, hy1⟩ : ∃ x, x = d[a]! := ⟨_, rfl⟩
            have l1a := S1.out.ld R (by omega) P (h) (by omega)
            have l1b := S1.out.ld R (by omega) P (a) (by omega)
            rw [← hx1] at l1a
            rw [← hy1] at l1b
            have hc1 := S1.out.cmp HC.out (by omega) x1 y1
            have hv1 : cf x1 y1 < 0 := by rw [hx1, hy1]; exact of_decide_eq_true hL
            have hd1 : decide (cf x1 y1 < 0) = true := decide_eq_true hv1
            clear hx1 hy1
            go_wp2_with fail
            go_quiet_grown (first | (go_at_fn g; refine Calls.grown_of (hc1 _ _)))
            have S2 : Aside (SWK enc k w0 blk off d (grow (wr.drewN nq) osq)) := S1.out.grown nq osq
            clear l1a l1b hc1 S1
            generalize grow (wr.drewN nq) osq = w2 at S2 ⊢
            clear nq osq
            go_wp2
            go_roundg (j - (h + 1))
            case measure => omega
            case rel => exact ⟨h + 1, j, by go_num, rfl, by omega, by omega, hjb, Nat.le_refl _, S2, fun t h3 h4 => le_lt HO.out (sorted_le HO.out SB.out h3 (by omega : t ≤ h) (by omega)) hL, HZ⟩
          | false =>
            have ea1 : ((h : Int)).toNat = h := by omega
            have pa1 : (0 : Int) ≤ (h : Int) := by omega
            have ba1 : (h : Int) < (d.size : Int) := by omega
            have ra1 : IntKind.i64.wrap ((h : Int)) = (h : Int) := by rw [IntKind.wrap_i64]; omega
            have ec1 : ((a : Int)).toNat = a := by omega
            have pc1 : (0 : Int) ≤ (a : Int) := by omega
            have bc1 : (a : Int) < (d.size : Int) := by omega
            have rc1 : IntKind.i64.wrap ((a : Int)) = (a : Int) := by rw [IntKind.wrap_i64]; omega
            obtain ⟨x1, hx1⟩ : ∃ x, x = d[h]! := ⟨_, rfl⟩
            obtain ⟨y1, hy1⟩ : ∃ x, x = d[a]! := ⟨_, rfl⟩
            have l1a := S1.out.ld R (by omega) P (h) (by omega)
            have l1b := S1.out.ld R (by omega) P (a) (by omega)
            rw [← hx1] at l1a
            rw [← hy1] at l1b
            have hc1 := S1.out.cmp HC.out (by omega) x1 y1
            have hv1 : ¬ cf x1 y1 < 0 := by rw [hx1, hy1]; exact of_decide_eq_false hL
            have hd1 : decide (cf x1 y1 < 0) = false := decide_eq_false hv1
            clear hx1 hy1
            go_wp2_with fail
            go_quiet_grown (first | (go_at_fn g; refine Calls.grown_of (hc1 _ _)))
            have S2 : Aside (SWK enc k w0 blk off d (grow (wr.drewN nq) osq)) := S1.out.grown nq osq
            clear l1a l1b hc1 S1
            generalize grow (wr.drewN nq) osq = w2 at S2 ⊢
            clear nq osq
            go_wp2
            go_roundg (h - i)
            case measure => omega
            case rel => exact ⟨i, h, rfl, rfl, hmi, h1, by omega, Nat.le_refl _, S2, HY, fun t h3 h4 => HO.out.ntrans _ _ _ (sorted_le HO.out SB.out (by omega) h3 h4) hL⟩
        · obtain rfl : i = j := by omega
          go_wp2
          go_loopg [13] (i - m) (fun kx s wr => ∃ (x : Nat) (dk : Array α), s = .int .i64 x ∧ a ≤ x ∧ x + 1 ≤ i ∧ i - (x + 1) ≤ kx ∧ dk.size = d.size ∧ Aside (SWK enc k w0 blk off dk wr) ∧ Hid (Rot a m (m + (x - a)) d dk))
          case atStart => exact ⟨a, d, rfl, Nat.le_refl _, by omega, by omega, rfl, S1, Rot.id _ _ _ _ (by omega) (by omega) (.inr (by omega))⟩
          case round =>
            clear S1
            obtain ⟨x, dk, rfl, hax, hxi, hkx2, hds, S1, HR⟩ := hrel
            by_cases hlt2 : x + 1 < i
            · have hltz : (x : Int) < (i : Int) - 1 := by omega
              have ea2 : ((x : Int)).toNat = x := by omega
              have pa2 : (0 : Int) ≤ (x : Int) := by omega
              have ba2 : (x : Int) < (d.size : Int) := by omega
              have ra2 : IntKind.i64.wrap ((x : Int)) = (x : Int) := by rw [IntKind.wrap_i64]; omega
              have ec2 : ((x : Int) + 1).toNat = x + 1 := by omega
              have pc2 : (0 : Int) ≤ (x : Int) + 1 := by omega
              have bc2 : (x : Int) + 1 < (d.size : Int) := by omega
              have rc2 : IntKind.i64.wrap ((x : Int) + 1) = (x : Int) + 1 := by rw [IntKind.wrap_i64]; omega
              have S2 : Aside (SWK enc k w0 blk off (swp dk (x) (x + 1)) ((wr.drew.setCells blk (off + (x) * k) (enc dk[x + 1]!)).setCells blk (off + (x + 1) * k) (enc dk[x]!))) := S1.out.swapped R (x) (x + 1) (by omega) (by omega)
              have l2a := S1.out.ld1 R (by omega) P (x) (by omega)
              have l2b := S1.out.ld1 R (by omega) P (x + 1) (by omega)
              have s2a := S1.out.st1 R (by omega) P (x) (by omega) dk[x + 1]!
              have s2b := S1.out.st2 R (by omega) P (x) (x + 1) (by omega) (by omega) dk[x + 1]! dk[x]!
              have n2a : (enc dk[x]!).length = k := R.hk _
              have n2b : (enc dk[x + 1]!).length = k := R.hk _
              generalize enc dk[x]! = cI2 at S2 l2a s2b n2a
              generalize enc dk[x + 1]! = cJ2 at S2 l2b s2a s2b n2b
              clear S1
              go_wp2_with fail
              go_big_region_o
              clear l2a l2b s2a s2b
              generalize (wr.drew.setCells blk (off + (x) * k) cJ2).setCells blk (off + (x + 1) * k) cI2 = w2 at S2 ⊢
              go_wp2
              go_roundg (i - (x + 1 + 1))
              case measure => omega
              case rel =>
                refine ⟨x + 1, _, by go_num, by omega, by omega, Nat.le_refl _, by rw [size_swp]; exact hds, S2, ?_⟩
                have h0 := HR.out
                obtain rfl : m = a + 1 := by omega
                have h1 := Rot.up h0 (by omega)
                rw [show a + (x - a) = x from by omega] at h1
                rw [show x + 1 - a = x - a + 1 from by omega]
                exact h1
            · have hltz : ¬ (x : Int) < (i : Int) - 1 := by omega
              go_wp2
              (try simp only [Exit.inBlock, Exit.then]); refine bodyPost_ret (results_none rfl _ _ _) rfl ?_
              have h0 := HR.out
              rw [show m + (x - a) = i from by omega] at h0
              obtain ⟨k1, k2⟩ := one_up HO.out HN.out (by omega) hmi hjb SB.out h0 HY.out HZ.out
              exact ⟨rfl, dk, k1, k2, S1.out⟩
    · have c1z : ¬ (m : Int) - (a : Int) = 1 := by omega
      have c1b : ((m : Int) - (a : Int) == 1) = false := by rw [beq_eq_false_iff_ne]; exact c1z
      by_cases c2 : b - m = 1
      · have c2z : (b : Int) - (m : Int) = 1 := by omega
        have c2b : ((b : Int) - (m : Int) == 1) = true := by rw [beq_iff_eq]; exact c2z
        go_wp2
        go_loopg [14, 15] (m - a) (fun kx s10 s11 wr => ∃ i j : Nat, s10 = .int .i64 i ∧ s11 = .int .i64 j ∧ a ≤ i ∧ i ≤ j ∧ j ≤ m ∧ j - i ≤ kx ∧ Aside (SWK enc k w0 blk off d wr) ∧ Hid (∀ t, a ≤ t → t < i → ltOf cf d[m]! d[t]! = false) ∧ Hid (∀ t, j ≤ t → t < m → ltOf cf d[m]! d[t]! = true))
        case atStart => exact ⟨a, m, rfl, rfl, Nat.le_refl _, by omega, Nat.le_refl _, Nat.le_refl _, S0, fun t h1 h2 => absurd h2 (by omega), fun t h1 h2 => absurd h2 (by omega)⟩
        case round =>
          clear S0
          obtain ⟨i, j, rfl, rfl, hmi, hij, hjb, hkx, S1, HY, HZ⟩ := hrel
          by_cases hlt : i < j
          · obtain ⟨h, hh⟩ : ∃ h, h = (i + j) / 2 := ⟨_, rfl⟩
            have h1 : i ≤ h := by omega
            have h2 : h < j := by omega
            have he : ((i : Int) + (j : Int)) / 2 = (h : Int) := by omega
            have hltz : (i : Int) < (j : Int) := by omega
            clear hh
            cases hL : ltOf cf d[m]! d[h]! with
            | false =>
              have ea1 : ((m : Int)).toNat = m := by omega
              have pa1 : (0 : Int) ≤ (m : Int) := by omega
              have ba1 : (m : Int) < (d.size : Int) := by omega
              have ra1 : IntKind.i64.wrap ((m : Int)) = (m : Int) := by rw [IntKind.wrap_i64]; omega
              have ec1 : ((h : Int)).toNat = h := by omega
              have pc1 : (0 : Int) ≤ (h : Int) := by omega
              have bc1 : (h : Int) < (d.size : Int) := by omega
              have rc1 : IntKind.i64.wrap ((h : Int)) = (h : Int) := by rw [IntKind.wrap_i64]; omega
              obtain ⟨x1, hx1⟩ : ∃ x, x = d[m]! := ⟨_, rfl⟩
              obtain ⟨y1, hy1⟩ : ∃ x, x = d[h]! := ⟨_, rfl⟩
              have l1a := S1.out.ld R (by omega) P (m) (by omega)
              have l1b := S1.out.ld R (by omega) P (h) (by omega)
              rw [← hx1] at l1a
              rw [← hy1] at l1b
              have hc1 := S1.out.cmp HC.out (by omega) x1 y1
              have hv1 : ¬ cf x1 y1 < 0 := by rw [hx1, hy1]; exact of_decide_eq_false hL
              have hd1 : decide (cf x1 y1 < 0) = false := decide_eq_false hv1
              clear hx1 hy1
              go_wp2_with fail
              go_quiet_grown (first | (go_at_fn g; refine Calls.grown_of (hc1 _ _)))
              have S2 : Aside (SWK enc k w0 blk off d (grow (wr.drewN nq) osq)) := S1.out.grown nq osq
              clear l1a l1b hc1 S1
              generalize grow (wr.drewN nq) osq = w2 at S2 ⊢
              clear nq osq
              go_wp2
              go_roundg (j - (h + 1))
              case measure => omega
              case rel => exact ⟨h + 1, j, by go_num, rfl, by omega, by omega, hjb, Nat.le_refl _, S2, fun t h3 h4 => HO.out.ntrans _ _ _ hL (sorted_le HO.out SA.out h3 (by omega : t ≤ h) (by omega)), HZ⟩
            | true =>
              have ea1 : ((m : Int)).toNat = m := by omega
              have pa1 : (0 : Int) ≤ (m : Int) := by omega
              have ba1 : (m : Int) < (d.size : Int) := by omega
              have ra1 : IntKind.i64.wrap ((m : Int)) = (m : Int) := by rw [IntKind.wrap_i64]; omega
              have ec1 : ((h : Int)).toNat = h := by omega
              have pc1 : (0 : Int) ≤ (h : Int) := by omega
              have bc1 : (h : Int) < (d.size : Int) := by omega
              have rc1 : IntKind.i64.wrap ((h : Int)) = (h : Int) := by rw [IntKind.wrap_i64]; omega
              obtain ⟨x1, hx1⟩ : ∃ x, x = d[m]! := ⟨_, rfl⟩
              obtain ⟨y1, hy1⟩ : ∃ x, x = d[h]! := ⟨_, rfl⟩
              have l1a := S1.out.ld R (by omega) P (m) (by omega)
              have l1b := S1.out.ld R (by omega) P (h) (by omega)
              rw [← hx1] at l1a
              rw [← hy1] at l1b
              have hc1 := S1.out.cmp HC.out (by omega) x1 y1
              have hv1 : cf x1 y1 < 0 := by rw [hx1, hy1]; exact of_decide_eq_true hL
              have hd1 : decide (cf x1 y1 < 0) = true := decide_eq_true hv1
              clear hx1 hy1
              go_wp2_with fail
              go_quiet_grown (first | (go_at_fn g; refine Calls.grown_of (hc1 _ _)))
              have S2 : Aside (SWK enc k w0 blk off d (grow (wr.drewN nq) osq)) := S1.out.grown nq osq
              clear l1a l1b hc1 S1
              generalize grow (wr.drewN nq) osq = w2 at S2 ⊢
              clear nq osq
              go_wp2
              go_roundg (h - i)
              case measure => omega
              case rel => exact ⟨i, h, rfl, rfl, hmi, h1, by omega, Nat.le_refl _, S2, HY, fun t h3 h4 => lt_le HO.out hL (sorted_le HO.out SA.out (by omega) h3 h4)⟩
          · obtain rfl : i = j := by omega
            go_wp2
            go_loopg [17] (m - i) (fun kx s wr => ∃ (x : Nat) (dk : Array α), s = .int .i64 x ∧ i ≤ x ∧ x ≤ m ∧ x - i ≤ kx ∧ dk.size = d.size ∧ Aside (SWK enc k w0 blk off dk wr) ∧ Hid (Rot x m b d dk))
            case atStart => exact ⟨m, d, rfl, hjb, Nat.le_refl _, Nat.le_refl _, rfl, S1, Rot.id _ _ _ _ (Nat.le_refl _) (by omega) (.inl rfl)⟩
            case round =>
              clear S1
              obtain ⟨x, dk, rfl, hax, hxi, hkx2, hds, S1, HR⟩ := hrel
              by_cases hlt2 : i < x
              · obtain ⟨y, rfl⟩ : ∃ y, x = y + 1 := ⟨x - 1, by omega⟩
                have hltz : (i : Int) < (y : Int) + 1 := by omega
                have hltg : (y : Int) + 1 > (i : Int) := by omega
                have e0 : (y : Int) + 1 - 1 = (y : Int) := by omega
                have ea2 : ((y : Int) + 1).toNat = y + 1 := by omega
                have pa2 : (0 : Int) ≤ (y : Int) + 1 := by omega
                have ba2 : (y : Int) + 1 < (d.size : Int) := by omega
                have ra2 : IntKind.i64.wrap ((y : Int) + 1) = (y : Int) + 1 := by rw [IntKind.wrap_i64]; omega
                have ec2 : ((y : Int)).toNat = y := by omega
                have pc2 : (0 : Int) ≤ (y : Int) := by omega
                have bc2 : (y : Int) < (d.size : Int) := by omega
                have rc2 : IntKind.i64.wrap ((y : Int)) = (y : Int) := by rw [IntKind.wrap_i64]; omega
                have S2 : Aside (SWK enc k w0 blk off (swp dk (y + 1) (y)) ((wr.drew.setCells blk (off + (y + 1) * k) (enc dk[y]!)).setCells blk (off + (y) * k) (enc dk[y + 1]!))) := S1.out.swapped R (y + 1) (y) (by omega) (by omega)
                have l2a := S1.out.ld1 R (by omega) P (y + 1) (by omega)
                have l2b := S1.out.ld1 R (by omega) P (y) (by omega)
                have s2a := S1.out.st1 R (by omega) P (y + 1) (by omega) dk[y]!
                have s2b := S1.out.st2 R (by omega) P (y + 1) (y) (by omega) (by omega) dk[y]! dk[y + 1]!
                have n2a : (enc dk[y + 1]!).length = k := R.hk _
                have n2b : (enc dk[y]!).length = k := R.hk _
                generalize enc dk[y + 1]! = cI2 at S2 l2a s2b n2a
                generalize enc dk[y]! = cJ2 at S2 l2b s2a s2b n2b
                clear S1
                go_wp2_with fail
                go_big_region_o
                clear l2a l2b s2a s2b
                generalize (wr.drew.setCells blk (off + (y + 1) * k) cJ2).setCells blk (off + (y) * k) cI2 = w2 at S2 ⊢
                go_wp2
                go_roundg (y - i)
                case measure => omega
                case rel =>
                  refine ⟨y, _, by first | rfl | go_num, by omega, by omega, Nat.le_refl _, by rw [size_swp]; exact hds, S2, ?_⟩
                  have h0 := HR.out
                  rw [show b = m + 1 from by omega] at h0 ⊢
                  exact Rot.down h0 (by omega) (by omega)
              · have hltz : ¬ (i : Int) < (x : Int) := by omega
                have hltg : ¬ (x : Int) > (i : Int) := by omega
                obtain rfl : x = i := by omega
                go_wp2
                (try simp only [Exit.inBlock, Exit.then]); refine bodyPost_ret (results_none rfl _ _ _) rfl ?_
                obtain ⟨k1, k2⟩ := one_down HO.out HN.out (by omega) hmi hjb SA.out HR.out HY.out HZ.out
                exact ⟨rfl, dk, k1, k2, S1.out⟩
      · have c2z : ¬ (b : Int) - (m : Int) = 1 := by omega
        have c2b : ((b : Int) - (m : Int) == 1) = false := by rw [beq_eq_false_iff_ne]; exact c2z
        obtain ⟨mid, hmid⟩ : ∃ mid, mid = (a + b) / 2 := ⟨_, rfl⟩
        have hm1 : a < mid := by omega
        have hm2 : mid < b := by omega
        have he : ((a : Int) + (b : Int)) / 2 = (mid : Int) := by omega
        have hm3 : a + b ≤ 2 * mid + 1 := by omega
        have hm4 : 2 * mid ≤ a + b := by omega
        clear hmid
        go_upto_if 140 with fail
        go_cut [20, 21] (fun s20 s21 wc => ∃ st r : Nat, s20 = .int .i64 st ∧ s21 = .int .i64 r ∧ a ≤ st ∧ st ≤ r ∧ r ≤ m ∧ r ≤ mid ∧ mid + m ≤ b + st ∧ (st = a ∨ mid + m = b + st) ∧ (r = m ∨ r = mid) ∧ Aside (SWK enc k w0 blk off d wc))
        case first =>
          by_cases c3 : mid < m
          · have c3z : (m : Int) > (mid : Int) := by omega
            have c3y : (mid : Int) < (m : Int) := by omega
            go_wp2
            go_meet
            case rel => exact ⟨mid + m - b, mid, by congr 1; omega, rfl, by omega, by omega, by omega, by omega, by omega, by omega, by omega, S0⟩
          · have c3z : ¬ (m : Int) > (mid : Int) := by omega
            have c3y : ¬ (mid : Int) < (m : Int) := by omega
            go_wp2
            go_meet
            case rel => exact ⟨a, m, rfl, rfl, by omega, by omega, by omega, by omega, by omega, by omega, by omega, S0⟩
        case rest =>
          obtain ⟨st, r0, rfl, rfl, g1, g2, g3, g4, g5, g6, g7, S1⟩ := hcut
          clear S0
          go_wp2
          go_loopg [20, 21] (r0 - st) (fun kx s20 s21 wr => ∃ s r : Nat, s20 = .int .i64 s ∧ s21 = .int .i64 r ∧ st ≤ s ∧ s ≤ r ∧ r ≤ r0 ∧ r - s ≤ kx ∧ Aside (SWK enc k w0 blk off d wr) ∧ Hid (∀ c, st ≤ c → c < s → ltOf cf d[mid + m - 1 - c]! d[c]! = false) ∧ Hid (∀ c, r ≤ c → c < r0 → ltOf cf d[mid + m - 1 - c]! d[c]! = true))
          case atStart => exact ⟨st, r0, rfl, rfl, Nat.le_refl _, g2, Nat.le_refl _, Nat.le_refl _, S1, fun t h1 h2 => absurd h2 (by omega), fun t h1 h2 => absurd h2 (by omega)⟩
          case round =>
            clear S1
            obtain ⟨s, r, rfl, rfl, hst, hsr, hrr, hkx, S1, HY, HZ⟩ := hrel
            by_cases hlt : s < r
            · obtain ⟨h, hh⟩ : ∃ h, h = (s + r) / 2 := ⟨_, rfl⟩
              have h1 : s ≤ h := by omega
              have h2 : h < r := by omega
              have hq : ((s : Int) + (r : Int)) / 2 = (h : Int) := by omega
              have hltz : (s : Int) < (r : Int) := by omega
              have ex1 : (h : Int) ≤ (mid : Int) + (m : Int) - 1 := by omega
              clear hh
              cases hL : ltOf cf d[mid + m - 1 - h]! d[h]! with
              | false =>
                have ea1 : ((mid : Int) + (m : Int) - 1 - (h : Int)).toNat = mid + m - 1 - h := by omega
                have pa1 : (0 : Int) ≤ (mid : Int) + (m : Int) - 1 - (h : Int) := by omega
                have ba1 : (mid : Int) + (m : Int) - 1 - (h : Int) < (d.size : Int) := by omega
                have ra1 : IntKind.i64.wrap ((mid : Int) + (m : Int) - 1 - (h : Int)) = (mid : Int) + (m : Int) - 1 - (h : Int) := by rw [IntKind.wrap_i64]; omega
                have ec1 : ((h : Int)).toNat = h := by omega
                have pc1 : (0 : Int) ≤ (h : Int) := by omega
                have bc1 : (h : Int) < (d.size : Int) := by omega
                have rc1 : IntKind.i64.wrap ((h : Int)) = (h : Int) := by rw [IntKind.wrap_i64]; omega
                obtain ⟨x1, hx1⟩ : ∃ x, x = d[mid + m - 1 - h]! := ⟨_, rfl⟩
                obtain ⟨y1, hy1⟩ : ∃ x, x = d[h]! := ⟨_, rfl⟩
                have l1a := S1.out.ld R (by omega) P (mid + m - 1 - h) (by omega)
                have l1b := S1.out.ld R (by omega) P (h) (by omega)
                rw [← hx1] at l1a
                rw [← hy1] at l1b
                have hc1 := S1.out.cmp HC.out (by omega) x1 y1
                have hv1 : ¬ cf x1 y1 < 0 := by rw [hx1, hy1]; exact of_decide_eq_false hL
                have hd1 : decide (cf x1 y1 < 0) = false := decide_eq_false hv1
                clear hx1 hy1
                go_wp2_with fail
                go_quiet_grown (first | (go_at_fn g; refine Calls.grown_of (hc1 _ _)))
                have S2 : Aside (SWK enc k w0 blk off d (grow (wr.drewN nq) osq)) := S1.out.grown nq osq
                clear l1a l1b hc1 S1
                generalize grow (wr.drewN nq) osq = w2 at S2 ⊢
                clear nq osq
                go_wp2
                go_roundg (r - (h + 1))
                case measure => omega
                case rel => exact ⟨h + 1, r, by go_num, rfl, by omega, by omega, hrr, Nat.le_refl _, S2, fun t h3 h4 => mono_no HO.out SA.out SB.out (by omega) (by omega : t ≤ h) (by omega) (by omega) (by omega) hL, HZ⟩
              | true =>
                have ea1 : ((mid : Int) + (m : Int) - 1 - (h : Int)).toNat = mid + m - 1 - h := by omega
                have pa1 : (0 : Int) ≤ (mid : Int) + (m : Int) - 1 - (h : Int) := by omega
                have ba1 : (mid : Int) + (m : Int) - 1 - (h : Int) < (d.size : Int) := by omega
                have ra1 : IntKind.i64.wrap ((mid : Int) + (m : Int) - 1 - (h : Int)) = (mid : Int) + (m : Int) - 1 - (h : Int) := by rw [IntKind.wrap_i64]; omega
                have ec1 : ((h : Int)).toNat = h := by omega
                have pc1 : (0 : Int) ≤ (h : Int) := by omega
                have bc1 : (h : Int) < (d.size : Int) := by omega
                have rc1 : IntKind.i64.wrap ((h : Int)) = (h : Int) := by rw [IntKind.wrap_i64]; omega
                obtain ⟨x1, hx1⟩ : ∃ x, x = d[mid + m - 1 - h]! := ⟨_, rfl⟩
                obtain ⟨y1, hy1⟩ : ∃ x, x = d[h]! := ⟨_, rfl⟩
                have l1a := S1.out.ld R (by omega) P (mid + m - 1 - h) (by omega)
                have l1b := S1.out.ld R (by omega) P (h) (by omega)
                rw [← hx1] at l1a
                rw [← hy1] at l1b
                have hc1 := S1.out.cmp HC.out (by omega) x1 y1
                have hv1 : cf x1 y1 < 0 := by rw [hx1, hy1]; exact of_decide_eq_true hL
                have hd1 : decide (cf x1 y1 < 0) = true := decide_eq_true hv1
                clear hx1 hy1
                go_wp2_with fail
                go_quiet_grown (first | (go_at_fn g; refine Calls.grown_of (hc1 _ _)))
                have S2 : Aside (SWK enc k w0 blk off d (grow (wr.drewN nq) osq)) := S1.out.grown nq osq
                clear l1a l1b hc1 S1
                generalize grow (wr.drewN nq) osq = w2 at S2 ⊢
                clear nq osq
                go_wp2
                go_roundg (h - s)
                case measure => omega
                case rel => exact ⟨s, h, rfl, rfl, hst, h1, by omega, Nat.le_refl _, S2, HY, fun t h3 h4 => mono_yes HO.out SA.out SB.out (by omega) h3 (by omega) (by omega) (by omega) hL⟩
            · obtain rfl : s = r := by omega
              obtain ⟨e, hee⟩ : ∃ e, e = mid + m - s := ⟨_, rfl⟩
              have he1 : (mid : Int) + (m : Int) - (s : Int) = (e : Int) := by omega
              have h1s : a ≤ s := by omega
              have hme : m ≤ e := by omega
              have heb : e ≤ b := by omega
              have hmid := Lib.hid (show mid = s + (e - m) by omega)
              have hme1 : mid + m ≤ s + e := by omega
              have hme2 : s + e ≤ mid + m := by omega
              have HF := Lib.hid (all_F (e := e) (s := s) HO.out SA.out SB.out h1s heb (fun x y => by
                have := HZ.out s (Nat.le_refl _) (by omega)
                rw [show mid + m - 1 - s = e - 1 from by omega] at this
                exact this))
              have HG := Lib.hid (all_G (e := e) (s := s) HO.out SA.out SB.out (by omega) hme (fun x y => by
                have := HY.out (s - 1) (by omega) (by omega)
                rw [show mid + m - 1 - (s - 1) = e from by omega] at this
                exact this))
              clear hee
              by_cases p1 : s < m ∧ m < e
              · have q1 : (s : Int) < (m : Int) := by omega
                have q2 : (m : Int) < (e : Int) := by omega
                have q3 : (s : Int) < (mid : Int) := by omega
                have q4 : (mid : Int) < (e : Int) := by omega
                by_cases p2 : a < s
                · have q5 : (a : Int) < (s : Int) := by omega
                  by_cases p3 : e < b
                  · have q6 : (e : Int) < (b : Int) := by omega
                    have hc1 := rotate (P := P) L k aE zE enc g cb blk off cap s m e d0 d w0 wr R hs S1.out (by omega) (by omega) (by omega) hsz
                    go_wp2_with (go_at_fn 61; refine hc1.mono ?_; rintro e9 w1 ⟨rfl, d1, hd1, hw1⟩)
                    have HR := Lib.hid hd1
                    have S2 : Aside (SWK enc k w0 blk off d1 w1) := hw1
                    clear hd1 hw1 hc1 S1
                    have hz1 : d1.size = d.size := HR.out.1
                    have HP := Lib.hid (parts (lt := ltOf cf) (mid := mid) h1s (by omega) hme heb hmid.out SA.out SB.out HR.out)
                    have hc2 := IH.out a s mid d1 w1 (by omega) (by omega) S2.out (by omega) (by omega) (by omega) (by omega) HP.out.1 HP.out.2.1
                    rw [hz1] at hc2
                    go_wp2_with (go_at_fn_of 57 (Value.int .i64 (s : Int)); refine hc2.mono ?_; rintro e9 w2 ⟨rfl, d2, hk2, hs2, hw2⟩)
                    have K2 := Lib.hid hk2
                    have Z2 := Lib.hid hs2
                    have S3 : Aside (SWK enc k w0 blk off d2 w2) := hw2
                    clear hk2 hs2 hw2 hc2 S2
                    have hz2 : d2.size = d.size := K2.out.size.trans hz1
                    have HM := Lib.hid (next2 K2.out HP.out.2.2.1 HP.out.2.2.2 (by omega))
                    have hc3 := IH.out mid e b d2 w2 (by omega) (by omega) S3.out (by omega) (by omega) (by omega) (by omega) HM.out.1 HM.out.2
                    rw [hz2] at hc3
                    go_wp2_with (go_at_fn_of 57 (Value.int .i64 (e : Int)); refine hc3.mono ?_; rintro e9 w3 ⟨rfl, d3, hk3, hs3, hw3⟩)
                    go_end0
                    obtain ⟨g1, g2⟩ := join HO.out HN.out h1s (by omega) hme heb hmid.out SA.out SB.out HR.out HF.out HG.out K2.out Z2.out hk3 hs3
                    exact ⟨rfl, d3, g1, g2, hw3⟩
                  · have q6 : ¬ (e : Int) < (b : Int) := by omega
                    have hc1 := rotate (P := P) L k aE zE enc g cb blk off cap s m e d0 d w0 wr R hs S1.out (by omega) (by omega) (by omega) hsz
                    go_wp2_with (go_at_fn 61; refine hc1.mono ?_; rintro e9 w1 ⟨rfl, d1, hd1, hw1⟩)
                    have HR := Lib.hid hd1
                    have S2 : Aside (SWK enc k w0 blk off d1 w1) := hw1
                    clear hd1 hw1 hc1 S1
                    have hz1 : d1.size = d.size := HR.out.1
                    have HP := Lib.hid (parts (lt := ltOf cf) (mid := mid) h1s (by omega) hme heb hmid.out SA.out SB.out HR.out)
                    have hc2 := IH.out a s mid d1 w1 (by omega) (by omega) S2.out (by omega) (by omega) (by omega) (by omega) HP.out.1 HP.out.2.1
                    rw [hz1] at hc2
                    go_wp2_with (go_at_fn_of 57 (Value.int .i64 (s : Int)); refine hc2.mono ?_; rintro e9 w2 ⟨rfl, d2, hk2, hs2, hw2⟩)
                    have K2 := Lib.hid hk2
                    have Z2 := Lib.hid hs2
                    have S3 : Aside (SWK enc k w0 blk off d2 w2) := hw2
                    clear hk2 hs2 hw2 hc2 S2
                    have hz2 : d2.size = d.size := K2.out.size.trans hz1
                    have HM := Lib.hid (next2 K2.out HP.out.2.2.1 HP.out.2.2.2 (by omega))
                    go_wp2
                    go_end0
                    obtain ⟨g1, g2⟩ := join HO.out HN.out h1s (by omega) hme heb hmid.out SA.out SB.out HR.out HF.out HG.out K2.out Z2.out (Kept.refl (nm := nm) mid b d2) (skip1 (lt := ltOf cf) (a := mid) (s := e) (mid := b) (by omega) HM.out.1 HM.out.2)
                    exact ⟨rfl, _, g1, g2, S3.out⟩
                · have q5 : ¬ (a : Int) < (s : Int) := by omega
                  by_cases p3 : e < b
                  · have q6 : (e : Int) < (b : Int) := by omega
                    have hc1 := rotate (P := P) L k aE zE enc g cb blk off cap s m e d0 d w0 wr R hs S1.out (by omega) (by omega) (by omega) hsz
                    go_wp2_with (go_at_fn 61; refine hc1.mono ?_; rintro e9 w1 ⟨rfl, d1, hd1, hw1⟩)
                    have HR := Lib.hid hd1
                    have S2 : Aside (SWK enc k w0 blk off d1 w1) := hw1
                    clear hd1 hw1 hc1 S1
                    have hz1 : d1.size = d.size := HR.out.1
                    have HP := Lib.hid (parts (lt := ltOf cf) (mid := mid) h1s (by omega) hme heb hmid.out SA.out SB.out HR.out)
                    have K2 := Lib.hid (Kept.refl (nm := nm) a mid d1)
                    have Z2 := Lib.hid (skip1 (lt := ltOf cf) (a := a) (s := s) (mid := mid) (by omega) HP.out.1 HP.out.2.1)
                    have hz2 : d1.size = d.size := K2.out.size.trans hz1
                    have HM := Lib.hid (next2 K2.out HP.out.2.2.1 HP.out.2.2.2 (by omega))
                    have hc3 := IH.out mid e b d1 w1 (by omega) (by omega) S2.out (by omega) (by omega) (by omega) (by omega) HM.out.1 HM.out.2
                    rw [hz2] at hc3
                    go_wp2_with (go_at_fn_of 57 (Value.int .i64 (e : Int)); refine hc3.mono ?_; rintro e9 w3 ⟨rfl, d3, hk3, hs3, hw3⟩)
                    go_end0
                    obtain ⟨g1, g2⟩ := join HO.out HN.out h1s (by omega) hme heb hmid.out SA.out SB.out HR.out HF.out HG.out K2.out Z2.out hk3 hs3
                    exact ⟨rfl, d3, g1, g2, hw3⟩
                  · have q6 : ¬ (e : Int) < (b : Int) := by omega
                    have hc1 := rotate (P := P) L k aE zE enc g cb blk off cap s m e d0 d w0 wr R hs S1.out (by omega) (by omega) (by omega) hsz
                    go_wp2_with (go_at_fn 61; refine hc1.mono ?_; rintro e9 w1 ⟨rfl, d1, hd1, hw1⟩)
                    have HR := Lib.hid hd1
                    have S2 : Aside (SWK enc k w0 blk off d1 w1) := hw1
                    clear hd1 hw1 hc1 S1
                    have hz1 : d1.size = d.size := HR.out.1
                    have HP := Lib.hid (parts (lt := ltOf cf) (mid := mid) h1s (by omega) hme heb hmid.out SA.out SB.out HR.out)
                    have K2 := Lib.hid (Kept.refl (nm := nm) a mid d1)
                    have Z2 := Lib.hid (skip1 (lt := ltOf cf) (a := a) (s := s) (mid := mid) (by omega) HP.out.1 HP.out.2.1)
                    have hz2 : d1.size = d.size := K2.out.size.trans hz1
                    have HM := Lib.hid (next2 K2.out HP.out.2.2.1 HP.out.2.2.2 (by omega))
                    go_wp2
                    go_end0
                    obtain ⟨g1, g2⟩ := join HO.out HN.out h1s (by omega) hme heb hmid.out SA.out SB.out HR.out HF.out HG.out K2.out Z2.out (Kept.refl (nm := nm) mid b d1) (skip1 (lt := ltOf cf) (a := mid) (s := e) (mid := b) (by omega) HM.out.1 HM.out.2)
                    exact ⟨rfl, _, g1, g2, S2.out⟩
              · by_cases p2 : m ≤ s
                · have q1 : ¬ (s : Int) < (m : Int) := by omega
                  have q4 : ¬ (mid : Int) < (e : Int) := by omega
                  by_cases p3 : a < s ∧ s < mid
                  · have q2 : (a : Int) < (s : Int) := by omega
                    have q3 : (s : Int) < (mid : Int) := by omega
                    have HR := Lib.hid (Rot.id s m e d (by omega) (by omega) (by omega))
                    have HP := Lib.hid (parts (lt := ltOf cf) (mid := mid) h1s (by omega) hme heb hmid.out SA.out SB.out HR.out)
                    have hc2 := IH.out a s mid d wr (by omega) (by omega) S1.out (by omega) (by omega) (by omega) (by omega) HP.out.1 HP.out.2.1
                    skip
                    go_wp2_with (go_at_fn_of 57 (Value.int .i64 (s : Int)); refine hc2.mono ?_; rintro e9 w2 ⟨rfl, d2, hk2, hs2, hw2⟩)
                    have K2 := Lib.hid hk2
                    have Z2 := Lib.hid hs2
                    have S3 : Aside (SWK enc k w0 blk off d2 w2) := hw2
                    clear hk2 hs2 hw2 hc2 S1
                    have hz2 : d2.size = d.size := K2.out.size
                    have HM := Lib.hid (next2 K2.out HP.out.2.2.1 HP.out.2.2.2 (by omega))
                    go_wp2
                    go_end0
                    obtain ⟨g1, g2⟩ := join HO.out HN.out h1s (by omega) hme heb hmid.out SA.out SB.out HR.out HF.out HG.out K2.out Z2.out (Kept.refl (nm := nm) mid b d2) (skip1 (lt := ltOf cf) (a := mid) (s := e) (mid := b) (by omega) HM.out.1 HM.out.2)
                    exact ⟨rfl, _, g1, g2, S3.out⟩
                  · have q2 : (a : Int) < (s : Int) := by omega
                    have q3 : ¬ (s : Int) < (mid : Int) := by omega
                    have HR := Lib.hid (Rot.id s m e d (by omega) (by omega) (by omega))
                    have HP := Lib.hid (parts (lt := ltOf cf) (mid := mid) h1s (by omega) hme heb hmid.out SA.out SB.out HR.out)
                    have K2 := Lib.hid (Kept.refl (nm := nm) a mid d)
                    have Z2 := Lib.hid (skip1 (lt := ltOf cf) (a := a) (s := s) (mid := mid) (by omega) HP.out.1 HP.out.2.1)
                    have HM := Lib.hid (next2 K2.out HP.out.2.2.1 HP.out.2.2.2 (by omega))
                    go_wp2
                    go_end0
                    obtain ⟨g1, g2⟩ := join HO.out HN.out h1s (by omega) hme heb hmid.out SA.out SB.out HR.out HF.out HG.out K2.out Z2.out (Kept.refl (nm := nm) mid b d) (skip1 (lt := ltOf cf) (a := mid) (s := e) (mid := b) (by omega) HM.out.1 HM.out.2)
                    exact ⟨rfl, _, g1, g2, S1.out⟩
                · have q1 : (s : Int) < (m : Int) := by omega
                  have q2 : ¬ (m : Int) < (e : Int) := by omega
                  have q3 : ¬ (s : Int) < (mid : Int) := by omega
                  have q4 : (mid : Int) < (e : Int) := by omega
                  have q5 : (e : Int) < (b : Int) := by omega
                  by_cases p3 : a < s
                  · have q6 : (a : Int) < (s : Int) := by omega
                    have HR := Lib.hid (Rot.id s m e d (by omega) (by omega) (by omega))
                    have HP := Lib.hid (parts (lt := ltOf cf) (mid := mid) h1s (by omega) hme heb hmid.out SA.out SB.out HR.out)
                    have K2 := Lib.hid (Kept.refl (nm := nm) a mid d)
                    have Z2 := Lib.hid (skip1 (lt := ltOf cf) (a := a) (s := s) (mid := mid) (by omega) HP.out.1 HP.out.2.1)
                    have HM := Lib.hid (next2 K2.out HP.out.2.2.1 HP.out.2.2.2 (by omega))
                    have hc3 := IH.out mid e b d wr (by omega) (by omega) S1.out (by omega) (by omega) (by omega) (by omega) HM.out.1 HM.out.2
                    skip
                    go_wp2_with (go_at_fn_of 57 (Value.int .i64 (e : Int)); refine hc3.mono ?_; rintro e9 w3 ⟨rfl, d3, hk3, hs3, hw3⟩)
                    go_end0
                    obtain ⟨g1, g2⟩ := join HO.out HN.out h1s (by omega) hme heb hmid.out SA.out SB.out HR.out HF.out HG.out K2.out Z2.out hk3 hs3
                    exact ⟨rfl, d3, g1, g2, hw3⟩
                  · exfalso; omega
end PS
end St
end Go.Proofs.Ytcboeehmhpkodaa
