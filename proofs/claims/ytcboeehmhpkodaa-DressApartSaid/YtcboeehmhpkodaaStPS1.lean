/- Walks of the library's exchange of two ranges and of its rotation, over any program that bears their bodies. -/
import Derived.Test.YtcboeehmhpkodaaStMath
import Derived.Test.YtcboeehmhpkodaaProg
import Derived.Shelf.SlSortCmp.KitK
import Derived.Sort.WalkB2
import Derived.Sort.WalkB12
import Derived.Deep.LoopGhost
import Derived.Lib.Hide
import Derived.Deep.DeepCutAuto
import Derived.Shelf.GgSortFunc.LotD
namespace Go.Proofs.Ytcboeehmhpkodaa
open Go.Shelf Go.RowKit Go.Lib Go.Sort Go.Proofs
namespace St
namespace PS
variable {P : Program} {α : Type} [Inhabited α]
/-- a program that bears the library's stable sort, numbered as here. -/
structure Lays (P : Program) : Prop where
  mixed : P.follows .mixedOrders = true
  f96 : P.funcs[63]? = some Try.f63
  f93 : P.funcs[61]? = some Try.f61
  f88 : P.funcs[57]? = some Try.f57
  f83 : P.funcs[53]? = some Try.f53
  f73 : P.funcs[45]? = some Try.f45
  t0 : P.underlying 0 = some (TypeDesc.tuple #[])
  a0 : ∀ w, (isAgg 0).run P w = .ok false w
  z0 : ∀ w, (Go.sizeOf 0).run P w = .ok 1 w
  v0 : ∀ w, (zeroValue 0).run P w = .ok (Value.tuple #[]) w
  t3 : P.underlying 3 = some (TypeDesc.int IntKind.i64)
  a3 : ∀ w, (isAgg 3).run P w = .ok false w
  z3 : ∀ w, (Go.sizeOf 3).run P w = .ok 1 w
  v3 : ∀ w, (zeroValue 3).run P w = .ok (Value.int IntKind.i64 0) w
  t4 : P.underlying 4 = some (TypeDesc.bool)
  a4 : ∀ w, (isAgg 4).run P w = .ok false w
  z4 : ∀ w, (Go.sizeOf 4).run P w = .ok 1 w
  v4 : ∀ w, (zeroValue 4).run P w = .ok (Value.bool false) w
  t46 : P.underlying 31 = some (TypeDesc.slice 42)
  a46 : ∀ w, (isAgg 31).run P w = .ok false w
  z46 : ∀ w, (Go.sizeOf 31).run P w = .ok 1 w
  v46 : ∀ w, (zeroValue 31).run P w = .ok (Value.slice none 0 0) w
  t100 : P.underlying 76 = some (TypeDesc.func #[42, 42] #[3] false)
  a100 : ∀ w, (isAgg 76).run P w = .ok false w
  z100 : ∀ w, (Go.sizeOf 76).run P w = .ok 1 w
  v100 : ∀ w, (zeroValue 76).run P w = .ok (Value.nilFunc) w
  t107 : P.underlying 90 = some (TypeDesc.int IntKind.u64)
  a107 : ∀ w, (isAgg 90).run P w = .ok false w
  z107 : ∀ w, (Go.sizeOf 90).run P w = .ok 1 w
  v107 : ∀ w, (zeroValue 90).run P w = .ok (Value.int IntKind.u64 0) w
set_option maxHeartbeats 4000000 in
set_option maxRecDepth 1000000 in
theorem swapRange (L : Lays P) (k : Nat) (aE : ∀ w, (isAgg 42).run P w = .ok true w) (zE : ∀ w, (Go.sizeOf 42).run P w = .ok k w) (enc : α → List Value) (g : Nat) (cb : Array Value) (blk off cap a b n : Nat) (d0 d : Array α) (w0 w : World)
    (R : RowK enc k w0 blk off d0) (hs : d0.size = d.size) (S : SWK enc k w0 blk off d w) (hab : a + n ≤ b) (hb : b + n ≤ d.size) (hsz : d.size < 1000000000000) :
    Calls P 63 #[.slice (some ⟨blk, off, none⟩) d.size cap, .int .i64 a, .int .i64 b, .int .i64 n, .func (.func g) #[] cb] w fun e w' => e = .returned (.tuple #[]) ∧ ∃ d', SwR a b n d d' ∧ SWK enc k w0 blk off d' w' := by
  have mixed := L.mixed; have t0 := L.t0; have a0 := L.a0; have z0 := L.z0; have v0 := L.v0; have t3 := L.t3; have a3 := L.a3; have z3 := L.z3; have v3 := L.v3; have t4 := L.t4; have a4 := L.a4; have z4 := L.z4; have v4 := L.v4; have t46 := L.t46; have a46 := L.a46; have z46 := L.z46; have v46 := L.v46; have t100 := L.t100; have a100 := L.a100; have z100 := L.z100; have v100 := L.v100; have t107 := L.t107; have a107 := L.a107; have z107 := L.z107; have v107 := L.v107
  have FG := L.f96
  have S0 : Aside (SWK enc k w0 blk off d w) := S
  clear S
  go_enter FG, Try.ntmps63
  go_wp2
  go_loopg [10] n (fun kx s wr => ∃ (i : Nat) (dk : Array α), s = .int .i64 i ∧ i ≤ n ∧ n - i ≤ kx ∧ dk.size = d.size ∧ Aside (SWK enc k w0 blk off dk wr) ∧ Hid (SwR a b i d dk))
  case atStart => exact ⟨0, d, rfl, Nat.zero_le _, Nat.le_refl _, rfl, S0, SwR.start a b d⟩
  case round =>
    clear S0
    obtain ⟨i, dk, rfl, hin, hkx, hds, S1, HR⟩ := hrel
    by_cases hlt : i < n
    · have hltz : (i : Int) < (n : Int) := by omega
      go_wp2_with fail
      have ea1 : ((a : Int) + (i : Int)).toNat = a + i := by omega
      have pa1 : (0 : Int) ≤ (a : Int) + (i : Int) := by omega
      have ba1 : (a : Int) + (i : Int) < (d.size : Int) := by omega
      have ra1 : IntKind.i64.wrap ((a : Int) + (i : Int)) = (a : Int) + (i : Int) := by rw [IntKind.wrap_i64]; omega
      have ec1 : ((b : Int) + (i : Int)).toNat = b + i := by omega
      have pc1 : (0 : Int) ≤ (b : Int) + (i : Int) := by omega
      have bc1 : (b : Int) + (i : Int) < (d.size : Int) := by omega
      have rc1 : IntKind.i64.wrap ((b : Int) + (i : Int)) = (b : Int) + (i : Int) := by rw [IntKind.wrap_i64]; omega
      have S2 : Aside (SWK enc k w0 blk off (swp dk (a + i) (b + i)) ((wr.drew.setCells blk (off + (a + i) * k) (enc dk[b + i]!)).setCells blk (off + (b + i) * k) (enc dk[a + i]!))) := S1.out.swapped R (a + i) (b + i) (by omega) (by omega)
      have l1a := S1.out.ld1 R (by omega) P (a + i) (by omega)
      have l1b := S1.out.ld1 R (by omega) P (b + i) (by omega)
      have s1a := S1.out.st1 R (by omega) P (a + i) (by omega) dk[b + i]!
      have s1b := S1.out.st2 R (by omega) P (a + i) (b + i) (by omega) (by omega) dk[b + i]! dk[a + i]!
      have n1a : (enc dk[a + i]!).length = k := R.hk _
      have n1b : (enc dk[b + i]!).length = k := R.hk _
      generalize enc dk[a + i]! = cI1 at S2 l1a s1b n1a
      generalize enc dk[b + i]! = cJ1 at S2 l1b s1a s1b n1b
      clear S1
      go_wp2_with fail
      go_big_region_o
      clear l1a l1b s1a s1b
      generalize (wr.drew.setCells blk (off + (a + i) * k) cJ1).setCells blk (off + (b + i) * k) cI1 = w2 at S2 ⊢
      go_wp2
      go_roundg (n - (i + 1))
      case measure => omega
      case rel => exact ⟨i + 1, _, by go_num, by omega, Nat.le_refl _, by rw [size_swp]; exact hds, S2, HR.out.step (by omega) (by omega)⟩
    · have hnot : ¬ (i : Int) < (n : Int) := by omega
      obtain rfl : i = n := by omega
      go_wp2
      go_end0
      exact ⟨rfl, dk, HR.out, S1.out⟩
set_option maxHeartbeats 4000000 in
set_option maxRecDepth 1000000 in
theorem rotate (L : Lays P) (k : Nat) (aE : ∀ w, (isAgg 42).run P w = .ok true w) (zE : ∀ w, (Go.sizeOf 42).run P w = .ok k w) (enc : α → List Value) (g : Nat) (cb : Array Value) (blk off cap a m b : Nat) (d0 d : Array α) (w0 w : World)
    (R : RowK enc k w0 blk off d0) (hs : d0.size = d.size) (S : SWK enc k w0 blk off d w) (ham : a < m) (hmb : m < b) (hb : b ≤ d.size) (hsz : d.size < 1000000000000) :
    Calls P 61 #[.slice (some ⟨blk, off, none⟩) d.size cap, .int .i64 a, .int .i64 m, .int .i64 b, .func (.func g) #[] cb] w fun e w' => e = .returned (.tuple #[]) ∧ ∃ d', Rot a m b d d' ∧ SWK enc k w0 blk off d' w' := by
  have mixed := L.mixed; have t0 := L.t0; have a0 := L.a0; have z0 := L.z0; have v0 := L.v0; have t3 := L.t3; have a3 := L.a3; have z3 := L.z3; have v3 := L.v3; have t4 := L.t4; have a4 := L.a4; have z4 := L.z4; have v4 := L.v4; have t46 := L.t46; have a46 := L.a46; have z46 := L.z46; have v46 := L.v46; have t100 := L.t100; have a100 := L.a100; have z100 := L.z100; have v100 := L.v100; have t107 := L.t107; have a107 := L.a107; have z107 := L.z107; have v107 := L.v107
  have FG := L.f93
  have e96 : ∀ args w, (callFunc 63 args).run P w = .ok (.enter 63 args) w := enters_of L.f96 (by kernel_rfl) rfl
  have S0 : Aside (SWK enc k w0 blk off d w) := S
  clear S
  go_enter FG, Try.ntmps61
  go_wp2
  go_loopg [10, 11] (b - a) (fun kx s10 s11 wr => ∃ (i j : Nat) (dk : Array α), s10 = .int .i64 i ∧ s11 = .int .i64 j ∧ 0 < i ∧ 0 < j ∧ i ≤ m - a ∧ j ≤ b - m ∧ i + j ≤ kx ∧ dk.size = d.size ∧ Aside (SWK enc k w0 blk off dk wr) ∧ Hid (∀ d', Rot (m - i) m (m + j) dk d' → Rot a m b d d'))
  case atStart =>
    refine ⟨m - a, b - m, d, ?_, ?_, by omega, by omega, Nat.le_refl _, Nat.le_refl _, by omega, rfl, S0, ?_⟩
    · congr 1; omega
    · congr 1; omega
    · intro d' h
      rw [show m - (m - a) = a from by omega, show m + (b - m) = b from by omega] at h
      exact h
  case round =>
    clear S0
    obtain ⟨i, j, dk, rfl, rfl, hi0, hj0, hi, hj, hkx, hds, S1, HR⟩ := hrel
    rcases Nat.lt_trichotomy i j with hlt | heq | hgt
    · have h1 : ¬ (i : Int) > (j : Int) := by omega
      have h2 : ((i : Int) == (j : Int)) = false := by rw [beq_eq_false_iff_ne]; omega
      have h3 : ¬ (i : Int) = (j : Int) := by omega
      have h4 : ¬ (j : Int) < (i : Int) := by omega
      have hc := swapRange (P := P) L k aE zE enc g cb blk off cap (m - i) (m + j - i) i d0 dk w0 wr R (by omega) S1.out (by omega) (by omega) (by omega)
      rw [hds, show ((m - i : Nat) : Int) = (m : Int) - (i : Int) from by omega, show ((m + j - i : Nat) : Int) = (m : Int) + (j : Int) - (i : Int) from by omega] at hc
      go_wp2_with (go_at_fn 63; refine hc.mono ?_; rintro e w1 ⟨rfl, d1, hd1, hw1⟩)
      have S2 : Aside (SWK enc k w0 blk off d1 w1) := hw1
      have HD := Lib.hid hd1
      clear hw1 hd1
      go_roundg (i + (j - i))
      case measure => omega
      case rel =>
        refine ⟨i, j - i, d1, rfl, ?_, hi0, by omega, hi, by omega, Nat.le_refl _, by rw [HD.out.1]; exact hds, S2, ?_⟩
        · congr 1; omega
        · exact fun d' h => HR.out d' (Rot.right (by omega) hlt HD.out h)
    · subst heq
      have hc := swapRange (P := P) L k aE zE enc g cb blk off cap (m - i) m i d0 dk w0 wr R (by omega) S1.out (by omega) (by omega) (by omega)
      rw [hds, show ((m - i : Nat) : Int) = (m : Int) - (i : Int) from by omega] at hc
      go_wp2_with (go_at_fn 63; refine hc.mono ?_; rintro e w1 ⟨rfl, d1, hd1, hw1⟩)
      go_end0
      exact ⟨rfl, d1, HR.out d1 (Rot.last (by omega) hd1), hw1⟩
    · have h1 : (i : Int) > (j : Int) := by omega
      have h2 : ((i : Int) == (j : Int)) = false := by rw [beq_eq_false_iff_ne]; omega
      have h3 : ¬ (i : Int) = (j : Int) := by omega
      have h4 : (j : Int) < (i : Int) := by omega
      have hc := swapRange (P := P) L k aE zE enc g cb blk off cap (m - i) m j d0 dk w0 wr R (by omega) S1.out (by omega) (by omega) (by omega)
      rw [hds, show ((m - i : Nat) : Int) = (m : Int) - (i : Int) from by omega] at hc
      go_wp2_with (go_at_fn 63; refine hc.mono ?_; rintro e w1 ⟨rfl, d1, hd1, hw1⟩)
      have S2 : Aside (SWK enc k w0 blk off d1 w1) := hw1
      have HD := Lib.hid hd1
      clear hw1 hd1
      go_roundg (i - j + j)
      case measure => omega
      case rel =>
        refine ⟨i - j, j, d1, ?_, rfl, by omega, hj0, by omega, hj, Nat.le_refl _, by rw [HD.out.1]; exact hds, S2, ?_⟩
        · congr 1; omega
        · exact fun d' h => HR.out d' (Rot.left (by omega) hgt HD.out h)
end PS
end St
end Go.Proofs.Ytcboeehmhpkodaa
