/- Contract of slices.Reverse at entries, in the sort's words. -/
import Derived.Test.YtdaohjimfgdmbaaSnW1
import Derived.Test.YtdaohjimfgdmbaaStEN3
import Derived.Sort.WalkB2
import Derived.Sort.WalkB12
import Derived.Deep.LoopGhost
import Derived.Deep.DeepCutAuto
import Derived.Lib.SlicesMore
namespace Go.Proofs.Ytdaohjimfgdmbaa
open Go.Shelf Go.RowKit Go.Lib Go.Sort Go.Proofs Sn
set_option maxHeartbeats 4000000 in
set_option maxRecDepth 1000000 in
theorem reverse_all {P : Program} (L : St.EN.Lays P) (FG : P.funcs[36]? = some Try.f36) {α : Type} [Inhabited α] (k : Nat) (aE : ∀ w, (isAgg 74).run P w = .ok true w) (zE : ∀ w, (Go.sizeOf 74).run P w = .ok k w) (enc : α → List Value)
    (blk off cap : Nat) (d : Array α) (w : World)
    (R : RowK enc k w blk off d) (hsz : d.size < 1000000000000) :
    Calls P 36 #[.slice (some ⟨blk, off, none⟩) d.size cap] w fun e w' => e = .returned (.tuple #[]) ∧ SWK enc k w blk off d.reverse w' := by
  have mixed := L.mixed; have t0 := L.t0; have a0 := L.a0; have z0 := L.z0; have v0 := L.v0; have t3 := L.t3; have a3 := L.a3; have z3 := L.z3; have v3 := L.v3; have t4 := L.t4; have a4 := L.a4; have z4 := L.z4; have v4 := L.v4; have t46 := L.t46; have a46 := L.a46; have z46 := L.z46; have v46 := L.v46
  have S0 : Aside (SWK enc k w blk off d w) := SWK.start R.hH
  go_enter FG, Try.ntmps36
  go_wp2
  go_loopg [2, 3] d.size (fun kx s2 s3 wr => ∃ (i jn : Nat) (jz : Int) (dk : Array α), s2 = .int .i64 i ∧ s3 = .int .i64 jz ∧ ((i : Int) < jz → jz = jn ∧ jn < d.size) ∧ (¬ (i : Int) < jz → ¬ i < jn) ∧ jn - i ≤ kx ∧
    dk.size = d.size ∧ Aside (SWK enc k w blk off dk wr) ∧ Hid (reverseLoop i jn dk = reverseLoop 0 (d.size - 1) d))
  case atStart => exact ⟨0, d.size - 1, (d.size : Int) - 1, d, rfl, rfl, fun h => ⟨by omega, by omega⟩, fun h => by omega, by omega, rfl, S0, rfl⟩
  case round =>
    clear S0
    obtain ⟨i, jn, jz, dk, rfl, rfl, h1, h2, hkx, hds, S1, HR⟩ := hrel
    by_cases hlt : (i : Int) < jz
    · obtain ⟨rfl, hjn⟩ := h1 hlt
      have hij : i < jn := by omega
      clear h1 h2
      go_wp2_with fail
      have ea1 : ((i : Int)).toNat = i := by omega
      have pa1 : (0 : Int) ≤ (i : Int) := by omega
      have ba1 : (i : Int) < (d.size : Int) := by omega
      have ec1 : ((jn : Int)).toNat = jn := by omega
      have pc1 : (0 : Int) ≤ (jn : Int) := by omega
      have bc1 : (jn : Int) < (d.size : Int) := by omega
      have S2 : Aside (SWK enc k w blk off (swp dk (i) (jn)) ((wr.drew.setCells blk (off + (i) * k) (enc dk[jn]!)).setCells blk (off + (jn) * k) (enc dk[i]!))) := S1.out.swapped R (i) (jn) (by omega) (by omega)
      have l1a := S1.out.ld1 R (by omega) P (i) (by omega)
      have l1b := S1.out.ld1 R (by omega) P (jn) (by omega)
      have s1a := S1.out.st1 R (by omega) P (i) (by omega) dk[jn]!
      have s1b := S1.out.st2 R (by omega) P (i) (jn) (by omega) (by omega) dk[jn]! dk[i]!
      have n1a : (enc dk[i]!).length = k := R.hk _
      have n1b : (enc dk[jn]!).length = k := R.hk _
      generalize enc dk[i]! = cI1 at S2 l1a s1b n1a
      generalize enc dk[jn]! = cJ1 at S2 l1b s1a s1b n1b
      clear S1
      go_wp2_with fail
      go_big_region_o
      clear l1a l1b s1a s1b
      generalize (wr.drew.setCells blk (off + (i) * k) cJ1).setCells blk (off + (jn) * k) cI1 = w2 at S2 ⊢
      go_wp2
      go_roundg (jn - 1 - (i + 1))
      case measure => omega
      case rel =>
        have heq := HR.out
        rw [reverseLoop, if_pos hij] at heq
        exact ⟨i + 1, jn - 1, (jn : Int) - 1, swp dk i jn, by go_num, rfl, fun h => ⟨by omega, by omega⟩, fun h => by omega, Nat.le_refl _, by rw [size_swp]; exact hds, S2, heq⟩
    · have hnot := h2 hlt
      go_wp2
      go_end0
      refine ⟨rfl, ?_⟩
      have heq := HR.out
      rw [reverseLoop, if_neg hnot] at heq
      rw [← Lib.reverseLoop_reverse, ← heq]
      exact S1.out
/-- slices.Reverse, at this seat's translation. -/
theorem reverse_row (blk off cap : Nat) (d : Array En) (w : World) (R : RowK ec 5 w blk off d) (hsz : d.size < 1000000000000) :
    Calls Try.prog 36 #[.slice (some ⟨blk, off, none⟩) d.size cap] w fun e w' => e = .returned (.tuple #[]) ∧ SWK ec 5 w blk off d.reverse w' :=
  reverse_all St.EN.laid Try.func36 5 Try.isAgg74 Try.sizeOf74 ec blk off cap d w R hsz
end Go.Proofs.Ytdaohjimfgdmbaa
