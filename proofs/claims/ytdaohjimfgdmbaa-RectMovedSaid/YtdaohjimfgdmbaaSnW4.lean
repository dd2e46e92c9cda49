/- Contract of slices.CompactFunc at entries, in the sort's words. -/
import Derived.Test.YtdaohjimfgdmbaaSnW3
import Derived.Test.YtdaohjimfgdmbaaSnW1
import Derived.Test.YtdaohjimfgdmbaaStEN3
import Derived.Deep.LoopGhost
import Derived.Deep.DeepCutAuto
import Derived.Lib.SliceRun
namespace Go.Proofs.Ytdaohjimfgdmbaa
open Go.Shelf Go.RowKit Go.Lib Go.Sort Go.Proofs Sn
/-- 'clear' of a slice of elements of any number of cells. -/
theorem run_clear_wide {P : Program} (w : World) (t e ty : TypeId) (z : Value) (ht : P.underlying t = some (.slice e)) (hv : ∀ w, (zeroValue e).run P w = .ok z w) {n : Nat} (h1 : ∀ v ∈ (Builtin.zeroCells z.cells n).toList, v.oneCell' = true) (b o c : Nat) (hn : 0 < n)
    (hc : ∀ j, j < n * z.cells.size → (w.cell? ⟨b, o + j, none⟩).isSome = true) (hf : ∀ j, j < n * z.cells.size → w.frozen? ⟨b, o + j, none⟩ = false) :
    (Builtin.clear_ #[t] ty #[.slice (some ⟨b, o, none⟩) n c]).run P w = .ok (.tuple #[]) (w.setCells b o (Builtin.zeroCells z.cells n).toList) := by
  have hst := run_storeCells_cells (P := P) b o (Builtin.zeroCells z.cells n).toList 0 w (by simpa [Builtin.zeroCells] using hc) (by simpa [Builtin.zeroCells] using hf) h1
  simp only [Nat.add_zero] at hst
  obtain ⟨m, rfl⟩ : ∃ m, n = m + 1 := ⟨n - 1, by omega⟩
  simp [Builtin.clear_, run_underlying ht, hv, hst]
/-- what CompactFunc leaves: the first m elements are those kept; the rest may have been cleared. -/
def Compacted {α : Type} [Inhabited α] (nm : α → Int) (enc : α → List Value) (k : Nat) (z : Value) (blk off : Nat) (d : Array α) (w w' : World) : Prop :=
  ∃ (dk : Array α) (W1 : World), dk.size = d.size ∧ (comp nm d.toList).length ≤ d.size ∧ SWK enc k w blk off dk W1 ∧ dk.toList.take (comp nm d.toList).length = comp nm d.toList ∧ (w' = W1 ∨ w' = W1.setCells blk (off + (comp nm d.toList).length * k) (Builtin.zeroCells z.cells (d.size - (comp nm d.toList).length)).toList)
theorem compacted_of {α : Type} [Inhabited α] {nm : α → Int} {enc : α → List Value} {k m : Nat} {z : Value} {blk off : Nat} {d dk : Array α} {w W1 w' : World} (h1 : dk.size = d.size) (h2 : m ≤ d.size) (h3 : SWK enc k w blk off dk W1) (h4 : dk.toList.take m = comp nm d.toList) (h5 : w' = W1 ∨ w' = W1.setCells blk (off + m * k) (Builtin.zeroCells z.cells (d.size - m)).toList) : m = (comp nm d.toList).length ∧ Compacted nm enc k z blk off d w w' := by
  have e : m = (comp nm d.toList).length := by rw [← h4, List.length_take]; simp; omega
  subst e
  exact ⟨rfl, dk, W1, h1, h2, h3, h4, h5⟩
set_option maxHeartbeats 8000000 in
set_option maxRecDepth 1000000 in
theorem compact_all {P : Program} (L : St.EN.Lays P) (FG : P.funcs[40]? = some Try.f40) {α : Type} [Inhabited α] (nm : α → Int) (k : Nat) (aE : ∀ w, (isAgg 74).run P w = .ok true w) (zE : ∀ w, (Go.sizeOf 74).run P w = .ok k w) (enc : α → List Value)
    (g : Nat) (eg : ∀ args w, (callFunc g args).run P w = .ok (.enter g args) w) (hcmp : ∀ x y W, Calls P g #[.agg (enc x).toArray, .agg (enc y).toArray] W fun e w' => e = .returned (.bool (decide (nm x = nm y))) ∧ ∃ q os', w' = grow (W.drewN q) os')
    (z : Value) (vE : ∀ w, (zeroValue 74).run P w = .ok z w) (zk : z.cells.size = k) (z1 : ∀ n, ∀ v ∈ (Builtin.zeroCells z.cells n).toList, v.oneCell' = true)
    (blk off cap : Nat) (d : Array α) (w : World) (hcap : d.size ≤ cap)
    (R : RowK enc k w blk off d) (hsz : d.size < 1000000000000) :
    Calls P 40 #[.slice (some ⟨blk, off, none⟩) d.size cap, .func (.func g) #[] #[]] w fun e w' => e = .returned (.slice (some ⟨blk, off, none⟩) (comp nm d.toList).length cap) ∧ Compacted nm enc k z blk off d w w' := by
  have mixed := L.mixed; have t0 := L.t0; have a0 := L.a0; have z0 := L.z0; have v0 := L.v0; have t3 := L.t3; have a3 := L.a3; have z3 := L.z3; have v3 := L.v3; have t4 := L.t4; have a4 := L.a4; have z4 := L.z4; have v4 := L.v4; have t46 := L.t46; have a46 := L.a46; have z46 := L.z46; have v46 := L.v46
  have S0 : Aside (SWK enc k w blk off d w) := SWK.start R.hH
  by_cases h2 : d.size < 2
  · have hS := Lib.hid (show d.toList.take d.size = comp nm d.toList by
      rw [List.take_of_length_le (by simp)]
      have : d.toList.length < 2 := by simpa using h2
      match d.toList, this with
      | [], _ => rfl
      | [x], _ => exact (comp_one x).symm)
    go_enter FG, Try.ntmps40
    go_wp2
    go_ret
    obtain ⟨e, h⟩ := compacted_of (z := z) (w' := w) rfl (Nat.le_refl _) S0.out hS.out (Or.inl rfl)
    exact ⟨by rw [← e]; rfl, h⟩
  · have hS := Lib.hid (show comp nm (d.toList.take 1) = d.toList.take 1 by
      have h0 : 0 < d.toList.length := by simp; omega
      rw [comp_take_one h0]
      generalize d.toList = u at h0
      cases u with
      | nil => simp at h0
      | cons x l => simp)
    go_enter FG, Try.ntmps40
    go_wp2
    go_loopg [5] d.size (fun kx s wr => ∃ i : Nat, 1 ≤ i ∧ i ≤ d.size ∧ d.size - i ≤ kx ∧ s = .int .i64 i ∧ Aside (SWK enc k w blk off d wr) ∧ Hid (comp nm (d.toList.take i) = d.toList.take i))
    case atStart => exact ⟨1, Nat.le_refl _, by omega, by omega, rfl, S0, hS⟩
    case round =>
      clear S0 hS
      obtain ⟨i, hi1, hi2, hkx, rfl, S1, HT⟩ := hrel
      by_cases hlt : i < d.size
      · have hltz : (i : Int) < (d.size : Int) := by omega
        have ea : ((i : Int) - 1).toNat = i - 1 := by omega
        have pa : (0 : Int) ≤ (i : Int) - 1 := by omega
        have ba : (i : Int) - 1 < (d.size : Int) := by omega
        have p1 : (1 : Int) ≤ (i : Int) := by omega
        have n1 : ¬ (i : Int) < 1 := by omega
        have n0 : ¬ (i : Int) - 1 < 0 := by omega
        have p2 : (i : Int) < (d.size : Int) + 1 := by omega
        have ra : IntKind.i64.wrap ((i : Int) - 1) = (i : Int) - 1 := by rw [IntKind.wrap_i64]; omega
        have l1 := S1.out.ld R rfl P i hlt
        have l2 := S1.out.ld R rfl P (i - 1) (by omega)
        have hc := hcmp d[i]! d[i - 1]!
        have HE := Lib.hid (fun h : nm d[i]! = nm d[i - 1]! => Walk.start hlt hi1 HT.out h)
        have HN := Lib.hid (fun h : nm d[i]! ≠ nm d[i - 1]! => more hlt hi1 HT.out h)
        generalize nm d[i]! = ni at hc HE HN
        generalize nm d[i - 1]! = nj at hc HE HN
        generalize enc d[i]! = ci at l1 hc
        generalize enc d[i - 1]! = cj at l2 hc
        by_cases hq : ni = nj
        · have hd : decide (ni = nj) = true := decide_eq_true hq
          go_wp2_with fail
          go_quiet_grown (first | (go_at_fn g; refine Calls.grown_of (hc _)))
          have S2 : Aside (SWK enc k w blk off d (grow (wr.drewN nq) osq)) := S1.out.grown nq osq
          clear l1 l2 hc S1
          generalize grow (wr.drewN nq) osq = w2 at S2 ⊢
          clear nq osq
          have hW0 := HE.out hq
          have hic : i ≤ cap := by omega
          go_wp2
          clear HE HN HT
          have HE := Lib.hid hW0
          try simp only [hd]
          clear hW0 hd hq ea pa ba p1 n1 n0 p2 ra hltz
          go_loopg [5, 7] d.size (fun kx s5 s7 wr => ∃ (kk k2 : Nat) (dk : Array α), s5 = .int .i64 kk ∧ s7 = .int .i64 k2 ∧ 1 ≤ k2 ∧ i + k2 ≤ d.size ∧ d.size - (i + k2) ≤ kx ∧ Aside (SWK enc k w blk off dk wr) ∧ Hid (Walk nm d (i + k2) kk dk))
          case atStart => exact ⟨i, 1, d, rfl, rfl, Nat.le_refl _, by omega, by omega, S2, HE⟩
          case round =>
            clear S2 HE
            obtain ⟨kk, k2, dk, rfl, rfl, h21, h22, hkx2, S1, HWK⟩ := hrel
            have hsz2 : dk.size = d.size := HWK.out.size
            have hkk : kk < i + k2 := HWK.out.le
            by_cases hlt2 : i + k2 < d.size
            · have hltz : (k2 : Int) < ((d.size - i : Nat) : Int) := by omega
              have hltz2 : (k2 : Int) < (d.size : Int) - (i : Int) := by omega
              have ea : ((k2 : Int) - 1).toNat = k2 - 1 := by omega
              have pa : (0 : Int) ≤ (k2 : Int) - 1 := by omega
              have ba : (k2 : Int) - 1 < ((d.size - i : Nat) : Int) := by omega
              have p1 : (1 : Int) ≤ (k2 : Int) := by omega
              have n1 : ¬ (k2 : Int) < 1 := by omega
              have n0 : ¬ (k2 : Int) - 1 < 0 := by omega
              have p2 : (k2 : Int) < ((d.size - i : Nat) : Int) + 1 := by omega
              have ra : IntKind.i64.wrap ((k2 : Int) - 1) = (k2 : Int) - 1 := by rw [IntKind.wrap_i64]; omega
              have l1 := S1.out.ld R hsz2 P (i + k2) (by omega)
              have l2 := S1.out.ld R hsz2 P (i + (k2 - 1)) (by omega)
              have hc := hcmp dk[i + k2]! dk[i + (k2 - 1)]!
              have HE := Lib.hid (fun h : nm dk[i + k2]! = nm dk[i + (k2 - 1)]! => HWK.out.skip hlt2 (by rw [show i + k2 - 1 = i + (k2 - 1) by omega]; exact h))
              have HN := Lib.hid (fun h : nm dk[i + k2]! ≠ nm dk[i + (k2 - 1)]! => HWK.out.keep hlt2 (by rw [show i + k2 - 1 = i + (k2 - 1) by omega]; exact h))
              simp only [Nat.add_mul, ← Nat.add_assoc] at l1 l2
              generalize nm dk[i + k2]! = ni at hc HE HN
              generalize nm dk[i + (k2 - 1)]! = nj at hc HE HN
              generalize enc dk[i + k2]! = ci at l1 hc
              generalize enc dk[i + (k2 - 1)]! = cj at l2 hc
              by_cases hq : ni = nj
              · have hd : decide (ni = nj) = true := decide_eq_true hq
                go_wp2_with fail
                go_quiet_grown (first | (go_at_fn g; refine Calls.grown_of (hc _)))
                have S2 : Aside (SWK enc k w blk off dk (grow (wr.drewN nq) osq)) := S1.out.grown nq osq
                clear l1 l2 hc S1
                generalize grow (wr.drewN nq) osq = w2 at S2 ⊢
                clear nq osq
                go_wp2
                go_roundg (d.size - (i + (k2 + 1)))
                case measure => omega
                case rel => exact ⟨kk, k2 + 1, dk, rfl, by go_num, by omega, by omega, Nat.le_refl _, S2, HE.out hq⟩
              · have hd : decide (ni = nj) = false := decide_eq_false hq
                have hkd : kk < d.size := by omega
                have hkz : (kk : Int) < (d.size : Int) := by omega
                go_wp2_with fail
                go_quiet_grown (first | (go_at_fn g; refine Calls.grown_of (hc _)))
                have S2 : Aside (SWK enc k w blk off dk (grow (wr.drewN nq) osq)) := S1.out.grown nq osq
                clear l1 l2 hc S1
                generalize grow (wr.drewN nq) osq = w2 at S2 ⊢
                clear nq osq
                have l3 := S2.out.load R hsz2 P (i + k2) (by omega)
                have s3 : Sem.run P (storeCells ⟨blk, off + kk * k, none⟩ (enc dk[i + k2]!) 0) w2 = .ok () (w2.setCells blk (off + kk * k) (enc dk[i + k2]!)) := stores_of_holds P (S2.out.holds R.hblk R.hH hsz2) (kk * k) _ (by rw [R.hk, size_flatK]; exact rowK_bnd dk k kk (by omega)) (R.h1 _)
                have S3 : Aside (SWK enc k w blk off (dk.setIfInBounds kk dk[i + k2]!) (w2.setCells blk (off + kk * k) (enc dk[i + k2]!))) := SWK_set S2.out R kk (by omega) _
                have n3 : (enc dk[i + k2]!).length = k := R.hk _
                simp only [Nat.add_mul, ← Nat.add_assoc] at l3
                generalize enc dk[i + k2]! = c3 at S3 l3 s3 n3
                clear S2
                go_wp2
                clear l3 s3
                generalize w2.setCells blk (off + kk * k) c3 = w3 at S3 ⊢
                go_wp2
                go_roundg (d.size - (i + (k2 + 1)))
                case measure => omega
                case rel => exact ⟨kk + 1, k2 + 1, _, by go_num, by go_num, by omega, by omega, Nat.le_refl _, S3, HN.out hq⟩
            · have hend : i + k2 = d.size := by omega
              have hH := S1.out.holds R.hblk R.hH hsz2
              have hbig : (d.size - kk) * k + kk * k = dk.size * k := by rw [← Nat.add_mul, hsz2]; congr 1; omega
              have hb : ∀ j, j < (d.size - kk) * z.cells.size → kk * k + j < (flatK enc k dk).size := fun j hj => by rw [size_flatK]; rw [zk] at hj; omega
              have hcl : ∀ ty, (Builtin.clear_ #[24] ty #[.slice (some ⟨blk, off + kk * k, none⟩) (d.size - kk) (cap - kk)]).run P wr = .ok (.tuple #[]) (wr.setCells blk (off + kk * k) (Builtin.zeroCells z.cells (d.size - kk)).toList) :=
                fun ty => run_clear_wide wr _ _ ty z t46 vE (z1 _) blk (off + kk * k) (cap - kk) (by omega) (fun j hj => by rw [Nat.add_assoc, (hH (kk * k + j) (hb j hj)).1]; rfl) (fun j hj => by rw [Nat.add_assoc]; exact (hH (kk * k + j) (hb j hj)).2)
              clear hH hb hbig
              obtain ⟨zs, hzs⟩ : ∃ zs, zs = (Builtin.zeroCells z.cells (d.size - kk)).toList := ⟨_, rfl⟩
              rw [← hzs] at hcl
              have HZ := Lib.hid hzs
              clear hzs
              have hkd : kk ≤ d.size := by omega
              have hkc : kk ≤ cap := by omega
              have hnz : ¬ (k2 : Int) < ((d.size - i : Nat) : Int) := by omega
              go_wp2
              go_ret
              have h := HWK.out
              rw [hend] at h
              have e := (compacted_of (z := .nilFunc) (w' := wr) hsz2 hkd S1.out h.done (Or.inl rfl)).1
              exact ⟨by rw [← e]; rfl, (compacted_of hsz2 hkd S1.out h.done (Or.inr (by rw [HZ.out]))).2⟩
        · have hd : decide (ni = nj) = false := decide_eq_false hq
          go_wp2_with fail
          go_quiet_grown (first | (go_at_fn g; refine Calls.grown_of (hc _)))
          have S2 : Aside (SWK enc k w blk off d (grow (wr.drewN nq) osq)) := S1.out.grown nq osq
          clear l1 l2 hc S1
          generalize grow (wr.drewN nq) osq = w2 at S2 ⊢
          clear nq osq
          go_wp2
          go_roundg (d.size - (i + 1))
          case measure => omega
          case rel => exact ⟨i + 1, by omega, by omega, Nat.le_refl _, by go_num, S2, HN.out hq⟩
      · obtain rfl : i = d.size := by omega
        go_wp2
        go_ret
        have h := HT.out
        have h' : d.toList.take d.size = comp nm d.toList := by rw [← h, List.take_of_length_le (by simp)]
        have e := (compacted_of (z := .nilFunc) rfl (Nat.le_refl _) S1.out h' (Or.inl rfl)).1
        exact ⟨by rw [← e]; rfl, (compacted_of rfl (Nat.le_refl _) S1.out h' (Or.inl rfl)).2⟩
end Go.Proofs.Ytdaohjimfgdmbaa
