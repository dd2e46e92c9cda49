/- Walk of the library's stable sort, over any program that bears its bodies. -/
import Derived.Test.YtcboeehmhpkodaaStPS2
import Derived.Test.YtcboeehmhpkodaaProg
import Derived.Shelf.SlSortCmp.KitK
import Derived.Sort.WalkB2
import Derived.Sort.WalkB12
import Derived.Deep.LoopGhost
import Derived.Lib.Hide
import Derived.Shelf.SlSortCmp.NoneTotal
import Derived.Deep.DeepCutAuto
import Derived.Shelf.GgSortFunc.LotD
namespace Go.Proofs.Ytcboeehmhpkodaa
open Go.Shelf Go.RowKit Go.Lib Go.Sort Go.Proofs
namespace St
namespace PS
variable {P : Program} {α : Type} [Inhabited α]
variable {β : Type} [DecidableEq β] {nm : α → β}
set_option maxHeartbeats 16000000 in
set_option maxRecDepth 1000000 in
theorem stable (L : Lays P) (k : Nat) (aE : ∀ w, (isAgg 42).run P w = .ok true w) (zE : ∀ w, (Go.sizeOf 42).run P w = .ok k w) (enc : α → List Value) (cf : α → α → Int) (hO : SWO (ltOf cf)) (hn : ∀ x y, ltOf cf x y = true → nm x ≠ nm y) (g : Nat) (cb : Array Value) (blk off cap : Nat) (d0 : Array α) (w0 : World)
    (eg : ∀ args w, (callFunc g args).run P w = .ok (.enter g args) w) (hcmp : CmpLays P g cb enc k cf blk off d0.size w0) (R : RowK enc k w0 blk off d0)
    (hI : ∀ (a b : Nat) (d : Array α) (w : World), d0.size = d.size → SWK enc k w0 blk off d w → a ≤ b → b ≤ d.size → d.size < 1000000000000 →
      Calls P 56 #[.slice (some ⟨blk, off, none⟩) d.size cap, .int .i64 a, .int .i64 b, .func (.func g) #[] cb] w fun e w' => e = .returned (.tuple #[]) ∧ SWK enc k w0 blk off (Sort.insertionSort (ltOf cf) d a b) w')
    (eI : ∀ args w, (callFunc 56 args).run P w = .ok (.enter 56 args) w)
    (d : Array α) (w : World) (hs : d0.size = d.size) (S : SWK enc k w0 blk off d w) (hsz : d.size < 100000000000) :
    Calls P 53 #[.slice (some ⟨blk, off, none⟩) d.size cap, .int .i64 d.size, .func (.func g) #[] cb] w fun e w' => e = .returned (.tuple #[]) ∧ ∃ d', Kept nm 0 d.size d d' ∧ SortedIn (ltOf cf) 0 d.size d' ∧ SWK enc k w0 blk off d' w' := by
  have mixed := L.mixed; have t0 := L.t0; have a0 := L.a0; have z0 := L.z0; have v0 := L.v0; have t3 := L.t3; have a3 := L.a3; have z3 := L.z3; have v3 := L.v3; have t4 := L.t4; have a4 := L.a4; have z4 := L.z4; have v4 := L.v4; have t46 := L.t46; have a46 := L.a46; have z46 := L.z46; have v46 := L.v46; have t100 := L.t100; have a100 := L.a100; have z100 := L.z100; have v100 := L.v100; have t107 := L.t107; have a107 := L.a107; have z107 := L.z107; have v107 := L.v107
  have FG := L.f83
  have e88 : ∀ args w, (callFunc 57 args).run P w = .ok (.enter 57 args) w := enters_of L.f88 (by kernel_rfl) rfl
  have HM := Lib.hid (symMerge (P := P) (nm := nm) L k aE zE enc cf hO hn g cb blk off cap d0 w0 eg hcmp R)
  have HO : Aside _ := hO
  have HN : Aside (∀ x y, ltOf cf x y = true → nm x ≠ nm y) := hn
  have HI : Aside _ := hI
  have S0 : Aside (SWK enc k w0 blk off d w) := S
  clear hcmp hO hn hI S
  obtain ⟨n, hdn⟩ : ∃ n, n = d.size := ⟨_, rfl⟩
  rw [← hdn] at hsz ⊢
  have HDN := Lib.hid hdn
  clear hdn
  go_enter FG, Try.ntmps53
  go_wp2
  go_loopg [7, 8] n (fun kx s7 s8 wr => ∃ (x : Nat) (dk : Array α), s7 = .int .i64 x ∧ s8 = .int .i64 ((x : Int) + 20) ∧ x ≤ n ∧ n - x ≤ kx ∧ Hid (20 ∣ x) ∧ Aside (SWK enc k w0 blk off dk wr) ∧ Hid (Kept nm 0 n d dk) ∧ Hid (Blk (ltOf cf) 20 n x dk))
  case atStart => exact ⟨0, d, rfl, rfl, Nat.zero_le _, Nat.le_refl _, Nat.dvd_zero 20, S0, Kept.refl _ _ _, blk_none _ _ _⟩
  case round =>
    clear S0
    obtain ⟨x, dk, rfl, rfl, hxn, hkx, HX, S1, HK, HB⟩ := hrel
    have hds : dk.size = n := HK.out.size.trans HDN.out.symm
    have HS := Lib.hid hds
    by_cases hlt : x + 20 ≤ n
    · have hltz : (x : Int) + 20 ≤ (n : Int) := by omega
      have hltf : ¬ (n : Int) < (x : Int) + 20 := by omega
      have hc := HI.out x (x + 20) dk wr (by have := HDN.out; omega) S1.out (by omega) (by omega) (by omega)
      rw [hds, show ((x + 20 : Nat) : Int) = (x : Int) + 20 from by omega] at hc
      clear hds
      go_wp2_with (go_at_fn 56; refine hc.mono ?_; rintro e9 w1 ⟨rfl, hw1⟩)
      have S2 : Aside (SWK enc k w0 blk off (Sort.insertionSort (ltOf cf) dk x (x + 20)) w1) := hw1
      have HQ := Lib.hid (kept_ins HO.out HN.out dk x (x + 20) (by omega) (by have := HS.out; omega))
      clear hw1 hc S1
      go_roundg (n - (x + 20))
      case measure => omega
      case rel => exact ⟨x + 20, _, by go_num, by go_num, hlt, Nat.le_refl _, (Nat.dvd_add HX.out (Nat.dvd_refl 20) : 20 ∣ x + 20), S2, HK.out.trans (HQ.out.1.mono (Nat.zero_le _) (by omega) hlt), blk_step HX.out hlt HB.out HQ.out.1 HQ.out.2⟩
    · have hltz : ¬ (x : Int) + 20 ≤ (n : Int) := by omega
      have hltf : (n : Int) < (x : Int) + 20 := by omega
      have hc := HI.out x n dk wr (by have := HDN.out; omega) S1.out hxn (by omega) (by omega)
      rw [hds] at hc
      clear hds
      go_wp2_with (go_at_fn 56; refine hc.mono ?_; rintro e9 w1 ⟨rfl, hw1⟩)
      have S2 : Aside (SWK enc k w0 blk off (Sort.insertionSort (ltOf cf) dk x n) w1) := hw1
      have HQ := Lib.hid (kept_ins HO.out HN.out dk x n hxn (by have := HS.out; omega))
      have HB2 := Lib.hid (blk_last HX.out (by omega) HB.out HQ.out.1 HQ.out.2)
      have HK2 := Lib.hid (HK.out.trans (HQ.out.1.mono (Nat.zero_le _) hxn (Nat.le_refl _)))
      clear hw1 hc S1 HQ
      generalize Sort.insertionSort (ltOf cf) dk x n = dq at S2 HB2 HK2
      clear HK HB HS HX hkx
      go_loopg [6, 7, 8] n (fun kx s6 s7 s8 wr => ∃ (c : Nat) (u v : Int) (dk : Array α), s6 = .int .i64 c ∧ s7 = .int .i64 u ∧ s8 = .int .i64 v ∧ 20 ≤ c ∧ c ≤ 2 * n + 20 ∧ n - c ≤ kx ∧ Aside (SWK enc k w0 blk off dk wr) ∧ Hid (Kept nm 0 n d dk) ∧ Hid (Blk (ltOf cf) c n n dk))
      case atStart => exact ⟨20, x, (x : Int) + 20, dq, rfl, rfl, rfl, Nat.le_refl _, by omega, by omega, S2, HK2, HB2⟩
      case round =>
        clear S2 HK2 HB2
        obtain ⟨c, u, v, dk2, rfl, rfl, rfl, hc20, hc2n, hkc, S1, HK, HB⟩ := hrel
        by_cases hcn : c < n
        · have hcz : (c : Int) < (n : Int) := by omega
          have HR := Lib.hid (blk_rest HB.out)
          clear HB
          go_wp2
          go_loopg [7, 8] n (fun kx s7 s8 wr => ∃ (x : Nat) (dk : Array α), s7 = .int .i64 x ∧ s8 = .int .i64 ((x : Int) + 2 * (c : Int)) ∧ x ≤ n ∧ n - x ≤ kx ∧ Hid (2 * c ∣ x) ∧ Aside (SWK enc k w0 blk off dk wr) ∧ Hid (Kept nm 0 n d dk) ∧ Hid (Blk (ltOf cf) (2 * c) n x dk) ∧ Hid (Rest (ltOf cf) c n x dk))
          case atStart => exact ⟨0, dk2, rfl, by go_num, Nat.zero_le _, Nat.le_refl _, Nat.dvd_zero _, S1, HK, blk_none _ _ _, HR⟩
          case round =>
            clear S1 HK HR
            obtain ⟨x, dk, rfl, rfl, hxn, hkx, HX, S1, HK, HB, HR⟩ := hrel
            have hds : dk.size = n := HK.out.size.trans HDN.out.symm
            have HS := Lib.hid hds
            have HXC := Lib.hid (dvd_two HX.out)
            by_cases hlt : x + 2 * c ≤ n
            · have hltz : (x : Int) + 2 * (c : Int) ≤ (n : Int) := by omega
              have hltf : ¬ (n : Int) < (x : Int) + 2 * (c : Int) := by omega
              have hp1 : SortedIn (ltOf cf) x (x + c) dk := by
                have := HR.out x HXC.out (Nat.le_refl _) (by omega)
                rw [Nat.min_eq_left (by omega)] at this
                exact this
              have hp2 : SortedIn (ltOf cf) (x + c) (x + 2 * c) dk := by
                have := HR.out (x + c) (Nat.dvd_add HXC.out (Nat.dvd_refl c)) (by omega) (by omega)
                rw [Nat.min_eq_left (by omega), show x + c + c = x + 2 * c from by omega] at this
                exact this
              have hc := HM.out _ x (x + c) (x + 2 * c) dk wr (Nat.le_refl _) (by have := HDN.out; omega) S1.out (by omega) (by omega) (by omega) (by omega) hp1 hp2
              rw [hds, show ((x + 2 * c : Nat) : Int) = (x : Int) + 2 * (c : Int) from by omega, show ((x + c : Nat) : Int) = (x : Int) + (c : Int) from by omega] at hc
              clear hds hp1 hp2
              go_wp2_with (go_at_fn 57; refine hc.mono ?_; rintro e9 w1 ⟨rfl, d1, hk1, hs1, hw1⟩)
              have S2 : Aside (SWK enc k w0 blk off d1 w1) := hw1
              have HQ := Lib.hid hk1
              have HV := Lib.hid hs1
              clear hw1 hc S1 hk1 hs1
              go_roundg (n - (x + 2 * c))
              case measure => omega
              case rel => exact ⟨x + 2 * c, d1, by go_num, by first | rfl | go_num | (congr 1; omega), hlt, Nat.le_refl _, (Nat.dvd_add HX.out (Nat.dvd_refl _) : 2 * c ∣ x + 2 * c), S2, HK.out.trans (HQ.out.mono (Nat.zero_le _) (by omega) hlt), blk_step HX.out hlt HB.out HQ.out HV.out, rest_step HR.out HQ.out⟩
            · have hltz : ¬ (x : Int) + 2 * (c : Int) ≤ (n : Int) := by omega
              have hltf : (n : Int) < (x : Int) + 2 * (c : Int) := by omega
              by_cases hm : x + c < n
              · have hmz : (x : Int) + (c : Int) < (n : Int) := by omega
                have hp1 : SortedIn (ltOf cf) x (x + c) dk := by
                  have := HR.out x HXC.out (Nat.le_refl _) (by omega)
                  rw [Nat.min_eq_left (by omega)] at this
                  exact this
                have hp2 : SortedIn (ltOf cf) (x + c) n dk := by
                  have := HR.out (x + c) (Nat.dvd_add HXC.out (Nat.dvd_refl c)) (by omega) (by omega)
                  rw [Nat.min_eq_right (by omega)] at this
                  exact this
                have hc := HM.out _ x (x + c) n dk wr (Nat.le_refl _) (by have := HDN.out; omega) S1.out (by omega) (by omega) (by omega) (by omega) hp1 hp2
                rw [hds, show ((x + c : Nat) : Int) = (x : Int) + (c : Int) from by omega] at hc
                clear hds hp1 hp2
                go_wp2_with (go_at_fn 57; refine hc.mono ?_; rintro e9 w1 ⟨rfl, d1, hk1, hs1, hw1⟩)
                have S2 : Aside (SWK enc k w0 blk off d1 w1) := hw1
                have HQ := Lib.hid hk1
                have HV := Lib.hid hs1
                clear hw1 hc S1 hk1 hs1
                go_roundg (n - 2 * c)
                case measure => omega
                case rel => exact ⟨2 * c, _, _, d1, by first | go_num | (congr 1; omega), rfl, rfl, by omega, by omega, Nat.le_refl _, S2, HK.out.trans (HQ.out.mono (Nat.zero_le _) hxn (Nat.le_refl _)), blk_last HX.out (by omega) HB.out HQ.out HV.out⟩
              · have hmz : ¬ (x : Int) + (c : Int) < (n : Int) := by omega
                have hp1 : SortedIn (ltOf cf) x n dk := by
                  rcases Nat.lt_or_ge x n with h | h
                  · have := HR.out x HXC.out (Nat.le_refl _) h
                    rw [Nat.min_eq_right (by omega)] at this
                    exact this
                  · exact sorted_none _ _ _ (by omega)
                have HV := Lib.hid hp1
                clear hds hp1
                go_wp2
                go_roundg (n - 2 * c)
                case measure => omega
                case rel => exact ⟨2 * c, _, _, dk, by first | go_num | (congr 1; omega), rfl, rfl, by omega, by omega, Nat.le_refl _, S1, HK, blk_last HX.out (by omega) HB.out (Kept.refl (nm := nm) _ _ _) HV.out⟩
        · have hcz : ¬ (c : Int) < (n : Int) := by omega
          go_wp2
          go_end0
          exact ⟨rfl, dk2, HK.out, blk_whole HB.out (by omega), S1.out⟩
set_option maxHeartbeats 4000000 in
set_option maxRecDepth 1000000 in
/-- the library's stable sort: what it holds then is sorted, those of each name in the order in which they stood. -/
theorem sortStable (L : Lays P) (k : Nat) (aE : ∀ w, (isAgg 42).run P w = .ok true w) (zE : ∀ w, (Go.sizeOf 42).run P w = .ok k w) (enc : α → List Value) (cf : α → α → Int) (hO : SWO (ltOf cf)) (hn : ∀ x y, ltOf cf x y = true → nm x ≠ nm y) (g : Nat) (cb : Array Value) (blk off cap : Nat) (d0 : Array α) (w0 : World)
    (eg : ∀ args w, (callFunc g args).run P w = .ok (.enter g args) w) (hcmp : CmpLays P g cb enc k cf blk off d0.size w0) (R : RowK enc k w0 blk off d0)
    (hI : ∀ (a b : Nat) (d : Array α) (w : World), d0.size = d.size → SWK enc k w0 blk off d w → a ≤ b → b ≤ d.size → d.size < 1000000000000 →
      Calls P 56 #[.slice (some ⟨blk, off, none⟩) d.size cap, .int .i64 a, .int .i64 b, .func (.func g) #[] cb] w fun e w' => e = .returned (.tuple #[]) ∧ SWK enc k w0 blk off (Sort.insertionSort (ltOf cf) d a b) w')
    (eI : ∀ args w, (callFunc 56 args).run P w = .ok (.enter 56 args) w) (hsz : d0.size < 100000000000) :
    Calls P 45 #[.slice (some ⟨blk, off, none⟩) d0.size cap, .func (.func g) #[] cb] w0 fun e w' => e = .returned (.tuple #[]) ∧ ∃ d', Kept nm 0 d0.size d0 d' ∧ SortedIn (ltOf cf) 0 d0.size d' ∧ SWK enc k w0 blk off d' w' := by
  have mixed := L.mixed; have t0 := L.t0; have a0 := L.a0; have z0 := L.z0; have v0 := L.v0; have t3 := L.t3; have a3 := L.a3; have z3 := L.z3; have v3 := L.v3; have t4 := L.t4; have a4 := L.a4; have z4 := L.z4; have v4 := L.v4; have t46 := L.t46; have a46 := L.a46; have z46 := L.z46; have v46 := L.v46; have t100 := L.t100; have a100 := L.a100; have z100 := L.z100; have v100 := L.v100; have t107 := L.t107; have a107 := L.a107; have z107 := L.z107; have v107 := L.v107
  have FG := L.f73
  have e83 : ∀ args w, (callFunc 53 args).run P w = .ok (.enter 53 args) w := enters_of L.f83 (by kernel_rfl) rfl
  have hc := stable (nm := nm) L k aE zE enc cf hO hn g cb blk off cap d0 w0 eg hcmp R hI eI d0 w0 rfl (SWK.start R.hH) hsz
  clear hcmp hO hn hI
  go_enter FG, Try.ntmps45
  go_wp2_with (go_at_fn 53; refine hc.mono ?_; rintro e9 w1 ⟨rfl, d1, h1, h2, h3⟩)
  go_end0
  exact ⟨rfl, d1, h1, h2, h3⟩
/-- the library's insertion sort, from a world of the sort's to a world of the sort's. -/
theorem ins_w {Q : Program} {ρ : Ren} (L : SlLaysF0.n20 Q ρ) (k : Nat) (aE : ∀ w, (isAgg (ρ.t 24)).run Q w = .ok true w) (zE : ∀ w, (Go.sizeOf (ρ.t 24)).run Q w = .ok k w) (enc : α → List Value) (cf : α → α → Int) (g : Nat) (cb : Array Value) (blk off cap a b : Nat) (d0 d : Array α) (w0 w : World)
    (eg : ∀ args w, (callFunc g args).run Q w = .ok (.enter g args) w) (hcmp : CmpLays Q g cb enc k cf blk off d0.size w0) (R : RowK enc k w0 blk off d0) (hO : SWO (ltOf cf)) (hs : d0.size = d.size) (S : SWK enc k w0 blk off d w) (hab : a ≤ b) (hb : b ≤ d.size) (hsz : d.size < 1000000000000) :
    Calls Q (ρ.f 20) #[.slice (some ⟨blk, off, none⟩) d.size cap, .int .i64 a, .int .i64 b, .func (.func g) #[] cb] w fun e w' => e = .returned (.tuple #[]) ∧ SWK enc k w0 blk off (Sort.insertionSort (ltOf cf) d a b) w' := by
  have hs' : (Sort.insertionSort (ltOf cf) d a b).size = d.size := (insertionSort_holds hO d a b hab hb).1.1
  have hC : CmpLays Q g cb enc k cf blk off d.size w := fun m os dk hdk x y => by
    obtain ⟨n0, os0, rfl⟩ := S
    rw [sortWorldK_on enc k w0 blk off n0 m d dk os0 os R.hblk hdk]
    exact hcmp _ _ dk (by omega) x y
  refine (AnyQ.insertionSortCmpFunc L k aE zE enc R.hk R.h1 cf g cb blk off cap a b d w eg hC (S.holds R.hblk R.hH hs.symm) (S.lt R.hblk) hab hb (by omega)).mono ?_
  rintro e w' ⟨rfl, n, os, rfl⟩
  exact ⟨rfl, S.on R.hblk n _ os hs'⟩
/-! at this seat's translation -/
theorem laid : Lays Try.prog := {
  mixed := by kernel_rfl
  f96 := Try.func63
  f93 := Try.func61
  f88 := Try.func57
  f83 := Try.func53
  f73 := Try.func45
  t0 := Try.underlying0
  a0 := Try.isAgg0
  z0 := Try.sizeOf0
  v0 := Try.zeroValue0
  t3 := Try.underlying3
  a3 := Try.isAgg3
  z3 := Try.sizeOf3
  v3 := Try.zeroValue3
  t4 := Try.underlying4
  a4 := Try.isAgg4
  z4 := Try.sizeOf4
  v4 := Try.zeroValue4
  t46 := Try.underlying31
  a46 := Try.isAgg31
  z46 := Try.sizeOf31
  v46 := Try.zeroValue31
  t100 := Try.underlying76
  a100 := Try.isAgg76
  z100 := Try.sizeOf76
  v100 := Try.zeroValue76
  t107 := Try.underlying90
  a107 := Try.isAgg90
  z107 := Try.sizeOf90
  v107 := Try.zeroValue90 }
def renI : Go.Shelf.Ren := ⟨fun | 20 => 56 | n => n, fun | 0 => 0 | 3 => 3 | 4 => 4 | 22 => 31 | 24 => 42 | 25 => 76 | n => n, fun | n => n⟩
theorem laidI : SlLaysF0.n20 Try.prog renI := {
  mixed := by kernel_rfl
  f20 := ⟨"slices.insertionSortCmpFunc[scrim/props.Pair[string]]", by decide, Try.func56.trans (congrArg some (by kernel_rfl))⟩
  t0 := Try.underlying0
  a0 := Try.isAgg0
  z0 := Try.sizeOf0
  v0 := Try.zeroValue0
  t3 := Try.underlying3
  a3 := Try.isAgg3
  z3 := Try.sizeOf3
  v3 := Try.zeroValue3
  t4 := Try.underlying4
  a4 := Try.isAgg4
  z4 := Try.sizeOf4
  v4 := Try.zeroValue4
  t22 := Try.underlying31
  a22 := Try.isAgg31
  z22 := Try.sizeOf31
  v22 := Try.zeroValue31
  t25 := Try.underlying76
  a25 := Try.isAgg76
  z25 := Try.sizeOf76
  v25 := Try.zeroValue76 }
set_option maxHeartbeats 2000000 in
set_option maxRecDepth 100000 in
/-- .. of nothing. -/
theorem sorts_none (p : Option Addr) (cap : Nat) (fv : Value) (w : World) :
    Calls Try.prog 45 #[.slice p 0 cap, fv] w fun e w' => e = .returned (.tuple #[]) ∧ w' = w := by
  have hi : ∀ W, Calls Try.prog 56 #[.slice p 0 cap, .int .i64 0, .int .i64 0, fv] W fun e w' => e = .returned (.tuple #[]) ∧ w' = W := fun W => AnyF.insertionSortCmpFunc_none laidI p cap fv W
  have hst : Calls Try.prog 53 #[.slice p 0 cap, .int .i64 0, fv] w fun e w' => e = .returned (.tuple #[]) ∧ w' = w := by
    go_enter Try.func53, Try.ntmps53
    go_wp2
    refine wp_loop_rounds 1 ?_
    rw [rounds_succ]
    go_wp2_with (go_at_call 56; refine (hi _).mono ?_; rintro e w1 ⟨rfl, rfl⟩)
    refine wp_loop_rounds 1 ?_
    rw [rounds_succ]
    go_wp2
    go_end0
    exact ⟨rfl, rfl⟩
  go_enter Try.func45, Try.ntmps45
  go_wp2_with (go_at_call 53; refine hst.mono ?_; rintro e w1 ⟨rfl, rfl⟩)
  go_end0
  exact ⟨rfl, rfl⟩
/-- the library's stable sort, at this seat's translation. -/
theorem sorts (enc : α → List Value) (cf : α → α → Int) (hO : SWO (ltOf cf)) (hn : ∀ x y, ltOf cf x y = true → nm x ≠ nm y) (g : Nat) (cb : Array Value) (blk off cap : Nat) (d0 : Array α) (w0 : World)
    (eg : ∀ args w, (callFunc g args).run Try.prog w = .ok (.enter g args) w) (hcmp : CmpLays Try.prog g cb enc 2 cf blk off d0.size w0) (R : RowK enc 2 w0 blk off d0)
    (hsz : d0.size < 100000000000) :
    Calls Try.prog 45 #[.slice (some ⟨blk, off, none⟩) d0.size cap, .func (.func g) #[] cb] w0 fun e w' => e = .returned (.tuple #[]) ∧ ∃ d', Kept nm 0 d0.size d0 d' ∧ SortedIn (ltOf cf) 0 d0.size d' ∧ SWK enc 2 w0 blk off d' w' :=
  sortStable (nm := nm) laid 2 Try.isAgg42 Try.sizeOf42 enc cf hO hn g cb blk off cap d0 w0 eg hcmp R
    (fun a b d w hs S hab hb hsz => ins_w laidI 2 Try.isAgg42 Try.sizeOf42 enc cf g cb blk off cap a b d0 d w0 w eg hcmp R hO hs S hab hb hsz)
    (enters_of Try.func56 (by kernel_rfl) rfl) hsz
end PS
end St
end Go.Proofs.Ytcboeehmhpkodaa
