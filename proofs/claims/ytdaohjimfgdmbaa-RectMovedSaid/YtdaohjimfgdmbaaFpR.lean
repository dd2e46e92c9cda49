/- Contract of the document's Plan. -/
import Derived.Test.YtdaohjimfgdmbaaFpW3
namespace Go.Proofs.Ytdaohjimfgdmbaa
open Go.RowKit Go.Maps Sn
attribute [-go_sem] Builtin.append_
def gx (o : Option En) : Int := match o with | some e => e.x | none => 0
def gy (o : Option En) : Int := match o with | some e => e.y | none => 0
def gw (o : Option En) : Int := match o with | some e => e.w | none => 0
def gh (o : Option En) : Int := match o with | some e => e.h | none => 0
theorem gotV_eq (o : Option En) : gotV o = .tuple #[.agg #[.int .i64 (gx o), .int .i64 (gy o), .int .i64 (gw o), .int .i64 (gh o)], .bool o.isSome] := by cases o <;> rfl
theorem dxy_some {p q : Option En} (hp : p.isSome = true) (hq : q.isSome = true) : dxy p q = (sb (gx p) (gx q), sb (gy p) (gy q)) := by
  cases p with
  | none => cases hp
  | some a => cases q with
    | none => cases hq
    | some b => rfl
theorem dxy_no1 {p q : Option En} (hp : p.isSome = false) : dxy p q = (0, 0) := by cases p with | none => cases q <;> rfl | some a => cases hp
theorem dxy_no2 {p q : Option En} (hq : q.isSome = false) : dxy p q = (0, 0) := by cases q with | none => cases p <;> rfl | some a => cases hq
theorem infoShR : (Try.prog.info? 60).map (fun i => (i.zero, i.size, i.bytes)) = some (some (.agg #[.int .i64 0, .int .i64 0, .int .i64 0]), 3, 24) := by kernel_rfl
set_option maxHeartbeats 16000000 in
set_option maxRecDepth 100000 in
theorem rplan_any (A B C : Option Addr) (n c m d k0 e0 : Nat) (L M : List En) (I : List Int) (w : World) (hn : n = L.length) (hm : m = M.length) (hk0 : k0 = I.length) (hke : k0 ≤ e0) (hb : n ≤ 100000) (hb2 : m ≤ 100000) (hb3 : k0 ≤ 1000) (ha : At w A (ecs L)) (ha2 : At w B (ecs M)) (ha3 : At w C (I.flatMap zc)) :
    Calls Try.prog 25 #[.slice A n c, .slice B m d, .slice C k0 e0] w fun e w' => ∃ v, e = .returned v ∧ w'.ownsRow w.heap.size 60 3 v (planP L M I k0).length (shcs (planP L M I k0)) ∧ Below w.heap.size w w' := by
  have CL := Lib.hid (fun W (hW : Below w.heap.size w W) (id : Int) => rget_any A n c L id W hn (by omega) (ha.below hW))
  have CM := Lib.hid (fun W (hW : Below w.heap.size w W) (id : Int) => rget_any B m d M id W hm (by omega) (ha2.below hW))
  have HA3 := Lib.hid ha3
  have HI := Lib.hid hk0
  obtain ⟨i0, hi, hz0, hz1, hz2⟩ := info_parts infoShR
  clear hn hm hk0 ha ha2 ha3
  go_enter Try.func25, Try.ntmps25
  go_wp2
  go_loopw [7, 21] (fun v i wr => ∃ k : Nat, k ≤ k0 ∧ i = .int .i64 k ∧ Hid (wr.ownsRow w.heap.size 60 3 v (planP L M I k).length (shcs (planP L M I k))) ∧ Hid (Below w.heap.size w wr)) (fun _ i _ => k0 - (intOf i).toNat)
  case atStart => exact ⟨0, Nat.zero_le _, rfl, Lib.hid (own_made w _ rfl (Nat.le_refl _)), Lib.hid (below_alloc _ _)⟩
  case round =>
    obtain ⟨k, hk, rfl, hown, hbel⟩ := hrel
    by_cases hlt : k < k0
    · have hkl : k < I.length := by have := HI.out; omega
      obtain ⟨b1, o1, hC, hb1, hc1⟩ := zc_at (HA3.out.below hbel.out) hkl
      subst hC
      obtain ⟨x, hx⟩ : ∃ x, x = I.getD k 0 := ⟨_, rfl⟩
      rw [← hx] at hc1
      obtain ⟨P, hP⟩ : ∃ P, P = planP L M I k := ⟨_, rfl⟩
      rw [← hP] at hown
      have hPl : P.length ≤ 1000 := by rw [hP]; have := planP_len L M I k; omega
      have hstep : planP L M I (k + 1) = P ++ stepP L M I k := by rw [hP]; rfl
      have hdef : stepP L M I k = if x ∈ I.take k then [] else if (dxy (lastAt En.id L x) (lastAt En.id M x)).1 = 0 ∧ (dxy (lastAt En.id L x) (lastAt En.id M x)).2 = 0 then [] else [⟨x, (dxy (lastAt En.id L x) (lastAt En.id M x)).1, (dxy (lastAt En.id L x) (lastAt En.id M x)).2⟩] := by rw [hx]; rfl
      obtain ⟨AE, cE, rfl, hcE, hcE2⟩ := own_slice hown.out
      have CLx := fun W hW => CL.out W hW x
      have CMx := fun W hW => CM.out W hW x
      generalize lastAt En.id L x = p at CLx hdef
      generalize lastAt En.id M x = q at CMx hdef
      rw [gotV_eq] at CLx CMx
      obtain ⟨tp, htp⟩ : ∃ t, t = p.isSome := ⟨_, rfl⟩
      obtain ⟨tq, htq⟩ : ∃ t, t = q.isSome := ⟨_, rfl⟩
      rw [← htp] at CLx
      rw [← htq] at CMx
      have HST := Lib.hid hstep
      have HDF := Lib.hid hdef
      have HX := Lib.hid hx
      have HTP := Lib.hid htp
      have HTQ := Lib.hid htq
      have HCL := Lib.hid CLx
      have HCM := Lib.hid CMx
      have hszr := hbel.out.size
      clear hstep hdef hx hP htp htq CLx CMx
      obtain ⟨pl, hpl⟩ : ∃ pl, pl = P.length := ⟨_, rfl⟩
      have HP := Lib.hid hpl
      rw [← hpl] at hown hcE hPl ⊢
      clear hpl
      have HHD : Hid (∀ j b, j < k → wr.cell? ⟨b1, o1 + j, none⟩ = some (.int .i64 b) → b = I.getD j 0) := by
        intro j b hj hc
        obtain ⟨b1', o1', hC, _, hc2⟩ := zc_at (HA3.out.below hbel.out) (k := j) (by omega)
        injection hC with hC
        injection hC with e1 e2
        subst e1 e2
        rw [hc] at hc2
        injection hc2 with hc2
        injection hc2
      have HCJ : Hid (∀ j, j < k → wr.cell? ⟨b1, o1 + j, none⟩ = some (.int .i64 (I.getD j 0))) := by
        intro j hj
        obtain ⟨b1', o1', hC, _, hc2⟩ := zc_at (HA3.out.below hbel.out) (k := j) (by omega)
        injection hC with hC
        injection hC with e1 e2
        subst e1 e2
        exact hc2
      clear HHD
      have hke2 : k ≤ e0 := by omega
      go_wp2
      go_loop [10, 30] (fun h j => ∃ (i : Nat) (b : Bool), i ≤ k ∧ h = .bool b ∧ j = .int .i64 i ∧ Hid (b = decide (x ∈ I.take i))) (fun _ j => k - (intOf j).toNat)
      case atStart => exact ⟨0, false, Nat.zero_le _, rfl, rfl, Lib.hid (by simp)⟩
      case round =>
        obtain ⟨i, b, hik, rfl, rfl, hbd⟩ := hrel
        by_cases hil : i < k
        · have hci := HCJ.out i hil
          obtain ⟨z, hz⟩ : ∃ z, z = I.getD i 0 := ⟨_, rfl⟩
          rw [← hz] at hci
          have HNX : Hid (decide (x ∈ I.take (i + 1)) = (decide (x ∈ I.take i) || decide (z = x))) := by
            show decide (x ∈ I.take (i + 1)) = _
            rw [take_nextI I i (by omega), ← hz]
            by_cases h1 : x ∈ I.take i
            · simp [h1]
            · by_cases h2 : z = x
              · simp [h2]
              · have : ¬ x = z := fun e => h2 e.symm
                simp [h1, h2, this]
          clear hz
          cases b with
          | true =>
            go_wp2
            go_round
            case rel => exact ⟨i + 1, true, by omega, rfl, by go_num, Lib.hid (by rw [HNX.out, ← hbd.out]; rfl)⟩
            case measure => simp [intOf]; omega
          | false =>
            by_cases hzx : z = x
            · have hzb : (z == x) = true := by simpa using hzx
              have HZX := Lib.hid (decide_eq_true hzx)
              clear hzx
              go_wp2
              go_round
              case rel => exact ⟨i + 1, true, by omega, rfl, by go_num, Lib.hid (by rw [HNX.out, ← hbd.out, HZX.out]; rfl)⟩
              case measure => simp [intOf]; omega
            · have hzb : (z == x) = false := by simpa using hzx
              have HZX := Lib.hid (decide_eq_false hzx)
              clear hzx
              go_wp2
              go_round
              case rel => exact ⟨i + 1, false, by omega, rfl, by go_num, Lib.hid (by rw [HNX.out, ← hbd.out, HZX.out]; rfl)⟩
              case measure => simp [intOf]; omega
        · obtain rfl : i = k := by omega
          have HBD := Lib.hid hbd.out
          clear hil hik hbd
          cases b with
          | true =>
            have hin : x ∈ I.take i := of_decide_eq_true HBD.out.symm
            have HAPP : Hid (planP L M I (i + 1) = P) := by show planP L M I (i + 1) = _; rw [HST.out, HDF.out, if_pos hin, List.append_nil]
            clear HST HDF
            clear hin HBD
            obtain ⟨dx, hdx0⟩ : ∃ d, d = sb (gx p) (gx q) := ⟨_, rfl⟩
            obtain ⟨dy, hdy0⟩ : ∃ d, d = sb (gy p) (gy q) := ⟨_, rfl⟩
            have HDX := Lib.hid hdx0
            have HDY := Lib.hid hdy0
            clear hdx0 hdy0
            go_wp2_with fail
            refine (HCL.out _ hbel.out).mono ?_
            rintro e w5 ⟨rfl, hb5⟩
            obtain ⟨W5, hW5⟩ : ∃ W, W = w5.alloc (.cells #[.int .i64 (gx p), .int .i64 (gy p), .int .i64 (gw p), .int .i64 (gh p)] 32) := ⟨_, rfl⟩
            have hb5' : Below wr.heap.size wr W5 := by rw [hW5]; exact hb5.alloc hb5.size _
            have K5 := Lib.hid (show Blk W5 w5.heap.size 32 #[.int .i64 (gx p), .int .i64 (gy p), .int .i64 (gw p), .int .i64 (gh p)] by rw [hW5]; exact Blk.new w5 _ _)
            have HB5 := Lib.hid hb5'
            have HW5 := Lib.hid hW5
            clear hW5 hb5 hb5'
            go_upto_region 12 with fail
            rw [← HW5.out]
            go_wp2_with fail
            refine (HCM.out _ (hbel.out.trans (HB5.out.mono hszr))).mono ?_
            rintro e w6 ⟨rfl, hb6⟩
            obtain ⟨W6, hW6⟩ : ∃ W, W = w6.alloc (.cells #[.int .i64 (gx q), .int .i64 (gy q), .int .i64 (gw q), .int .i64 (gh q)] 32) := ⟨_, rfl⟩
            have hb6' : Below W5.heap.size W5 W6 := by rw [hW6]; exact hb6.alloc hb6.size _
            have K6 : Blk W6 w6.heap.size 32 #[.int .i64 (gx q), .int .i64 (gy q), .int .i64 (gw q), .int .i64 (gh q)] := by rw [hW6]; exact Blk.new w6 _ _
            have K65 := K5.out.below hb6'
            have HB6 := Lib.hid (HB5.out.trans (hb6'.mono HB5.out.size))
            have HW6 := Lib.hid hW6
            have c0 := K65.cell 0 (v := .int .i64 (gx p)) rfl
            have c1 := K65.cell 1 (v := .int .i64 (gy p)) rfl
            have d0 := K6.cell 0 (v := .int .i64 (gx q)) rfl
            have d1 := K6.cell 1 (v := .int .i64 (gy q)) rfl
            have hl5 := K65.lt
            have hl6 := K6.lt
            obtain ⟨g5, hg5⟩ : ∃ g, g = w5.heap.size := ⟨_, rfl⟩
            obtain ⟨g6, hg6⟩ : ∃ g, g = w6.heap.size := ⟨_, rfl⟩
            rw [← hg5] at c0 c1 hl5
            rw [← hg6] at d0 d1 hl6
            have HG5 := Lib.hid hg5
            have HG6 := Lib.hid hg6
            clear hW6 hb6 hb6' K6 K65 K5 HB5 hg5 hg6
            go_upto_region 13 with fail
            rw [← HW6.out, ← HG5.out, ← HG6.out]
            have n5 : ¬ g5 = W6.heap.size := by omega
            have n6 : ¬ g6 = W6.heap.size := by omega
            go_cut [17] (fun p9 wx => p9 = .pointer (some ⟨W6.heap.size, 0, none⟩) ∧ wx = (W6.alloc (.cells #[.int .i64 x, .int .i64 (sb (gx p) (gx q)), .int .i64 (sb (gy p) (gy q))] 60)).drew)
            case first =>
              go_region_held3 (fun w' => w'.cell? ⟨g5, 0, none⟩ = some (.int .i64 (gx p)) ∧ w'.cell? ⟨g5, 1, none⟩ = some (.int .i64 (gy p)) ∧ w'.cell? ⟨g6, 0, none⟩ = some (.int .i64 (gx q)) ∧ w'.cell? ⟨g6, 1, none⟩ = some (.int .i64 (gy q))) (first | (refine ⟨?_, ?_, ?_, ?_⟩ <;> first | with_reducible assumption | go_keep) | go_keep) (first | (go_at_call 48; (with_reducible refine (rsub_any' _ _ _).mono ?_); rintro e9 w9 ⟨rfl, rfl⟩))

              all_goals (go_wp2_with fail; go_meet; exact ⟨rfl, rfl⟩)
            case' rest => obtain ⟨rfl, rfl⟩ := hcut
            rw [← HDX.out, ← HDY.out]
            obtain ⟨W7, hW7⟩ : ∃ W, W = (W6.alloc (.cells #[.int .i64 x, .int .i64 dx, .int .i64 dy] 60)).drew := ⟨_, rfl⟩
            have hb7 : Below W6.heap.size W6 W7 := by rw [hW7]; exact Below_drew (below_alloc W6 _)
            have K7 : Blk W7 W6.heap.size 60 #[.int .i64 x, .int .i64 dx, .int .i64 dy] := by rw [hW7]; exact Blk.drew (Blk.new W6 _ _)
            have s0 := K7.cell 0 (v := .int .i64 x) rfl
            have s1 := K7.cell 1 (v := .int .i64 dx) rfl
            have s2 := K7.cell 2 (v := .int .i64 dy) rfl
            have HB7 := Lib.hid (show Below w.heap.size w W7 from (hbel.out.trans (HB6.out.mono hszr)).trans (hb7.mono (by have := hbel.out.size; have := HB6.out.size; omega)))
            have HR7 := Lib.hid (own_below (own_below hown.out HB6.out) hb7)
            have hs7 : w.heap.size ≤ W7.heap.size := HB7.out.size
            have hg7 : W6.heap.size < W7.heap.size := K7.lt
            have HW7 := Lib.hid hW7
            clear hW7 hb7 K7 c0 c1 d0 d1 hl5 hl6 n5 n6 hc1
            rw [← HW7.out]
            go_wp2
            go_roundw
            case rel => exact ⟨i + 1, by omega, by go_num, Lib.hid (by rw [HAPP.out, ← HP.out]; exact HR7.out), HB7⟩
            case measure => simp [intOf]; omega
          | false =>
            have hin : ¬ x ∈ I.take i := of_decide_eq_false HBD.out.symm
            clear HBD
            cases tp with
            | false =>
              have HAPP : Hid (planP L M I (i + 1) = P) := by show planP L M I (i + 1) = _; rw [HST.out, HDF.out, if_neg hin, dxy_no1 HTP.out.symm, if_pos ⟨rfl, rfl⟩, List.append_nil]
              clear HST HDF
              clear hin
              obtain ⟨dx, hdx0⟩ : ∃ d, d = sb (gx p) (gx q) := ⟨_, rfl⟩
              obtain ⟨dy, hdy0⟩ : ∃ d, d = sb (gy p) (gy q) := ⟨_, rfl⟩
              have HDX := Lib.hid hdx0
              have HDY := Lib.hid hdy0
              clear hdx0 hdy0
              go_wp2_with fail
              refine (HCL.out _ hbel.out).mono ?_
              rintro e w5 ⟨rfl, hb5⟩
              obtain ⟨W5, hW5⟩ : ∃ W, W = w5.alloc (.cells #[.int .i64 (gx p), .int .i64 (gy p), .int .i64 (gw p), .int .i64 (gh p)] 32) := ⟨_, rfl⟩
              have hb5' : Below wr.heap.size wr W5 := by rw [hW5]; exact hb5.alloc hb5.size _
              have K5 := Lib.hid (show Blk W5 w5.heap.size 32 #[.int .i64 (gx p), .int .i64 (gy p), .int .i64 (gw p), .int .i64 (gh p)] by rw [hW5]; exact Blk.new w5 _ _)
              have HB5 := Lib.hid hb5'
              have HW5 := Lib.hid hW5
              clear hW5 hb5 hb5'
              go_upto_region 12 with fail
              rw [← HW5.out]
              go_wp2_with fail
              refine (HCM.out _ (hbel.out.trans (HB5.out.mono hszr))).mono ?_
              rintro e w6 ⟨rfl, hb6⟩
              obtain ⟨W6, hW6⟩ : ∃ W, W = w6.alloc (.cells #[.int .i64 (gx q), .int .i64 (gy q), .int .i64 (gw q), .int .i64 (gh q)] 32) := ⟨_, rfl⟩
              have hb6' : Below W5.heap.size W5 W6 := by rw [hW6]; exact hb6.alloc hb6.size _
              have K6 : Blk W6 w6.heap.size 32 #[.int .i64 (gx q), .int .i64 (gy q), .int .i64 (gw q), .int .i64 (gh q)] := by rw [hW6]; exact Blk.new w6 _ _
              have K65 := K5.out.below hb6'
              have HB6 := Lib.hid (HB5.out.trans (hb6'.mono HB5.out.size))
              have HW6 := Lib.hid hW6
              have c0 := K65.cell 0 (v := .int .i64 (gx p)) rfl
              have c1 := K65.cell 1 (v := .int .i64 (gy p)) rfl
              have d0 := K6.cell 0 (v := .int .i64 (gx q)) rfl
              have d1 := K6.cell 1 (v := .int .i64 (gy q)) rfl
              have hl5 := K65.lt
              have hl6 := K6.lt
              obtain ⟨g5, hg5⟩ : ∃ g, g = w5.heap.size := ⟨_, rfl⟩
              obtain ⟨g6, hg6⟩ : ∃ g, g = w6.heap.size := ⟨_, rfl⟩
              rw [← hg5] at c0 c1 hl5
              rw [← hg6] at d0 d1 hl6
              have HG5 := Lib.hid hg5
              have HG6 := Lib.hid hg6
              clear hW6 hb6 hb6' K6 K65 K5 HB5 hg5 hg6
              go_upto_region 13 with fail
              rw [← HW6.out, ← HG5.out, ← HG6.out]
              have n5 : ¬ g5 = W6.heap.size := by omega
              have n6 : ¬ g6 = W6.heap.size := by omega
              go_cut [17] (fun p9 wx => p9 = .pointer (some ⟨W6.heap.size, 0, none⟩) ∧ wx = (W6.alloc (.cells #[.int .i64 x, .int .i64 (sb (gx p) (gx q)), .int .i64 (sb (gy p) (gy q))] 60)).drew)
              case first =>
                go_region_held3 (fun w' => w'.cell? ⟨g5, 0, none⟩ = some (.int .i64 (gx p)) ∧ w'.cell? ⟨g5, 1, none⟩ = some (.int .i64 (gy p)) ∧ w'.cell? ⟨g6, 0, none⟩ = some (.int .i64 (gx q)) ∧ w'.cell? ⟨g6, 1, none⟩ = some (.int .i64 (gy q))) (first | (refine ⟨?_, ?_, ?_, ?_⟩ <;> first | with_reducible assumption | go_keep) | go_keep) (first | (go_at_call 48; (with_reducible refine (rsub_any' _ _ _).mono ?_); rintro e9 w9 ⟨rfl, rfl⟩))

                all_goals (go_wp2_with fail; go_meet; exact ⟨rfl, rfl⟩)
              case' rest => obtain ⟨rfl, rfl⟩ := hcut
              rw [← HDX.out, ← HDY.out]
              obtain ⟨W7, hW7⟩ : ∃ W, W = (W6.alloc (.cells #[.int .i64 x, .int .i64 dx, .int .i64 dy] 60)).drew := ⟨_, rfl⟩
              have hb7 : Below W6.heap.size W6 W7 := by rw [hW7]; exact Below_drew (below_alloc W6 _)
              have K7 : Blk W7 W6.heap.size 60 #[.int .i64 x, .int .i64 dx, .int .i64 dy] := by rw [hW7]; exact Blk.drew (Blk.new W6 _ _)
              have s0 := K7.cell 0 (v := .int .i64 x) rfl
              have s1 := K7.cell 1 (v := .int .i64 dx) rfl
              have s2 := K7.cell 2 (v := .int .i64 dy) rfl
              have HB7 := Lib.hid (show Below w.heap.size w W7 from (hbel.out.trans (HB6.out.mono hszr)).trans (hb7.mono (by have := hbel.out.size; have := HB6.out.size; omega)))
              have HR7 := Lib.hid (own_below (own_below hown.out HB6.out) hb7)
              have hs7 : w.heap.size ≤ W7.heap.size := HB7.out.size
              have hg7 : W6.heap.size < W7.heap.size := K7.lt
              have HW7 := Lib.hid hW7
              clear hW7 hb7 K7 c0 c1 d0 d1 hl5 hl6 n5 n6 hc1
              rw [← HW7.out]
              go_wp2
              go_roundw
              case rel => exact ⟨i + 1, by omega, by go_num, Lib.hid (by rw [HAPP.out, ← HP.out]; exact HR7.out), HB7⟩
              case measure => simp [intOf]; omega
            | true =>
              cases tq with
              | false =>
                have HAPP : Hid (planP L M I (i + 1) = P) := by show planP L M I (i + 1) = _; rw [HST.out, HDF.out, if_neg hin, dxy_no2 HTQ.out.symm, if_pos ⟨rfl, rfl⟩, List.append_nil]
                clear HST HDF
                clear hin
                obtain ⟨dx, hdx0⟩ : ∃ d, d = sb (gx p) (gx q) := ⟨_, rfl⟩
                obtain ⟨dy, hdy0⟩ : ∃ d, d = sb (gy p) (gy q) := ⟨_, rfl⟩
                have HDX := Lib.hid hdx0
                have HDY := Lib.hid hdy0
                clear hdx0 hdy0
                go_wp2_with fail
                refine (HCL.out _ hbel.out).mono ?_
                rintro e w5 ⟨rfl, hb5⟩
                obtain ⟨W5, hW5⟩ : ∃ W, W = w5.alloc (.cells #[.int .i64 (gx p), .int .i64 (gy p), .int .i64 (gw p), .int .i64 (gh p)] 32) := ⟨_, rfl⟩
                have hb5' : Below wr.heap.size wr W5 := by rw [hW5]; exact hb5.alloc hb5.size _
                have K5 := Lib.hid (show Blk W5 w5.heap.size 32 #[.int .i64 (gx p), .int .i64 (gy p), .int .i64 (gw p), .int .i64 (gh p)] by rw [hW5]; exact Blk.new w5 _ _)
                have HB5 := Lib.hid hb5'
                have HW5 := Lib.hid hW5
                clear hW5 hb5 hb5'
                go_upto_region 12 with fail
                rw [← HW5.out]
                go_wp2_with fail
                refine (HCM.out _ (hbel.out.trans (HB5.out.mono hszr))).mono ?_
                rintro e w6 ⟨rfl, hb6⟩
                obtain ⟨W6, hW6⟩ : ∃ W, W = w6.alloc (.cells #[.int .i64 (gx q), .int .i64 (gy q), .int .i64 (gw q), .int .i64 (gh q)] 32) := ⟨_, rfl⟩
                have hb6' : Below W5.heap.size W5 W6 := by rw [hW6]; exact hb6.alloc hb6.size _
                have K6 : Blk W6 w6.heap.size 32 #[.int .i64 (gx q), .int .i64 (gy q), .int .i64 (gw q), .int .i64 (gh q)] := by rw [hW6]; exact Blk.new w6 _ _
                have K65 := K5.out.below hb6'
                have HB6 := Lib.hid (HB5.out.trans (hb6'.mono HB5.out.size))
                have HW6 := Lib.hid hW6
                have c0 := K65.cell 0 (v := .int .i64 (gx p)) rfl
                have c1 := K65.cell 1 (v := .int .i64 (gy p)) rfl
                have d0 := K6.cell 0 (v := .int .i64 (gx q)) rfl
                have d1 := K6.cell 1 (v := .int .i64 (gy q)) rfl
                have hl5 := K65.lt
                have hl6 := K6.lt
                obtain ⟨g5, hg5⟩ : ∃ g, g = w5.heap.size := ⟨_, rfl⟩
                obtain ⟨g6, hg6⟩ : ∃ g, g = w6.heap.size := ⟨_, rfl⟩
                rw [← hg5] at c0 c1 hl5
                rw [← hg6] at d0 d1 hl6
                have HG5 := Lib.hid hg5
                have HG6 := Lib.hid hg6
                clear hW6 hb6 hb6' K6 K65 K5 HB5 hg5 hg6
                go_upto_region 13 with fail
                rw [← HW6.out, ← HG5.out, ← HG6.out]
                have n5 : ¬ g5 = W6.heap.size := by omega
                have n6 : ¬ g6 = W6.heap.size := by omega
                go_cut [17] (fun p9 wx => p9 = .pointer (some ⟨W6.heap.size, 0, none⟩) ∧ wx = (W6.alloc (.cells #[.int .i64 x, .int .i64 (sb (gx p) (gx q)), .int .i64 (sb (gy p) (gy q))] 60)).drew)
                case first =>
                  go_region_held3 (fun w' => w'.cell? ⟨g5, 0, none⟩ = some (.int .i64 (gx p)) ∧ w'.cell? ⟨g5, 1, none⟩ = some (.int .i64 (gy p)) ∧ w'.cell? ⟨g6, 0, none⟩ = some (.int .i64 (gx q)) ∧ w'.cell? ⟨g6, 1, none⟩ = some (.int .i64 (gy q))) (first | (refine ⟨?_, ?_, ?_, ?_⟩ <;> first | with_reducible assumption | go_keep) | go_keep) (first | (go_at_call 48; (with_reducible refine (rsub_any' _ _ _).mono ?_); rintro e9 w9 ⟨rfl, rfl⟩))

                  all_goals (go_wp2_with fail; go_meet; exact ⟨rfl, rfl⟩)
                case' rest => obtain ⟨rfl, rfl⟩ := hcut
                rw [← HDX.out, ← HDY.out]
                obtain ⟨W7, hW7⟩ : ∃ W, W = (W6.alloc (.cells #[.int .i64 x, .int .i64 dx, .int .i64 dy] 60)).drew := ⟨_, rfl⟩
                have hb7 : Below W6.heap.size W6 W7 := by rw [hW7]; exact Below_drew (below_alloc W6 _)
                have K7 : Blk W7 W6.heap.size 60 #[.int .i64 x, .int .i64 dx, .int .i64 dy] := by rw [hW7]; exact Blk.drew (Blk.new W6 _ _)
                have s0 := K7.cell 0 (v := .int .i64 x) rfl
                have s1 := K7.cell 1 (v := .int .i64 dx) rfl
                have s2 := K7.cell 2 (v := .int .i64 dy) rfl
                have HB7 := Lib.hid (show Below w.heap.size w W7 from (hbel.out.trans (HB6.out.mono hszr)).trans (hb7.mono (by have := hbel.out.size; have := HB6.out.size; omega)))
                have HR7 := Lib.hid (own_below (own_below hown.out HB6.out) hb7)
                have hs7 : w.heap.size ≤ W7.heap.size := HB7.out.size
                have hg7 : W6.heap.size < W7.heap.size := K7.lt
                have HW7 := Lib.hid hW7
                clear hW7 hb7 K7 c0 c1 d0 d1 hl5 hl6 n5 n6 hc1
                rw [← HW7.out]
                go_wp2
                go_roundw
                case rel => exact ⟨i + 1, by omega, by go_num, Lib.hid (by rw [HAPP.out, ← HP.out]; exact HR7.out), HB7⟩
                case measure => simp [intOf]; omega
              | true =>
                obtain ⟨dx, hdx0⟩ : ∃ d, d = sb (gx p) (gx q) := ⟨_, rfl⟩
                obtain ⟨dy, hdy0⟩ : ∃ d, d = sb (gy p) (gy q) := ⟨_, rfl⟩
                have hdf := HDF.out
                rw [if_neg hin, dxy_some HTP.out.symm HTQ.out.symm] at hdf
                dsimp only at hdf
                rw [← hdx0, ← hdy0] at hdf
                have HDF := Lib.hid hdf
                clear hin hdf
                have HDX := Lib.hid hdx0
                have HDY := Lib.hid hdy0
                clear hdx0 hdy0
                by_cases hdx : dx = 0
                · subst hdx
                  by_cases hdy : dy = 0
                  · subst hdy
                    have HAPP : Hid (planP L M I (i + 1) = P) := by show planP L M I (i + 1) = _; rw [HST.out, HDF.out, if_pos ⟨rfl, rfl⟩, List.append_nil]
                    clear HST HDF
                    go_wp2_with fail
                    refine (HCL.out _ hbel.out).mono ?_
                    rintro e w5 ⟨rfl, hb5⟩
                    obtain ⟨W5, hW5⟩ : ∃ W, W = w5.alloc (.cells #[.int .i64 (gx p), .int .i64 (gy p), .int .i64 (gw p), .int .i64 (gh p)] 32) := ⟨_, rfl⟩
                    have hb5' : Below wr.heap.size wr W5 := by rw [hW5]; exact hb5.alloc hb5.size _
                    have K5 := Lib.hid (show Blk W5 w5.heap.size 32 #[.int .i64 (gx p), .int .i64 (gy p), .int .i64 (gw p), .int .i64 (gh p)] by rw [hW5]; exact Blk.new w5 _ _)
                    have HB5 := Lib.hid hb5'
                    have HW5 := Lib.hid hW5
                    clear hW5 hb5 hb5'
                    go_upto_region 12 with fail
                    rw [← HW5.out]
                    go_wp2_with fail
                    refine (HCM.out _ (hbel.out.trans (HB5.out.mono hszr))).mono ?_
                    rintro e w6 ⟨rfl, hb6⟩
                    obtain ⟨W6, hW6⟩ : ∃ W, W = w6.alloc (.cells #[.int .i64 (gx q), .int .i64 (gy q), .int .i64 (gw q), .int .i64 (gh q)] 32) := ⟨_, rfl⟩
                    have hb6' : Below W5.heap.size W5 W6 := by rw [hW6]; exact hb6.alloc hb6.size _
                    have K6 : Blk W6 w6.heap.size 32 #[.int .i64 (gx q), .int .i64 (gy q), .int .i64 (gw q), .int .i64 (gh q)] := by rw [hW6]; exact Blk.new w6 _ _
                    have K65 := K5.out.below hb6'
                    have HB6 := Lib.hid (HB5.out.trans (hb6'.mono HB5.out.size))
                    have HW6 := Lib.hid hW6
                    have c0 := K65.cell 0 (v := .int .i64 (gx p)) rfl
                    have c1 := K65.cell 1 (v := .int .i64 (gy p)) rfl
                    have d0 := K6.cell 0 (v := .int .i64 (gx q)) rfl
                    have d1 := K6.cell 1 (v := .int .i64 (gy q)) rfl
                    have hl5 := K65.lt
                    have hl6 := K6.lt
                    obtain ⟨g5, hg5⟩ : ∃ g, g = w5.heap.size := ⟨_, rfl⟩
                    obtain ⟨g6, hg6⟩ : ∃ g, g = w6.heap.size := ⟨_, rfl⟩
                    rw [← hg5] at c0 c1 hl5
                    rw [← hg6] at d0 d1 hl6
                    have HG5 := Lib.hid hg5
                    have HG6 := Lib.hid hg6
                    clear hW6 hb6 hb6' K6 K65 K5 HB5 hg5 hg6
                    go_upto_region 13 with fail
                    rw [← HW6.out, ← HG5.out, ← HG6.out]
                    have n5 : ¬ g5 = W6.heap.size := by omega
                    have n6 : ¬ g6 = W6.heap.size := by omega
                    go_cut [17] (fun p9 wx => p9 = .pointer (some ⟨W6.heap.size, 0, none⟩) ∧ wx = (W6.alloc (.cells #[.int .i64 x, .int .i64 (sb (gx p) (gx q)), .int .i64 (sb (gy p) (gy q))] 60)).drew)
                    case first =>
                      go_region_held3 (fun w' => w'.cell? ⟨g5, 0, none⟩ = some (.int .i64 (gx p)) ∧ w'.cell? ⟨g5, 1, none⟩ = some (.int .i64 (gy p)) ∧ w'.cell? ⟨g6, 0, none⟩ = some (.int .i64 (gx q)) ∧ w'.cell? ⟨g6, 1, none⟩ = some (.int .i64 (gy q))) (first | (refine ⟨?_, ?_, ?_, ?_⟩ <;> first | with_reducible assumption | go_keep) | go_keep) (first | (go_at_call 48; (with_reducible refine (rsub_any' _ _ _).mono ?_); rintro e9 w9 ⟨rfl, rfl⟩))

                      all_goals (go_wp2_with fail; go_meet; exact ⟨rfl, rfl⟩)
                    case' rest => obtain ⟨rfl, rfl⟩ := hcut
                    rw [← HDX.out, ← HDY.out]
                    obtain ⟨W7, hW7⟩ : ∃ W, W = (W6.alloc (.cells #[.int .i64 x, .int .i64 0, .int .i64 0] 60)).drew := ⟨_, rfl⟩
                    have hb7 : Below W6.heap.size W6 W7 := by rw [hW7]; exact Below_drew (below_alloc W6 _)
                    have K7 : Blk W7 W6.heap.size 60 #[.int .i64 x, .int .i64 0, .int .i64 0] := by rw [hW7]; exact Blk.drew (Blk.new W6 _ _)
                    have s0 := K7.cell 0 (v := .int .i64 x) rfl
                    have s1 := K7.cell 1 (v := .int .i64 0) rfl
                    have s2 := K7.cell 2 (v := .int .i64 0) rfl
                    have HB7 := Lib.hid (show Below w.heap.size w W7 from (hbel.out.trans (HB6.out.mono hszr)).trans (hb7.mono (by have := hbel.out.size; have := HB6.out.size; omega)))
                    have HR7 := Lib.hid (own_below (own_below hown.out HB6.out) hb7)
                    have hs7 : w.heap.size ≤ W7.heap.size := HB7.out.size
                    have hg7 : W6.heap.size < W7.heap.size := K7.lt
                    have HW7 := Lib.hid hW7
                    clear hW7 hb7 K7 c0 c1 d0 d1 hl5 hl6 n5 n6 hc1
                    rw [← HW7.out]
                    go_wp2
                    go_roundw
                    case rel => exact ⟨i + 1, by omega, by go_num, Lib.hid (by rw [HAPP.out, ← HP.out]; exact HR7.out), HB7⟩
                    case measure => simp [intOf]; omega
                  · have hy1 : (dy != 0) = true := by simpa using hdy
                    have hy2 : (dy == 0) = false := by simpa using hdy
                    have HAPP : Hid (planP L M I (i + 1) = P ++ [⟨x, 0, dy⟩]) := by show planP L M I (i + 1) = _; rw [HST.out, HDF.out, if_neg (fun h => hdy h.2)]
                    clear HST HDF
                    clear hdy
                    go_wp2_with fail
                    refine (HCL.out _ hbel.out).mono ?_
                    rintro e w5 ⟨rfl, hb5⟩
                    obtain ⟨W5, hW5⟩ : ∃ W, W = w5.alloc (.cells #[.int .i64 (gx p), .int .i64 (gy p), .int .i64 (gw p), .int .i64 (gh p)] 32) := ⟨_, rfl⟩
                    have hb5' : Below wr.heap.size wr W5 := by rw [hW5]; exact hb5.alloc hb5.size _
                    have K5 := Lib.hid (show Blk W5 w5.heap.size 32 #[.int .i64 (gx p), .int .i64 (gy p), .int .i64 (gw p), .int .i64 (gh p)] by rw [hW5]; exact Blk.new w5 _ _)
                    have HB5 := Lib.hid hb5'
                    have HW5 := Lib.hid hW5
                    clear hW5 hb5 hb5'
                    go_upto_region 12 with fail
                    rw [← HW5.out]
                    go_wp2_with fail
                    refine (HCM.out _ (hbel.out.trans (HB5.out.mono hszr))).mono ?_
                    rintro e w6 ⟨rfl, hb6⟩
                    obtain ⟨W6, hW6⟩ : ∃ W, W = w6.alloc (.cells #[.int .i64 (gx q), .int .i64 (gy q), .int .i64 (gw q), .int .i64 (gh q)] 32) := ⟨_, rfl⟩
                    have hb6' : Below W5.heap.size W5 W6 := by rw [hW6]; exact hb6.alloc hb6.size _
                    have K6 : Blk W6 w6.heap.size 32 #[.int .i64 (gx q), .int .i64 (gy q), .int .i64 (gw q), .int .i64 (gh q)] := by rw [hW6]; exact Blk.new w6 _ _
                    have K65 := K5.out.below hb6'
                    have HB6 := Lib.hid (HB5.out.trans (hb6'.mono HB5.out.size))
                    have HW6 := Lib.hid hW6
                    have c0 := K65.cell 0 (v := .int .i64 (gx p)) rfl
                    have c1 := K65.cell 1 (v := .int .i64 (gy p)) rfl
                    have d0 := K6.cell 0 (v := .int .i64 (gx q)) rfl
                    have d1 := K6.cell 1 (v := .int .i64 (gy q)) rfl
                    have hl5 := K65.lt
                    have hl6 := K6.lt
                    obtain ⟨g5, hg5⟩ : ∃ g, g = w5.heap.size := ⟨_, rfl⟩
                    obtain ⟨g6, hg6⟩ : ∃ g, g = w6.heap.size := ⟨_, rfl⟩
                    rw [← hg5] at c0 c1 hl5
                    rw [← hg6] at d0 d1 hl6
                    have HG5 := Lib.hid hg5
                    have HG6 := Lib.hid hg6
                    clear hW6 hb6 hb6' K6 K65 K5 HB5 hg5 hg6
                    go_upto_region 13 with fail
                    rw [← HW6.out, ← HG5.out, ← HG6.out]
                    have n5 : ¬ g5 = W6.heap.size := by omega
                    have n6 : ¬ g6 = W6.heap.size := by omega
                    go_cut [17] (fun p9 wx => p9 = .pointer (some ⟨W6.heap.size, 0, none⟩) ∧ wx = (W6.alloc (.cells #[.int .i64 x, .int .i64 (sb (gx p) (gx q)), .int .i64 (sb (gy p) (gy q))] 60)).drew)
                    case first =>
                      go_region_held3 (fun w' => w'.cell? ⟨g5, 0, none⟩ = some (.int .i64 (gx p)) ∧ w'.cell? ⟨g5, 1, none⟩ = some (.int .i64 (gy p)) ∧ w'.cell? ⟨g6, 0, none⟩ = some (.int .i64 (gx q)) ∧ w'.cell? ⟨g6, 1, none⟩ = some (.int .i64 (gy q))) (first | (refine ⟨?_, ?_, ?_, ?_⟩ <;> first | with_reducible assumption | go_keep) | go_keep) (first | (go_at_call 48; (with_reducible refine (rsub_any' _ _ _).mono ?_); rintro e9 w9 ⟨rfl, rfl⟩))

                      all_goals (go_wp2_with fail; go_meet; exact ⟨rfl, rfl⟩)
                    case' rest => obtain ⟨rfl, rfl⟩ := hcut
                    rw [← HDX.out, ← HDY.out]
                    obtain ⟨W7, hW7⟩ : ∃ W, W = (W6.alloc (.cells #[.int .i64 x, .int .i64 0, .int .i64 dy] 60)).drew := ⟨_, rfl⟩
                    have hb7 : Below W6.heap.size W6 W7 := by rw [hW7]; exact Below_drew (below_alloc W6 _)
                    have K7 : Blk W7 W6.heap.size 60 #[.int .i64 x, .int .i64 0, .int .i64 dy] := by rw [hW7]; exact Blk.drew (Blk.new W6 _ _)
                    have s0 := K7.cell 0 (v := .int .i64 x) rfl
                    have s1 := K7.cell 1 (v := .int .i64 0) rfl
                    have s2 := K7.cell 2 (v := .int .i64 dy) rfl
                    have HB7 := Lib.hid (show Below w.heap.size w W7 from (hbel.out.trans (HB6.out.mono hszr)).trans (hb7.mono (by have := hbel.out.size; have := HB6.out.size; omega)))
                    have HR7 := Lib.hid (own_below (own_below hown.out HB6.out) hb7)
                    have hs7 : w.heap.size ≤ W7.heap.size := HB7.out.size
                    have hg7 : W6.heap.size < W7.heap.size := K7.lt
                    have HW7 := Lib.hid hW7
                    clear hW7 hb7 K7 c0 c1 d0 d1 hl5 hl6 n5 n6 hc1
                    rw [← HW7.out]
                    obtain ⟨v1, w8, hrun, hown1, hgrow1, _, hat1⟩ := run_append_own_at (P := Try.prog) (W7.alloc (.cells #[.int .i64 x, .int .i64 0, .int .i64 dy] 60)) w.heap.size 55 55 60 i0 _ 3 24 Try.underlying55 hi hz0 hz1 hz2 rfl (by decide) _ _ _ (HR7.out.alloc (.cells #[.int .i64 x, .int .i64 0, .int .i64 dy] 60))
                      ⟨W7.heap.size, 0, none⟩ 1 1 [.int .i64 x, .int .i64 0, .int .i64 dy] rfl (cells_new' _ _ _ _ rfl _ rfl) (fun u hu => shc_one ⟨x, 0, dy⟩ u hu) (by unfold maxLen; omega) (by omega) (by simp; omega)
                    obtain ⟨A9, c9, rfl, hc9, hm9⟩ := own_slice hown1
                    have HO9 := Lib.hid hown1
                    have HB9 := Lib.hid ((HB7.out.alloc HB7.out.size (.cells #[.int .i64 x, .int .i64 0, .int .i64 dy] 60)).grown hgrow1 (by simp; omega) (fun j hj => by have := own_from HR7.out j hj; omega))
                    clear hown1 hgrow1 hat1 HR7 HB7
                    go_wp2
                    go_roundw
                    case rel => exact ⟨i + 1, by omega, by go_num, Lib.hid (by rw [HAPP.out, List.length_append, shcs_app, ← HP.out]; exact HO9.out), HB9⟩
                    case measure => simp [intOf]; omega
                · have hx1 : (dx != 0) = true := by simpa using hdx
                  have hx2 : (dx == 0) = false := by simpa using hdx
                  have HAPP : Hid (planP L M I (i + 1) = P ++ [⟨x, dx, dy⟩]) := by show planP L M I (i + 1) = _; rw [HST.out, HDF.out, if_neg (fun h => hdx h.1)]
                  clear HST HDF
                  clear hdx
                  go_wp2_with fail
                  refine (HCL.out _ hbel.out).mono ?_
                  rintro e w5 ⟨rfl, hb5⟩
                  obtain ⟨W5, hW5⟩ : ∃ W, W = w5.alloc (.cells #[.int .i64 (gx p), .int .i64 (gy p), .int .i64 (gw p), .int .i64 (gh p)] 32) := ⟨_, rfl⟩
                  have hb5' : Below wr.heap.size wr W5 := by rw [hW5]; exact hb5.alloc hb5.size _
                  have K5 := Lib.hid (show Blk W5 w5.heap.size 32 #[.int .i64 (gx p), .int .i64 (gy p), .int .i64 (gw p), .int .i64 (gh p)] by rw [hW5]; exact Blk.new w5 _ _)
                  have HB5 := Lib.hid hb5'
                  have HW5 := Lib.hid hW5
                  clear hW5 hb5 hb5'
                  go_upto_region 12 with fail
                  rw [← HW5.out]
                  go_wp2_with fail
                  refine (HCM.out _ (hbel.out.trans (HB5.out.mono hszr))).mono ?_
                  rintro e w6 ⟨rfl, hb6⟩
                  obtain ⟨W6, hW6⟩ : ∃ W, W = w6.alloc (.cells #[.int .i64 (gx q), .int .i64 (gy q), .int .i64 (gw q), .int .i64 (gh q)] 32) := ⟨_, rfl⟩
                  have hb6' : Below W5.heap.size W5 W6 := by rw [hW6]; exact hb6.alloc hb6.size _
                  have K6 : Blk W6 w6.heap.size 32 #[.int .i64 (gx q), .int .i64 (gy q), .int .i64 (gw q), .int .i64 (gh q)] := by rw [hW6]; exact Blk.new w6 _ _
                  have K65 := K5.out.below hb6'
                  have HB6 := Lib.hid (HB5.out.trans (hb6'.mono HB5.out.size))
                  have HW6 := Lib.hid hW6
                  have c0 := K65.cell 0 (v := .int .i64 (gx p)) rfl
                  have c1 := K65.cell 1 (v := .int .i64 (gy p)) rfl
                  have d0 := K6.cell 0 (v := .int .i64 (gx q)) rfl
                  have d1 := K6.cell 1 (v := .int .i64 (gy q)) rfl
                  have hl5 := K65.lt
                  have hl6 := K6.lt
                  obtain ⟨g5, hg5⟩ : ∃ g, g = w5.heap.size := ⟨_, rfl⟩
                  obtain ⟨g6, hg6⟩ : ∃ g, g = w6.heap.size := ⟨_, rfl⟩
                  rw [← hg5] at c0 c1 hl5
                  rw [← hg6] at d0 d1 hl6
                  have HG5 := Lib.hid hg5
                  have HG6 := Lib.hid hg6
                  clear hW6 hb6 hb6' K6 K65 K5 HB5 hg5 hg6
                  go_upto_region 13 with fail
                  rw [← HW6.out, ← HG5.out, ← HG6.out]
                  have n5 : ¬ g5 = W6.heap.size := by omega
                  have n6 : ¬ g6 = W6.heap.size := by omega
                  go_cut [17] (fun p9 wx => p9 = .pointer (some ⟨W6.heap.size, 0, none⟩) ∧ wx = (W6.alloc (.cells #[.int .i64 x, .int .i64 (sb (gx p) (gx q)), .int .i64 (sb (gy p) (gy q))] 60)).drew)
                  case first =>
                    go_region_held3 (fun w' => w'.cell? ⟨g5, 0, none⟩ = some (.int .i64 (gx p)) ∧ w'.cell? ⟨g5, 1, none⟩ = some (.int .i64 (gy p)) ∧ w'.cell? ⟨g6, 0, none⟩ = some (.int .i64 (gx q)) ∧ w'.cell? ⟨g6, 1, none⟩ = some (.int .i64 (gy q))) (first | (refine ⟨?_, ?_, ?_, ?_⟩ <;> first | with_reducible assumption | go_keep) | go_keep) (first | (go_at_call 48; (with_reducible refine (rsub_any' _ _ _).mono ?_); rintro e9 w9 ⟨rfl, rfl⟩))

                    all_goals (go_wp2_with fail; go_meet; exact ⟨rfl, rfl⟩)
                  case' rest => obtain ⟨rfl, rfl⟩ := hcut
                  rw [← HDX.out, ← HDY.out]
                  obtain ⟨W7, hW7⟩ : ∃ W, W = (W6.alloc (.cells #[.int .i64 x, .int .i64 dx, .int .i64 dy] 60)).drew := ⟨_, rfl⟩
                  have hb7 : Below W6.heap.size W6 W7 := by rw [hW7]; exact Below_drew (below_alloc W6 _)
                  have K7 : Blk W7 W6.heap.size 60 #[.int .i64 x, .int .i64 dx, .int .i64 dy] := by rw [hW7]; exact Blk.drew (Blk.new W6 _ _)
                  have s0 := K7.cell 0 (v := .int .i64 x) rfl
                  have s1 := K7.cell 1 (v := .int .i64 dx) rfl
                  have s2 := K7.cell 2 (v := .int .i64 dy) rfl
                  have HB7 := Lib.hid (show Below w.heap.size w W7 from (hbel.out.trans (HB6.out.mono hszr)).trans (hb7.mono (by have := hbel.out.size; have := HB6.out.size; omega)))
                  have HR7 := Lib.hid (own_below (own_below hown.out HB6.out) hb7)
                  have hs7 : w.heap.size ≤ W7.heap.size := HB7.out.size
                  have hg7 : W6.heap.size < W7.heap.size := K7.lt
                  have HW7 := Lib.hid hW7
                  clear hW7 hb7 K7 c0 c1 d0 d1 hl5 hl6 n5 n6 hc1
                  rw [← HW7.out]
                  obtain ⟨v1, w8, hrun, hown1, hgrow1, _, hat1⟩ := run_append_own_at (P := Try.prog) (W7.alloc (.cells #[.int .i64 x, .int .i64 dx, .int .i64 dy] 60)) w.heap.size 55 55 60 i0 _ 3 24 Try.underlying55 hi hz0 hz1 hz2 rfl (by decide) _ _ _ (HR7.out.alloc (.cells #[.int .i64 x, .int .i64 dx, .int .i64 dy] 60))
                    ⟨W7.heap.size, 0, none⟩ 1 1 [.int .i64 x, .int .i64 dx, .int .i64 dy] rfl (cells_new' _ _ _ _ rfl _ rfl) (fun u hu => shc_one ⟨x, dx, dy⟩ u hu) (by unfold maxLen; omega) (by omega) (by simp; omega)
                  obtain ⟨A9, c9, rfl, hc9, hm9⟩ := own_slice hown1
                  have HO9 := Lib.hid hown1
                  have HB9 := Lib.hid ((HB7.out.alloc HB7.out.size (.cells #[.int .i64 x, .int .i64 dx, .int .i64 dy] 60)).grown hgrow1 (by simp; omega) (fun j hj => by have := own_from HR7.out j hj; omega))
                  clear hown1 hgrow1 hat1 HR7 HB7
                  go_wp2
                  go_roundw
                  case rel => exact ⟨i + 1, by omega, by go_num, Lib.hid (by rw [HAPP.out, List.length_append, shcs_app, ← HP.out]; exact HO9.out), HB9⟩
                  case measure => simp [intOf]; omega
    · obtain rfl : k = k0 := by omega
      go_wp2
      go_ret
      exact ⟨_, rfl, hown.out, hbel.out⟩
end Go.Proofs.Ytdaohjimfgdmbaa
