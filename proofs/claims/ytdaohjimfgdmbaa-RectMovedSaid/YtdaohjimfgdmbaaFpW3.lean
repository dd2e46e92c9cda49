/- Contract of flip.Plan: the shifts of those that lie elsewhere. -/
import Derived.Test.YtdaohjimfgdmbaaFpW2
import Derived.Test.YtdaohjimfgdmbaaMapL
namespace Go.Proofs.Ytdaohjimfgdmbaa
open Go.RowKit Go.Maps Sn
attribute [-go_sem] Builtin.append_
/-- the shift of a number. -/
def Sn.shf (L M : List En) (id : Int) : Sh := ⟨id, (dxy (lastAt En.id L id) (lastAt En.id M id)).1, (dxy (lastAt En.id L id) (lastAt En.id M id)).2⟩
/-- what the k-th of kids adds. -/
def Sn.stepP (L M : List En) (I : List Int) (k : Nat) : List Sh :=
  if I.getD k 0 ∈ I.take k then [] else if (shf L M (I.getD k 0)).dx = 0 ∧ (shf L M (I.getD k 0)).dy = 0 then [] else [shf L M (I.getD k 0)]
def Sn.planP (L M : List En) (I : List Int) : Nat → List Sh
  | 0 => []
  | k + 1 => planP L M I k ++ stepP L M I k
theorem stepP_len (L M : List En) (I : List Int) (k : Nat) : (stepP L M I k).length ≤ 1 := by unfold stepP; split; simp; split <;> simp
theorem planP_len (L M : List En) (I : List Int) : ∀ k, (planP L M I k).length ≤ k
  | 0 => Nat.le_refl _
  | k + 1 => by
    show (planP L M I k ++ stepP L M I k).length ≤ _
    rw [List.length_append]
    have := planP_len L M I k
    have := stepP_len L M I k
    omega
def shcs (L : List Sh) : List Value := L.flatMap shc
theorem shcs_app (a b : List Sh) : shcs (a ++ b) = shcs a ++ shcs b := by simp [shcs]
theorem shc_one (t : Sh) : ∀ v ∈ shc t, v.oneCell' = true := by
  intro v hv
  simp only [shc, List.mem_cons, List.not_mem_nil, or_false] at hv
  rcases hv with rfl | rfl | rfl <;> rfl
/-- the numbers seen by now. -/
def seenF (I : List Int) (k : Nat) : Int → Option Value := fun j => if j ∈ I.take k then some (.agg #[]) else none
theorem take_nextI (I : List Int) (k : Nat) (h : k < I.length) : I.take (k + 1) = I.take k ++ [I.getD k 0] := by
  rw [List.take_succ_eq_append_getElem h]
  simp [h]
theorem seen_same {I : List Int} {k : Nat} (h : k < I.length) (hm : I.getD k 0 ∈ I.take k) : seenF I (k + 1) = seenF I k := by
  funext j
  unfold seenF
  rw [take_nextI I k h]
  by_cases hj : j ∈ I.take k
  · rw [if_pos hj, if_pos (List.mem_append_left _ hj)]
  · rw [if_neg hj, if_neg]
    intro h2
    rcases List.mem_append.1 h2 with h3 | h3
    · exact hj h3
    · rw [List.mem_singleton.1 h3] at hj; exact hj hm
theorem seen_next {I : List Int} {k : Nat} (h : k < I.length) : seenF I (k + 1) = fun j => if j = I.getD k 0 then some (.agg #[]) else seenF I k j := by
  funext j
  unfold seenF
  rw [take_nextI I k h]
  by_cases e : j = I.getD k 0
  · rw [if_pos e, if_pos (by rw [e]; simp)]
  · rw [if_neg e]
    by_cases hj : j ∈ I.take k
    · rw [if_pos hj, if_pos (List.mem_append_left _ hj)]
    · rw [if_neg hj, if_neg]
      intro h2
      rcases List.mem_append.1 h2 with h3 | h3
      · exact hj h3
      · exact e (List.mem_singleton.1 h3)
theorem zc_at {w : World} {A : Option Addr} {I : List Int} (h : At w A (I.flatMap zc)) {k : Nat} (hk : k < I.length) : ∃ b off, A = some ⟨b, off, none⟩ ∧ b < w.heap.size ∧ w.cell? ⟨b, off + k, none⟩ = some (.int .i64 (I.getD k 0)) := by
  have h0 : (I.flatMap zc)[k * 1 + 0]? = (zc I[k])[0]? := Op.flat_at zc 1 (fun _ => rfl) I k hk 0 (by omega)
  rw [Nat.mul_one, Nat.add_zero] at h0
  have h1 : I.getD k 0 = I[k] := by simp [hk]
  rw [h1]
  exact h.one h0
theorem infoShP : (Try.prog.info? 59).map (fun i => (i.zero, i.size, i.bytes)) = some (some (.agg #[.int .i64 0, .int .i64 0, .int .i64 0]), 3, 24) := by kernel_rfl
set_option maxHeartbeats 8000000 in
set_option maxRecDepth 100000 in
theorem plan_any (A B C : Option Addr) (n c m d k0 e0 : Nat) (L M : List En) (I : List Int) (w : World) (hn : n = L.length) (hm : m = M.length) (hk0 : k0 = I.length) (hb : n ≤ 100000) (hb2 : m ≤ 100000) (hb3 : k0 ≤ 1000) (hA0 : A = none → n = 0 ∧ c = 0) (hB0 : B = none → m = 0 ∧ d = 0) (ha : At w A (ecs L)) (ha2 : At w B (ecs M)) (ha3 : At w C (I.flatMap zc)) (hok : ∀ x ∈ I, OkI x) :
    Calls Try.prog 24 #[.slice A n c, .slice B m d, .slice C k0 e0] w fun e w' => ∃ v, e = .returned v ∧ w'.ownsRow w.heap.size 59 3 v (planP L M I k0).length (shcs (planP L M I k0)) ∧ Below w.heap.size w w' := by
  obtain ⟨R, hR⟩ := snap_ex L
  obtain ⟨S, hS⟩ := snap_ex M
  have C1 := Lib.hid (snapOf_is A n c L R w hn (by omega) hA0 ha hR)
  have C2 := Lib.hid (fun W (hW : Below w.heap.size w W) => snapOf_is B m d M S W hm (by omega) hB0 (ha2.below hW) hS)
  have HA3 := Lib.hid (fun W (hW : Below w.heap.size w W) => ha3.below hW)
  have HRL : Hid (R.length ≤ 100000) := Nat.le_trans (is_len hR) (by omega)
  have HSL : Hid (S.length ≤ 100000) := Nat.le_trans (is_len hS) (by omega)
  have HR := Lib.hid hR
  have HS := Lib.hid hS
  have HOK := Lib.hid hok
  have HI := Lib.hid hk0
  have hmm := @run_makeMap Try.prog
  obtain ⟨i0, hi, hz0, hz1, hz2⟩ := info_parts infoShP
  clear hn hm hk0 hA0 hB0 ha ha2 ha3 hok hR hS
  go_enter Try.func24, Try.ntmps24
  go_wp2_with fail
  refine C1.out.mono ?_
  rintro e w1 ⟨A1, c1, rfl, hat1, _, hb1⟩
  have HB1 := Lib.hid hb1
  have HAT1 := Lib.hid hat1
  clear hb1 hat1 C1
  go_wp2_with fail
  refine (C2.out _ HB1.out).mono ?_
  rintro e w2 ⟨A2, c2, rfl, hat2, _, hb2'⟩
  have HAT := Lib.hid (And.intro (HAT1.out.below hb2') hat2)
  have HB2 := Lib.hid (HB1.out.trans (hb2'.mono HB1.out.size))
  have HA3' := Lib.hid (HA3.out _ HB2.out)
  clear hb2' hat2 C2 HA3 HAT1 HB1
  obtain ⟨q1, hq1⟩ : ∃ q, q = R.length := ⟨_, rfl⟩
  obtain ⟨q2, hq2⟩ : ∃ q, q = S.length := ⟨_, rfl⟩
  have HQ1 := Lib.hid hq1
  have HQ2 := Lib.hid hq2
  rw [← hq1] at HRL ⊢
  rw [← hq2] at HSL ⊢
  clear hq1 hq2
  have CB := Lib.hid (fun W (hW : Below w2.heap.size w2 W) (id : Int) => between_any A1 A2 q1 c1 q2 c2 R S id _ _ W HQ1.out HQ2.out (by have := HRL.out; omega) (by have := HSL.out; omega) (HAT.out.1.below hW) (HAT.out.2.below hW) HR.out.up HS.out.up (look_of HR.out id) (look_of HS.out id))
  clear HAT
  go_wp2_with fail
  clear hmm
  go_loopw [8, 21] (fun v i wr => ∃ k N : Nat, k ≤ k0 ∧ N ≤ k ∧ i = .int .i64 k ∧ Hid (wr.ownsRow (w2.heap.size + 1) 59 3 v (planP L M I k).length (shcs (planP L M I k))) ∧ Hid (MapOf Try.prog 3 ikey OkI wr w2.heap.size (seenF I k) N) ∧ Hid (Below w2.heap.size w2 wr)) (fun _ i _ => k0 - (intOf i).toNat)
  case atStart => exact ⟨0, 0, Nat.zero_le _, Nat.zero_le _, rfl, Lib.hid (World.ownsRow_nil _ _ _ _), Lib.hid ((MapOf.made _ _ _ _ _).congr (fun a _ => by simp [seenF])), Lib.hid (below_alloc _ _)⟩
  case round =>
    obtain ⟨k, N, hk, hN, rfl, hown, hmap, hbel⟩ := hrel
    by_cases hlt : k < k0
    · have hkl : k < I.length := by have := HI.out; omega
      obtain ⟨b1, o1, hC, hb1, hc1⟩ := zc_at (HA3'.out.below hbel.out) hkl
      subst hC
      obtain ⟨x, hx⟩ : ∃ x, x = I.getD k 0 := ⟨_, rfl⟩
      rw [← hx] at hc1
      have hOx := Lib.hid (HOK.out x (by rw [hx, List.getD_eq_getElem?_getD, List.getElem?_eq_getElem hkl]; exact List.getElem_mem hkl))
      obtain ⟨P, hP⟩ : ∃ P, P = planP L M I k := ⟨_, rfl⟩
      rw [← hP] at hown
      have hPl : P.length ≤ 1000 := by rw [hP]; have := planP_len L M I k; omega
      have hstep : planP L M I (k + 1) = P ++ stepP L M I k := by rw [hP]; rfl
      have hdef : stepP L M I k = if x ∈ I.take k then [] else if (shf L M x).dx = 0 ∧ (shf L M x).dy = 0 then [] else [shf L M x] := by rw [hx]; rfl
      obtain ⟨AE, cE, rfl, hcE, hcE2⟩ := own_slice hown.out
      have HST := Lib.hid hstep
      have HDF := Lib.hid hdef
      have HX := Lib.hid hx
      have hszr := hbel.out.size
      have hmlt := hmap.out.lt
      clear hstep hdef hx hP
      obtain ⟨p, hp⟩ : ∃ p, p = P.length := ⟨_, rfl⟩
      have HP := Lib.hid hp
      rw [← hp] at hown hcE hPl ⊢
      clear hp
      by_cases hmem : x ∈ I.take k
      · have HL1 : Hid (seenF I k x = some (.agg #[])) := by show seenF I k x = _; unfold seenF; rw [if_pos hmem]
        have HS1 : Hid (planP L M I (k + 1) = P) := by show planP L M I (k + 1) = _; rw [HST.out, HDF.out, if_pos hmem, List.append_nil]
        have HM1 : Hid (seenF I (k + 1) = seenF I k) := seen_same hkl (by rw [← HX.out]; exact hmem)
        have HB9 := Lib.hid (hbel.out.alloc hbel.out.size (.cells #[] 90))
        clear hmem hkl
        go_wp2_with (refine wpList_lookok_mo rfl _ _ 89 3 90 rfl (intWay Try.underlying3) Try.underlying89 Try.zeroValue90 w2.heap.size _ _ rfl hmap.out x hOx.out rfl (.agg #[]) true (by rw [HL1.out]; rfl) (by rw [HL1.out]; rfl) ?_)
        go_roundw
        case rel => exact ⟨k + 1, N, by omega, by omega, by go_num, Lib.hid (by rw [HS1.out, ← HP.out]; exact hown.out.alloc _), Lib.hid (by rw [HM1.out]; exact hmap.out.below (below_alloc _ _)), HB9⟩
        case measure => simp [intOf]; omega
      · have HL1 : Hid (seenF I k x = none) := by show seenF I k x = _; unfold seenF; rw [if_neg hmem]
        have HM1 : Hid (seenF I (k + 1) = fun j => if j = x then some (.agg #[]) else seenF I k j) := by show seenF I (k + 1) = _; rw [HX.out]; exact seen_next hkl
        obtain ⟨W3, hW3⟩ : ∃ W, W = wr.alloc (.cells #[] 90) := ⟨_, rfl⟩
        have hB3 : Below wr.heap.size wr W3 := by rw [hW3]; exact below_alloc wr _
        have HMP := Lib.hid (hmap.out.below hB3)
        have HOW := Lib.hid (own_below hown.out hB3)
        have HB3 := Lib.hid (hbel.out.trans (hB3.mono hbel.out.size))
        have HW3 := Lib.hid hW3
        have hs3 : w2.heap.size + 1 ≤ W3.heap.size := by have := hB3.size; omega
        obtain ⟨s, hs⟩ : ∃ s, s = shf L M x := ⟨_, rfl⟩
        have CX := fun W hW => CB.out W hW x
        have hs1 : (dxy (lastAt En.id L x) (lastAt En.id M x)).1 = s.dx := by rw [hs]; rfl
        have hs2 : (dxy (lastAt En.id L x) (lastAt En.id M x)).2 = s.dy := by rw [hs]; rfl
        rw [hs1, hs2] at CX
        have hsid : s.id = x := by rw [hs]; rfl
        have HDF2 : Hid (stepP L M I k = if s.dx = 0 ∧ s.dy = 0 then [] else [s]) := by show stepP L M I k = _; rw [HDF.out, if_neg hmem, hs]
        obtain ⟨sid, dx, dy⟩ := s
        have hsid : sid = x := hsid
        subst hsid
        dsimp only at CX HDF2
        have HCX := Lib.hid CX
        have hmap0 := hmap
        clear CX hs hs1 hs2 hmem hkl hW3 hB3 hown hmap HDF HX
        by_cases hdx : dx = 0
        · subst hdx
          by_cases hdy : dy = 0
          · subst hdy
            have HAPP : Hid (planP L M I (k + 1) = P) := by show planP L M I (k + 1) = _; rw [HST.out, HDF2.out, if_pos ⟨rfl, rfl⟩, List.append_nil]
            clear HDF2 HST
            go_upto_region 7 with fail
            go_upto_region 8 with (refine wpList_lookok_mo rfl _ _ 89 3 90 rfl (intWay Try.underlying3) Try.underlying89 Try.zeroValue90 w2.heap.size _ _ rfl hmap0.out sid hOx.out rfl (.agg #[]) false (by rw [HL1.out]; rfl) (by rw [HL1.out]; rfl) ?_)
            rw [← HW3.out]
            go_upto_region 10 with (refine wpList_store_mo rfl _ _ _ 89 3 90 rfl (intWay Try.underlying3) Try.underlying89 w2.heap.size _ _ rfl HMP.out (by unfold maxLen; omega) sid hOx.out (.agg #[]) rfl rfl ?_; intro w5 hm5 hg5 hs5; rw [HL1.out, ← HM1.out] at hm5; have M5 := Lib.hid hm5; have R5 := Lib.hid (HOW.out.kept hg5 (.inr (by intro e; have h8 := own_from HOW.out _ e; omega))); have B5 := Lib.hid (HB3.out.grown hg5 HB3.out.size (fun q e => by injection e with e; omega)); have hsz5 : W3.heap.size = w5.heap.size := hs5.symm; clear hm5 hg5 hs5)
            go_wp2_with fail
            refine (HCX.out _ B5.out).mono ?_
            rintro e w6 ⟨rfl, hb6⟩
            obtain ⟨W7, hW7⟩ : ∃ W, W = w6.alloc (.cells #[.int .i64 sid, .int .i64 0, .int .i64 0] 59) := ⟨_, rfl⟩
            have hb7 : Below w5.heap.size w5 W7 := by rw [hW7]; exact hb6.alloc hb6.size _
            have K7 : Blk W7 w6.heap.size 59 #[.int .i64 sid, .int .i64 0, .int .i64 0] := by rw [hW7]; exact Blk.new w6 _ _
            have s0 := K7.cell 0 (v := .int .i64 sid) rfl
            have s1 := K7.cell 1 (v := .int .i64 0) rfl
            have s2 := K7.cell 2 (v := .int .i64 0) rfl
            have HM7 := Lib.hid (M5.out.below hb7)
            have HR7 := Lib.hid (own_below R5.out hb7)
            have HB7 := Lib.hid (B5.out.trans (hb7.mono B5.out.size))
            have hs7 : w2.heap.size + 1 ≤ W7.heap.size := by have := hb7.size; omega
            have HW7 := Lib.hid hW7
            clear hW7 hb6 hb7 K7 M5 R5 B5 HCX
            go_upto_region 11 with fail
            rw [← HW7.out]
            go_wp2
            go_roundw
            case rel => exact ⟨k + 1, N + 1, by omega, by omega, by go_num, Lib.hid (by rw [HAPP.out, ← HP.out]; exact HR7.out), HM7, HB7⟩
            case measure => simp [intOf]; omega
          · have hy1 : (dy != 0) = true := by simpa using hdy
            have hy2 : (dy == 0) = false := by simpa using hdy
            have HAPP : Hid (planP L M I (k + 1) = P ++ [⟨sid, 0, dy⟩]) := by show planP L M I (k + 1) = _; rw [HST.out, HDF2.out, if_neg (fun h => hdy h.2)]
            clear HDF2 HST hdy
            go_upto_region 7 with fail
            go_upto_region 8 with (refine wpList_lookok_mo rfl _ _ 89 3 90 rfl (intWay Try.underlying3) Try.underlying89 Try.zeroValue90 w2.heap.size _ _ rfl hmap0.out sid hOx.out rfl (.agg #[]) false (by rw [HL1.out]; rfl) (by rw [HL1.out]; rfl) ?_)
            rw [← HW3.out]
            go_upto_region 10 with (refine wpList_store_mo rfl _ _ _ 89 3 90 rfl (intWay Try.underlying3) Try.underlying89 w2.heap.size _ _ rfl HMP.out (by unfold maxLen; omega) sid hOx.out (.agg #[]) rfl rfl ?_; intro w5 hm5 hg5 hs5; rw [HL1.out, ← HM1.out] at hm5; have M5 := Lib.hid hm5; have R5 := Lib.hid (HOW.out.kept hg5 (.inr (by intro e; have h8 := own_from HOW.out _ e; omega))); have B5 := Lib.hid (HB3.out.grown hg5 HB3.out.size (fun q e => by injection e with e; omega)); have hsz5 : W3.heap.size = w5.heap.size := hs5.symm; clear hm5 hg5 hs5)
            go_wp2_with fail
            refine (HCX.out _ B5.out).mono ?_
            rintro e w6 ⟨rfl, hb6⟩
            obtain ⟨W7, hW7⟩ : ∃ W, W = w6.alloc (.cells #[.int .i64 sid, .int .i64 0, .int .i64 dy] 59) := ⟨_, rfl⟩
            have hb7 : Below w5.heap.size w5 W7 := by rw [hW7]; exact hb6.alloc hb6.size _
            have K7 : Blk W7 w6.heap.size 59 #[.int .i64 sid, .int .i64 0, .int .i64 dy] := by rw [hW7]; exact Blk.new w6 _ _
            have s0 := K7.cell 0 (v := .int .i64 sid) rfl
            have s1 := K7.cell 1 (v := .int .i64 0) rfl
            have s2 := K7.cell 2 (v := .int .i64 dy) rfl
            have HM7 := Lib.hid (M5.out.below hb7)
            have HR7 := Lib.hid (own_below R5.out hb7)
            have HB7 := Lib.hid (B5.out.trans (hb7.mono B5.out.size))
            have hs7 : w2.heap.size + 1 ≤ W7.heap.size := by have := hb7.size; omega
            have HW7 := Lib.hid hW7
            clear hW7 hb6 hb7 K7 M5 R5 B5 HCX
            obtain ⟨v1, w8, hrun, hown1, hgrow1, _, hat1⟩ := run_append_own_at (P := Try.prog) (W7.alloc (.cells #[.int .i64 sid, .int .i64 0, .int .i64 dy] 59)) (w2.heap.size + 1) 53 53 59 i0 _ 3 24 Try.underlying53 hi hz0 hz1 hz2 rfl (by decide) _ _ _ (HR7.out.alloc (.cells #[.int .i64 sid, .int .i64 0, .int .i64 dy] 59))
              ⟨W7.heap.size, 0, none⟩ 1 1 [.int .i64 sid, .int .i64 0, .int .i64 dy] rfl (cells_new' _ _ _ _ rfl _ rfl) (fun u hu => shc_one ⟨sid, 0, dy⟩ u hu) (by unfold maxLen; omega) (by omega) (by simp; omega)
            obtain ⟨A9, c9, rfl, hc9, hm9⟩ := own_slice hown1
            have HO9 := Lib.hid hown1
            have HB9 := Lib.hid ((HB7.out.alloc HB7.out.size (.cells #[.int .i64 sid, .int .i64 0, .int .i64 dy] 59)).grown hgrow1 (by simp; omega) (fun j hj => by have := own_from HR7.out j hj; omega))
            have HM9 := Lib.hid ((HM7.out.below (below_alloc W7 (.cells #[.int .i64 sid, .int .i64 0, .int .i64 dy] 59))).grown hgrow1 (by intro e; have h8 := own_from HR7.out _ e.symm; omega))
            clear hown1 hgrow1 hat1 HR7 HM7 HB7
            go_upto_region 11 with fail
            rw [← HW7.out]
            go_wp2
            go_roundw
            case rel => exact ⟨k + 1, N + 1, by omega, by omega, by go_num, Lib.hid (by rw [HAPP.out, List.length_append, shcs_app, ← HP.out]; exact HO9.out), HM9, HB9⟩
            case measure => simp [intOf]; omega
        · have hx1 : (dx != 0) = true := by simpa using hdx
          have hx2 : (dx == 0) = false := by simpa using hdx
          have HAPP : Hid (planP L M I (k + 1) = P ++ [⟨sid, dx, dy⟩]) := by show planP L M I (k + 1) = _; rw [HST.out, HDF2.out, if_neg (fun h => hdx h.1)]
          clear HDF2 HST hdx
          go_upto_region 7 with fail
          go_upto_region 8 with (refine wpList_lookok_mo rfl _ _ 89 3 90 rfl (intWay Try.underlying3) Try.underlying89 Try.zeroValue90 w2.heap.size _ _ rfl hmap0.out sid hOx.out rfl (.agg #[]) false (by rw [HL1.out]; rfl) (by rw [HL1.out]; rfl) ?_)
          rw [← HW3.out]
          go_upto_region 10 with (refine wpList_store_mo rfl _ _ _ 89 3 90 rfl (intWay Try.underlying3) Try.underlying89 w2.heap.size _ _ rfl HMP.out (by unfold maxLen; omega) sid hOx.out (.agg #[]) rfl rfl ?_; intro w5 hm5 hg5 hs5; rw [HL1.out, ← HM1.out] at hm5; have M5 := Lib.hid hm5; have R5 := Lib.hid (HOW.out.kept hg5 (.inr (by intro e; have h8 := own_from HOW.out _ e; omega))); have B5 := Lib.hid (HB3.out.grown hg5 HB3.out.size (fun q e => by injection e with e; omega)); have hsz5 : W3.heap.size = w5.heap.size := hs5.symm; clear hm5 hg5 hs5)
          go_wp2_with fail
          refine (HCX.out _ B5.out).mono ?_
          rintro e w6 ⟨rfl, hb6⟩
          obtain ⟨W7, hW7⟩ : ∃ W, W = w6.alloc (.cells #[.int .i64 sid, .int .i64 dx, .int .i64 dy] 59) := ⟨_, rfl⟩
          have hb7 : Below w5.heap.size w5 W7 := by rw [hW7]; exact hb6.alloc hb6.size _
          have K7 : Blk W7 w6.heap.size 59 #[.int .i64 sid, .int .i64 dx, .int .i64 dy] := by rw [hW7]; exact Blk.new w6 _ _
          have s0 := K7.cell 0 (v := .int .i64 sid) rfl
          have s1 := K7.cell 1 (v := .int .i64 dx) rfl
          have s2 := K7.cell 2 (v := .int .i64 dy) rfl
          have HM7 := Lib.hid (M5.out.below hb7)
          have HR7 := Lib.hid (own_below R5.out hb7)
          have HB7 := Lib.hid (B5.out.trans (hb7.mono B5.out.size))
          have hs7 : w2.heap.size + 1 ≤ W7.heap.size := by have := hb7.size; omega
          have HW7 := Lib.hid hW7
          clear hW7 hb6 hb7 K7 M5 R5 B5 HCX
          obtain ⟨v1, w8, hrun, hown1, hgrow1, _, hat1⟩ := run_append_own_at (P := Try.prog) (W7.alloc (.cells #[.int .i64 sid, .int .i64 dx, .int .i64 dy] 59)) (w2.heap.size + 1) 53 53 59 i0 _ 3 24 Try.underlying53 hi hz0 hz1 hz2 rfl (by decide) _ _ _ (HR7.out.alloc (.cells #[.int .i64 sid, .int .i64 dx, .int .i64 dy] 59))
            ⟨W7.heap.size, 0, none⟩ 1 1 [.int .i64 sid, .int .i64 dx, .int .i64 dy] rfl (cells_new' _ _ _ _ rfl _ rfl) (fun u hu => shc_one ⟨sid, dx, dy⟩ u hu) (by unfold maxLen; omega) (by omega) (by simp; omega)
          obtain ⟨A9, c9, rfl, hc9, hm9⟩ := own_slice hown1
          have HO9 := Lib.hid hown1
          have HB9 := Lib.hid ((HB7.out.alloc HB7.out.size (.cells #[.int .i64 sid, .int .i64 dx, .int .i64 dy] 59)).grown hgrow1 (by simp; omega) (fun j hj => by have := own_from HR7.out j hj; omega))
          have HM9 := Lib.hid ((HM7.out.below (below_alloc W7 (.cells #[.int .i64 sid, .int .i64 dx, .int .i64 dy] 59))).grown hgrow1 (by intro e; have h8 := own_from HR7.out _ e.symm; omega))
          clear hown1 hgrow1 hat1 HR7 HM7 HB7
          go_upto_region 11 with fail
          rw [← HW7.out]
          go_wp2
          go_roundw
          case rel => exact ⟨k + 1, N + 1, by omega, by omega, by go_num, Lib.hid (by rw [HAPP.out, List.length_append, shcs_app, ← HP.out]; exact HO9.out), HM9, HB9⟩
          case measure => simp [intOf]; omega
    · obtain rfl : k = k0 := by omega
      go_wp2
      go_ret
      exact ⟨_, rfl, own_mono hown.out (by have := HB2.out.size; omega), HB2.out.trans (hbel.out.mono HB2.out.size)⟩
end Go.Proofs.Ytdaohjimfgdmbaa
