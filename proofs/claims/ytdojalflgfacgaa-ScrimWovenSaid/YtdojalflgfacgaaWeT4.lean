/- Contract of the document's Steps. -/
import Derived.Test.YtdojalflgfacgaaLiW6
import Derived.Test.YtdojalflgfacgaaWeL5
import Derived.Test.YtdojalflgfacgaaWeT1
namespace Go.Proofs.Ytdojalflgfacgaa
open Go.RowKit We
attribute [-go_sem] Builtin.append_
theorem kept_of {W W' : World} {base : Nat} {e : TypeId} {size n : Nat} {u : Value} {ys : List Value} {row : Option Nat} (k : W.ownsRow base e size u n ys) (hg : W.grownBy W' row) (hne : ∀ g, row = some g → u.ownBlock ≠ some g) : W'.ownsRow base e size u n ys :=
  k.kept hg (by
    cases e : u.ownBlock with
    | none => exact .inl rfl
    | some g => exact .inr (fun e2 => hne g e2.symm e))
theorem apart_of {W : World} {base : Nat} {e : TypeId} {size n : Nat} {v v' u : Value} {ys : List Value} (k : W.ownsRow base e size u n ys) (hne : ∀ g, v.ownBlock = some g → u.ownBlock ≠ some g) (hat : v'.ownBlock = v.ownBlock ∨ v'.ownBlock = some W.heap.size) : ∀ g, v'.ownBlock = some g → u.ownBlock ≠ some g := by
  intro g h1 h2
  rcases hat with h | h
  · exact hne g (h ▸ h1) h2
  · rw [h] at h1
    injection h1 with h1
    have := (k.lt g h2).2
    omega
theorem infoStepR : (Try.prog.info? 30).map (fun i => (i.zero, i.size, i.bytes)) = some (some (.agg #[.int .i64 0, .int .i64 0, .int .i64 0]), 3, 24) := by kernel_rfl
theorem filt_next {a b : List Int} {k : Nat} (h : k < a.length) : (a.take (k + 1)).filter (fun x => decide (x ∈ b)) = (a.take k).filter (fun x => decide (x ∈ b)) ++ (if at' a k ∈ b then [at' a k] else []) := by
  rw [take_next h, List.filter_append]
  by_cases e : at' a k ∈ b <;> simp [e]
theorem filt_len (a b : List Int) (k : Nat) : ((a.take k).filter (fun x => decide (x ∈ b))).length ≤ k := Nat.le_trans (List.length_filter_le _ _) (by rw [List.length_take]; omega)
set_option maxHeartbeats 2000000 in
set_option maxRecDepth 100000 in
theorem rsteps_any (A B : Option Addr) (n c m d : Nat) (fr to : List Int) (a b : List Int) (r : List Nat) (w : World) (hn : n = fr.length) (hm : m = to.length) (h1 : n ≤ 1000) (h2 : m ≤ 1000) (ha : At w A (iv fr)) (hb : At w B (iv to))
    (hea : a = once fr) (heb : b = once to) (hr : Li.IsRow (ats (olds a b)) (comm a b).length r) :
    Calls Try.prog 8 #[.slice A n c, .slice B m d] w fun e w' => ∃ v, e = .returned v ∧ w'.ownsRow w.heap.size 30 3 v (steps a b (stayIds a b r)).length (sc (steps a b (stayIds a b r))) ∧ Below w.heap.size w w' := by
  have la : a.length ≤ 1000 := by have := once_len fr; rw [hea]; omega
  have lb : b.length ≤ 1000 := by have := once_len to; rw [heb]; omega
  have HNA := Lib.hid (show a.Nodup from hea ▸ once_nodup fr)
  have HNB := Lib.hid (show b.Nodup from heb ▸ once_nodup to)
  have C1 := Lib.hid (ronce_any A n c fr w hn (by omega) ha)
  have C2 := Lib.hid (fun W (hW : Below w.heap.size w W) => ronce_any B m d to W hm (by omega) (hb.below hW))
  rw [← hea] at C1
  rw [← heb] at C2
  have HR := Lib.hid hr
  have HRI := Lib.hid (rises_of hr)
  clear hn hm ha hb hea heb hr
  obtain ⟨i0, hi, hz0, hz1, hz2⟩ := info_parts infoIntW
  obtain ⟨j0, ji, jz0, jz1, jz2⟩ := info_parts infoStepR
  go_enter Try.func8, Try.ntmps8
  go_wp2_with fail
  refine C1.out.mono ?_
  rintro e w2 ⟨v5, rfl, ho5, hb2⟩
  obtain ⟨A5, c5, rfl, _, _⟩ := own_slice ho5
  have T5 := Lib.hid (At.own ho5)
  have HB2 := Lib.hid hb2
  clear ho5 hb2 C1
  go_wp2_with fail
  refine (C2.out _ HB2.out).mono ?_
  rintro e w3 ⟨v6, rfl, ho6, hb3⟩
  obtain ⟨A6, c6, rfl, _, _⟩ := own_slice ho6
  have T6 := Lib.hid (At.own ho6)
  have T5 := Lib.hid (T5.out.below hb3)
  have HB3 := Lib.hid (HB2.out.trans (hb3.mono HB2.out.size))
  clear ho6 hb3 C2 HB2
  go_wp2_with fail
  go_loopw [7, 8, 29] (fun v u i wr => ∃ k : Nat, k ≤ a.length ∧ i = .int .i64 k ∧ Hid (wr.ownsRow w3.heap.size 30 3 v (dropsOf (a.take k) b).length (sc (dropsOf (a.take k) b))) ∧ Hid (wr.ownsRow w3.heap.size 3 1 u ((a.take k).filter (fun x => decide (x ∈ b))).length (iv ((a.take k).filter (fun x => decide (x ∈ b))))) ∧ Hid (Below w3.heap.size w3 wr)) (fun _ _ i _ => a.length - (intOf i).toNat)
  case atStart => exact ⟨0, Nat.zero_le _, rfl, World.ownsRow.alloc (own_made w3 w3.heap.size rfl (Nat.le_refl _)) _, own_made _ _ (by simp) (by omega), (below_alloc _ _).alloc (by simp) _⟩
  case round =>
    obtain ⟨k, hk, rfl, hown, hown2, hbel⟩ := hrel
    have hszr := hbel.out.size
    by_cases hlt : k < a.length
    · obtain ⟨b1, o1, rfl, hb1, hc1⟩ := (T5.out.below hbel.out).one (iv_at a k hlt)
      have hnx := dropsOf_next (b := b) hlt
      have hnx2 := filt_next (b := b) hlt
      have hdl : (dropsOf (a.take k) b).length ≤ 1000 := by have := dropsOf_len (a.take k) b; rw [List.length_take] at this; omega
      have hfl : ((a.take k).filter (fun x => decide (x ∈ b))).length ≤ 1000 := by have := filt_len a b k; omega
      rw [show ats a k = at' a k from rfl] at hc1
      have V6 := Lib.hid (T6.out.below hbel.out)
      generalize at' a k = x at *
      obtain ⟨AE, cE, rfl, _, _⟩ := own_slice hown.out
      obtain ⟨AF, cF, rfl, _, _⟩ := own_slice hown2.out
      have hap : ∀ g, (Value.slice AE (dropsOf (a.take k) b).length cE).ownBlock = some g → (Value.slice AF ((a.take k).filter (fun x => decide (x ∈ b))).length cF).ownBlock ≠ some g := fun g e1 e2 => (typed_own hown.out e1).ne (typed_own hown2.out e2) (by decide) rfl
      generalize dropsOf (a.take k) b = Dk at *
      generalize (a.take k).filter (fun x => decide (x ∈ b)) = Fk at *
      by_cases hx : x ∈ b
      · rw [if_pos hx, List.append_nil] at hnx
        rw [if_pos hx] at hnx2
        have E1 := Lib.hid hnx
        have E2 := Lib.hid hnx2
        have AT := Lib.hid (rAt_yes hx)
        have hq0 : (0 : Int) ≤ (ix b x : Int) := by omega
        generalize (ix b x : Int) = ia at *
        have RA := Lib.hid (rat_any A6 b.length c6 b x ia wr rfl (by omega) V6.out AT.out)
        obtain ⟨v1, w4, hrun1, hown1, hgrow1, _, hat1⟩ := run_append_own_at (P := Try.prog) (wr.alloc (.cells #[.int .i64 x] 3)) w3.heap.size 22 22 3 i0 (.int .i64 0) 1 8 Try.underlying22 hi hz0 hz1 hz2 rfl (by decide) _ _ _ (hown2.out.alloc _) ⟨wr.heap.size, 0, none⟩ 1 1 [.int .i64 x] rfl (cell_one_new _ _ _) (iv_one [x]) (by unfold maxLen; omega) (by omega) (by simp; omega)
        have O1 := Lib.hid (kept_of (hown.out.alloc (.cells #[.int .i64 x] 3)) hgrow1 (fun g e1 e2 => hap g e2 e1))
        have O2 := Lib.hid hown1
        have HB4 := Lib.hid ((hbel.out.alloc hszr (.cells #[.int .i64 x] 3)).grown hgrow1 (by simp; omega) (own_from hown2.out))
        clear hown1 hgrow1 hat1 hx hnx hnx2 hap
        go_wp2_with fail
        refine RA.out.mono ?_
        rintro e w5 ⟨rfl, rfl⟩
        go_wp2_with fail
        go_roundw
        case rel => exact ⟨k + 1, by omega, by go_num, by show World.ownsRow _ _ _ _ _ _ _; rw [E1.out]; exact O1.out, by show World.ownsRow _ _ _ _ _ _ _; rw [E2.out, List.length_append, iv_app]; exact O2.out, HB4⟩
        case measure => simp [intOf]; omega
      · rw [if_neg hx] at hnx
        rw [if_neg hx, List.append_nil] at hnx2
        have E1 := Lib.hid hnx
        have E2 := Lib.hid hnx2
        have RA := Lib.hid (rat_any A6 b.length c6 b x (-1) wr rfl (by omega) V6.out (rAt_no hx))
        obtain ⟨v1, w4, hrun1, hown1, hgrow1, _, hat1⟩ := run_append_own_at (P := Try.prog) (wr.alloc (.cells #[.int .i64 1, .int .i64 x, .int .i64 0] 30)) w3.heap.size 27 27 30 j0 (.agg #[.int .i64 0, .int .i64 0, .int .i64 0]) 3 24 Try.underlying27 ji jz0 jz1 jz2 rfl (by decide) _ _ _ (hown.out.alloc _) ⟨wr.heap.size, 0, none⟩ 1 1 [.int .i64 1, .int .i64 x, .int .i64 0] rfl (cells_new _ _ _ _ rfl) (sc_one [(1, x, 0)]) (by unfold maxLen; omega) (by omega) (by simp; omega)
        have O1 := Lib.hid hown1
        have O2 := Lib.hid (kept_of (hown2.out.alloc (.cells #[.int .i64 1, .int .i64 x, .int .i64 0] 30)) hgrow1 hap)
        have HB4 := Lib.hid ((hbel.out.alloc hszr (.cells #[.int .i64 1, .int .i64 x, .int .i64 0] 30)).grown hgrow1 (by simp; omega) (own_from hown.out))
        clear hown1 hgrow1 hat1 hx hnx hnx2 hap
        go_wp2_with fail
        refine RA.out.mono ?_
        rintro e w5 ⟨rfl, rfl⟩
        go_wp2_with fail
        go_roundw
        case rel => exact ⟨k + 1, by omega, by go_num, by show World.ownsRow _ _ _ _ _ _ _; rw [E1.out, List.length_append, sc_app]; exact O1.out, by show World.ownsRow _ _ _ _ _ _ _; rw [E2.out]; exact O2.out, HB4⟩
        case measure => simp [intOf]; omega
    · obtain rfl : k = a.length := by omega
      rw [List.take_length] at hown hown2
      obtain ⟨w4, rfl⟩ : ∃ w4, w4 = wr := ⟨_, rfl⟩
      have H34 := hbel
      have hs4 := hszr
      obtain ⟨A7, c7, rfl, _, _⟩ := own_slice hown.out
      obtain ⟨A8, c8, rfl, _, _⟩ := own_slice hown2.out
      have R7 := hown
      have R8 := hown2
      have U5 := Lib.hid (T5.out.below hbel.out)
      have U6 := Lib.hid (T6.out.below hbel.out)
      clear hown hown2 hbel hlt hk
      go_wp2_with fail
      go_loopw [11, 12, 51] (fun v u i wr => ∃ k : Nat, k ≤ b.length ∧ i = .int .i64 k ∧ Hid (wr.ownsRow w4.heap.size 3 1 v (comm a (b.take k)).length (iv (comm a (b.take k)))) ∧ Hid (wr.ownsRow w4.heap.size 3 1 u (olds a (b.take k)).length (iv (olds a (b.take k)))) ∧ Hid (∀ g, v.ownBlock = some g → u.ownBlock ≠ some g) ∧ Hid (Below w4.heap.size w4 wr)) (fun _ _ i _ => b.length - (intOf i).toNat)
      case atStart => exact ⟨0, Nat.zero_le _, rfl, World.ownsRow.alloc (own_made w4 w4.heap.size rfl (Nat.le_refl _)) _, own_made _ _ (by simp) (by omega), (fun g e1 e2 => by simp [Value.ownBlock] at e1 e2; omega), (below_alloc _ _).alloc (by simp) _⟩
      case round =>
        obtain ⟨k, hk, rfl, hown, hown2, hap, hbel⟩ := hrel
        have hszr := hbel.out.size
        by_cases hlt : k < b.length
        · obtain ⟨b1, o1, rfl, hb1, hc1⟩ := (U6.out.below hbel.out).one (iv_at b k hlt)
          have hnx : comm a (b.take (k + 1)) = comm a (b.take k) ++ (if at' b k ∈ a then [at' b k] else []) := filt_next hlt
          have hnx2 := olds_next (a := a) hlt
          have hcl : (comm a (b.take k)).length ≤ 1000 := by have := comm_le a (b.take k); rw [List.length_take] at this; omega
          have hol : (olds a (b.take k)).length = (comm a (b.take k)).length := olds_len _ _
          rw [show ats b k = at' b k from rfl] at hc1
          have V5 := Lib.hid (U5.out.below hbel.out)
          generalize at' b k = x at *
          obtain ⟨AE, cE, rfl, _, _⟩ := own_slice hown.out
          obtain ⟨AF, cF, rfl, _, _⟩ := own_slice hown2.out
          have hfl : (olds a (b.take k)).length ≤ 1000 := by omega
          clear hol
          generalize comm a (b.take k) = Ck at *
          generalize olds a (b.take k) = Ok9 at *
          by_cases hx : x ∈ a
          · rw [if_pos hx] at hnx hnx2
            have E1 := Lib.hid hnx
            have E2 := Lib.hid hnx2
            have AT := Lib.hid (rAt_yes hx)
            generalize ix a x = qx at *
            have hq0 : (0 : Int) ≤ (qx : Int) := by omega
            have RA := Lib.hid (rat_any A5 a.length c5 a x (qx : Int) wr rfl (by omega) V5.out AT.out)
            obtain ⟨v1, w9, hrun1, hown1, hgrow1, _, hat1⟩ := run_append_own_at (P := Try.prog) (wr.alloc (.cells #[.int .i64 x] 3)) w4.heap.size 22 22 3 i0 (.int .i64 0) 1 8 Try.underlying22 hi hz0 hz1 hz2 rfl (by decide) _ _ _ (hown.out.alloc _) ⟨wr.heap.size, 0, none⟩ 1 1 [.int .i64 x] rfl (cell_one_new _ _ _) (iv_one [x]) (by unfold maxLen; omega) (by omega) (by simp; omega)
            have O2 := kept_of (hown2.out.alloc (.cells #[.int .i64 x] 3)) hgrow1 hap.out
            have P2 := apart_of (hown2.out.alloc (.cells #[.int .i64 x] 3)) hap.out hat1
            have HB9 := (hbel.out.alloc hszr (.cells #[.int .i64 x] 3)).grown hgrow1 (by simp; omega) (own_from hown.out)
            have RA2 := Lib.hid (rat_any A5 a.length c5 a x (qx : Int) w9 rfl (by omega) (U5.out.below HB9) AT.out)
            have hs9 := HB9.size
            obtain ⟨v2, w10, hrun2, hown3, hgrow2, _, hat2⟩ := run_append_own_at (P := Try.prog) (w9.alloc (.cells #[.int .i64 (qx : Int)] 3)) w4.heap.size 22 22 3 i0 (.int .i64 0) 1 8 Try.underlying22 hi hz0 hz1 hz2 rfl (by decide) _ _ _ (O2.alloc _) ⟨w9.heap.size, 0, none⟩ 1 1 [.int .i64 (qx : Int)] rfl (cell_one_new _ _ _) (iv_one [(qx : Int)]) (by unfold maxLen; omega) (by omega) (by simp; omega)
            have Q1 := Lib.hid (kept_of (hown1.alloc (.cells #[.int .i64 (qx : Int)] 3)) hgrow2 (fun g e1 e2 => P2 g e2 e1))
            have Q2 := Lib.hid hown3
            have P3 := Lib.hid (apart_of (hown1.alloc (.cells #[.int .i64 (qx : Int)] 3)) (fun g e1 e2 => P2 g e2 e1) hat2)
            have HB10 := Lib.hid ((HB9.alloc hs9 (.cells #[.int .i64 (qx : Int)] 3)).grown hgrow2 (by simp; omega) (own_from O2))
            clear hown1 hgrow1 hat1 hx hnx hnx2 O2 P2 HB9 hown3 hgrow2 hat2
            go_wp2_with fail
            refine RA.out.mono ?_
            rintro e w5 ⟨rfl, rfl⟩
            go_wp2_with fail
            refine RA2.out.mono ?_
            rintro e w5 ⟨rfl, rfl⟩
            go_wp2_with fail
            go_roundw
            case rel => exact ⟨k + 1, by omega, by go_num, by show World.ownsRow _ _ _ _ _ _ _; rw [E1.out, List.length_append, iv_app]; exact Q1.out, by show World.ownsRow _ _ _ _ _ _ _; rw [E2.out, List.length_append, iv_app]; exact Q2.out, (fun g e1 e2 => P3.out g e2 e1), HB10⟩
            case measure => simp [intOf]; omega
          · rw [if_neg hx, List.append_nil] at hnx hnx2
            have E1 := Lib.hid hnx
            have E2 := Lib.hid hnx2
            have RA := Lib.hid (rat_any A5 a.length c5 a x (-1) wr rfl (by omega) V5.out (rAt_no hx))
            clear hx hnx hnx2
            go_wp2_with fail
            refine RA.out.mono ?_
            rintro e w5 ⟨rfl, rfl⟩
            go_wp2_with fail
            go_roundw
            case rel => exact ⟨k + 1, by omega, by go_num, by show World.ownsRow _ _ _ _ _ _ _; rw [E1.out]; exact hown.out, by show World.ownsRow _ _ _ _ _ _ _; rw [E2.out]; exact hown2.out, hap, hbel⟩
            case measure => simp [intOf]; omega
        · obtain rfl : k = b.length := by omega
          rw [List.take_length] at hown hown2
          obtain ⟨w5, rfl⟩ : ∃ w5, w5 = wr := ⟨_, rfl⟩
          have hcl : (comm a b).length ≤ 1000 := by have := comm_le a b; omega
          have hol : (olds a b).length = (comm a b).length := olds_len _ _
          rw [hol] at hown2
          obtain ⟨A11, c11, rfl, _, _⟩ := own_slice hown.out
          obtain ⟨A12, c12, rfl, _, _⟩ := own_slice hown2.out
          have H35 := Lib.hid (H34.out.trans (hbel.out.mono hs4))
          have R7 := Lib.hid (own_below R7.out hbel.out)
          have R8 := Lib.hid (own_below R8.out hbel.out)
          have T11 := Lib.hid (At.own hown.out)
          have CO := Lib.hid (rof_any A12 (comm a b).length c12 (olds a b) (w5.alloc (.cells #[] 3)) hol.symm hcl ((At.own hown2.out).alloc _))
          have hs5 := H35.out.size
          clear hown hown2 hap hbel hol hlt hk U5 U6
          go_wp2_with fail
          refine CO.out.mono ?_
          rintro e w6 ⟨v6, s6, rfl, hs6, hown6, hb6⟩
          have hss := hs6.out.uniq HR.out
          subst hss
          have hrl : s6.length ≤ 1000 := by have h8 := HR.out.1; have h9 := Li.top_le (ats (olds a b)) (comm a b).length; omega
          have hrlt := Lib.hid HRI.out.1
          have HST := Lib.hid (own_below (own_made (base := w5.heap.size) (e := 3) (size := 1) w5 w5.heap.size rfl (Nat.le_refl _)) hb6)
          have HRR := Lib.hid (own_mono hown6 (show w5.heap.size ≤ (w5.alloc (.cells #[] 3)).heap.size by simp))
          have hnb := own_from hown6
          obtain ⟨A16, c16, rfl, _, _⟩ := own_slice hown6
          have HB6 := Lib.hid ((below_alloc w5 (.cells #[] 3)).trans (hb6.mono (by simp)))
          have HAP : Hid (∀ g, (Value.slice (some ⟨w5.heap.size, 0, none⟩) 0 0).ownBlock = some g → (Value.slice A16 s6.length c16).ownBlock ≠ some g) := fun g e1 e2 => by
            have := hnb g e2
            simp [Value.ownBlock] at e1 this
            omega
          clear hown6 hb6 hs6 hnb CO HR
          go_wp2_with fail
          go_loopw [15, 74] (fun v i wr => ∃ k : Nat, k ≤ s6.length ∧ i = .int .i64 k ∧ Hid (wr.ownsRow w5.heap.size 3 1 v (stayIds a b (s6.take k)).length (iv (stayIds a b (s6.take k)))) ∧ Hid (wr.ownsRow w5.heap.size 3 1 (.slice A16 s6.length c16) s6.length (nv s6)) ∧ Hid (∀ g, v.ownBlock = some g → (Value.slice A16 s6.length c16).ownBlock ≠ some g) ∧ Hid (Below w5.heap.size w5 wr)) (fun _ i _ => s6.length - (intOf i).toNat)
          case atStart => exact ⟨0, Nat.zero_le _, rfl, HST, HRR, HAP, HB6⟩
          case round =>
            obtain ⟨k, hk, rfl, hown, hown2, hap, hbel⟩ := hrel
            have hszr := hbel.out.size
            by_cases hlt : k < s6.length
            · obtain ⟨b1, o1, rfl, hb1, hc1⟩ := (At.own hown2.out).one (nv_at s6 k hlt)
              have hge : s6.getD k 0 = s6[k] := by simp [hlt]
              rw [hge] at hc1
              have hil : s6[k] < (comm a b).length := hrlt.out _ (List.getElem_mem hlt)
              have E1 := Lib.hid (show stayIds a b (s6.take (k + 1)) = stayIds a b (s6.take k) ++ [at' (comm a b) s6[k]] by unfold stayIds; rw [List.take_succ_eq_append_getElem hlt, List.map_append]; rfl)
              have hsl : (stayIds a b (s6.take k)).length ≤ 1000 := by rw [stay_len, List.length_take]; omega
              clear hge
              generalize s6[k] = qk at *
              obtain ⟨b2, o2, he2, hb2, hc2⟩ := (T11.out.below hbel.out).one (iv_at (comm a b) qk hil)
              rw [show ats (comm a b) qk = at' (comm a b) qk from rfl] at hc2
              generalize at' (comm a b) qk = x at *
              subst he2
              obtain ⟨AE, cE, rfl, _, _⟩ := own_slice hown.out
              generalize stayIds a b (s6.take k) = Sk at *
              obtain ⟨v1, w9, hrun1, hown1, hgrow1, _, hat1⟩ := run_append_own_at (P := Try.prog) (wr.alloc (.cells #[.int .i64 x] 3)) w5.heap.size 22 22 3 i0 (.int .i64 0) 1 8 Try.underlying22 hi hz0 hz1 hz2 rfl (by decide) _ _ _ (hown.out.alloc _) ⟨wr.heap.size, 0, none⟩ 1 1 [.int .i64 x] rfl (cell_one_new _ _ _) (iv_one [x]) (by unfold maxLen; omega) (by omega) (by simp; omega)
              have O1 := Lib.hid hown1
              have O2 := Lib.hid (kept_of (hown2.out.alloc (.cells #[.int .i64 x] 3)) hgrow1 hap.out)
              have P2 := Lib.hid (apart_of (hown2.out.alloc (.cells #[.int .i64 x] 3)) hap.out hat1)
              have HB9 := Lib.hid ((hbel.out.alloc hszr (.cells #[.int .i64 x] 3)).grown hgrow1 (by simp; omega) (own_from hown.out))
              clear hown1 hgrow1 hat1
              go_wp2_with fail
              go_roundw
              case rel => exact ⟨k + 1, by omega, by go_num, by show World.ownsRow _ _ _ _ _ _ _; rw [E1.out, List.length_append, iv_app]; exact O1.out, O2, P2, HB9⟩
              case measure => simp [intOf]; omega
            · obtain rfl : k = s6.length := by omega
              rw [List.take_length] at hown
              obtain ⟨w7, rfl⟩ : ∃ w7, w7 = wr := ⟨_, rfl⟩
              have H37 := Lib.hid (H35.out.trans (hbel.out.mono hs5))
              have R7 := Lib.hid (own_below R7.out hbel.out)
              have R8 := Lib.hid (own_below R8.out hbel.out)
              obtain ⟨A15, c15, rfl, _, _⟩ := own_slice hown.out
              have R15 := Lib.hid (own_mono hown.out hs5)
              have hsl : (stayIds a b s6).length ≤ 1000 := by rw [stay_len]; omega
              have hsa := Lib.hid (stay_in HRI.out)
              have hle := Lib.hid (fun q => (lim_le hsa.out (b.length - q) : lim a b (stayIds a b s6) q ≤ a.length))
              have HLS := Lib.hid (fun (p : Nat) (hp : p < b.length) (h : at' b p ∈ stayIds a b s6) => lim_stay HNB.out HRI.out hp h)
              clear hown hown2 hap hbel hlt hk hszr T11 HRR HST HAP HB6 hrlt hs5
              generalize hQE : stayIds a b s6 = Q at *
              have HQE := Lib.hid hQE
              clear hQE
              have R7 : Hid (w7.ownsRow w3.heap.size 30 3 (.slice A7 (dropsOf a b).length c7) (dropsOf a b ++ sfx a b Q (b.length - b.length)).length (sc (dropsOf a b ++ sfx a b Q (b.length - b.length)))) := by
                show World.ownsRow _ _ _ _ _ _ _
                rw [Nat.sub_self, show sfx a b Q 0 = [] from rfl, List.append_nil]
                exact R7.out
              have hlb : ((b.length : Nat) : Int) ≤ 1000 := by omega
              go_wp2_with fail
              go_loopw [7, 8, 18] (fun v u i wr => ∃ q : Nat, ∃ nw : List Int, q ≤ b.length ∧ i = .int .i64 ((q : Int) - 1) ∧ Hid (Now a b Q q nw) ∧ Hid (∀ y ∈ nw, y ∈ a ∨ y ∈ b.drop q) ∧ Hid (wr.ownsRow w3.heap.size 30 3 v (dropsOf a b ++ sfx a b Q (b.length - q)).length (sc (dropsOf a b ++ sfx a b Q (b.length - q)))) ∧ Hid (wr.ownsRow w3.heap.size 3 1 u nw.length (iv nw)) ∧ Hid (wr.ownsRow w3.heap.size 3 1 (.slice A15 Q.length c15) Q.length (iv Q)) ∧ Hid (Below w3.heap.size w3 wr)) (fun _ _ i _ => ((intOf i) + 1).toNat)
              case atStart => exact ⟨b.length, _, Nat.le_refl _, rfl, Now.start HNA.out, (fun y hy => .inl (List.mem_filter.1 hy).1), R7, R8, R15, H37⟩
              case round =>
                obtain ⟨q, nw, hq, rfl, hnow, hmem, hst, hnw, hsy, hbel⟩ := hrel
                have hszr := hbel.out.size
                rcases Nat.eq_zero_or_pos q with h0 | h0
                · subst h0
                  rw [Nat.sub_zero] at hst
                  obtain ⟨AE, cE, rfl, _, _⟩ := own_slice hst.out
                  obtain ⟨AF, cF, rfl, _, _⟩ := own_slice hnw.out
                  have HBF := Lib.hid (HB3.out.trans (hbel.out.mono HB3.out.size))
                  go_wp2
                  go_ret
                  exact ⟨_, rfl, by rw [HQE.out]; exact own_mono hst.out HB3.out.size, HBF.out⟩
                · obtain ⟨p, rfl⟩ : ∃ p, q = p + 1 := ⟨q - 1, by omega⟩
                  have hpi : ((p + 1 : Nat) : Int) - 1 = (p : Int) := by omega
                  rw [hpi]
                  clear hpi h0
                  have hpb : p < b.length := hq
                  obtain ⟨b1, o1, rfl, hb1, c3⟩ := T6.out.one (iv_at b p hpb)
                  rw [show ats b p = at' b p from rfl] at c3
                  have c0 := (hbel.out.cell (p := ⟨b1, o1 + p, none⟩) hb1).trans c3
                  have T50 := Lib.hid (T5.out.below hbel.out)
                  have hnl : nw.length ≤ 1000 := by have := sub_len hnow.out.nodup hnow.out.subset; omega
                  have hLL : (dropsOf a b ++ sfx a b Q (b.length - (p + 1))).length ≤ 2000 := by
                    rw [List.length_append]
                    have := sfx_len a b Q (b.length - (p + 1))
                    have := dropsOf_len a b
                    omega
                  have hsx : dropsOf a b ++ sfx a b Q (b.length - p) = (dropsOf a b ++ sfx a b Q (b.length - (p + 1))) ++ stepOf a b Q p := by
                    rw [List.append_assoc]
                    congr 1
                    rw [show b.length - p = (b.length - (p + 1)) + 1 by omega]
                    show _ ++ stepOf a b Q (b.length - 1 - (b.length - (p + 1))) = _
                    rw [show b.length - 1 - (b.length - (p + 1)) = p by omega]
                  generalize dropsOf a b ++ sfx a b Q (b.length - (p + 1)) = LL at *
                  obtain ⟨AE, cE, rfl, _, _⟩ := own_slice hst.out
                  obtain ⟨AF, cF, rfl, hcF, hcF2⟩ := own_slice hnw.out
                  by_cases hxs : at' b p ∈ Q
                  · have hxa := hsa.out _ hxs
                    have HN := Lib.hid (hnow.out.stay HNA.out HNB.out hpb hxs hxa (HLS.out p hpb hxs) (hle.out (p + 1)))
                    have HM := Lib.hid (show ∀ y ∈ nw, y ∈ a ∨ y ∈ b.drop p from fun y hy => (hmem.out y hy).imp_right (fun h => by rw [drop_next hpb]; exact List.mem_cons_of_mem _ h))
                    have hso : stepOf a b Q p = [] := by unfold stepOf; simp only; rw [if_pos hxa, if_pos hxs]
                    rw [hso, List.append_nil] at hsx
                    have E1 := Lib.hid hsx
                    have AT := Lib.hid (rAt_yes hxs)
                    generalize at' b p = x at *
                    have hq0 : (0 : Int) ≤ (ix Q x : Int) := by omega
                    generalize (ix Q x : Int) = ia at *
                    have RA := Lib.hid (rat_any A15 Q.length c15 Q x ia wr rfl (by omega) (At.own hsy.out) AT.out)
                    clear hxs hxa hso hsx
                    go_wp2_with fail
                    refine RA.out.mono ?_
                    rintro e w9 ⟨rfl, rfl⟩
                    go_wp2_with fail
                    go_roundw
                    case rel => exact ⟨p, nw, by omega, by first | rfl | simp, HN, HM, by show World.ownsRow _ _ _ _ _ _ _; rw [E1.out]; exact hst.out, hnw, hsy, hbel⟩
                    case measure => simp [intOf]
                  · have RS := Lib.hid (rat_any A15 Q.length c15 Q (at' b p) (-1) wr rfl (by omega) (At.own hsy.out) (rAt_no hxs))
                    obtain ⟨NW, hNW⟩ : ∃ NW, NW = without nw (at' b p) := ⟨_, rfl⟩
                    obtain ⟨k1, k2, k3⟩ := hnow.out.at_is HNB.out hpb NW hNW
                    have hput := hnow.out.put HNB.out hpb NW hNW hxs
                    have HN := Lib.hid (show Now a b Q p (putAt NW (cnt a b Q p) (at' b p)) from hput)
                    have hNl : NW.length ≤ 1000 := by have := without_len nw (at' b p); rw [hNW]; omega
                    have HM := Lib.hid (show ∀ y ∈ putAt NW (cnt a b Q p) (at' b p), y ∈ a ∨ y ∈ b.drop p from fun y hy => by
                      have hin : ∀ z ∈ NW, z ∈ a ∨ z ∈ b.drop p := fun z hz => by
                        rw [hNW] at hz
                        exact (hmem.out z (List.mem_filter.1 hz).1).imp_right (fun h => by rw [drop_next hpb]; exact List.mem_cons_of_mem _ h)
                      unfold putAt at hy
                      rcases List.mem_append.1 hy with h | h
                      · exact hin y (List.mem_of_mem_take h)
                      · rcases List.mem_cons.1 h with h | h
                        · right; rw [h, drop_next hpb]; exact List.mem_cons_self
                        · exact hin y (List.mem_of_mem_drop h))
                    by_cases hxa : at' b p ∈ a
                    · have hso : stepOf a b Q p = [(3, at' b p, (cnt a b Q p : Int))] := by unfold stepOf; simp only; rw [if_pos hxa, if_neg hxs]
                      rw [hso] at hsx
                      have E1 := Lib.hid hsx
                      have AT := Lib.hid (rAt_yes hxa)
                      have CW := Lib.hid (rwithout_any AF nw.length cF nw (at' b p) wr rfl (by omega) (At.own hnw.out))
                      rw [← hNW] at CW
                      have K2 := Lib.hid k2
                      generalize at' b p = x at *
                      generalize cnt a b Q p = ct at *
                      have hq0 : (0 : Int) ≤ (ix a x : Int) := by omega
                      generalize (ix a x : Int) = ia at *
                      have RA := Lib.hid (rat_any A5 a.length c5 a x ia wr rfl (by omega) T50.out AT.out)
                      clear hxa hso hsx hput hNW k2 hxs
                      go_wp2_with fail
                      refine RS.out.mono ?_
                      rintro e w9 ⟨rfl, rfl⟩
                      go_wp2_with fail
                      refine RA.out.mono ?_
                      rintro e w9 ⟨rfl, rfl⟩
                      go_wp2_with fail
                      refine CW.out.mono ?_
                      rintro e w8 ⟨v8, rfl, ho8, hb8⟩
                      obtain ⟨A9, c9, rfl, hc9, hd9⟩ := own_slice ho8
                      have hst := Lib.hid (own_below hst.out hb8)
                      have hsy := Lib.hid (own_below hsy.out hb8)
                      have O9 := Lib.hid (own_mono ho8 hszr)
                      have hbel := Lib.hid (hbel.out.trans (hb8.mono hszr))
                      have hszr := hbel.out.size
                      have c0 := (hbel.out.cell (p := ⟨b1, o1 + p, none⟩) hb1).trans c3
                      clear ho8 hb8 CW hnw T50
                      have CP := Lib.hid (rput_any A9 NW.length c9 ct NW x w8 rfl (by omega) hc9 hd9 (own_none O9.out) (At.own O9.out) k3)
                      by_cases hlast : p + 1 = b.length
                      · have kl := k1 hlast
                        have hcl : ct ≤ 1000 := by omega
                        have hpl1 : ¬ ((p : Int) + 1 < (b.length : Int)) := by omega
                        have kl2 : ((NW.length : Nat) : Int) = (ct : Int) := by omega
                        clear kl K2 k1
                        go_wp2_with fail
                        refine CP.out.mono ?_
                        rintro e w10 ⟨v10, rfl, ho10, hb10⟩
                        obtain ⟨A10, c10, rfl, _, _⟩ := own_slice ho10
                        have hst := own_below hst.out hb10
                        have hsy := own_below hsy.out hb10
                        have O10 := own_mono ho10 hszr
                        have hbel := hbel.out.trans (hb10.mono hszr)
                        have hszr := hbel.size
                        have c0 := (hbel.cell (p := ⟨b1, o1 + p, none⟩) hb1).trans c3
                        obtain ⟨v11, w11, hrun1, hown1, hgrow1, _, hat1⟩ := run_append_own_at (P := Try.prog) (w10.alloc (.cells #[.int .i64 3, .int .i64 x, .int .i64 (ct : Int)] 30)) w3.heap.size 27 27 30 j0 (.agg #[.int .i64 0, .int .i64 0, .int .i64 0]) 3 24 Try.underlying27 ji jz0 jz1 jz2 rfl (by decide) _ _ _ (hst.alloc _) ⟨w10.heap.size, 0, none⟩ 1 1 [.int .i64 3, .int .i64 x, .int .i64 (ct : Int)] rfl (cells_new _ _ _ _ rfl) (sc_one [(3, x, (ct : Int))]) (by unfold maxLen; omega) (by omega) (by simp; omega)
                        have X1 := Lib.hid hown1
                        have X2 := Lib.hid (kept_of (O10.alloc (.cells #[.int .i64 3, .int .i64 x, .int .i64 (ct : Int)] 30)) hgrow1 (fun g e1 e2 => (typed_own hst e1).ne (typed_own O10 e2) (by decide) rfl))
                        have X3 := Lib.hid (kept_of (hsy.alloc (.cells #[.int .i64 3, .int .i64 x, .int .i64 (ct : Int)] 30)) hgrow1 (fun g e1 e2 => (typed_own hst e1).ne (typed_own hsy e2) (by decide) rfl))
                        have X4 := Lib.hid ((hbel.alloc hszr (.cells #[.int .i64 3, .int .i64 x, .int .i64 (ct : Int)] 30)).grown hgrow1 (by simp; omega) (own_from hst))
                        clear hst hsy O10 hbel hown1 hgrow1 hat1 ho10 hb10 CP
                        go_wp2_with fail
                        go_roundw
                        case rel => exact ⟨p, _, by omega, by first | rfl | simp, HN, HM, by show World.ownsRow _ _ _ _ _ _ _; rw [E1.out, List.length_append, sc_app]; exact X1.out, X2, X3, X4⟩
                        case measure => simp [intOf]
                      · obtain ⟨k4, k5⟩ := K2.out (by omega)
                        have hpl1 : (p : Int) + 1 < (b.length : Int) := by omega
                        have hp1 : p + 1 < b.length := by omega
                        have c31 := T6.out.one (iv_at b (p + 1) hp1)
                        obtain ⟨b2, o2, he2, hb2, c4⟩ := c31
                        injection he2 with he2
                        injection he2 with he3 he4
                        subst he3 he4
                        rw [show ats b (p + 1) = at' b (p + 1) from rfl] at c4
                        have c41 := (hbel.out.cell (p := ⟨b1, o1 + (p + 1), none⟩) hb2).trans c4
                        have AT1 : rAt NW (at' b (p + 1)) = (ct : Int) := by rw [rAt_yes k4, k5]
                        generalize at' b (p + 1) = y at *
                        have RN := Lib.hid (rat_any A9 NW.length c9 NW y (ct : Int) w8 rfl (by omega) (At.own O9.out) AT1)
                        have hcl : ct ≤ 1000 := by omega
                        clear K2 k1 k4 k5 AT1 hlast
                        go_wp2_with fail
                        refine RN.out.mono ?_
                        rintro e w9 ⟨rfl, rfl⟩
                        go_wp2_with fail
                        refine CP.out.mono ?_
                        rintro e w10 ⟨v10, rfl, ho10, hb10⟩
                        obtain ⟨A10, c10, rfl, _, _⟩ := own_slice ho10
                        have hst := own_below hst.out hb10
                        have hsy := own_below hsy.out hb10
                        have O10 := own_mono ho10 hszr
                        have hbel := hbel.out.trans (hb10.mono hszr)
                        have hszr := hbel.size
                        have c0 := (hbel.cell (p := ⟨b1, o1 + p, none⟩) hb1).trans c3
                        obtain ⟨v11, w11, hrun1, hown1, hgrow1, _, hat1⟩ := run_append_own_at (P := Try.prog) (w10.alloc (.cells #[.int .i64 3, .int .i64 x, .int .i64 (ct : Int)] 30)) w3.heap.size 27 27 30 j0 (.agg #[.int .i64 0, .int .i64 0, .int .i64 0]) 3 24 Try.underlying27 ji jz0 jz1 jz2 rfl (by decide) _ _ _ (hst.alloc _) ⟨w10.heap.size, 0, none⟩ 1 1 [.int .i64 3, .int .i64 x, .int .i64 (ct : Int)] rfl (cells_new _ _ _ _ rfl) (sc_one [(3, x, (ct : Int))]) (by unfold maxLen; omega) (by omega) (by simp; omega)
                        have X1 := Lib.hid hown1
                        have X2 := Lib.hid (kept_of (O10.alloc (.cells #[.int .i64 3, .int .i64 x, .int .i64 (ct : Int)] 30)) hgrow1 (fun g e1 e2 => (typed_own hst e1).ne (typed_own O10 e2) (by decide) rfl))
                        have X3 := Lib.hid (kept_of (hsy.alloc (.cells #[.int .i64 3, .int .i64 x, .int .i64 (ct : Int)] 30)) hgrow1 (fun g e1 e2 => (typed_own hst e1).ne (typed_own hsy e2) (by decide) rfl))
                        have X4 := Lib.hid ((hbel.alloc hszr (.cells #[.int .i64 3, .int .i64 x, .int .i64 (ct : Int)] 30)).grown hgrow1 (by simp; omega) (own_from hst))
                        clear hst hsy O10 hbel hown1 hgrow1 hat1 ho10 hb10 CP
                        go_wp2_with fail
                        go_roundw
                        case rel => exact ⟨p, _, by omega, by first | rfl | simp, HN, HM, by show World.ownsRow _ _ _ _ _ _ _; rw [E1.out, List.length_append, sc_app]; exact X1.out, X2, X3, X4⟩
                        case measure => simp [intOf]
                    · have hno : without nw (at' b p) = nw := without_none (fun h => by
                        rcases hmem.out _ h with h | h
                        · exact hxa h
                        · exact not_mem_drop HNB.out hpb h)
                      rw [hno] at hNW
                      subst hNW
                      have hso : stepOf a b Q p = [(2, at' b p, (cnt a b Q p : Int))] := by unfold stepOf; simp only; rw [if_neg hxa]
                      rw [hso] at hsx
                      have E1 := Lib.hid hsx
                      have AT := Lib.hid (rAt_no hxa)
                      have K2 := Lib.hid k2
                      have O9 := hnw
                      generalize at' b p = x at *
                      generalize cnt a b Q p = ct at *
                      have RA := Lib.hid (rat_any A5 a.length c5 a x (-1) wr rfl (by omega) T50.out AT.out)
                      clear hxa hso hsx hput k2 hxs hno
                      go_wp2_with fail
                      refine RS.out.mono ?_
                      rintro e w9 ⟨rfl, rfl⟩
                      go_wp2_with fail
                      refine RA.out.mono ?_
                      rintro e w8 ⟨rfl, rfl⟩
                      have CP := Lib.hid (rput_any AF NW.length cF ct NW x wr rfl (by omega) hcF hcF2 (own_none O9.out) (At.own O9.out) k3)
                      by_cases hlast : p + 1 = b.length
                      · have kl := k1 hlast
                        have hcl : ct ≤ 1000 := by omega
                        have hpl1 : ¬ ((p : Int) + 1 < (b.length : Int)) := by omega
                        have kl2 : ((NW.length : Nat) : Int) = (ct : Int) := by omega
                        clear kl K2 k1
                        go_wp2_with fail
                        refine CP.out.mono ?_
                        rintro e w10 ⟨v10, rfl, ho10, hb10⟩
                        obtain ⟨A10, c10, rfl, _, _⟩ := own_slice ho10
                        have hst := own_below hst.out hb10
                        have hsy := own_below hsy.out hb10
                        have O10 := own_mono ho10 hszr
                        have hbel := hbel.out.trans (hb10.mono hszr)
                        have hszr := hbel.size
                        have c0 := (hbel.cell (p := ⟨b1, o1 + p, none⟩) hb1).trans c3
                        obtain ⟨v11, w11, hrun1, hown1, hgrow1, _, hat1⟩ := run_append_own_at (P := Try.prog) (w10.alloc (.cells #[.int .i64 2, .int .i64 x, .int .i64 (ct : Int)] 30)) w3.heap.size 27 27 30 j0 (.agg #[.int .i64 0, .int .i64 0, .int .i64 0]) 3 24 Try.underlying27 ji jz0 jz1 jz2 rfl (by decide) _ _ _ (hst.alloc _) ⟨w10.heap.size, 0, none⟩ 1 1 [.int .i64 2, .int .i64 x, .int .i64 (ct : Int)] rfl (cells_new _ _ _ _ rfl) (sc_one [(2, x, (ct : Int))]) (by unfold maxLen; omega) (by omega) (by simp; omega)
                        have X1 := Lib.hid hown1
                        have X2 := Lib.hid (kept_of (O10.alloc (.cells #[.int .i64 2, .int .i64 x, .int .i64 (ct : Int)] 30)) hgrow1 (fun g e1 e2 => (typed_own hst e1).ne (typed_own O10 e2) (by decide) rfl))
                        have X3 := Lib.hid (kept_of (hsy.alloc (.cells #[.int .i64 2, .int .i64 x, .int .i64 (ct : Int)] 30)) hgrow1 (fun g e1 e2 => (typed_own hst e1).ne (typed_own hsy e2) (by decide) rfl))
                        have X4 := Lib.hid ((hbel.alloc hszr (.cells #[.int .i64 2, .int .i64 x, .int .i64 (ct : Int)] 30)).grown hgrow1 (by simp; omega) (own_from hst))
                        clear hst hsy O10 hbel hown1 hgrow1 hat1 ho10 hb10 CP
                        go_wp2_with fail
                        go_roundw
                        case rel => exact ⟨p, _, by omega, by first | rfl | simp, HN, HM, by show World.ownsRow _ _ _ _ _ _ _; rw [E1.out, List.length_append, sc_app]; exact X1.out, X2, X3, X4⟩
                        case measure => simp [intOf]
                      · obtain ⟨k4, k5⟩ := K2.out (by omega)
                        have hpl1 : (p : Int) + 1 < (b.length : Int) := by omega
                        have hp1 : p + 1 < b.length := by omega
                        have c31 := T6.out.one (iv_at b (p + 1) hp1)
                        obtain ⟨b2, o2, he2, hb2, c4⟩ := c31
                        injection he2 with he2
                        injection he2 with he3 he4
                        subst he3 he4
                        rw [show ats b (p + 1) = at' b (p + 1) from rfl] at c4
                        have c41 := (hbel.out.cell (p := ⟨b1, o1 + (p + 1), none⟩) hb2).trans c4
                        have AT1 : rAt NW (at' b (p + 1)) = (ct : Int) := by rw [rAt_yes k4, k5]
                        generalize at' b (p + 1) = y at *
                        have RN := Lib.hid (rat_any AF NW.length cF NW y (ct : Int) wr rfl (by omega) (At.own O9.out) AT1)
                        have hcl : ct ≤ 1000 := by omega
                        clear K2 k1 k4 k5 AT1 hlast
                        go_wp2_with fail
                        refine RN.out.mono ?_
                        rintro e w9 ⟨rfl, rfl⟩
                        go_wp2_with fail
                        refine CP.out.mono ?_
                        rintro e w10 ⟨v10, rfl, ho10, hb10⟩
                        obtain ⟨A10, c10, rfl, _, _⟩ := own_slice ho10
                        have hst := own_below hst.out hb10
                        have hsy := own_below hsy.out hb10
                        have O10 := own_mono ho10 hszr
                        have hbel := hbel.out.trans (hb10.mono hszr)
                        have hszr := hbel.size
                        have c0 := (hbel.cell (p := ⟨b1, o1 + p, none⟩) hb1).trans c3
                        obtain ⟨v11, w11, hrun1, hown1, hgrow1, _, hat1⟩ := run_append_own_at (P := Try.prog) (w10.alloc (.cells #[.int .i64 2, .int .i64 x, .int .i64 (ct : Int)] 30)) w3.heap.size 27 27 30 j0 (.agg #[.int .i64 0, .int .i64 0, .int .i64 0]) 3 24 Try.underlying27 ji jz0 jz1 jz2 rfl (by decide) _ _ _ (hst.alloc _) ⟨w10.heap.size, 0, none⟩ 1 1 [.int .i64 2, .int .i64 x, .int .i64 (ct : Int)] rfl (cells_new _ _ _ _ rfl) (sc_one [(2, x, (ct : Int))]) (by unfold maxLen; omega) (by omega) (by simp; omega)
                        have X1 := Lib.hid hown1
                        have X2 := Lib.hid (kept_of (O10.alloc (.cells #[.int .i64 2, .int .i64 x, .int .i64 (ct : Int)] 30)) hgrow1 (fun g e1 e2 => (typed_own hst e1).ne (typed_own O10 e2) (by decide) rfl))
                        have X3 := Lib.hid (kept_of (hsy.alloc (.cells #[.int .i64 2, .int .i64 x, .int .i64 (ct : Int)] 30)) hgrow1 (fun g e1 e2 => (typed_own hst e1).ne (typed_own hsy e2) (by decide) rfl))
                        have X4 := Lib.hid ((hbel.alloc hszr (.cells #[.int .i64 2, .int .i64 x, .int .i64 (ct : Int)] 30)).grown hgrow1 (by simp; omega) (own_from hst))
                        clear hst hsy O10 hbel hown1 hgrow1 hat1 ho10 hb10 CP
                        go_wp2_with fail
                        go_roundw
                        case rel => exact ⟨p, _, by omega, by first | rfl | simp, HN, HM, by show World.ownsRow _ _ _ _ _ _ _; rw [E1.out, List.length_append, sc_app]; exact X1.out, X2, X3, X4⟩
                        case measure => simp [intOf]
end Go.Proofs.Ytdojalflgfacgaa
