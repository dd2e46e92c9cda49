/- Contracts of group's closures, and of Of. -/
import Derived.Test.YtfapghekakdpgaaGrW2
import Derived.Lib.Hide
namespace Go.Proofs.Ytfapghekakdpgaa
open Go.RowKit Gr Go.Maps
theorem MapOf.drop {α : Type} {P : Program} {K E t : TypeId} {kv : α → Value} {kl : α → Lit} {ok : α → Prop} {w : World} {b n : Nat} {f : α → Option Value} (h : MapOf P K kl ok w b f n) (W : Way P K kv kl ok) [DecidableEq α] (ht : P.underlying t = some (.map K E)) (i : α) (hi : ok i) (ty : TypeId) :
    ∃ w', (Builtin.delete_ #[t, K] ty #[.map (some b), kv i]).run P w = .ok (.tuple #[]) w' ∧ MapOf P K kl ok w' b (fun j => if j = i then none else f j) (if (f i).isSome then n - 1 else n) ∧ w.grownBy w' (some b) ∧ w'.heap.size = w.heap.size := by
  obtain ⟨D, h1, h2, h3⟩ := h
  obtain ⟨w', hrun, h4, h5⟩ := h1.drop W.keyed ht (W.reads i hi) ty
  have htidy := h1.tidy W.keyed
  have hsz : Maps.size (D.del (kl i)) = if (f i).isSome then n - 1 else n := by
    have h7 := size_del htidy (k := kl i)
    have h6 := h3 i hi
    cases hf : f i with
    | none => rw [hf] at h6; rw [has_false_of_atKey h6] at h7; simp at h7 ⊢; omega
    | some u => rw [hf] at h6; rw [has_true_of_atKey h6] at h7; simp at h7 ⊢; omega
  refine ⟨w', hrun, ⟨D.del (kl i), ?_, hsz, fun j hj => ?_⟩, h5.grown, ?_⟩
  · rw [← hsz]; exact exact_bound h4
  · by_cases e : j = i
    · subst e
      simp only [if_true]
      exact fun z => atKey_del_same z
    · simp only [if_neg e]
      have hne : kl j ≠ kl i := fun h => e (W.inj j i hj hi h)
      have h6 := h3 j hj
      cases hf : f j with
      | none => rw [hf] at h6; exact fun z => (atKey_del_other hne _).trans (h6 z)
      | some u => rw [hf] at h6; exact fun z => (atKey_del_other hne _).trans (h6 z)
  · obtain ⟨es, clock, es', clock', _, rfl⟩ := h5
    simp [ChangeMaps.setBlock]
/-- a struct of numbers that is answered out of memory. -/
theorem results_mid {P : Program} {fn : Func} {p : Tmp} {ty : TypeId} (h : fn.results = #[.cell p ty]) (tmps : Array Value) (w : World) (b o : Nat) (cs : List Value) (d : TypeDesc)
    (hp : tmps.getD p undef = .pointer (some ⟨b, o, none⟩)) (hc : w.rangeAt b o cs) (hu : P.underlying ty = some d) (hd : d.isRow = true) (hi : (P.info? ty).map (·.size) = some cs.length) :
    (results fn tmps).run P w = .ok (.agg cs.toArray) w := by
  have hp' : tmps[p]?.getD undef = .pointer (some ⟨b, o, none⟩) := by simpa using hp
  simp [results, h, hp', asAddr, run_loadVar_mid w b o ty cs d hc hu hd hi]
theorem blk_rangeS {w : World} {g : Nat} {t : TypeId} {cs : Array Value} (h : Blk w g t cs) : w.rangeAt g 0 cs.toList := by
  intro j u hu
  rw [Nat.zero_add]
  exact h.cell j (by simpa using hu)
theorem below_join {a b c : World} (h : Below a.heap.size a b) (k : Below b.heap.size b c) : Below a.heap.size a c := h.trans (k.mono h.size)
set_option maxHeartbeats 1000000 in
theorem of1_any (i bo bt : Nat) (A : Option Addr) (n c : Nat) (L : List Gk) (B : Option Addr) (m d : Nat) (T : List Bool) (w : World) (hi : i < n) (hn : n = L.length) (hj : i < m) (hm : m = T.length) (ho : w.cell? ⟨bo, 0, none⟩ = some (.slice A n c)) (ht : w.cell? ⟨bt, 0, none⟩ = some (.slice B m d)) (ha : At w A (gcs L)) (hbb : At w B (bv T)) :
    Calls Try.prog 41 #[.int .i64 i, .pointer (some ⟨bo, 0, none⟩), .pointer (some ⟨bt, 0, none⟩)] w fun e w' => e = .returned (.bool (!(gk L i).2 && !(T.getD i false))) ∧ Below w.heap.size w w' := by
  obtain ⟨b1, o1, rfl, _, _, hc1⟩ := at_gk ha (k := i) (by omega)
  obtain ⟨b2, o2, rfl, _, hc2⟩ := hbb.one (bv_at T i (by omega))
  generalize (gk L i).2 = g at *
  generalize T.getD i false = t at *
  clear ha hbb hn hm
  cases g <;> cases t
  all_goals
    go_enter Try.func41, Try.ntmps41
    go_wp2
    go_ret
    exact ⟨by simp, Below.refl _ _⟩
theorem new1_any (i bp : Nat) (B : Option Addr) (m d : Nat) (T : List Int) (w : World) (hi : i < m) (hm : m = T.length) (hp : w.cell? ⟨bp, 1, none⟩ = some (.slice B m d)) (ha : At w B (iv T)) :
    Calls Try.prog 43 #[.int .i64 i, .pointer (some ⟨bp, 0, none⟩)] w fun e w' => e = .returned (.bool (newQ T i)) ∧ Below w.heap.size w w' := by
  obtain ⟨b1, o1, rfl, _, hc1⟩ := ha.one (iv_at T i (by omega))
  unfold newQ
  generalize ats T i = x at *
  clear ha hm
  go_enter Try.func43, Try.ntmps43
  go_wp2
  go_ret
  exact ⟨rfl, Below.refl _ _⟩
theorem back1_any (i bo : Nat) (A : Option Addr) (n c : Nat) (L : List Gk) (w : World) (hi : i < n) (hn : n = L.length) (ho : w.cell? ⟨bo, 0, none⟩ = some (.slice A n c)) (ha : At w A (gcs L)) :
    Calls Try.prog 45 #[.int .i64 i, .pointer (some ⟨bo, 0, none⟩)] w fun e w' => e = .returned (.bool (gk L i).2) ∧ Below w.heap.size w w' := by
  obtain ⟨b1, o1, rfl, _, _, hc1⟩ := at_gk ha (k := i) (by omega)
  generalize (gk L i).2 = g at *
  clear ha hn
  go_enter Try.func45, Try.ntmps45
  go_wp2
  go_ret
  exact ⟨rfl, Below.refl _ _⟩
theorem kept1_any (i bo : Nat) (A : Option Addr) (n c : Nat) (L : List Gk) (w : World) (hi : i < n) (hn : n = L.length) (ho : w.cell? ⟨bo, 0, none⟩ = some (.slice A n c)) (ha : At w A (gcs L)) :
    Calls Try.prog 46 #[.int .i64 i, .pointer (some ⟨bo, 0, none⟩)] w fun e w' => e = .returned (.bool (!(gk L i).2)) ∧ Below w.heap.size w w' := by
  obtain ⟨b1, o1, rfl, _, _, hc1⟩ := at_gk ha (k := i) (by omega)
  generalize (gk L i).2 = g at *
  clear ha hn
  go_enter Try.func46, Try.ntmps46
  go_wp2
  go_ret
  exact ⟨rfl, Below.refl _ _⟩
set_option maxHeartbeats 1000000 in
theorem ghosts1_any (i bl bo bt : Nat) (A : Option Addr) (n c : Nat) (L : List Gk) (C : Option Addr) (k e : Nat) (V : List Bool) (B : Option Addr) (m d : Nat) (T : List Bool) (w : World) (hi : i < n) (hn : n = L.length) (hj : i < m) (hm : m = T.length) (hk : i < k) (hkv : k = V.length)
    (hl : w.cell? ⟨bl, 0, none⟩ = some (.slice C k e)) (ho : w.cell? ⟨bo, 0, none⟩ = some (.slice A n c)) (ht : w.cell? ⟨bt, 0, none⟩ = some (.slice B m d)) (hc : At w C (bv V)) (ha : At w A (gcs L)) (hbb : At w B (bv T)) :
    Calls Try.prog 47 #[.int .i64 i, .pointer (some ⟨bl, 0, none⟩), .pointer (some ⟨bo, 0, none⟩), .pointer (some ⟨bt, 0, none⟩)] w fun e w' => e = .returned (.bool (V.getD i false || ((gk L i).2 && !(T.getD i false)))) ∧ Below w.heap.size w w' := by
  obtain ⟨b1, o1, rfl, _, _, hc1⟩ := at_gk ha (k := i) (by omega)
  obtain ⟨b2, o2, rfl, _, hc2⟩ := hbb.one (bv_at T i (by omega))
  obtain ⟨b3, o3, rfl, _, hc3⟩ := hc.one (bv_at V i (by omega))
  generalize (gk L i).2 = g at *
  generalize T.getD i false = t at *
  generalize V.getD i false = v at *
  clear ha hbb hc hn hm hkv
  cases v <;> cases g <;> cases t
  all_goals
    go_enter Try.func47, Try.ntmps47
    go_wp2
    go_ret
    exact ⟨by simp, Below.refl _ _⟩
set_option maxHeartbeats 4000000 in
set_option maxRecDepth 100000 in
theorem of_any (A : Option Addr) (n c : Nat) (L : List Gk) (B : Option Addr) (m d : Nat) (keys : List ByteArray) (w : World) (hn : n = L.length) (hm : m = keys.length) (h1 : n ≤ 1000) (h2 : m ≤ 1000) (ha : At w A (gcs L)) (hb : At w B (sv keys)) (hok : ∀ k ∈ L, OkS k.1) (hok2 : ∀ k ∈ keys, OkS k) :
    Calls Try.prog 14 #[.slice A n c, .slice B m d] w fun e w' => ∃ v1 v2, e = .returned (.agg #[v1, v2]) ∧ w'.ownsRow w.heap.size 3 1 v1 (leaves L (tks L keys)).length (nv (leaves L (tks L keys))) ∧ w'.ownsRow w.heap.size 3 1 v2 m (iv (tks L keys)) ∧ Below w.heap.size w w' := by
  obtain ⟨b0, hb0⟩ : ∃ b, b = w.heap.size := ⟨_, rfl⟩
  obtain ⟨U, hU⟩ : ∃ W, W = (w.alloc (.cells #[.slice A n c] 25)).alloc (.cells #[.slice none 0 0, .slice none 0 0] 31) := ⟨_, rfl⟩
  have hbU : Below w.heap.size w U := by rw [hU]; exact (below_alloc w _).alloc (by simp) _
  have HK0 := Lib.hid (show Blk U b0 25 #[.slice A n c] by rw [hU, hb0]; exact (Blk.new w _ _).alloc _)
  have HK1 := Lib.hid (show Blk U (b0 + 1) 31 #[.slice none 0 0, .slice none 0 0] by rw [hU, hb0]; exact Blk.new' (w.alloc _) _ _ _ (by simp))
  have HAU := Lib.hid (ha.below hbU)
  have HBU := Lib.hid (hb.below hbU)
  have HU := Lib.hid hU
  have HBW := Lib.hid hbU
  have HG := Lib.hid hb0
  have HN := Lib.hid hn
  have HM := Lib.hid hm
  have HOK2 := Lib.hid hok2
  have C1 := Lib.hid (firsts_any A n c L U hn (by omega) HAU.out hok)
  obtain ⟨i0, hi, hz0, hz1, hz2⟩ := info_parts infoInt
  clear hU hbU hb0 hn hm ha hb hok hok2
  go_enter Try.func14, Try.ntmps14
  go_upto_region 1 with fail
  rw [← HU.out, ← HG.out]
  have r0 := HK0.out.cell 0 (v := .slice A n c) rfl
  go_wp2_with fail
  refine C1.out.mono ?_
  rintro e w1 ⟨mb, N, rfl, hmb, hN, hm1, hb1⟩
  have M1 := Lib.hid hm1
  have B1 := Lib.hid hb1
  have hlt1 := hm1.lt
  have hs1 := hb1.size
  clear hm1 hb1 r0 C1
  obtain ⟨w2, hmk, hrow, hgm⟩ := run_makeSlice_full (P := Try.prog) w1 w1.heap.size 29 3 i0 (.int .i64 0) 1 Try.underlying29 hi hz0 hz1 .i64 .i64 m (by omega) (by rw [hz2]; omega) (by unfold maxLen; omega) (Nat.le_refl _)
  obtain ⟨tb, htb⟩ : ∃ b, b = w1.heap.size := ⟨_, rfl⟩
  rw [← htb] at hrow hlt1 hs1
  have R2 : Hid (w2.ownsRow tb 3 1 (.slice (some ⟨tb, 0, none⟩) m m) m (iv (pTo (takeI L keys) 0 m))) := by
    show World.ownsRow _ _ _ _ _ _ _
    rw [iv_zero]
    exact hrow
  have M2 : Hid (MapOf Try.prog 9 skey OkS w2 mb (freF L keys 0) N) := by
    show MapOf _ _ _ _ _ _ _ _
    rw [freF_zero, ← HN.out]
    exact M1.out.grown hgm (by simp)
  have B2 := Lib.hid (B1.out.grown hgm (by omega) (fun q hq => nomatch hq))
  have HTB := Lib.hid htb
  clear hrow hgm M1 B1 htb
  go_wp2_with fail
  clear hmk
  rw [← HTB.out]
  go_loopw [20] (fun i wr => ∃ k N : Nat, k ≤ m ∧ N ≤ n ∧ i = .int .i64 k ∧ Hid (MapOf Try.prog 9 skey OkS wr mb (freF L keys k) N) ∧ Hid (wr.ownsRow tb 3 1 (.slice (some ⟨tb, 0, none⟩) m m) m (iv (pTo (takeI L keys) k m))) ∧ Hid (Below U.heap.size U wr)) (fun i _ => m - (intOf i).toNat)
  case atStart => exact ⟨0, N, Nat.zero_le _, hN, rfl, M2, R2, B2⟩
  case round =>
    obtain ⟨k, N', hk, hN', rfl, hmap, hrow, hbel⟩ := hrel
    by_cases hlt : k < m
    · have hkl : k < keys.length := by have := HM.out; omega
      obtain ⟨b1, o1, hB, hb1, hc1⟩ := HBU.out.one (sv_at keys k hkl)
      have hd1 := ((below_cells hbel.out).1 b1 (o1 + k) hb1).trans hc1
      have HOS := Lib.hid (HOK2.out keys[k] (List.getElem_mem hkl))
      have hx := freeF_at L keys k
      have hnx := freF_next L keys k hkl
      have hps := pTo_set (takeI L keys) k m hlt
      have htk : takeI L keys k = oI (takeO L keys k) := rfl
      have hfr : freF L keys k (key keys k) = (freeF L keys k (key keys k)).map fun (j : Nat) => Value.int .i64 (j : Int) := rfl
      rw [hx] at hfr
      rw [htk] at hps
      rw [key_eq keys k hkl] at hnx hfr
      generalize takeO L keys k = tk at *
      generalize keys[k] = s at *
      have HNX := Lib.hid hnx
      have HPS := Lib.hid hps
      have hll : k < (iv (pTo (takeI L keys) k m)).length := by rw [iv_len, pTo_len _ _ _ (by omega)]; exact hlt
      obtain ⟨u0, hu0⟩ : ∃ u, wr.cell? ⟨tb, k, none⟩ = some u := ⟨_, (hrow.out.cellAt k (by omega)).trans (List.getElem?_eq_getElem hll)⟩
      have hf0 := hrow.out.frozenAt k
      clear hx hnx hps htk hll hc1
      subst hB
      cases tk with
      | none =>
        have HL : Hid (freF L keys k s = none) := by show _ = none; rw [hfr]; rfl
        clear hfr
        go_upto_region 7 with (refine wpList_lookok_mo rfl _ _ 77 9 3 rfl strWay Try.underlying77 zeroI mb _ _ rfl hmap.out s HOS.out rfl (.int .i64 0) false (by rw [HL.out]; rfl) (by rw [HL.out]; rfl) ?_)
        go_upto_region 10 with fail
        obtain ⟨V, hV⟩ : ∃ V, V = wr.setCell ⟨tb, k, none⟩ (.int .i64 (-1)) := ⟨_, rfl⟩
        rw [← hV]
        have hgV : wr.grownBy V (some tb) := by rw [hV]; exact (hrow.out.stored _ _).2
        have HRV : Hid (V.ownsRow tb 3 1 (.slice (some ⟨tb, 0, none⟩) m m) m (iv (pTo (takeI L keys) (k + 1) m))) := by
          show World.ownsRow _ _ _ _ _ _ _
          rw [← HPS.out, iv_set, hV]
          exact (hrow.out.stored _ _).1
        have HMV := Lib.hid (hmap.out.grown hgV (by intro e; injection e with e; omega))
        have HBV := Lib.hid (hbel.out.grown hgV hbel.out.size (fun p hp => by injection hp with hp; omega))
        clear hV hgV hu0 hf0 hd1
        obtain ⟨w5, hrun, hm5, hg5, hs5⟩ := MapOf.drop HMV.out strWay Try.underlying77 s HOS.out 0
        rw [← HNX.out] at hm5
        have HM5 := Lib.hid hm5
        have HG5 := Lib.hid hg5
        have HS5 := Lib.hid hs5
        have hvs := HBV.out.size
        clear hm5 hg5 hs5
        go_wp2_with fail
        clear hrun
        go_roundw
        case rel => exact ⟨k + 1, _, by omega, by rw [HL.out]; simp; omega, by go_num, HM5, HRV.out.kept HG5.out (.inr (by intro e; simp [Value.ownBlock] at e; omega)), HBV.out.grown HG5.out hvs (fun p hp => by injection hp with hp; omega)⟩
        case measure => simp [intOf]; omega
      | some j =>
        have HL : Hid (freF L keys k s = some (.int .i64 (j : Int))) := by show _ = some _; rw [hfr]; rfl
        clear hfr
        go_upto_region 7 with (refine wpList_lookok_mo rfl _ _ 77 9 3 rfl strWay Try.underlying77 zeroI mb _ _ rfl hmap.out s HOS.out rfl (.int .i64 (j : Int)) true (by rw [HL.out]; rfl) (by rw [HL.out]; rfl) ?_)
        go_upto_region 10 with fail
        obtain ⟨V, hV⟩ : ∃ V, V = wr.setCell ⟨tb, k, none⟩ (.int .i64 (j : Int)) := ⟨_, rfl⟩
        rw [← hV]
        have hgV : wr.grownBy V (some tb) := by rw [hV]; exact (hrow.out.stored _ _).2
        have HRV : Hid (V.ownsRow tb 3 1 (.slice (some ⟨tb, 0, none⟩) m m) m (iv (pTo (takeI L keys) (k + 1) m))) := by
          show World.ownsRow _ _ _ _ _ _ _
          rw [← HPS.out, iv_set, hV]
          exact (hrow.out.stored _ _).1
        have HMV := Lib.hid (hmap.out.grown hgV (by intro e; injection e with e; omega))
        have HBV := Lib.hid (hbel.out.grown hgV hbel.out.size (fun p hp => by injection hp with hp; omega))
        clear hV hgV hu0 hf0 hd1
        obtain ⟨w5, hrun, hm5, hg5, hs5⟩ := MapOf.drop HMV.out strWay Try.underlying77 s HOS.out 0
        rw [← HNX.out] at hm5
        have HM5 := Lib.hid hm5
        have HG5 := Lib.hid hg5
        have HS5 := Lib.hid hs5
        have hvs := HBV.out.size
        clear hm5 hg5 hs5
        go_wp2_with fail
        clear hrun
        go_roundw
        case rel => exact ⟨k + 1, _, by omega, by rw [HL.out]; simp; omega, by go_num, HM5, HRV.out.kept HG5.out (.inr (by intro e; simp [Value.ownBlock] at e; omega)), HBV.out.grown HG5.out hvs (fun p hp => by injection hp with hp; omega)⟩
        case measure => simp [intOf]; omega
    · obtain rfl : k = m := by omega
      have HRX := Lib.hid hrow.out
      have HBX := Lib.hid hbel.out
      have K0 := Lib.hid (HK0.out.below HBX.out)
      have r0 := K0.out.cell 0 (v := .slice A n c) rfl
      clear hrow hmap hbel
      have HAX := Lib.hid (HAU.out.below HBX.out)
      have HT : Hid (At wr (some ⟨tb, 0, none⟩) (iv (tks L keys))) := by
        show At _ _ _
        have h9 := At.own HRX.out
        rw [pTo_all] at h9
        unfold tks
        rw [← HM.out]
        exact h9
      go_wp2_with fail
      refine (marked_any n _ k k (tks L keys) wr (by rw [tks_len]; exact HM.out) (by omega) (by omega) HT.out).mono ?_
      rintro e w3 ⟨v3, rfl, ho3, hb3⟩
      obtain ⟨A3, c3, rfl, hc3, hm3⟩ := own_slice ho3
      obtain ⟨W4, hW4⟩ : ∃ W, W = w3.alloc (.cells #[.slice A3 n c3] 80) := ⟨_, rfl⟩
      have hb4 : Below wr.heap.size wr W4 := by rw [hW4]; exact hb3.alloc hb3.size _
      obtain ⟨g4, hg4⟩ : ∃ g, g = w3.heap.size := ⟨_, rfl⟩
      have K4 := Lib.hid (show Blk W4 g4 80 #[.slice A3 n c3] by rw [hW4, hg4]; exact Blk.new w3 _ _)
      have T4 := Lib.hid ((At.own ho3).below (show Below w3.heap.size w3 W4 by rw [hW4]; exact below_alloc w3 _))
      have HB4 := Lib.hid (HBX.out.trans (hb4.mono HBX.out.size))
      have HA4 := Lib.hid (HAX.out.below hb4)
      have K04 := Lib.hid (K0.out.below hb4)
      have K14 := Lib.hid ((HK1.out.below HBX.out).below hb4)
      have HR4 := Lib.hid (own_below HRX.out hb4)
      have q0 := K04.out.cell 0 (v := .slice A n c) rfl
      have HW4 := Lib.hid hW4
      have HG4 := Lib.hid hg4
      clear hW4 hg4 hb4 ho3 hb3 r0
      go_upto_region 13 with fail
      rw [← HW4.out, ← HG4.out]
      go_wp2_with fail
      refine (where_of n b0 g4 (leaveQ L (tks L keys)) W4 (by omega) (fun W i hi hb => by
        refine (of1_any i b0 g4 A n c L A3 n c3 (mks n (tks L keys)) W hi HN.out hi (by rw [mks_len]) ((K04.out.below hb).cell 0 rfl) ((K4.out.below hb).cell 0 rfl) (HA4.out.below hb) (T4.out.below hb)).mono ?_
        rintro e W' ⟨rfl, h9⟩
        refine ⟨?_, h9⟩
        rw [mks_at n _ hi]
        rfl)).mono ?_
      rintro e w5 ⟨v5, rfl, ho5, hb5⟩
      obtain ⟨A5, c5, rfl, hc5, hm5⟩ := own_slice ho5
      have hb5' : Below W4.heap.size W4 w5 := hb5
      have K15 := Lib.hid (K14.out.below hb5')
      have HB5 := Lib.hid (HB4.out.trans (hb5'.mono HB4.out.size))
      have HR5 := Lib.hid (own_below HR4.out hb5')
      have HO5 := Lib.hid ho5
      have hu5 := HB4.out.size
      have hwb : w.heap.size ≤ W4.heap.size := Nat.le_trans HBW.out.size hu5
      have e0 := K15.out.cell 0 (v := .slice none 0 0) rfl
      have e1 := K15.out.cell 1 (v := .slice none 0 0) rfl
      have p0 := K15.out.frozen 0
      have p1 := K15.out.frozen 1
      clear ho5 hb5 hb5' K14 HB4 HR4 q0 K04 K4 T4 HA4 HT HAX K0 HBX HRX
      have HLV : Hid (leaves L (tks L keys) = wh n (leaveQ L (tks L keys))) := by show _ = _; unfold leaves; rw [← HN.out]
      generalize (wh n (leaveQ L (tks L keys))) = LV at *
      go_wp2
      obtain ⟨V, hV⟩ : ∃ V, V = (w5.setCell ⟨b0 + 1, 0, none⟩ (.slice A5 LV.length c5)).setCell ⟨b0 + 1, 1, none⟩ (.slice (some ⟨tb, 0, none⟩) k k) := ⟨_, rfl⟩
      rw [← hV]
      have hbs : Beside (fun b => b = b0 + 1) w5 V := by rw [hV]; exact ((Beside.refl (fun b => b = b0 + 1) w5).set (.inl rfl) 0 _).set (.inl rfl) 1 _
      have KV : Blk V (b0 + 1) 31 #[.slice A5 LV.length c5, .slice (some ⟨tb, 0, none⟩) k k] := by rw [hV]; exact (K15.out.set 0 _).set 1 _
      have hgw : w.heap.size ≤ b0 + 1 := by have := HG.out; omega
      have BV : Below w.heap.size w V := by rw [hV]; exact ((HBW.out.trans (HB5.out.mono HBW.out.size)).setCell (p := ⟨b0 + 1, 0, none⟩) hgw _).setCell (p := ⟨b0 + 1, 1, none⟩) hgw _
      have hsz : b0 + 1 < U.heap.size := HK1.out.lt
      have O5 := hbs.keepsOwn HO5.out (fun q hq e => by have := own_from HO5.out q hq; omega)
      have R5 := hbs.keepsOwn HR5.out (fun q hq e => by have := own_from HR5.out q hq; omega)
      rw [pTo_all] at R5
      have hkm := HM.out
      clear hV hbs
      exact bodyPost_ret (results_mid rfl _ _ (b0 + 1) 0 [.slice A5 LV.length c5, .slice (some ⟨tb, 0, none⟩) k k] _ rfl (blk_rangeS KV) Try.underlying31 rfl (by kernel_rfl)) rfl ⟨_, _, rfl, by rw [HLV.out]; exact own_mono O5 hwb, by unfold tks; rw [← hkm]; exact own_mono R5 (by have := HBW.out.size; omega), BV⟩
end Go.Proofs.Ytfapghekakdpgaa
