/- The contract of layer 3's Apply: steps are looked at twice, with a map that says which one last added each name. -/
import Derived.Test.YtcboeehmhpkodaaClW5
import Derived.Test.YtcboeehmhpkodaaAppAt
namespace Go.Proofs.Ytcboeehmhpkodaa
open Go.RowKit M Go.WideMaps Go.Maps
def kl (s : ByteArray) : Lit := .string s.data.toList
theorem kl_ne {a b : ByteArray} (h : ¬ a = b) : kl a ≠ kl b := by
  intro e
  apply h
  obtain ⟨⟨x⟩⟩ := a
  obtain ⟨⟨y⟩⟩ := b
  simp only [kl, Lit.string.injEq] at e
  rw [e]
/-- the datum D says of each name what M says. -/
def Agr (D : DataW Unit) (M : ByteArray → Option Nat) : Prop :=
  Maps.IsMap D ∧ ∀ x, Maps.has D (kl x) = (M x).isSome ∧ ∀ j : Nat, M x = some j → D.atKey (kl x) (.lit (.int .i64 0)) = .lit (.int .i64 j)
theorem Agr.start : Agr (.map []) (fun _ => none) := ⟨Maps.isMap_empty, fun _ => ⟨rfl, fun _ h => nomatch h⟩⟩
theorem Agr.put {D : DataW Unit} {M M' : ByteArray → Option Nat} (h : Agr D M) (s : ByteArray) (k : Nat) (hM : ∀ y, M' y = if y = s then some k else M y) : Agr (D.put (kl s) (.lit (.int .i64 k))) M' := by
  refine ⟨h.1.put _ _, fun x => ?_⟩
  rw [hM x]
  by_cases hx : x = s
  · subst hx
    rw [if_pos rfl]
    refine ⟨Maps.has_put_same h.1 (show WideAt.IsKeyLit (kl x) from trivial) _, fun j hj => ?_⟩
    injection hj with hj
    rw [Maps.atKey_put_same h.1 (show WideAt.IsKeyLit (kl x) from trivial), hj]
  · rw [if_neg hx, Maps.has_put_other (kl_ne hx)]
    exact ⟨(h.2 x).1, fun j hj => by rw [Maps.atKey_put_other (kl_ne hx)]; exact (h.2 x).2 j hj⟩
theorem Agr.del {D : DataW Unit} {M M' : ByteArray → Option Nat} (h : Agr D M) (s : ByteArray) (hM : ∀ y, M' y = if y = s then none else M y) : Agr (D.del (kl s)) M' := by
  refine ⟨h.1.del _, fun x => ?_⟩
  rw [hM x]
  by_cases hx : x = s
  · subst hx
    rw [if_pos rfl]
    exact ⟨Maps.has_del_same, fun j hj => nomatch hj⟩
  · rw [if_neg hx, Maps.has_del_other (kl_ne hx)]
    exact ⟨(h.2 x).1, fun j hj => by rw [Maps.atKey_del_other (kl_ne hx)]; exact (h.2 x).2 j hj⟩
theorem at_step {w : World} {A : Option Addr} {L : List Stp} (h : At w A (stv L)) {k : Nat} (hk : k < L.length) :
    ∃ b off, A = some ⟨b, off, none⟩ ∧ b < w.heap.size ∧ w.cell? ⟨b, off + k * 2, none⟩ = some (.bool L[k].1) ∧ w.cell? ⟨b, off + k * 2 + 1, none⟩ = some (.string L[k].2) := by
  obtain ⟨h1, h2⟩ := stv_at L k hk
  obtain ⟨b, off, e, hb, hc⟩ := h (fun e => by rw [e] at h1; cases h1)
  exact ⟨b, off, e, hb, hc _ _ h1, hc _ _ h2⟩
theorem lawS : Keyed Try.prog 9 := string_keyed Try.underlying9
theorem zeroI (w : World) : (zeroValue 3).run Try.prog w = .ok (.int .i64 0) w := by kernel_rfl
set_option maxHeartbeats 4000000 in
set_option maxRecDepth 100000 in
theorem capply_any (A B : Option Addr) (n c m d : Nat) (l : List ByteArray) (steps : List Stp) (w : World) (hn : n = l.length) (hm : m = steps.length) (hb : n ≤ 100000) (hb2 : m ≤ 100000)
    (ha : At w A (sv l)) (hs : At w B (stv steps)) (hB : B = none → m = 0 ∧ d = 0) (hl : ∀ s ∈ l, s.size ≤ maxLen) (hls : ∀ s ∈ steps, s.2.size ≤ maxLen) :
    Calls Try.prog 33 #[.slice A n c, .slice B m d] w fun e w' => ∃ v, e = .returned v ∧ w'.ownsRow w.heap.size 9 1 v (apply l steps).length (sv (apply l steps)) ∧ Below w.heap.size w w' := by
  have hmm := @run_makeMap Try.prog
  have HN := Lib.hid hn
  have HM := Lib.hid hm
  have HA := Lib.hid ha
  have HS := Lib.hid hs
  have HBN := Lib.hid hB
  have HK : Hid (∀ i, (nm (addsOf l ++ steps) i).size ≤ maxLen) := fun i => nm_size maxLen l steps hl hls i
  clear hn hm ha hs hB hl hls
  obtain ⟨i0, hi, hz0, hz1, hz2⟩ := info_parts infoStr
  obtain ⟨i1, hi', hz0', hz1', hz2'⟩ := info_parts infoStep
  go_enter Try.func33, Try.ntmps33
  go_wp2_with (first | (go_at_call 43; refine (adds_any A n c l _ HN.out (by omega) HA.out).mono ?_; rintro e w1 ⟨v, rfl, hown, hbel⟩; have HO := Lib.hid hown; have HB := Lib.hid hbel; have hsz := hbel.size; clear hown hbel) | (at_builtin; (refine wpList_append_at rfl _ _ 67 rfl w.heap.size 71 i1 _ 2 24 Try.underlying67 hi' hz0' hz1' hz2' rfl (by decide) _ _ _ rfl HO.out B m d (stv steps) rfl HBN.out (by rw [stv_len, HM.out]) (HS.out.below HB.out) (stv_one _) (by unfold maxLen; omega) (by omega) hsz ?_; intro v2 w2 hown2 hgrow2; obtain ⟨A2, c2, rfl, hc2, hm2, hat2⟩ := at_of_own hown2; have HAT := Lib.hid hat2; clear hat2; have HO2 := Lib.hid hown2; have HG2 := Lib.hid hgrow2; clear hown2 hgrow2)))
  have HBW := Lib.hid ((HB.out).grown HG2.out hsz (own_from HO.out))
  have HAL : Hid (At w2 A2 (stv (addsOf l ++ steps))) := by show At _ _ _; rw [stv_app]; exact HAT.out
  have HLN : Hid ((addsOf l ++ steps).length = n + m) := by show _ = _; rw [List.length_append, HN.out, HM.out]; simp [addsOf]
  obtain ⟨L, hL⟩ : ∃ L, L = addsOf l ++ steps := ⟨_, rfl⟩
  rw [← hL] at HAL HLN HK
  have HL := Lib.hid hL
  clear hL
  go_loopw [23] (fun i wr => ∃ (k : Nat) (D : DataW Unit), k ≤ n + m ∧ i = .int .i64 k ∧ wr.ownsMap Try.prog 9 (plainElem Try.prog 3) w2.heap.size k D ∧ Hid (Agr D (mapTo L k)) ∧ Below w2.heap.size w2 wr) (fun i _ => n + m - (intOf i).toNat)
  case atStart => exact ⟨0, _, Nat.zero_le _, rfl, World.ownsMap_made _ _ _ _, Agr.start, below_alloc _ _⟩
  case round =>
    obtain ⟨k, D, hk, rfl, hown, HD, hbel⟩ := hrel
    by_cases hlt : k < n + m
    · have hkL : k < L.length := by have := HLN.out; omega
      obtain ⟨b, off, rfl, hlb, hc0, hc1⟩ := at_step HAL.out hkL
      have hd0 := (below_cells hbel).1 b (off + k * 2) hlb
      have hd1 := (below_cells hbel).1 b (off + k * 2 + 1) hlb
      rw [hc0] at hd0
      rw [hc1] at hd1
      clear hc0 hc1
      have hMn : mapTo L (k + 1) = stepM (mapTo L k) k L[k] := by rw [mapTo]; simp [hkL]
      obtain ⟨x, hx⟩ : ∃ x, x = L[k].2 := ⟨_, rfl⟩
      rw [← hx] at hd1
      have hkey : keyOf Try.prog 9 (.string x) = some (kl x) := keyOf_string_mk Try.underlying9 (by have := HK.out k; unfold nm at this; simp [hkL] at this; rw [hx]; exact this)
      have HX := Lib.hid hx
      have HMN := Lib.hid hMn
      clear hx hMn
      have hsz2 := hbel.size
      have hbm := hown.lt
      by_cases hdr : L[k].1 = true
      · have HR : Hid (∀ y, mapTo L (k + 1) y = if y = x then none else mapTo L k y) := by
          show ∀ y, _
          intro y
          rw [HMN.out, HX.out]
          unfold stepM
          rw [if_pos hdr]
        rw [hdr] at hd0
        clear hdr
        go_wp2_with (at_delete; refine wpList_delete_own _ rfl _ _ 69 9 rfl 3 lawS Try.underlying69 _ w2.heap.size k D rfl (hown.alloc _) _ _ rfl hkey ?_; intro w5 hown5 hturn5; have HO5 := Lib.hid hown5; have HT5 := Lib.hid hturn5.grown; clear hown5 hturn5)
        go_roundw
        case rel => exact ⟨k + 1, _, by omega, by go_num, HO5.out.mono (by omega), HD.out.del x HR.out, (hbel.alloc hsz2 _).grown HT5.out (by simp; omega) (fun g hg => by cases hg; exact Nat.le_refl _)⟩
        case measure => simp [intOf]; omega
      · have hdr' : L[k].1 = false := by simpa using hdr
        rw [hdr'] at hd0
        cases hp : mapTo L k x with
        | some j =>
          have HR : Hid (mapTo L (k + 1) = mapTo L k) := by
            show mapTo L (k + 1) = _
            rw [HMN.out]
            unfold stepM
            rw [if_neg hdr, ← HX.out, hp]
            rfl
          have hhas : Maps.has D (kl x) = true := by rw [(HD.out.2 x).1, hp]; rfl
          have HH := Lib.hid hhas
          clear hhas hdr hdr' hp
          go_wp2_with (at_lookup; refine wpList_lookup_own_ok_int _ rfl _ _ 69 rfl 9 3 .i64 lawS Try.underlying69 Try.underlying3 (zeroI _) w2.heap.size k D rfl (hown.alloc _) _ _ rfl hkey ?_; intro c0 hat0 hwc0; rw [HH.out]; have HAT0 := Lib.hid hat0; clear hat0 hwc0)
          go_roundw
          case rel => exact ⟨k + 1, _, by omega, by go_num, (hown.alloc _).mono (by omega), by show Agr D _; rw [HR.out]; exact HD.out, hbel.alloc hsz2 _⟩
          case measure => simp [intOf]; omega
        | none =>
          have HR : Hid (∀ y, mapTo L (k + 1) y = if y = x then some k else mapTo L k y) := by
            show ∀ y, _
            intro y
            rw [HMN.out]
            unfold stepM
            rw [if_neg hdr, ← HX.out, hp]
            rfl
          have hhas : Maps.has D (kl x) = false := by rw [(HD.out.2 x).1, hp]; rfl
          have HH := Lib.hid hhas
          clear hhas hdr hdr' hp
          go_wp2_with (first | (at_lookup; refine wpList_lookup_own_ok_int _ rfl _ _ 69 rfl 9 3 .i64 lawS Try.underlying69 Try.underlying3 (zeroI _) w2.heap.size k D rfl (hown.alloc _) _ _ rfl hkey ?_; intro c0 hat0 hwc0; rw [HH.out]; have HAT0 := Lib.hid hat0; clear hat0 hwc0) | (at_mapUpdate; refine wpList_mapUpdate_own _ rfl _ _ _ 69 rfl 9 3 lawS Try.underlying69 _ w2.heap.size k D rfl (hown.alloc _) (by unfold maxLen; omega) _ _ _ rfl rfl hkey _ [] (plainElem_int Try.underlying3 (WalkArith.wf_i64 (by omega))) ?_; intro w5 hown5 hgrow5; have HO5 := Lib.hid hown5; have HT5 := Lib.hid hgrow5; clear hown5 hgrow5))
          go_roundw
          case rel => exact ⟨k + 1, _, by omega, by go_num, HO5.out, HD.out.put x k HR.out, (hbel.alloc hsz2 _).grown HT5.out (by simp; omega) (fun g hg => by cases hg; exact Nat.le_refl _)⟩
          case measure => simp [intOf]; omega
    · have hge : n + m ≤ k := by omega
      obtain ⟨K, hKk⟩ : ∃ K, K = k := ⟨_, rfl⟩
      subst hKk
      have HD' := HD
      have hbm := hown.lt
      have hPL := pickN_le (mapTo L K) (nm L)
      have HPL := Lib.hid hPL
      clear hPL
      go_wp2
      go_loopw [11, 49] (fun v' i w5 => ∃ k : Nat, k ≤ n + m ∧ i = .int .i64 k ∧ Hid (w5.ownsRow (w2.heap.size + 1) 9 1 v' (pickN (mapTo L K) (nm L) k).length (sv (pickN (mapTo L K) (nm L) k))) ∧ w5.ownsMap Try.prog 9 (plainElem Try.prog 3) w2.heap.size K D ∧ Below w2.heap.size w2 w5) (fun _ i _ => n + m - (intOf i).toNat)
      case atStart => exact ⟨0, Nat.zero_le _, rfl, World.ownsRow_nil _ _ _ _, hown, hbel⟩
      case round =>
        obtain ⟨k, hk5, rfl, hrow, hown5, hbel5⟩ := hrel
        by_cases hlt5 : k < n + m
        · have hkL : k < L.length := by have := HLN.out; omega
          obtain ⟨b, off, rfl, hlb, hc0, hc1⟩ := at_step HAL.out hkL
          rename World => w5
          have hd0 := (below_cells hbel5).1 b (off + k * 2) hlb
          have hd1 := (below_cells hbel5).1 b (off + k * 2 + 1) hlb
          rw [hc0] at hd0
          rw [hc1] at hd1
          clear hc0 hc1
          obtain ⟨x, hx⟩ : ∃ x, x = L[k].2 := ⟨_, rfl⟩
          have hxn : nm L k = x := by rw [hx]; unfold nm; simp [hkL]
          have hxb : x.size ≤ maxLen := by rw [← hxn]; exact HK.out k
          rw [← hx] at hd1
          have hkey : keyOf Try.prog 9 (.string x) = some (kl x) := keyOf_string_mk Try.underlying9 hxb
          obtain ⟨y, hy⟩ : ∃ y, y = L[k].1 := ⟨_, rfl⟩
          rw [← hy] at hd0
          have HX := Lib.hid hxn
          clear hx hxn hxb hy
          have hsz5 := hbel5.size
          have hbm5 := hown5.lt
          have hp5 := HPL.out k
          have hnx : pickN (mapTo L K) (nm L) (k + 1) = if mapTo L K x = some k then pickN (mapTo L K) (nm L) k ++ [x] else pickN (mapTo L K) (nm L) k := by
            conv => lhs; unfold pickN
            rw [HX.out]
          cases hp : mapTo L K x with
          | some j =>
            have hhas : Maps.has D (kl x) = true := by rw [(HD'.out.2 x).1, hp]; rfl
            have HH := Lib.hid hhas
            have HJ : Hid (∀ c0 : Int, D.atKey (kl x) (.lit (.int .i64 0)) = .lit (.int .i64 c0) → c0 = (j : Int)) := by
              show ∀ c0 : Int, _
              intro c0 h0
              rw [(HD'.out.2 x).2 j hp] at h0
              injection h0 with h0
              injection h0 with _ h0
              exact h0.symm
            have hjlt : j ≤ K := Nat.le_of_lt (mapTo_lt L K x j hp).1
            rw [hp] at hnx
            clear hhas hp
            by_cases hjk : j = k
            · have hnx' : pickN (mapTo L K) (nm L) (k + 1) = pickN (mapTo L K) (nm L) k ++ [x] := by rw [hnx, if_pos (by rw [hjk])]
              have HNX := Lib.hid hnx'
              have hjk' : ((j : Int) == (k : Int)) = true := by rw [beq_iff_eq]; omega
              clear hnx hnx' hjk
              go_wp2_with (first | (at_lookup; refine wpList_lookup_own_ok_int _ rfl _ _ 69 rfl 9 3 .i64 lawS Try.underlying69 Try.underlying3 (zeroI _) w2.heap.size K D rfl (hown5.alloc _) _ _ rfl hkey ?_; intro c0 hat0 hwc0; rw [HH.out]; obtain rfl := HJ.out c0 hat0; clear hat0 hwc0) | (at_builtin; (refine wpList_append_own _ rfl _ _ 28 rfl (w2.heap.size + 1) 9 i0 (.string { data := #[] }) 1 16 Try.underlying28 hi hz0 hz1 hz2 rfl (by decide) _ _ _ rfl ((hrow.out.alloc _).alloc _) ⟨_, 0, none⟩ 1 1 [.string x] rfl rfl (cells_new' _ _ _ _ rfl _ (by simp)) (sv_one [x]) (by unfold maxLen; omega) (by omega) (by simp; omega) ?_; intro v1 w6 hown6 hgrow6 _hnil6; have HO6 := Lib.hid hown6; have HG6 := Lib.hid hgrow6; clear hown6 hgrow6 _hnil6)))
              go_roundw
              case rel => exact ⟨k + 1, by omega, by go_num, by show World.ownsRow _ _ _ _ _ _ _; rw [HNX.out, List.length_append, sv_app]; exact HO6.out, ((hown5.alloc _).alloc _).kept HG6.out (fun e => by have := own_from hrow.out _ e.symm; omega), ((hbel5.alloc hsz5 _).alloc (by simp; omega) _).grown HG6.out (by simp; omega) (fun g hg => by have := own_from hrow.out g hg; omega)⟩
              case measure => simp [intOf]; omega
            · have hnx' : pickN (mapTo L K) (nm L) (k + 1) = pickN (mapTo L K) (nm L) k := by rw [hnx, if_neg (by intro e; injection e; omega)]
              have HNX := Lib.hid hnx'
              have hjk' : ((j : Int) == (k : Int)) = false := by rw [beq_eq_false_iff_ne]; omega
              clear hnx hnx' hjk
              go_wp2_with (at_lookup; refine wpList_lookup_own_ok_int _ rfl _ _ 69 rfl 9 3 .i64 lawS Try.underlying69 Try.underlying3 (zeroI _) w2.heap.size K D rfl (hown5.alloc _) _ _ rfl hkey ?_; intro c0 hat0 hwc0; rw [HH.out]; obtain rfl := HJ.out c0 hat0; clear hat0 hwc0)
              go_roundw
              case rel => exact ⟨k + 1, by omega, by go_num, by show World.ownsRow _ _ _ _ _ _ _; rw [HNX.out]; exact hrow.out.alloc _, hown5.alloc _, hbel5.alloc hsz5 _⟩
              case measure => simp [intOf]; omega
          | none =>
            have hhas : Maps.has D (kl x) = false := by rw [(HD'.out.2 x).1, hp]; rfl
            have HH := Lib.hid hhas
            rw [hp, if_neg (fun h => nomatch h)] at hnx
            have HNX := Lib.hid hnx
            clear hhas hp hnx
            go_wp2_with (at_lookup; refine wpList_lookup_own_ok_int _ rfl _ _ 69 rfl 9 3 .i64 lawS Try.underlying69 Try.underlying3 (zeroI _) w2.heap.size K D rfl (hown5.alloc _) _ _ rfl hkey ?_; intro c0 hat0 hwc0; rw [HH.out];  clear hat0 hwc0)
            go_roundw
            case rel => exact ⟨k + 1, by omega, by go_num, by show World.ownsRow _ _ _ _ _ _ _; rw [HNX.out]; exact hrow.out.alloc _, hown5.alloc _, hbel5.alloc hsz5 _⟩
            case measure => simp [intOf]; omega
        · have hge2 : n + m ≤ k := by omega
          have HKK : Hid (k = K) := by show k = K; omega
          have HKN : Hid (K = n + m) := by show K = n + m; omega
          go_wp2
          go_ret
          refine ⟨_, rfl, ?_, HBW.out.trans (hbel5.mono HBW.out.size)⟩
          have h1 := own_mono hrow.out (base' := w.heap.size) (by have := HBW.out.size; omega)
          have h2 := apply_repr l steps
          rw [← HL.out, ← HN.out, ← HM.out] at h2
          rw [HKK.out, HKN.out] at h1
          rw [h2]
          exact h1
end Go.Proofs.Ytcboeehmhpkodaa
