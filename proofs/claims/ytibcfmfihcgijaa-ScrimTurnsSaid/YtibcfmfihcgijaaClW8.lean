/- Contracts of layer 3's Turn, the program's and the document's. -/
import Derived.Test.YtibcfmfihcgijaaClW7
import Derived.Test.YtibcfmfihcgijaaClTurn
namespace Go.Proofs.Ytibcfmfihcgijaa
open Go.RowKit M
def drs (l : List ByteArray) : List Stp := l.map fun c => (true, c)
theorem drs_snoc (l : List ByteArray) (c : ByteArray) : drs (l ++ [c]) = drs l ++ [(true, c)] := by simp [drs]
theorem drs_len (l : List ByteArray) : (drs l).length = l.length := by simp [drs]
theorem clean_small {l : List ByteArray} {B : Nat} (h : ∀ s ∈ l, s.size ≤ B) : ∀ s ∈ clean l, s.size ≤ B := fun s hs => h s ((mem_clean l s).1 hs)
set_option maxHeartbeats 4000000 in
set_option maxRecDepth 100000 in
theorem cturn_any (A B : Option Addr) (n c m d : Nat) (a b : List ByteArray) (w : World) (hn : n = a.length) (hm : m = b.length) (hb : n ≤ 100000) (hb2 : m ≤ 100000)
    (ha : At w A (sv a)) (hs : At w B (sv b)) (hl : ∀ s ∈ a, s.size ≤ maxLen) (hls : ∀ s ∈ b, s.size ≤ maxLen) :
    Calls Try.prog 25 #[.slice A n c, .slice B m d] w fun e w' => ∃ v, e = .returned v ∧ w'.ownsRow w.heap.size 36 2 v (turn a b).length (stv (turn a b)) ∧ Below w.heap.size w w' := by
  have HA := Lib.hid (cclean_any A n c a w hn hb ha hl)
  have HB : Hid (∀ w1 : World, Below w.heap.size w w1 → Calls Try.prog 16 #[.slice B m d] w1 fun e w' => ∃ v, e = .returned v ∧ w'.ownsRow w1.heap.size 9 1 v (clean b).length (sv (clean b)) ∧ Below w1.heap.size w1 w') :=
    fun w1 h1 => cclean_any B m d b w1 hm hb2 (hs.below h1) hls
  have hla := clean_len a
  have hlb := clean_len b
  rw [← hn] at hla
  rw [← hm] at hlb
  clear ha hs hl hls hn hm
  obtain ⟨P, hP⟩ : ∃ P, P = clean a := ⟨_, rfl⟩
  obtain ⟨R, hR⟩ : ∃ R, R = clean b := ⟨_, rfl⟩
  have HT : Hid (turn a b = drs (gd P R) ++ addsOf (R.drop (gk P R))) := by show turn a b = _; rw [hP, hR]; rfl
  rw [← hP] at hla HA
  rw [← hR] at hlb HB
  clear hP hR
  obtain ⟨i1, hi', hz0', hz1', hz2'⟩ := info_parts infoStep
  go_enter Try.func25, Try.ntmps25
  go_wp2_with (first | (go_at_call 16; (with_reducible refine HA.out.mono ?_); rintro e w1 ⟨v, rfl, hown, hbel⟩; obtain ⟨A1, c1, rfl, hc1, hm1, hat1⟩ := at_of_own hown; have HAT1 := Lib.hid hat1; have HB1 := Lib.hid hbel; clear hown hbel hat1) | (go_at_call 16; (with_reducible refine (HB.out _ HB1.out).mono ?_); rintro e w2 ⟨v2, rfl, hown2, hbel2⟩; obtain ⟨A2, c2, rfl, hc2, hm2, hat2⟩ := at_of_own hown2; have HAT2 := Lib.hid hat2; have HB2 := Lib.hid hbel2; clear hown2 hbel2 hat2))
  have HAP : Hid (At w2 A1 (sv P)) := HAT1.out.below HB2.out
  have HBW : Hid (Below w.heap.size w w2) := HB1.out.trans (HB2.out.mono HB1.out.size)
  go_loopw [5, 6, 15] (fun v q i wr => ∃ k : Nat, k ≤ P.length ∧ i = .int .i64 k ∧ q = .int .i64 (gk (P.take k) R : Nat) ∧ Hid (wr.ownsRow w2.heap.size 36 2 v (gd (P.take k) R).length (stv (drs (gd (P.take k) R)))) ∧ Below w2.heap.size w2 wr) (fun _ _ i _ => P.length - (intOf i).toNat)
  case atStart => exact ⟨0, Nat.zero_le _, rfl, rfl, World.ownsRow_nil _ _ _ _, Below.refl _ _⟩
  case round =>
    obtain ⟨k, hk, rfl, rfl, hown, hbel⟩ := hrel
    have hg1 := gk_le (P.take k) R
    have hg2 := gd_len (P.take k) R
    have hg3 : (P.take k).length ≤ k := List.length_take_le _ _
    by_cases hlt : k < P.length
    · obtain ⟨b1, o1, rfl, hlb1, hc10⟩ := HAP.out.one (sv_at P k hlt)
      rename World => wr
      have hc1' := (below_cells hbel).1 b1 (o1 + k) hlb1
      rw [hc10] at hc1'
      clear hc10
      have hgs := gk_snoc (P.take k) R P[k]
      have hds := gd_snoc (P.take k) R P[k]
      rw [← take_next P k hlt] at hgs hds
      obtain ⟨x, hx⟩ : ∃ x, x = P[k] := ⟨_, rfl⟩
      rw [← hx] at hgs hds hc1'
      clear hx
      obtain ⟨G, hG⟩ : ∃ G, G = gk (P.take k) R := ⟨_, rfl⟩
      rw [← hG] at hgs hds hg1 hg2
      have HG := Lib.hid hG
      have hsz := hbel.size
      rw [← hG]
      clear hG
      by_cases hgr : G < R.length
      · obtain ⟨b2, o2, rfl, hlb2, hc20⟩ := HAT2.out.one (sv_at R G hgr)
        have hc2' := (below_cells hbel).1 b2 (o2 + G) hlb2
        rw [hc20] at hc2'
        clear hc20
        have hge : R[G]? = some R[G] := List.getElem?_eq_getElem hgr
        obtain ⟨y, hy⟩ : ∃ y, y = R[G] := ⟨_, rfl⟩
        rw [← hy] at hc2' hge
        clear hy
        rw [hge] at hgs hds
        clear hge
        by_cases hxy : x = y
        · have h1 := str_yes hxy
          have HN1 : Hid (gk (P.take (k + 1)) R = G + 1) := by show _ = _; rw [hgs, if_pos (by rw [hxy])]
          have HN2 : Hid (gd (P.take (k + 1)) R = gd (P.take k) R) := by show _ = _; rw [hds, if_pos (by rw [hxy])]
          clear hxy hgs hds
          go_wp2
          go_roundw
          case rel => exact ⟨k + 1, by omega, by go_num, by rw [HN1.out]; go_num, by show World.ownsRow _ _ _ _ _ _ _; rw [HN2.out]; exact hown.out, hbel⟩
          case measure => simp [intOf]; omega
        · have h1 := str_no hxy
          have HN1 : Hid (gk (P.take (k + 1)) R = G) := by show _ = _; rw [hgs, if_neg (by intro e; injection e with e; exact hxy e.symm)]
          have HN2 : Hid (gd (P.take (k + 1)) R = gd (P.take k) R ++ [x]) := by show _ = _; rw [hds, if_neg (by intro e; injection e with e; exact hxy e.symm)]
          clear hxy hgs hds
          go_wp2_with (at_builtin; refine wpList_append_own _ rfl _ _ 30 rfl w2.heap.size 36 i1 (.agg #[.bool false, .string { data := #[] }]) 2 24 Try.underlying30 hi' hz0' hz1' hz2' rfl (by decide) _ _ _ rfl (hown.out.alloc _) ⟨_, 0, none⟩ 1 1 [.bool true, .string x] rfl rfl (cells_new _ _ _ _ rfl) (stv_one [(true, x)]) (by unfold maxLen; omega) (by omega) (by simp; omega) ?_; intro v1 w5 hown1 hgrow1 _hnil1; have HO := Lib.hid hown1; have HG1 := Lib.hid hgrow1; clear hown1 hgrow1 _hnil1)
          go_roundw
          case rel => exact ⟨k + 1, by omega, by go_num, by rw [HN1.out], by show World.ownsRow _ _ _ _ _ _ _; rw [HN2.out, drs_snoc, stv_app, List.length_append]; exact HO.out, (hbel.alloc hsz _).grown HG1.out (by simp; omega) (own_from hown.out)⟩
          case measure => simp [intOf]; omega
      · have hge : R[G]? = none := List.getElem?_eq_none (by omega)
        rw [hge, if_neg (fun h => nomatch h)] at hgs hds
        have HN1 := Lib.hid hgs
        have HN2 := Lib.hid hds
        clear hgs hds hge
        go_wp2_with (at_builtin; refine wpList_append_own _ rfl _ _ 30 rfl w2.heap.size 36 i1 (.agg #[.bool false, .string { data := #[] }]) 2 24 Try.underlying30 hi' hz0' hz1' hz2' rfl (by decide) _ _ _ rfl (hown.out.alloc _) ⟨_, 0, none⟩ 1 1 [.bool true, .string x] rfl rfl (cells_new _ _ _ _ rfl) (stv_one [(true, x)]) (by unfold maxLen; omega) (by omega) (by simp; omega) ?_; intro v1 w5 hown1 hgrow1 _hnil1; have HO := Lib.hid hown1; have HG1 := Lib.hid hgrow1; clear hown1 hgrow1 _hnil1)
        go_roundw
        case rel => exact ⟨k + 1, by omega, by go_num, by rw [HN1.out], by show World.ownsRow _ _ _ _ _ _ _; rw [HN2.out, drs_snoc, stv_app, List.length_append]; exact HO.out, (hbel.alloc hsz _).grown HG1.out (by simp; omega) (own_from hown.out)⟩
        case measure => simp [intOf]; omega
    · have HK : Hid (P.take k = P) := List.take_of_length_le (by omega)
      have hsz := hbel.size
      rw [HK.out] at hg1 hg2 hown
      rw [HK.out]
      obtain ⟨G, hG⟩ : ∃ G, G = gk P R := ⟨_, rfl⟩
      rw [← hG] at hg1 hg2
      rw [← hG]
      have HGG := Lib.hid hG
      clear hG
      have HL1 : Hid (R.length - G = (R.drop G).length) := by show _ = _; simp
      have hl1 : (R.drop G).length ≤ R.length := by simp
      have HC : Hid (At wr (if c2 = G then A2 else A2.map (fun x => x.add G)) (sv (R.drop G))) := by show At _ _ _; rw [sv_drop]; exact (HAT2.out.below hbel).cut G c2 (by rw [sv_len]; exact hc2)
      have HC1 : Hid (c2 = G → At wr A2 (sv (R.drop G))) := fun e => by have h := HC.out; rw [if_pos e] at h; exact h
      have HC2 : Hid (¬ c2 = G → At wr (A2.map (fun x => x.add G)) (sv (R.drop G))) := fun e => by have h := HC.out; rw [if_neg e] at h; exact h
      go_wp2_with (first | (go_at_call 46; (with_reducible refine (adds_any A2 _ _ (R.drop G) _ HL1.out (by omega) (HC1.out (by assumption))).mono ?_); rintro e w6 ⟨v6, rfl, hown6, hbel6⟩; obtain ⟨A6, c6, rfl, hc6, hm6, hat6⟩ := at_of_own hown6; have HAN6 := Lib.hid (own_addr hown6); have HAT6 := Lib.hid hat6; have HB6 := Lib.hid hbel6; have hsz6 := hbel6.size; clear hown6 hbel6 hat6) | (go_at_call 46; (with_reducible refine (adds_any (A2.map (fun x => x.add G)) _ _ (R.drop G) _ HL1.out (by omega) (HC2.out (by assumption))).mono ?_); rintro e w6 ⟨v6, rfl, hown6, hbel6⟩; obtain ⟨A6, c6, rfl, hc6, hm6, hat6⟩ := at_of_own hown6; have HAN6 := Lib.hid (own_addr hown6); have HAT6 := Lib.hid hat6; have HB6 := Lib.hid hbel6; have hsz6 := hbel6.size; clear hown6 hbel6 hat6) | (at_builtin; refine wpList_append_at rfl _ _ 30 rfl w2.heap.size 36 i1 _ 2 24 Try.underlying30 hi' hz0' hz1' hz2' rfl (by decide) _ _ _ rfl (own_below hown.out HB6.out) A6 _ c6 (stv (addsOf (R.drop G))) rfl HAN6.out (by rw [stv_len, HL1.out]; simp [addsOf]) HAT6.out (stv_one _) (by unfold maxLen; omega) (by omega) (by omega) ?_; intro v7 w7 hown7 hgrow7; have HO7 := Lib.hid hown7; have HG7 := Lib.hid hgrow7; clear hown7 hgrow7))
      all_goals
        go_ret
        refine ⟨_, rfl, ?_, HBW.out.trans ((hbel.trans (HB6.out.mono hsz)).grown HG7.out (by omega) (own_from (own_below hown.out HB6.out)) |>.mono HBW.out.size)⟩
        have h1 := own_mono HO7.out (base' := w.heap.size) HBW.out.size
        rw [HT.out, stv_app, List.length_append, drs_len]
        have h2 : (addsOf (R.drop (gk P R))).length = R.length - G := by rw [HL1.out, ← HGG.out]; simp [addsOf]
        rw [h2, ← HGG.out]
        exact h1
end Go.Proofs.Ytibcfmfihcgijaa
