/- Plain facts for texts: numerals tell their numbers apart, and a map of texts is the map of what is told. -/
import Derived.Test.YtibcfmfihcgijaaDoorPrMath
import Derived.Lib.ItoaMem
import Derived.Test.YtibcfmfihcgijaaDoorPrV1
import Derived.Test.YtibcfmfihcgijaaDoorPrW3
import Derived.Test.YtibcfmfihcgijaaDoorPrS6
import Derived.Test.YtibcfmfihcgijaaDoorPrSC
import Derived.Test.YtibcfmfihcgijaaDoorPrU3
import Derived.Test.YtibcfmfihcgijaaDoorMgB
import Derived.Test.YtibcfmfihcgijaaDoorPrSA
import Derived.Test.YtibcfmfihcgijaaDoorMgA
import Derived.Test.YtibcfmfihcgijaaDoorRows
import Derived.Lib.LaidTab
import Derived.MakeChecks
import Derived.Stop.LaidErr
namespace Go.Proofs.YtibcfmfihcgijaaDoor.M
def valT (l : List UInt8) : Nat := l.foldl (fun n c => n * 10 + (c.toNat - 48)) 0
theorem valT_snoc (l : List UInt8) (c : UInt8) : valT (l ++ [c]) = valT l * 10 + (c.toNat - 48) := by simp [valT, List.foldl_append]
theorem dec_stepT (u : Nat) (h : 10 ≤ u) : Lib.decDigits u = Lib.decDigits (u / 10) ++ [UInt8.ofNat (48 + u % 10)] := by
  rw [Lib.decDigits, dif_neg (by omega)]
theorem valT_dec (u : Nat) : valT (Lib.decDigits u) = u ∧ ∀ c ∈ Lib.decDigits u, 48 ≤ c.toNat := by
  induction u using Nat.strongRecOn with
  | _ u ih =>
    by_cases h : u < 10
    · rw [Lib.decDigits_one h]
      have e : (UInt8.ofNat (48 + u)).toNat = 48 + u := by simp; omega
      constructor
      · simp only [valT, List.foldl_cons, List.foldl_nil, e]; omega
      · intro c hc; rw [List.mem_singleton.1 hc, e]; omega
    · obtain ⟨h1, h2⟩ := ih (u / 10) (by omega)
      rw [dec_stepT u (by omega)]
      have e : (UInt8.ofNat (48 + u % 10)).toNat = 48 + u % 10 := by simp; omega
      constructor
      · rw [valT_snoc, h1, e]; omega
      · intro c hc
        rcases List.mem_append.1 hc with h | h
        · exact h2 c h
        · rw [List.mem_singleton.1 h, e]; omega
theorem itoa_inj {a b : Int} (h : Lib.itoa a = Lib.itoa b) : a = b := by
  have key : ∀ u : Nat, ∀ l : List UInt8, Lib.decDigits u ≠ 45 :: l := fun u l e => by
    have := (valT_dec u).2 45 (by rw [e]; exact List.mem_cons_self)
    revert this; decide
  unfold Lib.itoa at h
  split at h <;> split at h
  · injection h with _ h
    have := congrArg valT h
    rw [(valT_dec _).1, (valT_dec _).1] at this
    omega
  · exact absurd h.symm (key _ _)
  · exact absurd h (key _ _)
  · have := congrArg valT h
    rw [(valT_dec _).1, (valT_dec _).1] at this
    omega
section
variable {V U : Type} (f : V → U)
def mapV (l : List (BA × V)) : List (BA × U) := l.map fun p => (p.1, f p.2)
theorem setP_mapV (m : List (BA × V)) (p : BA × V) : setP (mapV f m) (p.1, f p.2) = mapV f (setP m p) := by
  induction m with
  | nil => rfl
  | cons q m ih =>
    show setP ((q.1, f q.2) :: mapV f m) (p.1, f p.2) = _
    unfold setP
    simp only []
    split
    · rfl
    · split
      · rfl
      · rw [ih]; rfl
theorem ofP_mapV (l : List (BA × V)) : ofP (mapV f l) = mapV f (ofP l) := by
  have h : ∀ (l : List (BA × V)) (m : List (BA × V)), (mapV f l).foldl setP (mapV f m) = mapV f (l.foldl setP m) := by
    intro l
    induction l with
    | nil => intro m; rfl
    | cons p l ih =>
      intro m
      show (mapV f l).foldl setP (setP (mapV f m) (p.1, f p.2)) = _
      rw [setP_mapV, ih]; rfl
  exact h l []
theorem getP_mapV (l : List (BA × V)) (x : BA) : getP (mapV f l) x = (getP l x).map f := by
  have h : ∀ (l : List (BA × V)) (acc : Option V), (mapV f l).foldl (fun acc p => if p.1 = x then some p.2 else acc) (acc.map f) = (l.foldl (fun acc p => if p.1 = x then some p.2 else acc) acc).map f := by
    intro l
    induction l with
    | nil => intro acc; rfl
    | cons p l ih =>
      intro acc
      show (mapV f l).foldl _ (if p.1 = x then some (f p.2) else acc.map f) = _
      rw [List.foldl_cons, ← ih]
      congr 1
      split <;> rfl
  exact h l none
theorem mapV_inj (hf : ∀ a b, f a = f b → a = b) {l m : List (BA × V)} (h : mapV f l = mapV f m) : l = m := by
  refine List.map_inj_right (f := fun p : BA × V => (p.1, f p.2)) ?_ |>.1 h
  rintro ⟨x, a⟩ ⟨y, b⟩ e
  injection e with e1 e2
  exact Prod.ext e1 (hf _ _ e2)
end
end Go.Proofs.YtibcfmfihcgijaaDoor.M
/- The walk of PropsSame. -/
namespace Go.Proofs.YtibcfmfihcgijaaDoor
open Go.RowKit M
theorem fewP_wf {l : List Par} {k : Nat} (h : ∀ p ∈ l, (Lit.int .i64 p.2).wf = true) : ∀ p ∈ fewP l k, (Lit.int .i64 p.2).wf = true := by
  intro p hp
  obtain ⟨q, hq, rfl⟩ := List.mem_map.1 hp
  exact h q (List.mem_of_mem_take hq)
theorem itoaB_inj (a b : Int) (h : itoaB a = itoaB b) : a = b := by
  unfold itoaB at h
  injection h with h
  exact itoa_inj (by simpa using congrArg Array.toList h)
theorem texts_of (l : List Par) : ofP (textsOf l) = textsOf (ofP l) := ofP_mapV itoaB l
theorem texts_same (a b : List Par) : decide (ofP (textsOf a) = ofP (textsOf b)) = decide (ofP a = ofP b) := by
  rw [texts_of, texts_of, decide_eq_decide]
  exact ⟨fun h => mapV_inj itoaB itoaB_inj h, fun h => by rw [h]⟩
set_option maxHeartbeats 4000000 in
set_option maxRecDepth 100000 in
theorem propsSame_any (A B : Option Addr) (n c m d : Nat) (a b : List Par) (w : World) (hn : n = a.length) (hm : m = b.length) (hb : n ≤ maxLen) (hb2 : m ≤ maxLen) (ha : At w A (pv a)) (hb' : At w B (pv b))
    (va : ∀ p ∈ a, (Lit.int .i64 p.2).wf = true) (vb : ∀ p ∈ b, (Lit.int .i64 p.2).wf = true) (ht : Tab w) :
    Calls Tryd.prog 4 #[.slice A n c, .slice B m d] w fun e w' => e = .returned (.bool true) ∧ RowKit.Below w.heap.size w w' := by
  have HF1 : Hid (∀ w1 : World, RowKit.Below w.heap.size w w1 → Calls Tryd.prog 7 #[.slice A n c, .int .i64 10] w1 fun e w' => ∃ v, e = .returned v ∧ w'.ownsRow w1.heap.size 38 2 v (fewP a 10).length (pv (fewP a 10)) ∧ RowKit.Below w1.heap.size w1 w') := fun w1 h => few4_any A n c 10 a w1 hn hb (by omega) (by omega) (ha.below h)
  have HF2 : Hid (∀ w1 : World, RowKit.Below w.heap.size w w1 → Calls Tryd.prog 7 #[.slice B m d, .int .i64 10] w1 fun e w' => ∃ v, e = .returned v ∧ w'.ownsRow w1.heap.size 38 2 v (fewP b 10).length (pv (fewP b 10)) ∧ RowKit.Below w1.heap.size w1 w') := fun w1 h => few4_any B m d 10 b w1 hm hb2 (by omega) (by omega) (hb'.below h)
  have hl1 := fewP_len a 10
  have hl2 := fewP_len b 10
  have HVX := Lib.hid (fewP_wf (k := 10) va)
  have HVY := Lib.hid (fewP_wf (k := 10) vb)
  have HT := Lib.hid ht
  clear ha hb' hn hm hb hb2 va vb ht
  generalize fewP a 10 = X at hl1 HF1 HVX
  generalize fewP b 10 = Y at hl2 HF2 HVY
  have hr1 := ofP_len X
  have hr2 := ofP_len Y
  have HOO : Hid (decide (ofP X = ofP (ofP X)) = true) := by show _ = _; rw [ofP_of (ofP_rises X)]; simp
  go_enter Tryd.func4, Tryd.ntmps4
  go_wp2_with fail
  refine (awake4_any _).mono ?_
  rintro e w1 ⟨rfl, hb1⟩
  have HB1 := Lib.hid hb1
  clear hb1
  go_wp2_with fail
  refine (HF1.out w1 HB1.out).mono ?_
  rintro e w2 ⟨v2, rfl, hown2, hb2⟩
  obtain ⟨A2, c2, rfl, _, _, hat2⟩ := at_of_own' hown2
  have HAT2 := Lib.hid hat2
  have HAN2 := Lib.hid (own_addr hown2)
  have HC2 := Lib.hid hb2
  have HB2 := Lib.hid (HB1.out.trans (hb2.mono HB1.out.size))
  clear hown2 hat2 hb2
  go_wp2_with fail
  refine (HF2.out w2 HB2.out).mono ?_
  rintro e w3 ⟨v3, rfl, hown3, hb3⟩
  obtain ⟨A3, c3, rfl, _, _, hat3⟩ := at_of_own' hown3
  have HAT3 := Lib.hid hat3
  have HAN3 := Lib.hid (own_addr hown3)
  have HC3 := Lib.hid hb3
  have HB3 := Lib.hid (HB2.out.trans (hb3.mono HB2.out.size))
  clear hown3 hat3 hb3
  go_wp2_with fail
  refine (rof_any A2 _ c2 X _ rfl (by omega) (HAT2.out.below HC3.out)).mono ?_
  rintro e w4 ⟨v4, rfl, hown4, hb4⟩
  obtain ⟨A4, c4, rfl, _, _, hat4⟩ := at_of_own' hown4
  have HAT4 := Lib.hid hat4
  have HAN4 := Lib.hid (own_addr hown4)
  have HC4 := Lib.hid hb4
  have HB4 := Lib.hid (HB3.out.trans (hb4.mono HB3.out.size))
  clear hown4 hat4 hb4
  go_wp2_with fail
  refine (rof_any A3 _ c3 Y _ rfl (by omega) (HAT3.out.below HC4.out)).mono ?_
  rintro e w5 ⟨v5, rfl, hown5, hb5⟩
  obtain ⟨A5, c5, rfl, _, _, hat5⟩ := at_of_own' hown5
  have HAT5 := Lib.hid hat5
  have HAN5 := Lib.hid (own_addr hown5)
  have HC5 := Lib.hid hb5
  have HB5 := Lib.hid (HB4.out.trans (hb5.mono HB4.out.size))
  clear hown5 hat5 hb5

  have HX5 := Lib.hid (((HAT2.out.below HC3.out).below HC4.out).below HC5.out)
  have HY5 := Lib.hid ((HAT3.out.below HC4.out).below HC5.out)
  have HR5 := Lib.hid (HAT4.out.below HC5.out)
  have HS5 := Lib.hid HAT5.out
  clear HAT2 HAT3 HAT4 HAT5 HAN2 HAN3 HAN4 HAN5 HC2 HC3 HC4 HC5 HB1 HB2 HB3 HB4 HF1 HF2
  obtain ⟨R, hR⟩ : ∃ R, R = ofP X := ⟨_, rfl⟩
  obtain ⟨S, hS⟩ : ∃ S, S = ofP Y := ⟨_, rfl⟩
  have HVAL0 : Hid (decide (ofP X = ofP Y) = decide (R = S)) := by show _ = _; rw [hR, hS]
  rw [← hR] at hr1 HR5
  rw [← hS] at hr2 HS5
  rw [← hR, ← hS]
  clear hR hS
  obtain ⟨nr, hnr⟩ : ∃ nr, nr = R.length := ⟨_, rfl⟩
  obtain ⟨ns, hns⟩ : ∃ ns, ns = S.length := ⟨_, rfl⟩
  rw [← hnr] at hr1
  rw [← hns] at hr2
  rw [← hnr, ← hns]
  have HNR := Lib.hid hnr
  have HNS := Lib.hid hns
  clear hnr hns
  by_cases hl : nr = ns
  · subst hl
    go_wp2
    go_loopw [7, 8] (fun s i wr => ∃ (k q : Nat) (f : Bool), k ≤ nr ∧ i = .int .i64 k ∧ s = .bool f ∧ wr = w5.drewN q ∧ Hid (f = decide (R.take k = S.take k)) ∧ Hid (f = false → R ≠ S)) (fun _ i _ => nr - (intOf i).toNat)
    case atStart => exact ⟨0, 0, true, Nat.zero_le _, rfl, by simp, rfl, by show _ = _; simp, fun h => nomatch h⟩
    case round =>
      obtain ⟨k, q, f, hk, rfl, rfl, rfl, hf, hne⟩ := hrel
      cases f with
      | false =>
        have HVAL : Hid (decide (ofP X = ofP Y) = false) := by show _ = _; rw [HVAL0.out]; exact decide_eq_false (hne.out rfl)
        have HBL := Lib.hid (drewN_below' HB5.out q)
        have HDL := Lib.hid (drewN_below' (Below.refl w5.heap.size w5) q)

        clear hf hne
        by_cases hlt : k < nr
        · have hki : (k : Int) < (nr : Int) := by omega
          have HRS : Hid (decide (ofP X = ofP Y) = false) := HVAL
          have HTS : Hid (decide (ofP (textsOf X) = ofP (textsOf Y)) = false) := by show _ = _; rw [texts_same]; exact HVAL
          go_wp2_with fail
          refine (own4_any A2 _ c2 X _ rfl (by omega) (HX5.out.below HDL.out)).mono ?_
          rintro e w6 ⟨v6, rfl, hown6, hb6⟩
          obtain ⟨A6, c6, rfl, _, _, hat6⟩ := at_of_own' hown6
          have HAT6 := Lib.hid hat6
          have HAN6 := Lib.hid (own_addr hown6)
          have HC6 := Lib.hid hb6
          have HB6 := Lib.hid (HBL.out.trans (hb6.mono HBL.out.size))
          have HD6 := Lib.hid (HDL.out.trans (hb6.mono HDL.out.size))
          clear hown6 hat6 hb6
          go_wp2_with fail
          refine (own4_any A3 _ c3 Y _ rfl (by omega) (HY5.out.below HD6.out)).mono ?_
          rintro e w7 ⟨v7, rfl, hown7, hb7⟩
          obtain ⟨A7, c7, rfl, _, _, hat7⟩ := at_of_own' hown7
          have HAT7 := Lib.hid hat7
          have HAN7 := Lib.hid (own_addr hown7)
          have HC7 := Lib.hid hb7
          have HB7 := Lib.hid (HB6.out.trans (hb7.mono HB6.out.size))
          have HD7 := Lib.hid (HD6.out.trans (hb7.mono HD6.out.size))
          clear hown7 hat7 hb7
          go_wp2_with fail
          refine (same_map A6 A7 _ c6 _ c7 X Y _ rfl rfl (by omega) (by omega) HAN6.out HAN7.out (HAT6.out.below HC7.out) HAT7.out).mono ?_
          rintro e w8 ⟨rfl, hb8⟩
          have HC8 := Lib.hid hb8
          have HB8 := Lib.hid (HB7.out.trans (hb8.mono HB7.out.size))
          have HD8 := Lib.hid (HD7.out.trans (hb8.mono HD7.out.size))
          clear hb8
          rw [HRS.out]
          go_wp2_with fail
          refine (texts_any A2 _ c2 X _ rfl (by omega) (HX5.out.below HD8.out) HVX.out (tab_below HT.out HB8.out)).mono ?_
          rintro e w9 ⟨v9, rfl, hown9, hb9⟩
          obtain ⟨A9, c9, rfl, _, _, hat9⟩ := at_of_own' hown9
          have HAT9 := Lib.hid hat9
          have HAN9 := Lib.hid (own_addr hown9)
          have HC9 := Lib.hid hb9
          have HB9 := Lib.hid (HB8.out.trans (hb9.mono HB8.out.size))
          have HD9 := Lib.hid (HD8.out.trans (hb9.mono HD8.out.size))
          clear hown9 hat9 hb9
          go_wp2_with fail
          refine (texts_any A3 _ c3 Y _ rfl (by omega) (HY5.out.below HD9.out) HVY.out (tab_below HT.out HB9.out)).mono ?_
          rintro e w10 ⟨v10, rfl, hown10, hb10⟩
          obtain ⟨A10, c10, rfl, _, _, hat10⟩ := at_of_own' hown10
          have HAT10 := Lib.hid hat10
          have HAN10 := Lib.hid (own_addr hown10)
          have HC10 := Lib.hid hb10
          have HB10 := Lib.hid (HB9.out.trans (hb10.mono HB9.out.size))
          have HD10 := Lib.hid (HD9.out.trans (hb10.mono HD9.out.size))
          clear hown10 hat10 hb10
          go_wp2_with fail
          refine (same_mapS A9 A10 _ c9 _ c10 (textsOf X) (textsOf Y) _ (textsOf_len X).symm (textsOf_len Y).symm (by omega) (by omega) HAN9.out HAN10.out (HAT9.out.below HC10.out) HAT10.out).mono ?_
          rintro e w11 ⟨rfl, hb11⟩
          have HC11 := Lib.hid hb11
          have HB11 := Lib.hid (HB10.out.trans (hb11.mono HB10.out.size))
          have HD11 := Lib.hid (HD10.out.trans (hb11.mono HD10.out.size))
          clear hb11
          rw [HTS.out]
          go_wp2_with fail
          refine (own4_any A2 _ c2 X _ rfl (by omega) (HX5.out.below HD11.out)).mono ?_
          rintro e w12 ⟨v12, rfl, hown12, hb12⟩
          obtain ⟨A12, c12, rfl, _, _, hat12⟩ := at_of_own' hown12
          have HAT12 := Lib.hid hat12
          have HAN12 := Lib.hid (own_addr hown12)
          have HC12 := Lib.hid hb12
          have HB12 := Lib.hid (HB11.out.trans (hb12.mono HB11.out.size))
          have HD12 := Lib.hid (HD11.out.trans (hb12.mono HD11.out.size))
          clear hown12 hat12 hb12
          go_wp2_with fail
          refine (own4_any A2 _ c2 X _ rfl (by omega) (HX5.out.below HD12.out)).mono ?_
          rintro e w13 ⟨v13, rfl, hown13, hb13⟩
          obtain ⟨A13, c13, rfl, _, _, hat13⟩ := at_of_own' hown13
          have HAT13 := Lib.hid hat13
          have HAN13 := Lib.hid (own_addr hown13)
          have HC13 := Lib.hid hb13
          have HB13 := Lib.hid (HB12.out.trans (hb13.mono HB12.out.size))
          have HD13 := Lib.hid (HD12.out.trans (hb13.mono HD12.out.size))
          clear hown13 hat13 hb13
          go_wp2_with fail
          refine (of_any A13 _ c13 X _ rfl (by omega) HAN13.out HAT13.out).mono ?_
          rintro e w14 ⟨v14, rfl, hown14, hb14⟩
          obtain ⟨A14, c14, rfl, _, _, hat14⟩ := at_of_own' hown14
          have HAT14 := Lib.hid hat14
          have HAN14 := Lib.hid (own_addr hown14)
          have HC14 := Lib.hid hb14
          have HB14 := Lib.hid (HB13.out.trans (hb14.mono HB13.out.size))
          have HD14 := Lib.hid (HD13.out.trans (hb14.mono HD13.out.size))
          clear hown14 hat14 hb14
          go_wp2_with fail
          refine (same_map A12 A14 _ c12 _ c14 X (ofP X) _ rfl rfl (by omega) (by have := ofP_len X; omega) HAN12.out HAN14.out ((HAT12.out.below HC13.out).below HC14.out) HAT14.out).mono ?_
          rintro e w15 ⟨rfl, hb15⟩
          have HC15 := Lib.hid hb15
          have HB15 := Lib.hid (HB14.out.trans (hb15.mono HB14.out.size))
          have HD15 := Lib.hid (HD14.out.trans (hb15.mono HD14.out.size))
          clear hb15
          rw [HOO.out]
          go_wp2
          go_ret
          exact ⟨rfl, HB15.out⟩
        · have hki : ¬ (k : Int) < (nr : Int) := by omega
          have HRS : Hid (decide (ofP X = ofP Y) = false) := HVAL
          have HTS : Hid (decide (ofP (textsOf X) = ofP (textsOf Y)) = false) := by show _ = _; rw [texts_same]; exact HVAL
          go_wp2_with fail
          refine (own4_any A2 _ c2 X _ rfl (by omega) (HX5.out.below HDL.out)).mono ?_
          rintro e w6 ⟨v6, rfl, hown6, hb6⟩
          obtain ⟨A6, c6, rfl, _, _, hat6⟩ := at_of_own' hown6
          have HAT6 := Lib.hid hat6
          have HAN6 := Lib.hid (own_addr hown6)
          have HC6 := Lib.hid hb6
          have HB6 := Lib.hid (HBL.out.trans (hb6.mono HBL.out.size))
          have HD6 := Lib.hid (HDL.out.trans (hb6.mono HDL.out.size))
          clear hown6 hat6 hb6
          go_wp2_with fail
          refine (own4_any A3 _ c3 Y _ rfl (by omega) (HY5.out.below HD6.out)).mono ?_
          rintro e w7 ⟨v7, rfl, hown7, hb7⟩
          obtain ⟨A7, c7, rfl, _, _, hat7⟩ := at_of_own' hown7
          have HAT7 := Lib.hid hat7
          have HAN7 := Lib.hid (own_addr hown7)
          have HC7 := Lib.hid hb7
          have HB7 := Lib.hid (HB6.out.trans (hb7.mono HB6.out.size))
          have HD7 := Lib.hid (HD6.out.trans (hb7.mono HD6.out.size))
          clear hown7 hat7 hb7
          go_wp2_with fail
          refine (same_map A6 A7 _ c6 _ c7 X Y _ rfl rfl (by omega) (by omega) HAN6.out HAN7.out (HAT6.out.below HC7.out) HAT7.out).mono ?_
          rintro e w8 ⟨rfl, hb8⟩
          have HC8 := Lib.hid hb8
          have HB8 := Lib.hid (HB7.out.trans (hb8.mono HB7.out.size))
          have HD8 := Lib.hid (HD7.out.trans (hb8.mono HD7.out.size))
          clear hb8
          rw [HRS.out]
          go_wp2_with fail
          refine (texts_any A2 _ c2 X _ rfl (by omega) (HX5.out.below HD8.out) HVX.out (tab_below HT.out HB8.out)).mono ?_
          rintro e w9 ⟨v9, rfl, hown9, hb9⟩
          obtain ⟨A9, c9, rfl, _, _, hat9⟩ := at_of_own' hown9
          have HAT9 := Lib.hid hat9
          have HAN9 := Lib.hid (own_addr hown9)
          have HC9 := Lib.hid hb9
          have HB9 := Lib.hid (HB8.out.trans (hb9.mono HB8.out.size))
          have HD9 := Lib.hid (HD8.out.trans (hb9.mono HD8.out.size))
          clear hown9 hat9 hb9
          go_wp2_with fail
          refine (texts_any A3 _ c3 Y _ rfl (by omega) (HY5.out.below HD9.out) HVY.out (tab_below HT.out HB9.out)).mono ?_
          rintro e w10 ⟨v10, rfl, hown10, hb10⟩
          obtain ⟨A10, c10, rfl, _, _, hat10⟩ := at_of_own' hown10
          have HAT10 := Lib.hid hat10
          have HAN10 := Lib.hid (own_addr hown10)
          have HC10 := Lib.hid hb10
          have HB10 := Lib.hid (HB9.out.trans (hb10.mono HB9.out.size))
          have HD10 := Lib.hid (HD9.out.trans (hb10.mono HD9.out.size))
          clear hown10 hat10 hb10
          go_wp2_with fail
          refine (same_mapS A9 A10 _ c9 _ c10 (textsOf X) (textsOf Y) _ (textsOf_len X).symm (textsOf_len Y).symm (by omega) (by omega) HAN9.out HAN10.out (HAT9.out.below HC10.out) HAT10.out).mono ?_
          rintro e w11 ⟨rfl, hb11⟩
          have HC11 := Lib.hid hb11
          have HB11 := Lib.hid (HB10.out.trans (hb11.mono HB10.out.size))
          have HD11 := Lib.hid (HD10.out.trans (hb11.mono HD10.out.size))
          clear hb11
          rw [HTS.out]
          go_wp2_with fail
          refine (own4_any A2 _ c2 X _ rfl (by omega) (HX5.out.below HD11.out)).mono ?_
          rintro e w12 ⟨v12, rfl, hown12, hb12⟩
          obtain ⟨A12, c12, rfl, _, _, hat12⟩ := at_of_own' hown12
          have HAT12 := Lib.hid hat12
          have HAN12 := Lib.hid (own_addr hown12)
          have HC12 := Lib.hid hb12
          have HB12 := Lib.hid (HB11.out.trans (hb12.mono HB11.out.size))
          have HD12 := Lib.hid (HD11.out.trans (hb12.mono HD11.out.size))
          clear hown12 hat12 hb12
          go_wp2_with fail
          refine (own4_any A2 _ c2 X _ rfl (by omega) (HX5.out.below HD12.out)).mono ?_
          rintro e w13 ⟨v13, rfl, hown13, hb13⟩
          obtain ⟨A13, c13, rfl, _, _, hat13⟩ := at_of_own' hown13
          have HAT13 := Lib.hid hat13
          have HAN13 := Lib.hid (own_addr hown13)
          have HC13 := Lib.hid hb13
          have HB13 := Lib.hid (HB12.out.trans (hb13.mono HB12.out.size))
          have HD13 := Lib.hid (HD12.out.trans (hb13.mono HD12.out.size))
          clear hown13 hat13 hb13
          go_wp2_with fail
          refine (of_any A13 _ c13 X _ rfl (by omega) HAN13.out HAT13.out).mono ?_
          rintro e w14 ⟨v14, rfl, hown14, hb14⟩
          obtain ⟨A14, c14, rfl, _, _, hat14⟩ := at_of_own' hown14
          have HAT14 := Lib.hid hat14
          have HAN14 := Lib.hid (own_addr hown14)
          have HC14 := Lib.hid hb14
          have HB14 := Lib.hid (HB13.out.trans (hb14.mono HB13.out.size))
          have HD14 := Lib.hid (HD13.out.trans (hb14.mono HD13.out.size))
          clear hown14 hat14 hb14
          go_wp2_with fail
          refine (same_map A12 A14 _ c12 _ c14 X (ofP X) _ rfl rfl (by omega) (by have := ofP_len X; omega) HAN12.out HAN14.out ((HAT12.out.below HC13.out).below HC14.out) HAT14.out).mono ?_
          rintro e w15 ⟨rfl, hb15⟩
          have HC15 := Lib.hid hb15
          have HB15 := Lib.hid (HB14.out.trans (hb15.mono HB14.out.size))
          have HD15 := Lib.hid (HD14.out.trans (hb15.mono HD14.out.size))
          clear hb15
          rw [HOO.out]
          go_wp2
          go_ret
          exact ⟨rfl, HB15.out⟩
      | true =>
        have hE : Hid (R.take k = S.take k) := by show _ = _; have := hf.out; exact of_decide_eq_true this.symm
        clear hf hne
        by_cases hlt : k < nr
        · have hk1 : k < R.length := by have := HNR.out; omega
          have hk2 : k < S.length := by have := HNS.out; omega
          obtain ⟨b1, o1, rfl, hb1, hc1, hc1'⟩ := at_pair HR5.out hk1
          obtain ⟨b2, o2, rfl, hb2', hc2, hc2'⟩ := at_pair HS5.out hk2
          have hst0 := take_next R k hk1
          have hst1 := take_next S k hk2
          obtain ⟨p, hp⟩ : ∃ p, p = R[k] := ⟨_, rfl⟩
          obtain ⟨r, hr⟩ : ∃ r, r = S[k] := ⟨_, rfl⟩
          rw [← hp] at hc1 hc1' hst0
          rw [← hr] at hc2 hc2' hst1
          have HP := Lib.hid hp
          have HRR := Lib.hid hr
          have H0 := Lib.hid hst0
          have H1 := Lib.hid hst1
          clear hp hr hst0 hst1
          obtain ⟨s, u⟩ := p
          obtain ⟨t, v⟩ := r
          by_cases hst : s = t
          · have h1 := str_yes hst
            have HX := Lib.hid hst
            clear hst
            by_cases huv : u = v
            · have h2 : (u == v) = true := beq_iff_eq.2 huv
              have HV := Lib.hid huv
              clear huv
              go_wp2
              go_quiet (fail)
              go_wp2
              go_roundw
              case rel => exact ⟨k + 1, _, true, by omega, by go_num, rfl, rfl, by show true = _; rw [eq_comm, decide_eq_true_iff, H0.out, H1.out, hE.out, HX.out, HV.out], fun h => nomatch h⟩
              case measure => simp [intOf]; omega
            · have h2 : (u == v) = false := beq_eq_false_iff_ne.2 huv
              have HV := Lib.hid huv
              clear huv
              go_wp2
              go_quiet (fail)
              go_wp2
              go_roundw
              case rel => exact ⟨k + 1, _, false, by omega, by go_num, rfl, rfl, by show false = _; rw [eq_comm, decide_eq_false_iff_not, H0.out, H1.out, hE.out]; intro e; have := List.append_cancel_left e; simp at this; exact HV.out this.2, fun _ e => HV.out (by subst e; exact congrArg Prod.snd (HP.out.trans HRR.out.symm))⟩
              case measure => simp [intOf]; omega
          · have h1 := str_no hst
            have HX := Lib.hid hst
            clear hst
            go_wp2
            go_quiet (fail)
            go_wp2
            go_roundw
            case rel => exact ⟨k + 1, _, false, by omega, by go_num, rfl, rfl, by show false = _; rw [eq_comm, decide_eq_false_iff_not, H0.out, H1.out, hE.out]; intro e; have := List.append_cancel_left e; simp at this; exact HX.out this.1, fun _ e => HX.out (by subst e; exact congrArg Prod.fst (HP.out.trans HRR.out.symm))⟩
            case measure => simp [intOf]; omega
        · have HVAL : Hid (decide (ofP X = ofP Y) = true) := by
            show _ = _
            rw [HVAL0.out, decide_eq_true_iff]
            have h1 := HNR.out; have h3 := HNS.out; have h2 := hE.out
            rw [List.take_of_length_le (by omega), List.take_of_length_le (by omega)] at h2
            exact h2
          have hki : ¬ (k : Int) < (nr : Int) := by omega
          have HBL := Lib.hid (drewN_below' HB5.out q)
          have HDL := Lib.hid (drewN_below' (Below.refl w5.heap.size w5) q)
          have HRS : Hid (decide (ofP X = ofP Y) = true) := HVAL
          have HTS : Hid (decide (ofP (textsOf X) = ofP (textsOf Y)) = true) := by show _ = _; rw [texts_same]; exact HVAL
          go_wp2_with fail
          refine (own4_any A2 _ c2 X _ rfl (by omega) (HX5.out.below HDL.out)).mono ?_
          rintro e w6 ⟨v6, rfl, hown6, hb6⟩
          obtain ⟨A6, c6, rfl, _, _, hat6⟩ := at_of_own' hown6
          have HAT6 := Lib.hid hat6
          have HAN6 := Lib.hid (own_addr hown6)
          have HC6 := Lib.hid hb6
          have HB6 := Lib.hid (HBL.out.trans (hb6.mono HBL.out.size))
          have HD6 := Lib.hid (HDL.out.trans (hb6.mono HDL.out.size))
          clear hown6 hat6 hb6
          go_wp2_with fail
          refine (own4_any A3 _ c3 Y _ rfl (by omega) (HY5.out.below HD6.out)).mono ?_
          rintro e w7 ⟨v7, rfl, hown7, hb7⟩
          obtain ⟨A7, c7, rfl, _, _, hat7⟩ := at_of_own' hown7
          have HAT7 := Lib.hid hat7
          have HAN7 := Lib.hid (own_addr hown7)
          have HC7 := Lib.hid hb7
          have HB7 := Lib.hid (HB6.out.trans (hb7.mono HB6.out.size))
          have HD7 := Lib.hid (HD6.out.trans (hb7.mono HD6.out.size))
          clear hown7 hat7 hb7
          go_wp2_with fail
          refine (same_map A6 A7 _ c6 _ c7 X Y _ rfl rfl (by omega) (by omega) HAN6.out HAN7.out (HAT6.out.below HC7.out) HAT7.out).mono ?_
          rintro e w8 ⟨rfl, hb8⟩
          have HC8 := Lib.hid hb8
          have HB8 := Lib.hid (HB7.out.trans (hb8.mono HB7.out.size))
          have HD8 := Lib.hid (HD7.out.trans (hb8.mono HD7.out.size))
          clear hb8
          rw [HRS.out]
          go_wp2_with fail
          refine (texts_any A2 _ c2 X _ rfl (by omega) (HX5.out.below HD8.out) HVX.out (tab_below HT.out HB8.out)).mono ?_
          rintro e w9 ⟨v9, rfl, hown9, hb9⟩
          obtain ⟨A9, c9, rfl, _, _, hat9⟩ := at_of_own' hown9
          have HAT9 := Lib.hid hat9
          have HAN9 := Lib.hid (own_addr hown9)
          have HC9 := Lib.hid hb9
          have HB9 := Lib.hid (HB8.out.trans (hb9.mono HB8.out.size))
          have HD9 := Lib.hid (HD8.out.trans (hb9.mono HD8.out.size))
          clear hown9 hat9 hb9
          go_wp2_with fail
          refine (texts_any A3 _ c3 Y _ rfl (by omega) (HY5.out.below HD9.out) HVY.out (tab_below HT.out HB9.out)).mono ?_
          rintro e w10 ⟨v10, rfl, hown10, hb10⟩
          obtain ⟨A10, c10, rfl, _, _, hat10⟩ := at_of_own' hown10
          have HAT10 := Lib.hid hat10
          have HAN10 := Lib.hid (own_addr hown10)
          have HC10 := Lib.hid hb10
          have HB10 := Lib.hid (HB9.out.trans (hb10.mono HB9.out.size))
          have HD10 := Lib.hid (HD9.out.trans (hb10.mono HD9.out.size))
          clear hown10 hat10 hb10
          go_wp2_with fail
          refine (same_mapS A9 A10 _ c9 _ c10 (textsOf X) (textsOf Y) _ (textsOf_len X).symm (textsOf_len Y).symm (by omega) (by omega) HAN9.out HAN10.out (HAT9.out.below HC10.out) HAT10.out).mono ?_
          rintro e w11 ⟨rfl, hb11⟩
          have HC11 := Lib.hid hb11
          have HB11 := Lib.hid (HB10.out.trans (hb11.mono HB10.out.size))
          have HD11 := Lib.hid (HD10.out.trans (hb11.mono HD10.out.size))
          clear hb11
          rw [HTS.out]
          go_wp2_with fail
          refine (own4_any A2 _ c2 X _ rfl (by omega) (HX5.out.below HD11.out)).mono ?_
          rintro e w12 ⟨v12, rfl, hown12, hb12⟩
          obtain ⟨A12, c12, rfl, _, _, hat12⟩ := at_of_own' hown12
          have HAT12 := Lib.hid hat12
          have HAN12 := Lib.hid (own_addr hown12)
          have HC12 := Lib.hid hb12
          have HB12 := Lib.hid (HB11.out.trans (hb12.mono HB11.out.size))
          have HD12 := Lib.hid (HD11.out.trans (hb12.mono HD11.out.size))
          clear hown12 hat12 hb12
          go_wp2_with fail
          refine (own4_any A2 _ c2 X _ rfl (by omega) (HX5.out.below HD12.out)).mono ?_
          rintro e w13 ⟨v13, rfl, hown13, hb13⟩
          obtain ⟨A13, c13, rfl, _, _, hat13⟩ := at_of_own' hown13
          have HAT13 := Lib.hid hat13
          have HAN13 := Lib.hid (own_addr hown13)
          have HC13 := Lib.hid hb13
          have HB13 := Lib.hid (HB12.out.trans (hb13.mono HB12.out.size))
          have HD13 := Lib.hid (HD12.out.trans (hb13.mono HD12.out.size))
          clear hown13 hat13 hb13
          go_wp2_with fail
          refine (of_any A13 _ c13 X _ rfl (by omega) HAN13.out HAT13.out).mono ?_
          rintro e w14 ⟨v14, rfl, hown14, hb14⟩
          obtain ⟨A14, c14, rfl, _, _, hat14⟩ := at_of_own' hown14
          have HAT14 := Lib.hid hat14
          have HAN14 := Lib.hid (own_addr hown14)
          have HC14 := Lib.hid hb14
          have HB14 := Lib.hid (HB13.out.trans (hb14.mono HB13.out.size))
          have HD14 := Lib.hid (HD13.out.trans (hb14.mono HD13.out.size))
          clear hown14 hat14 hb14
          go_wp2_with fail
          refine (same_map A12 A14 _ c12 _ c14 X (ofP X) _ rfl rfl (by omega) (by have := ofP_len X; omega) HAN12.out HAN14.out ((HAT12.out.below HC13.out).below HC14.out) HAT14.out).mono ?_
          rintro e w15 ⟨rfl, hb15⟩
          have HC15 := Lib.hid hb15
          have HB15 := Lib.hid (HB14.out.trans (hb15.mono HB14.out.size))
          have HD15 := Lib.hid (HD14.out.trans (hb15.mono HD14.out.size))
          clear hb15
          rw [HOO.out]
          go_wp2
          go_ret
          exact ⟨rfl, HB15.out⟩
  · have hl' : ((nr : Int) == (ns : Int)) = false := by rw [beq_eq_false_iff_ne]; omega
    have HVAL : Hid (decide (ofP X = ofP Y) = false) := by
      show _ = _
      rw [HVAL0.out, decide_eq_false_iff_not]
      intro e; subst e; exact hl (HNR.out.trans HNS.out.symm)
    clear hl
    have HBL := HB5
    have HDL := Lib.hid (Below.refl w5.heap.size w5)
    go_wp2
    refine wp_loop_rounds 1 ?_
    rw [rounds_succ]
    by_cases hz : 0 < nr
    · have hki : (0 : Int) < (nr : Int) := by omega
      have HRS : Hid (decide (ofP X = ofP Y) = false) := HVAL
      have HTS : Hid (decide (ofP (textsOf X) = ofP (textsOf Y)) = false) := by show _ = _; rw [texts_same]; exact HVAL
      go_wp2_with fail
      refine (own4_any A2 _ c2 X _ rfl (by omega) (HX5.out.below HDL.out)).mono ?_
      rintro e w6 ⟨v6, rfl, hown6, hb6⟩
      obtain ⟨A6, c6, rfl, _, _, hat6⟩ := at_of_own' hown6
      have HAT6 := Lib.hid hat6
      have HAN6 := Lib.hid (own_addr hown6)
      have HC6 := Lib.hid hb6
      have HB6 := Lib.hid (HBL.out.trans (hb6.mono HBL.out.size))
      have HD6 := Lib.hid (HDL.out.trans (hb6.mono HDL.out.size))
      clear hown6 hat6 hb6
      go_wp2_with fail
      refine (own4_any A3 _ c3 Y _ rfl (by omega) (HY5.out.below HD6.out)).mono ?_
      rintro e w7 ⟨v7, rfl, hown7, hb7⟩
      obtain ⟨A7, c7, rfl, _, _, hat7⟩ := at_of_own' hown7
      have HAT7 := Lib.hid hat7
      have HAN7 := Lib.hid (own_addr hown7)
      have HC7 := Lib.hid hb7
      have HB7 := Lib.hid (HB6.out.trans (hb7.mono HB6.out.size))
      have HD7 := Lib.hid (HD6.out.trans (hb7.mono HD6.out.size))
      clear hown7 hat7 hb7
      go_wp2_with fail
      refine (same_map A6 A7 _ c6 _ c7 X Y _ rfl rfl (by omega) (by omega) HAN6.out HAN7.out (HAT6.out.below HC7.out) HAT7.out).mono ?_
      rintro e w8 ⟨rfl, hb8⟩
      have HC8 := Lib.hid hb8
      have HB8 := Lib.hid (HB7.out.trans (hb8.mono HB7.out.size))
      have HD8 := Lib.hid (HD7.out.trans (hb8.mono HD7.out.size))
      clear hb8
      rw [HRS.out]
      go_wp2_with fail
      refine (texts_any A2 _ c2 X _ rfl (by omega) (HX5.out.below HD8.out) HVX.out (tab_below HT.out HB8.out)).mono ?_
      rintro e w9 ⟨v9, rfl, hown9, hb9⟩
      obtain ⟨A9, c9, rfl, _, _, hat9⟩ := at_of_own' hown9
      have HAT9 := Lib.hid hat9
      have HAN9 := Lib.hid (own_addr hown9)
      have HC9 := Lib.hid hb9
      have HB9 := Lib.hid (HB8.out.trans (hb9.mono HB8.out.size))
      have HD9 := Lib.hid (HD8.out.trans (hb9.mono HD8.out.size))
      clear hown9 hat9 hb9
      go_wp2_with fail
      refine (texts_any A3 _ c3 Y _ rfl (by omega) (HY5.out.below HD9.out) HVY.out (tab_below HT.out HB9.out)).mono ?_
      rintro e w10 ⟨v10, rfl, hown10, hb10⟩
      obtain ⟨A10, c10, rfl, _, _, hat10⟩ := at_of_own' hown10
      have HAT10 := Lib.hid hat10
      have HAN10 := Lib.hid (own_addr hown10)
      have HC10 := Lib.hid hb10
      have HB10 := Lib.hid (HB9.out.trans (hb10.mono HB9.out.size))
      have HD10 := Lib.hid (HD9.out.trans (hb10.mono HD9.out.size))
      clear hown10 hat10 hb10
      go_wp2_with fail
      refine (same_mapS A9 A10 _ c9 _ c10 (textsOf X) (textsOf Y) _ (textsOf_len X).symm (textsOf_len Y).symm (by omega) (by omega) HAN9.out HAN10.out (HAT9.out.below HC10.out) HAT10.out).mono ?_
      rintro e w11 ⟨rfl, hb11⟩
      have HC11 := Lib.hid hb11
      have HB11 := Lib.hid (HB10.out.trans (hb11.mono HB10.out.size))
      have HD11 := Lib.hid (HD10.out.trans (hb11.mono HD10.out.size))
      clear hb11
      rw [HTS.out]
      go_wp2_with fail
      refine (own4_any A2 _ c2 X _ rfl (by omega) (HX5.out.below HD11.out)).mono ?_
      rintro e w12 ⟨v12, rfl, hown12, hb12⟩
      obtain ⟨A12, c12, rfl, _, _, hat12⟩ := at_of_own' hown12
      have HAT12 := Lib.hid hat12
      have HAN12 := Lib.hid (own_addr hown12)
      have HC12 := Lib.hid hb12
      have HB12 := Lib.hid (HB11.out.trans (hb12.mono HB11.out.size))
      have HD12 := Lib.hid (HD11.out.trans (hb12.mono HD11.out.size))
      clear hown12 hat12 hb12
      go_wp2_with fail
      refine (own4_any A2 _ c2 X _ rfl (by omega) (HX5.out.below HD12.out)).mono ?_
      rintro e w13 ⟨v13, rfl, hown13, hb13⟩
      obtain ⟨A13, c13, rfl, _, _, hat13⟩ := at_of_own' hown13
      have HAT13 := Lib.hid hat13
      have HAN13 := Lib.hid (own_addr hown13)
      have HC13 := Lib.hid hb13
      have HB13 := Lib.hid (HB12.out.trans (hb13.mono HB12.out.size))
      have HD13 := Lib.hid (HD12.out.trans (hb13.mono HD12.out.size))
      clear hown13 hat13 hb13
      go_wp2_with fail
      refine (of_any A13 _ c13 X _ rfl (by omega) HAN13.out HAT13.out).mono ?_
      rintro e w14 ⟨v14, rfl, hown14, hb14⟩
      obtain ⟨A14, c14, rfl, _, _, hat14⟩ := at_of_own' hown14
      have HAT14 := Lib.hid hat14
      have HAN14 := Lib.hid (own_addr hown14)
      have HC14 := Lib.hid hb14
      have HB14 := Lib.hid (HB13.out.trans (hb14.mono HB13.out.size))
      have HD14 := Lib.hid (HD13.out.trans (hb14.mono HD13.out.size))
      clear hown14 hat14 hb14
      go_wp2_with fail
      refine (same_map A12 A14 _ c12 _ c14 X (ofP X) _ rfl rfl (by omega) (by have := ofP_len X; omega) HAN12.out HAN14.out ((HAT12.out.below HC13.out).below HC14.out) HAT14.out).mono ?_
      rintro e w15 ⟨rfl, hb15⟩
      have HC15 := Lib.hid hb15
      have HB15 := Lib.hid (HB14.out.trans (hb15.mono HB14.out.size))
      have HD15 := Lib.hid (HD14.out.trans (hb15.mono HD14.out.size))
      clear hb15
      rw [HOO.out]
      go_wp2
      go_ret
      exact ⟨rfl, HB15.out⟩
    · have hki : ¬ (0 : Int) < (nr : Int) := by omega
      have HRS : Hid (decide (ofP X = ofP Y) = false) := HVAL
      have HTS : Hid (decide (ofP (textsOf X) = ofP (textsOf Y)) = false) := by show _ = _; rw [texts_same]; exact HVAL
      go_wp2_with fail
      refine (own4_any A2 _ c2 X _ rfl (by omega) (HX5.out.below HDL.out)).mono ?_
      rintro e w6 ⟨v6, rfl, hown6, hb6⟩
      obtain ⟨A6, c6, rfl, _, _, hat6⟩ := at_of_own' hown6
      have HAT6 := Lib.hid hat6
      have HAN6 := Lib.hid (own_addr hown6)
      have HC6 := Lib.hid hb6
      have HB6 := Lib.hid (HBL.out.trans (hb6.mono HBL.out.size))
      have HD6 := Lib.hid (HDL.out.trans (hb6.mono HDL.out.size))
      clear hown6 hat6 hb6
      go_wp2_with fail
      refine (own4_any A3 _ c3 Y _ rfl (by omega) (HY5.out.below HD6.out)).mono ?_
      rintro e w7 ⟨v7, rfl, hown7, hb7⟩
      obtain ⟨A7, c7, rfl, _, _, hat7⟩ := at_of_own' hown7
      have HAT7 := Lib.hid hat7
      have HAN7 := Lib.hid (own_addr hown7)
      have HC7 := Lib.hid hb7
      have HB7 := Lib.hid (HB6.out.trans (hb7.mono HB6.out.size))
      have HD7 := Lib.hid (HD6.out.trans (hb7.mono HD6.out.size))
      clear hown7 hat7 hb7
      go_wp2_with fail
      refine (same_map A6 A7 _ c6 _ c7 X Y _ rfl rfl (by omega) (by omega) HAN6.out HAN7.out (HAT6.out.below HC7.out) HAT7.out).mono ?_
      rintro e w8 ⟨rfl, hb8⟩
      have HC8 := Lib.hid hb8
      have HB8 := Lib.hid (HB7.out.trans (hb8.mono HB7.out.size))
      have HD8 := Lib.hid (HD7.out.trans (hb8.mono HD7.out.size))
      clear hb8
      rw [HRS.out]
      go_wp2_with fail
      refine (texts_any A2 _ c2 X _ rfl (by omega) (HX5.out.below HD8.out) HVX.out (tab_below HT.out HB8.out)).mono ?_
      rintro e w9 ⟨v9, rfl, hown9, hb9⟩
      obtain ⟨A9, c9, rfl, _, _, hat9⟩ := at_of_own' hown9
      have HAT9 := Lib.hid hat9
      have HAN9 := Lib.hid (own_addr hown9)
      have HC9 := Lib.hid hb9
      have HB9 := Lib.hid (HB8.out.trans (hb9.mono HB8.out.size))
      have HD9 := Lib.hid (HD8.out.trans (hb9.mono HD8.out.size))
      clear hown9 hat9 hb9
      go_wp2_with fail
      refine (texts_any A3 _ c3 Y _ rfl (by omega) (HY5.out.below HD9.out) HVY.out (tab_below HT.out HB9.out)).mono ?_
      rintro e w10 ⟨v10, rfl, hown10, hb10⟩
      obtain ⟨A10, c10, rfl, _, _, hat10⟩ := at_of_own' hown10
      have HAT10 := Lib.hid hat10
      have HAN10 := Lib.hid (own_addr hown10)
      have HC10 := Lib.hid hb10
      have HB10 := Lib.hid (HB9.out.trans (hb10.mono HB9.out.size))
      have HD10 := Lib.hid (HD9.out.trans (hb10.mono HD9.out.size))
      clear hown10 hat10 hb10
      go_wp2_with fail
      refine (same_mapS A9 A10 _ c9 _ c10 (textsOf X) (textsOf Y) _ (textsOf_len X).symm (textsOf_len Y).symm (by omega) (by omega) HAN9.out HAN10.out (HAT9.out.below HC10.out) HAT10.out).mono ?_
      rintro e w11 ⟨rfl, hb11⟩
      have HC11 := Lib.hid hb11
      have HB11 := Lib.hid (HB10.out.trans (hb11.mono HB10.out.size))
      have HD11 := Lib.hid (HD10.out.trans (hb11.mono HD10.out.size))
      clear hb11
      rw [HTS.out]
      go_wp2_with fail
      refine (own4_any A2 _ c2 X _ rfl (by omega) (HX5.out.below HD11.out)).mono ?_
      rintro e w12 ⟨v12, rfl, hown12, hb12⟩
      obtain ⟨A12, c12, rfl, _, _, hat12⟩ := at_of_own' hown12
      have HAT12 := Lib.hid hat12
      have HAN12 := Lib.hid (own_addr hown12)
      have HC12 := Lib.hid hb12
      have HB12 := Lib.hid (HB11.out.trans (hb12.mono HB11.out.size))
      have HD12 := Lib.hid (HD11.out.trans (hb12.mono HD11.out.size))
      clear hown12 hat12 hb12
      go_wp2_with fail
      refine (own4_any A2 _ c2 X _ rfl (by omega) (HX5.out.below HD12.out)).mono ?_
      rintro e w13 ⟨v13, rfl, hown13, hb13⟩
      obtain ⟨A13, c13, rfl, _, _, hat13⟩ := at_of_own' hown13
      have HAT13 := Lib.hid hat13
      have HAN13 := Lib.hid (own_addr hown13)
      have HC13 := Lib.hid hb13
      have HB13 := Lib.hid (HB12.out.trans (hb13.mono HB12.out.size))
      have HD13 := Lib.hid (HD12.out.trans (hb13.mono HD12.out.size))
      clear hown13 hat13 hb13
      go_wp2_with fail
      refine (of_any A13 _ c13 X _ rfl (by omega) HAN13.out HAT13.out).mono ?_
      rintro e w14 ⟨v14, rfl, hown14, hb14⟩
      obtain ⟨A14, c14, rfl, _, _, hat14⟩ := at_of_own' hown14
      have HAT14 := Lib.hid hat14
      have HAN14 := Lib.hid (own_addr hown14)
      have HC14 := Lib.hid hb14
      have HB14 := Lib.hid (HB13.out.trans (hb14.mono HB13.out.size))
      have HD14 := Lib.hid (HD13.out.trans (hb14.mono HD13.out.size))
      clear hown14 hat14 hb14
      go_wp2_with fail
      refine (same_map A12 A14 _ c12 _ c14 X (ofP X) _ rfl rfl (by omega) (by have := ofP_len X; omega) HAN12.out HAN14.out ((HAT12.out.below HC13.out).below HC14.out) HAT14.out).mono ?_
      rintro e w15 ⟨rfl, hb15⟩
      have HC15 := Lib.hid hb15
      have HB15 := Lib.hid (HB14.out.trans (hb15.mono HB14.out.size))
      have HD15 := Lib.hid (HD14.out.trans (hb15.mono HD14.out.size))
      clear hb15
      rw [HOO.out]
      go_wp2
      go_ret
      exact ⟨rfl, HB15.out⟩
end Go.Proofs.YtibcfmfihcgijaaDoor
/- The walk of PropsMaps. -/
namespace Go.Proofs.YtibcfmfihcgijaaDoor
open Go.RowKit M
theorem ofP_sub {V : Type} {l : List (ByteArray × V)} {p : ByteArray × V} (h : p ∈ ofP l) : p ∈ l := by
  have h1 := rises_get (ofP_rises l) h
  rw [ofP_get] at h1
  exact getP_mem h1
theorem texts_filter (l : List Par) (f : ByteArray → Bool) : (textsOf l).filter (fun p => f p.1) = textsOf (l.filter fun p => f p.1) := by
  unfold textsOf
  rw [List.filter_map]
  rfl
theorem texts_drop (X : List Par) (x : ByteArray) : (ofP (textsOf X)).filter (keepN x) = textsOf (dropP X x) := by
  rw [texts_of]
  exact texts_filter (ofP X) (fun s => !decide (s = x))
theorem texts_mine (X : List Par) : (ofP (textsOf X)).filter keepM = textsOf ((ofP X).filter keepM) := by
  rw [texts_of]
  exact texts_filter (ofP X) (fun s => !minB s)
theorem is_yes (A B : Option Addr) (n c m d : Nat) (xs ys : List Par) (w : World) (hn : n = xs.length) (hm : m = ys.length) (h : xs = ys) (hb : n ≤ maxLen) (ha : At w A (pv xs)) (hb' : At w B (pv ys)) :
    Calls Tryd.prog 14 #[.slice A n c, .slice B m d] w fun e w' => e = .returned (.bool true) ∧ Below w.heap.size w w' :=
  (is_any A B n c m d xs ys w hn hm hb (by rw [hm, ← h, ← hn]; exact hb) ha hb').mono fun e w' ⟨he, q, hq⟩ => ⟨by rw [he, decide_eq_true h], by rw [hq]; exact drewN_below' (Below.refl _ _) q⟩
theorem isTexts_yes (A B : Option Addr) (n c m d : Nat) (xs : List ParS) (ys : List Par) (w : World) (hn : n = xs.length) (hm : m = ys.length) (h : xs = textsOf ys) (hb : n ≤ maxLen) (hb2 : m ≤ maxLen) (ha : At w A (pvS xs)) (hb' : At w B (pv ys))
    (hv : ∀ p ∈ ys, (Lit.int .i64 p.2).wf = true) (ht : Tab w) :
    Calls Tryd.prog 17 #[.slice A n c, .slice B m d] w fun e w' => e = .returned (.bool true) ∧ Below w.heap.size w w' :=
  (isTexts_any A B n c m d xs ys w hn hm hb hb2 ha hb' hv ht).mono fun e w' ⟨he, hq⟩ => ⟨by rw [he, decide_eq_true h], hq⟩
theorem get_yes (A : Option Addr) (n c : Nat) (l : List Par) (x : ByteArray) (z : Int) (w : World) (hn : n = l.length) (hb : n ≤ 100000) (hA0 : A = none → n = 0 ∧ c = 0) (ha : At w A (pv l)) (hz : getP l x = some z) :
    Calls Tryd.prog 11 #[.slice A n c, .string x] w fun e w' => e = .returned (.tuple #[.int .i64 z, .bool true]) ∧ Below w.heap.size w w' :=
  (get_any A n c l x w hn hb hA0 ha).mono fun e w' h => by
    rcases h with ⟨z', h1, h2, h3⟩ | ⟨h1, _⟩
    · rw [hz] at h1; injection h1 with h1; subst h1; exact ⟨h2, h3⟩
    · rw [hz] at h1; cases h1
theorem get_no (A : Option Addr) (n c : Nat) (l : List Par) (x : ByteArray) (w : World) (hn : n = l.length) (hb : n ≤ 100000) (hA0 : A = none → n = 0 ∧ c = 0) (ha : At w A (pv l)) (hz : getP l x = none) :
    Calls Tryd.prog 11 #[.slice A n c, .string x] w fun e w' => e = .returned (.tuple #[.int .i64 0, .bool false]) ∧ Below w.heap.size w w' :=
  (get_any A n c l x w hn hb hA0 ha).mono fun e w' h => by
    rcases h with ⟨z', h1, h2, h3⟩ | ⟨h1, h2, h3⟩
    · rw [hz] at h1; cases h1
    · exact ⟨h2, h3⟩
theorem getS_yes (A : Option Addr) (n c : Nat) (l : List ParS) (x : ByteArray) (z : ByteArray) (w : World) (hn : n = l.length) (hb : n ≤ 100000) (hA0 : A = none → n = 0 ∧ c = 0) (ha : At w A (pvS l)) (hz : getP l x = some z) :
    Calls Tryd.prog 13 #[.slice A n c, .string x] w fun e w' => e = .returned (.tuple #[.string z, .bool true]) ∧ Below w.heap.size w w' :=
  (get_anyS A n c l x w hn hb hA0 ha).mono fun e w' h => by
    rcases h with ⟨z', h1, h2, h3⟩ | ⟨h1, _⟩
    · rw [hz] at h1; injection h1 with h1; subst h1; exact ⟨h2, h3⟩
    · rw [hz] at h1; cases h1
theorem getS_no (A : Option Addr) (n c : Nat) (l : List ParS) (x : ByteArray) (w : World) (hn : n = l.length) (hb : n ≤ 100000) (hA0 : A = none → n = 0 ∧ c = 0) (ha : At w A (pvS l)) (hz : getP l x = none) :
    Calls Tryd.prog 13 #[.slice A n c, .string x] w fun e w' => e = .returned (.tuple #[.string { data := #[] }, .bool false]) ∧ Below w.heap.size w w' :=
  (get_anyS A n c l x w hn hb hA0 ha).mono fun e w' h => by
    rcases h with ⟨z', h1, h2, h3⟩ | ⟨h1, h2, h3⟩
    · rw [hz] at h1; cases h1
    · exact ⟨h2, h3⟩
theorem rget_yes (A : Option Addr) (n c : Nat) (l : List Par) (x : ByteArray) (z : Int) (w : World) (hn : n = l.length) (hb : n ≤ 100000) (ha : At w A (pv l)) (hz : getP l x = some z) :
    Calls Tryd.prog 12 #[.slice A n c, .string x] w fun e w' => e = .returned (.tuple #[.int .i64 z, .bool true]) ∧ Below w.heap.size w w' :=
  (rget4_any A n c l x w hn hb ha).mono fun e w' h => by
    rcases h with ⟨z', h1, h2, h3⟩ | ⟨h1, _⟩
    · rw [hz] at h1; injection h1 with h1; subst h1; exact ⟨h2, h3⟩
    · rw [hz] at h1; cases h1
theorem rget_no (A : Option Addr) (n c : Nat) (l : List Par) (x : ByteArray) (w : World) (hn : n = l.length) (hb : n ≤ 100000) (ha : At w A (pv l)) (hz : getP l x = none) :
    Calls Tryd.prog 12 #[.slice A n c, .string x] w fun e w' => e = .returned (.tuple #[.int .i64 0, .bool false]) ∧ Below w.heap.size w w' :=
  (rget4_any A n c l x w hn hb ha).mono fun e w' h => by
    rcases h with ⟨z', h1, h2, h3⟩ | ⟨h1, h2, h3⟩
    · rw [hz] at h1; cases h1
    · exact ⟨h2, h3⟩
set_option maxHeartbeats 8000000 in
set_option maxRecDepth 100000 in
theorem propsMaps_any (A : Option Addr) (n c : Nat) (a : List Par) (x0 : ByteArray) (z0 : Int) (w : World) (hn : n = a.length) (hb : n ≤ maxLen) (ha : At w A (pv a)) (va : ∀ p ∈ a, (Lit.int .i64 p.2).wf = true) (ht : Tab w) :
    Calls Tryd.prog 3 #[.slice A n c, .string x0, .int .i64 z0] w fun e w' => e = .returned (.bool true) ∧ RowKit.Below w.heap.size w w' := by
  obtain ⟨i0, hi, hz0, hz1, hz2⟩ := info_parts infoPar
  have HF1 : Hid (∀ w1 : World, RowKit.Below w.heap.size w w1 → Calls Tryd.prog 7 #[.slice A n c, .int .i64 12] w1 fun e w' => ∃ v, e = .returned v ∧ w'.ownsRow w1.heap.size 38 2 v (fewP a 12).length (pv (fewP a 12)) ∧ RowKit.Below w1.heap.size w1 w') := fun w1 h => few4_any A n c 12 a w1 hn hb (by omega) (by omega) (ha.below h)
  have hl1 := fewP_len a 12
  have HVX := Lib.hid (fewP_wf (k := 12) va)
  have HT := Lib.hid ht
  have HCUT : Hid (∀ w1 : World, Calls Tryd.prog 8 #[.string x0, .int .i64 20] w1 fun e w' => e = .returned (.string (cutS x0 20)) ∧ w1 = w') := fun w1 => cut_any x0 20 w1 (by omega) (by omega)
  clear ha hn hb va ht
  generalize cutS x0 20 = x at HCUT
  generalize fewP a 12 = X at hl1 HF1 HVX
  have hr1 := ofP_len X
  have hr2 := ofP_len (textsOf X)
  rw [textsOf_len] at hr2
  have HVO : Hid (∀ p ∈ ofP X, (Lit.int .i64 p.2).wf = true) := fun p hp => HVX.out p (ofP_sub hp)
  have HVF : Hid (∀ f : Par → Bool, ∀ p ∈ (ofP X).filter f, (Lit.int .i64 p.2).wf = true) := fun f p hp => HVO.out p (List.mem_filter.1 hp).1
  have HFL : Hid (∀ f : Par → Bool, ((ofP X).filter f).length ≤ 12) := fun f => Nat.le_trans (List.length_filter_le _ _) (by omega)
  have HFS : Hid (∀ f : ParS → Bool, ((ofP (textsOf X)).filter f).length ≤ 12) := fun f => Nat.le_trans (List.length_filter_le _ _) (by omega)
  have HTL := Lib.hid (show X.length = (textsOf X).length by rw [textsOf_len])
  have HTL0 := HTL
  go_enter Tryd.func3, Tryd.ntmps3
  go_wp2_with fail
  refine (awake4_any _).mono ?_
  rintro e w1 ⟨rfl, hb1⟩
  have HB1 := Lib.hid hb1
  clear hb1
  go_wp2_with fail
  refine (HF1.out w1 HB1.out).mono ?_
  rintro e w2 ⟨v2, rfl, hown2, hb2⟩
  obtain ⟨A2, c2, rfl, _, _, hat2⟩ := at_of_own' hown2
  have HAT2 := Lib.hid hat2
  have HAN2 := Lib.hid (own_addr hown2)
  have HC2 := Lib.hid hb2
  have HB2 := Lib.hid (HB1.out.trans (hb2.mono HB1.out.size))
  clear hown2 hat2 hb2

  have hl3 : X.length ≤ 12 := hl1
  go_wp2_with fail
  refine (HCUT.out _).mono ?_
  rintro e w3 ⟨rfl, rfl⟩
  go_wp2_with fail
  refine (own4_any A2 _ c2 X _ rfl (by omega) HAT2.out).mono ?_
  rintro e w4 ⟨v4, rfl, hown4, hb4⟩
  obtain ⟨A4, c4, rfl, _, _, hat4⟩ := at_of_own' hown4
  have HAT4 := Lib.hid hat4
  have HMN := Lib.hid (own_addr hown4)
  have HC4 := Lib.hid hb4
  have HB4 := Lib.hid (HB2.out.trans (hb4.mono HB2.out.size))
  clear hown4 hat4 hb4

  go_wp2_with fail
  refine (texts_any A2 _ c2 X _ rfl (by omega) (HAT2.out.below HC4.out) HVX.out (tab_below HT.out HB4.out)).mono ?_
  rintro e w5 ⟨v5, rfl, hown5, hb5⟩
  obtain ⟨A5, c5, rfl, _, _, hat5⟩ := at_of_own' hown5
  have HAT5 := Lib.hid hat5
  have HTN := Lib.hid (own_addr hown5)
  have HC5 := Lib.hid hb5
  have HB5 := Lib.hid (HB4.out.trans (hb5.mono HB4.out.size))
  clear hown5 hat5 hb5

  clear HF1 HCUT HC2 HB1 HB2
  cases hg : getP X x with
  | some z =>
    have HGS : Hid (getP (textsOf X) x = some (itoaB z)) := by show _ = _; rw [show textsOf X = mapV itoaB X from rfl, getP_mapV, hg]; rfl
    have HWZ : Hid ((Lit.int .i64 z).wf = true) := HVX.out (x, z) (getP_mem hg)
    have hzz : (z == z) = true := beq_self_eq_true z
    have hit := str_yes (rfl : itoaB z = itoaB z)
    go_wp2_with fail
    refine (get_yes A4 _ c4 X x z _ rfl (by omega) HMN.out (HAT4.out.below HC5.out) hg).mono ?_
    rintro e w6 ⟨rfl, hb6⟩
    have HC6 := Lib.hid hb6
    have HB6 := Lib.hid (HB5.out.trans (hb6.mono HB5.out.size))
    clear hb6
    go_wp2_with fail
    refine (rget_yes A2 _ c2 X x z _ rfl (by omega) (((HAT2.out.below HC4.out).below HC5.out).below HC6.out) hg).mono ?_
    rintro e w7 ⟨rfl, hb7⟩
    have HC7 := Lib.hid hb7
    have HB7 := Lib.hid (HB6.out.trans (hb7.mono HB6.out.size))
    clear hb7
    go_wp2_with fail
    refine (getS_yes A5 _ c5 (textsOf X) x (itoaB z) _ HTL.out (by omega) HTN.out ((HAT5.out.below HC6.out).below HC7.out) HGS.out).mono ?_
    rintro e w9 ⟨rfl, hb9⟩
    have HC9 := Lib.hid hb9
    have HB9 := Lib.hid (HB7.out.trans (hb9.mono HB7.out.size))
    clear hb9
    have HX9 := Lib.hid (((((HAT2.out.below HC4.out).below HC5.out).below HC6.out).below HC7.out).below HC9.out)
    have HM9 := Lib.hid ((((HAT4.out.below HC5.out).below HC6.out).below HC7.out).below HC9.out)
    have HT9 := Lib.hid (((HAT5.out.below HC6.out).below HC7.out).below HC9.out)
    obtain ⟨nx, hnx⟩ : ∃ nx, nx = X.length := ⟨_, rfl⟩
    rw [← hnx] at hl1
    rw [← hnx]
    have HXL := Lib.hid hnx
    have HN2 : Hid (A2 = none → nx = 0 ∧ c2 = 0) := by show _ → _; rw [hnx]; exact HAN2.out
    have HM2 : Hid (A4 = none → nx = 0 ∧ c4 = 0) := by show _ → _; rw [hnx]; exact HMN.out
    have HT2 : Hid (A5 = none → nx = 0 ∧ c5 = 0) := by show _ → _; rw [hnx]; exact HTN.out
    have HPL : Hid ((pv X).length = nx * 2) := by show _ = _; rw [pv_len, HXL.out]
    clear HAT2 HAT4 HAT5 HC4 HC5 HC6 HC7 HC9 hg hnx HGS HTL0
    have HTL := Lib.hid (show nx = (textsOf X).length by rw [textsOf_len]; exact HXL.out)
    obtain ⟨W, hW⟩ : ∃ W, W = w9.alloc (.cells #[] 38) := ⟨_, rfl⟩
    have OW : Hid (W.ownsRow w9.heap.size 38 2 (.slice (some ⟨w9.heap.size, 0, none⟩) 0 0) 0 []) := by show World.ownsRow _ _ _ _ _ _ _; rw [hW]; exact own_made w9 _ rfl (Nat.le_refl _)
    have BW : Hid (Below w9.heap.size w9 W) := by show Below _ _ _; rw [hW]; exact below_alloc _ _
    have hsW := BW.out.size
    go_wp2_with (first | (rw [← hW]; at_builtin; refine wpList_append_at rfl _ _ 22 rfl w9.heap.size 38 i0 (.agg #[.string { data := #[] }, .int .i64 0]) 2 24 Tryd.underlying22 hi hz0 hz1 hz2 rfl (by decide) _ _ _ rfl OW.out A2 nx c2 (pv X) rfl HN2.out HPL.out (HX9.out.below BW.out) (pv_one X) (by unfold maxLen; omega) (by omega) (hsW) ?_; intro v10 w10 hown10 hgrow10; have O10 := Lib.hid hown10; have G10 := Lib.hid hgrow10; have OX : Hid (w10.ownsRow w9.heap.size 38 2 v10 nx (pv X)) := (by show World.ownsRow _ _ _ _ _ _ _; have h5 := hown10; rw [Nat.zero_add, List.nil_append] at h5; exact h5); have B10 := Lib.hid (BW.out.grown hgrow10 hsW (fun q hq => own_from OW.out q hq)); have hs10 := B10.out.size; clear hown10 hgrow10) | (at_builtin; refine wpList_append_at rfl _ _ 22 rfl w9.heap.size 38 i0 (.agg #[.string { data := #[] }, .int .i64 0]) 2 24 Tryd.underlying22 hi hz0 hz1 hz2 rfl (by decide) _ _ _ rfl (OX.out.alloc _) (some ⟨_, 0, none⟩) 1 1 [.string x, .int .i64 z0] rfl (fun h => nomatch h) rfl (at_new _ _ _ _ rfl _ rfl) (pv_one [(x, z0)]) (by unfold maxLen; omega) (by omega) (by simp; omega) ?_; intro v15 w15 hown15 hgrow15; have OM := Lib.hid hown15; have BM := Lib.hid ((B10.out.alloc hs10 _).grown hgrow15 (by simp; omega) (fun q hq => own_from OX.out q hq)); have O15 := Lib.hid hown15; have G15 := Lib.hid hgrow15; clear hown15 hgrow15))
    obtain ⟨A15, c15, rfl, _, _, hat15⟩ := at_of_own' O15.out
    rename World => wb
    have HX := Lib.hid (HX9.out.below BM.out)
    have HM := Lib.hid (HM9.out.below BM.out)
    have HTX := Lib.hid (HT9.out.below BM.out)
    have HMO : Hid (At wb A15 (pv (X ++ [(x, z0)]))) := by show At _ _ _; rw [pv_app]; exact hat15
    have HBb := Lib.hid (HB9.out.trans (BM.out.mono HB9.out.size))
    have HDb := Lib.hid (Below.refl wb.heap.size wb)
    have HML : Hid (nx + 1 = (X ++ [(x, z0)]).length) := by show _ = _; rw [List.length_append, ← HXL.out]; rfl
    clear hat15 HX9 HM9 HT9 OW BW OX OM O15 B10 BM G10 G15 hsW hs10
    go_wp2_with fail
    refine (of_any A4 _ c4 X _ HXL.out (by omega) HM2.out (HM.out.below HDb.out)).mono ?_
    rintro e w21 ⟨v21, rfl, hown21, hb21⟩
    obtain ⟨A21, c21, rfl, _, _, hat21⟩ := at_of_own' hown21
    have HAT21 := Lib.hid hat21
    have HAN21 := Lib.hid (own_addr hown21)
    have HC21 := Lib.hid hb21
    have HB21 := Lib.hid (HBb.out.trans (hb21.mono HBb.out.size))
    have HD21 := Lib.hid (HDb.out.trans (hb21.mono HDb.out.size))
    clear hown21 hat21 hb21
    go_wp2_with fail
    refine (rof_any A2 _ c2 X _ HXL.out (by omega) (HX.out.below HD21.out)).mono ?_
    rintro e w22 ⟨v22, rfl, hown22, hb22⟩
    obtain ⟨A22, c22, rfl, _, _, hat22⟩ := at_of_own' hown22
    have HAT22 := Lib.hid hat22
    have HAN22 := Lib.hid (own_addr hown22)
    have HC22 := Lib.hid hb22
    have HB22 := Lib.hid (HB21.out.trans (hb22.mono HB21.out.size))
    have HD22 := Lib.hid (HD21.out.trans (hb22.mono HD21.out.size))
    clear hown22 hat22 hb22
    go_wp2_with fail
    refine (is_yes A21 A22 _ c21 _ c22 _ _ _ rfl rfl rfl (by unfold maxLen; omega) (HAT21.out.below HC22.out) HAT22.out).mono ?_
    rintro e w23 ⟨rfl, hb23⟩
    have HC23 := Lib.hid hb23
    have HB23 := Lib.hid (HB22.out.trans (hb23.mono HB22.out.size))
    have HD23 := Lib.hid (HD22.out.trans (hb23.mono HD22.out.size))
    clear hb23
    go_wp2_with fail
    refine (of_anyS A5 _ c5 (textsOf X) _ HTL.out (by omega) HT2.out (HTX.out.below HD23.out)).mono ?_
    rintro e w24 ⟨v24, rfl, hown24, hb24⟩
    obtain ⟨A24, c24, rfl, _, _, hat24⟩ := at_of_own' hown24
    have HAT24 := Lib.hid hat24
    have HAN24 := Lib.hid (own_addr hown24)
    have HC24 := Lib.hid hb24
    have HB24 := Lib.hid (HB23.out.trans (hb24.mono HB23.out.size))
    have HD24 := Lib.hid (HD23.out.trans (hb24.mono HD23.out.size))
    clear hown24 hat24 hb24
    go_wp2_with fail
    refine (rof_any A2 _ c2 X _ HXL.out (by omega) (HX.out.below HD24.out)).mono ?_
    rintro e w25 ⟨v25, rfl, hown25, hb25⟩
    obtain ⟨A25, c25, rfl, _, _, hat25⟩ := at_of_own' hown25
    have HAT25 := Lib.hid hat25
    have HAN25 := Lib.hid (own_addr hown25)
    have HC25 := Lib.hid hb25
    have HB25 := Lib.hid (HB24.out.trans (hb25.mono HB24.out.size))
    have HD25 := Lib.hid (HD24.out.trans (hb25.mono HD24.out.size))
    clear hown25 hat25 hb25
    go_wp2_with fail
    refine (isTexts_yes A24 A25 _ c24 _ c25 _ _ _ rfl rfl (texts_of X) (by unfold maxLen; omega) (by unfold maxLen; omega) (HAT24.out.below HC25.out) HAT25.out HVO.out (tab_below HT.out HB25.out)).mono ?_
    rintro e w26 ⟨rfl, hb26⟩
    have HC26 := Lib.hid hb26
    have HB26 := Lib.hid (HB25.out.trans (hb26.mono HB25.out.size))
    have HD26 := Lib.hid (HD25.out.trans (hb26.mono HD25.out.size))
    clear hb26
    go_wp2_with fail
    refine (itoa_bel z _ HWZ.out (tab_below HT.out HB26.out)).mono ?_
    rintro e w27 ⟨rfl, hb27⟩
    have HC27 := Lib.hid hb27
    have HB27 := Lib.hid (HB26.out.trans (hb27.mono HB26.out.size))
    have HD27 := Lib.hid (HD26.out.trans (hb27.mono HD26.out.size))
    clear hb27
    go_wp2_with fail
    refine (set_any A4 _ c4 X x z0 _ HXL.out (by omega) HM2.out (HM.out.below HD27.out)).mono ?_
    rintro e w28 ⟨v28, rfl, hown28, hb28⟩
    obtain ⟨A28, c28, rfl, _, _, hat28⟩ := at_of_own' hown28
    have HAT28 := Lib.hid hat28
    have HAN28 := Lib.hid (own_addr hown28)
    have HC28 := Lib.hid hb28
    have HB28 := Lib.hid (HB27.out.trans (hb28.mono HB27.out.size))
    have HD28 := Lib.hid (HD27.out.trans (hb28.mono HD27.out.size))
    clear hown28 hat28 hb28
    go_wp2_with fail
    refine (rof_any A15 _ c15 (X ++ [(x, z0)]) _ HML.out (by omega) (HMO.out.below HD28.out)).mono ?_
    rintro e w29 ⟨v29, rfl, hown29, hb29⟩
    obtain ⟨A29, c29, rfl, _, _, hat29⟩ := at_of_own' hown29
    have HAT29 := Lib.hid hat29
    have HAN29 := Lib.hid (own_addr hown29)
    have HC29 := Lib.hid hb29
    have HB29 := Lib.hid (HB28.out.trans (hb29.mono HB28.out.size))
    have HD29 := Lib.hid (HD28.out.trans (hb29.mono HD28.out.size))
    clear hown29 hat29 hb29
    go_wp2_with fail
    refine (is_yes A28 A29 _ c28 _ c29 _ _ _ rfl rfl rfl (by unfold maxLen; have := ofP_len (X ++ [(x, z0)]); simp at this; omega) (HAT28.out.below HC29.out) HAT29.out).mono ?_
    rintro e w30 ⟨rfl, hb30⟩
    have HC30 := Lib.hid hb30
    have HB30 := Lib.hid (HB29.out.trans (hb30.mono HB29.out.size))
    have HD30 := Lib.hid (HD29.out.trans (hb30.mono HD29.out.size))
    clear hb30
    go_wp2_with fail
    refine (drop_any A4 _ c4 X x _ HXL.out (by omega) HM2.out (HM.out.below HD30.out)).mono ?_
    rintro e w31 ⟨A31, c31, rfl, hat31, hb31⟩
    have HAT31 := Lib.hid hat31
    have HC31 := Lib.hid hb31
    have HB31 := Lib.hid (HB30.out.trans (hb31.mono HB30.out.size))
    have HD31 := Lib.hid (HD30.out.trans (hb31.mono HD30.out.size))
    clear hat31 hb31
    go_wp2_with fail
    refine (rdrop4_any A2 _ c2 X x _ HXL.out (by omega) (HX.out.below HD31.out)).mono ?_
    rintro e w32 ⟨v32, rfl, hown32, hb32⟩
    obtain ⟨A32, c32, rfl, _, _, hat32⟩ := at_of_own' hown32
    have HAT32 := Lib.hid hat32
    have HAN32 := Lib.hid (own_addr hown32)
    have HC32 := Lib.hid hb32
    have HB32 := Lib.hid (HB31.out.trans (hb32.mono HB31.out.size))
    have HD32 := Lib.hid (HD31.out.trans (hb32.mono HD31.out.size))
    clear hown32 hat32 hb32
    go_wp2_with fail
    refine (is_yes A31 A32 _ c31 _ c32 _ _ _ rfl rfl rfl (by unfold maxLen; have := HFL.out (keepN x); omega) (HAT31.out.below HC32.out) HAT32.out).mono ?_
    rintro e w33 ⟨rfl, hb33⟩
    have HC33 := Lib.hid hb33
    have HB33 := Lib.hid (HB32.out.trans (hb33.mono HB32.out.size))
    have HD33 := Lib.hid (HD32.out.trans (hb33.mono HD32.out.size))
    clear hb33
    go_wp2_with fail
    refine (drop_anyS A5 _ c5 (textsOf X) x _ HTL.out (by omega) HT2.out (HTX.out.below HD33.out)).mono ?_
    rintro e w34 ⟨A34, c34, rfl, hat34, hb34⟩
    have HAT34 := Lib.hid hat34
    have HC34 := Lib.hid hb34
    have HB34 := Lib.hid (HB33.out.trans (hb34.mono HB33.out.size))
    have HD34 := Lib.hid (HD33.out.trans (hb34.mono HD33.out.size))
    clear hat34 hb34
    go_wp2_with fail
    refine (rdrop4_any A2 _ c2 X x _ HXL.out (by omega) (HX.out.below HD34.out)).mono ?_
    rintro e w35 ⟨v35, rfl, hown35, hb35⟩
    obtain ⟨A35, c35, rfl, _, _, hat35⟩ := at_of_own' hown35
    have HAT35 := Lib.hid hat35
    have HAN35 := Lib.hid (own_addr hown35)
    have HC35 := Lib.hid hb35
    have HB35 := Lib.hid (HB34.out.trans (hb35.mono HB34.out.size))
    have HD35 := Lib.hid (HD34.out.trans (hb35.mono HD34.out.size))
    clear hown35 hat35 hb35
    go_wp2_with fail
    refine (isTexts_yes A34 A35 _ c34 _ c35 _ _ _ rfl rfl (texts_drop X x) (by unfold maxLen; have := HFS.out (keepN x); omega) (by unfold maxLen; have := HFL.out (keepN x); exact Nat.le_trans this (by omega)) (HAT34.out.below HC35.out) HAT35.out (HVF.out _) (tab_below HT.out HB35.out)).mono ?_
    rintro e w36 ⟨rfl, hb36⟩
    have HC36 := Lib.hid hb36
    have HB36 := Lib.hid (HB35.out.trans (hb36.mono HB35.out.size))
    have HD36 := Lib.hid (HD35.out.trans (hb36.mono HD35.out.size))
    clear hb36
    go_wp2_with fail
    refine (mine_any A4 _ c4 X _ HXL.out (by omega) HM2.out (HM.out.below HD36.out)).mono ?_
    rintro e w37 ⟨A37, c37, rfl, hat37, hb37⟩
    have HAT37 := Lib.hid hat37
    have HC37 := Lib.hid hb37
    have HB37 := Lib.hid (HB36.out.trans (hb37.mono HB36.out.size))
    have HD37 := Lib.hid (HD36.out.trans (hb37.mono HD36.out.size))
    clear hat37 hb37
    go_wp2_with fail
    refine (rmine_any A2 _ c2 X _ HXL.out (by omega) (HX.out.below HD37.out)).mono ?_
    rintro e w38 ⟨v38, rfl, hown38, hb38⟩
    obtain ⟨A38, c38, rfl, _, _, hat38⟩ := at_of_own' hown38
    have HAT38 := Lib.hid hat38
    have HAN38 := Lib.hid (own_addr hown38)
    have HC38 := Lib.hid hb38
    have HB38 := Lib.hid (HB37.out.trans (hb38.mono HB37.out.size))
    have HD38 := Lib.hid (HD37.out.trans (hb38.mono HD37.out.size))
    clear hown38 hat38 hb38
    go_wp2_with fail
    refine (is_yes A37 A38 _ c37 _ c38 _ _ _ rfl rfl rfl (by unfold maxLen; have := HFL.out keepM; omega) (HAT37.out.below HC38.out) HAT38.out).mono ?_
    rintro e w39 ⟨rfl, hb39⟩
    have HC39 := Lib.hid hb39
    have HB39 := Lib.hid (HB38.out.trans (hb39.mono HB38.out.size))
    have HD39 := Lib.hid (HD38.out.trans (hb39.mono HD38.out.size))
    clear hb39
    go_wp2_with fail
    refine (mine_anyS A5 _ c5 (textsOf X) _ HTL.out (by omega) HT2.out (HTX.out.below HD39.out)).mono ?_
    rintro e w40 ⟨A40, c40, rfl, hat40, hb40⟩
    have HAT40 := Lib.hid hat40
    have HC40 := Lib.hid hb40
    have HB40 := Lib.hid (HB39.out.trans (hb40.mono HB39.out.size))
    have HD40 := Lib.hid (HD39.out.trans (hb40.mono HD39.out.size))
    clear hat40 hb40
    go_wp2_with fail
    refine (rmine_any A2 _ c2 X _ HXL.out (by omega) (HX.out.below HD40.out)).mono ?_
    rintro e w41 ⟨v41, rfl, hown41, hb41⟩
    obtain ⟨A41, c41, rfl, _, _, hat41⟩ := at_of_own' hown41
    have HAT41 := Lib.hid hat41
    have HAN41 := Lib.hid (own_addr hown41)
    have HC41 := Lib.hid hb41
    have HB41 := Lib.hid (HB40.out.trans (hb41.mono HB40.out.size))
    have HD41 := Lib.hid (HD40.out.trans (hb41.mono HD40.out.size))
    clear hown41 hat41 hb41
    go_wp2_with fail
    refine (isTexts_yes A40 A41 _ c40 _ c41 _ _ _ rfl rfl (texts_mine X) (by unfold maxLen; have := HFS.out keepM; omega) (by unfold maxLen; have := HFL.out keepM; omega) (HAT40.out.below HC41.out) HAT41.out (HVF.out _) (tab_below HT.out HB41.out)).mono ?_
    rintro e w42 ⟨rfl, hb42⟩
    have HC42 := Lib.hid hb42
    have HB42 := Lib.hid (HB41.out.trans (hb42.mono HB41.out.size))
    have HD42 := Lib.hid (HD41.out.trans (hb42.mono HD41.out.size))
    clear hb42
    go_wp2
    go_ret
    exact ⟨rfl, HB42.out⟩
  | none =>
    have HGS : Hid (getP (textsOf X) x = none) := by show _ = _; rw [show textsOf X = mapV itoaB X from rfl, getP_mapV, hg]; rfl
    go_wp2_with fail
    refine (get_no A4 _ c4 X x _ rfl (by omega) HMN.out (HAT4.out.below HC5.out) hg).mono ?_
    rintro e w6 ⟨rfl, hb6⟩
    have HC6 := Lib.hid hb6
    have HB6 := Lib.hid (HB5.out.trans (hb6.mono HB5.out.size))
    clear hb6
    go_wp2_with fail
    refine (rget_no A2 _ c2 X x _ rfl (by omega) (((HAT2.out.below HC4.out).below HC5.out).below HC6.out) hg).mono ?_
    rintro e w7 ⟨rfl, hb7⟩
    have HC7 := Lib.hid hb7
    have HB7 := Lib.hid (HB6.out.trans (hb7.mono HB6.out.size))
    clear hb7
    go_wp2_with fail
    refine (getS_no A5 _ c5 (textsOf X) x _ HTL.out (by omega) HTN.out ((HAT5.out.below HC6.out).below HC7.out) HGS.out).mono ?_
    rintro e w9 ⟨rfl, hb9⟩
    have HC9 := Lib.hid hb9
    have HB9 := Lib.hid (HB7.out.trans (hb9.mono HB7.out.size))
    clear hb9
    have HX9 := Lib.hid (((((HAT2.out.below HC4.out).below HC5.out).below HC6.out).below HC7.out).below HC9.out)
    have HM9 := Lib.hid ((((HAT4.out.below HC5.out).below HC6.out).below HC7.out).below HC9.out)
    have HT9 := Lib.hid (((HAT5.out.below HC6.out).below HC7.out).below HC9.out)
    obtain ⟨nx, hnx⟩ : ∃ nx, nx = X.length := ⟨_, rfl⟩
    rw [← hnx] at hl1
    rw [← hnx]
    have HXL := Lib.hid hnx
    have HN2 : Hid (A2 = none → nx = 0 ∧ c2 = 0) := by show _ → _; rw [hnx]; exact HAN2.out
    have HM2 : Hid (A4 = none → nx = 0 ∧ c4 = 0) := by show _ → _; rw [hnx]; exact HMN.out
    have HT2 : Hid (A5 = none → nx = 0 ∧ c5 = 0) := by show _ → _; rw [hnx]; exact HTN.out
    have HPL : Hid ((pv X).length = nx * 2) := by show _ = _; rw [pv_len, HXL.out]
    clear HAT2 HAT4 HAT5 HC4 HC5 HC6 HC7 HC9 hg hnx HGS HTL0
    have HTL := Lib.hid (show nx = (textsOf X).length by rw [textsOf_len]; exact HXL.out)
    obtain ⟨W, hW⟩ : ∃ W, W = w9.alloc (.cells #[] 38) := ⟨_, rfl⟩
    have OW : Hid (W.ownsRow w9.heap.size 38 2 (.slice (some ⟨w9.heap.size, 0, none⟩) 0 0) 0 []) := by show World.ownsRow _ _ _ _ _ _ _; rw [hW]; exact own_made w9 _ rfl (Nat.le_refl _)
    have BW : Hid (Below w9.heap.size w9 W) := by show Below _ _ _; rw [hW]; exact below_alloc _ _
    have hsW := BW.out.size
    go_wp2_with (first | (rw [← hW]; at_builtin; refine wpList_append_at rfl _ _ 22 rfl w9.heap.size 38 i0 (.agg #[.string { data := #[] }, .int .i64 0]) 2 24 Tryd.underlying22 hi hz0 hz1 hz2 rfl (by decide) _ _ _ rfl OW.out A2 nx c2 (pv X) rfl HN2.out HPL.out (HX9.out.below BW.out) (pv_one X) (by unfold maxLen; omega) (by omega) (hsW) ?_; intro v10 w10 hown10 hgrow10; have O10 := Lib.hid hown10; have G10 := Lib.hid hgrow10; have OX : Hid (w10.ownsRow w9.heap.size 38 2 v10 nx (pv X)) := (by show World.ownsRow _ _ _ _ _ _ _; have h5 := hown10; rw [Nat.zero_add, List.nil_append] at h5; exact h5); have B10 := Lib.hid (BW.out.grown hgrow10 hsW (fun q hq => own_from OW.out q hq)); have hs10 := B10.out.size; clear hown10 hgrow10) | (at_builtin; refine wpList_append_at rfl _ _ 22 rfl w9.heap.size 38 i0 (.agg #[.string { data := #[] }, .int .i64 0]) 2 24 Tryd.underlying22 hi hz0 hz1 hz2 rfl (by decide) _ _ _ rfl (OX.out.alloc _) (some ⟨_, 0, none⟩) 1 1 [.string x, .int .i64 z0] rfl (fun h => nomatch h) rfl (at_new _ _ _ _ rfl _ rfl) (pv_one [(x, z0)]) (by unfold maxLen; omega) (by omega) (by simp; omega) ?_; intro v15 w15 hown15 hgrow15; have OM := Lib.hid hown15; have BM := Lib.hid ((B10.out.alloc hs10 _).grown hgrow15 (by simp; omega) (fun q hq => own_from OX.out q hq)); have O15 := Lib.hid hown15; have G15 := Lib.hid hgrow15; clear hown15 hgrow15))
    obtain ⟨A15, c15, rfl, _, _, hat15⟩ := at_of_own' O15.out
    rename World => wb
    have HX := Lib.hid (HX9.out.below BM.out)
    have HM := Lib.hid (HM9.out.below BM.out)
    have HTX := Lib.hid (HT9.out.below BM.out)
    have HMO : Hid (At wb A15 (pv (X ++ [(x, z0)]))) := by show At _ _ _; rw [pv_app]; exact hat15
    have HBb := Lib.hid (HB9.out.trans (BM.out.mono HB9.out.size))
    have HDb := Lib.hid (Below.refl wb.heap.size wb)
    have HML : Hid (nx + 1 = (X ++ [(x, z0)]).length) := by show _ = _; rw [List.length_append, ← HXL.out]; rfl
    clear hat15 HX9 HM9 HT9 OW BW OX OM O15 B10 BM G10 G15 hsW hs10
    go_wp2_with fail
    refine (of_any A4 _ c4 X _ HXL.out (by omega) HM2.out (HM.out.below HDb.out)).mono ?_
    rintro e w21 ⟨v21, rfl, hown21, hb21⟩
    obtain ⟨A21, c21, rfl, _, _, hat21⟩ := at_of_own' hown21
    have HAT21 := Lib.hid hat21
    have HAN21 := Lib.hid (own_addr hown21)
    have HC21 := Lib.hid hb21
    have HB21 := Lib.hid (HBb.out.trans (hb21.mono HBb.out.size))
    have HD21 := Lib.hid (HDb.out.trans (hb21.mono HDb.out.size))
    clear hown21 hat21 hb21
    go_wp2_with fail
    refine (rof_any A2 _ c2 X _ HXL.out (by omega) (HX.out.below HD21.out)).mono ?_
    rintro e w22 ⟨v22, rfl, hown22, hb22⟩
    obtain ⟨A22, c22, rfl, _, _, hat22⟩ := at_of_own' hown22
    have HAT22 := Lib.hid hat22
    have HAN22 := Lib.hid (own_addr hown22)
    have HC22 := Lib.hid hb22
    have HB22 := Lib.hid (HB21.out.trans (hb22.mono HB21.out.size))
    have HD22 := Lib.hid (HD21.out.trans (hb22.mono HD21.out.size))
    clear hown22 hat22 hb22
    go_wp2_with fail
    refine (is_yes A21 A22 _ c21 _ c22 _ _ _ rfl rfl rfl (by unfold maxLen; omega) (HAT21.out.below HC22.out) HAT22.out).mono ?_
    rintro e w23 ⟨rfl, hb23⟩
    have HC23 := Lib.hid hb23
    have HB23 := Lib.hid (HB22.out.trans (hb23.mono HB22.out.size))
    have HD23 := Lib.hid (HD22.out.trans (hb23.mono HD22.out.size))
    clear hb23
    go_wp2_with fail
    refine (of_anyS A5 _ c5 (textsOf X) _ HTL.out (by omega) HT2.out (HTX.out.below HD23.out)).mono ?_
    rintro e w24 ⟨v24, rfl, hown24, hb24⟩
    obtain ⟨A24, c24, rfl, _, _, hat24⟩ := at_of_own' hown24
    have HAT24 := Lib.hid hat24
    have HAN24 := Lib.hid (own_addr hown24)
    have HC24 := Lib.hid hb24
    have HB24 := Lib.hid (HB23.out.trans (hb24.mono HB23.out.size))
    have HD24 := Lib.hid (HD23.out.trans (hb24.mono HD23.out.size))
    clear hown24 hat24 hb24
    go_wp2_with fail
    refine (rof_any A2 _ c2 X _ HXL.out (by omega) (HX.out.below HD24.out)).mono ?_
    rintro e w25 ⟨v25, rfl, hown25, hb25⟩
    obtain ⟨A25, c25, rfl, _, _, hat25⟩ := at_of_own' hown25
    have HAT25 := Lib.hid hat25
    have HAN25 := Lib.hid (own_addr hown25)
    have HC25 := Lib.hid hb25
    have HB25 := Lib.hid (HB24.out.trans (hb25.mono HB24.out.size))
    have HD25 := Lib.hid (HD24.out.trans (hb25.mono HD24.out.size))
    clear hown25 hat25 hb25
    go_wp2_with fail
    refine (isTexts_yes A24 A25 _ c24 _ c25 _ _ _ rfl rfl (texts_of X) (by unfold maxLen; omega) (by unfold maxLen; omega) (HAT24.out.below HC25.out) HAT25.out HVO.out (tab_below HT.out HB25.out)).mono ?_
    rintro e w26 ⟨rfl, hb26⟩
    have HC26 := Lib.hid hb26
    have HB26 := Lib.hid (HB25.out.trans (hb26.mono HB25.out.size))
    have HD26 := Lib.hid (HD25.out.trans (hb26.mono HD25.out.size))
    clear hb26
    go_wp2_with fail
    refine (set_any A4 _ c4 X x z0 _ HXL.out (by omega) HM2.out (HM.out.below HD26.out)).mono ?_
    rintro e w27 ⟨v27, rfl, hown27, hb27⟩
    obtain ⟨A27, c27, rfl, _, _, hat27⟩ := at_of_own' hown27
    have HAT27 := Lib.hid hat27
    have HAN27 := Lib.hid (own_addr hown27)
    have HC27 := Lib.hid hb27
    have HB27 := Lib.hid (HB26.out.trans (hb27.mono HB26.out.size))
    have HD27 := Lib.hid (HD26.out.trans (hb27.mono HD26.out.size))
    clear hown27 hat27 hb27
    go_wp2_with fail
    refine (rof_any A15 _ c15 (X ++ [(x, z0)]) _ HML.out (by omega) (HMO.out.below HD27.out)).mono ?_
    rintro e w28 ⟨v28, rfl, hown28, hb28⟩
    obtain ⟨A28, c28, rfl, _, _, hat28⟩ := at_of_own' hown28
    have HAT28 := Lib.hid hat28
    have HAN28 := Lib.hid (own_addr hown28)
    have HC28 := Lib.hid hb28
    have HB28 := Lib.hid (HB27.out.trans (hb28.mono HB27.out.size))
    have HD28 := Lib.hid (HD27.out.trans (hb28.mono HD27.out.size))
    clear hown28 hat28 hb28
    go_wp2_with fail
    refine (is_yes A27 A28 _ c27 _ c28 _ _ _ rfl rfl rfl (by unfold maxLen; have := ofP_len (X ++ [(x, z0)]); simp at this; omega) (HAT27.out.below HC28.out) HAT28.out).mono ?_
    rintro e w29 ⟨rfl, hb29⟩
    have HC29 := Lib.hid hb29
    have HB29 := Lib.hid (HB28.out.trans (hb29.mono HB28.out.size))
    have HD29 := Lib.hid (HD28.out.trans (hb29.mono HD28.out.size))
    clear hb29
    go_wp2_with fail
    refine (drop_any A4 _ c4 X x _ HXL.out (by omega) HM2.out (HM.out.below HD29.out)).mono ?_
    rintro e w30 ⟨A30, c30, rfl, hat30, hb30⟩
    have HAT30 := Lib.hid hat30
    have HC30 := Lib.hid hb30
    have HB30 := Lib.hid (HB29.out.trans (hb30.mono HB29.out.size))
    have HD30 := Lib.hid (HD29.out.trans (hb30.mono HD29.out.size))
    clear hat30 hb30
    go_wp2_with fail
    refine (rdrop4_any A2 _ c2 X x _ HXL.out (by omega) (HX.out.below HD30.out)).mono ?_
    rintro e w31 ⟨v31, rfl, hown31, hb31⟩
    obtain ⟨A31, c31, rfl, _, _, hat31⟩ := at_of_own' hown31
    have HAT31 := Lib.hid hat31
    have HAN31 := Lib.hid (own_addr hown31)
    have HC31 := Lib.hid hb31
    have HB31 := Lib.hid (HB30.out.trans (hb31.mono HB30.out.size))
    have HD31 := Lib.hid (HD30.out.trans (hb31.mono HD30.out.size))
    clear hown31 hat31 hb31
    go_wp2_with fail
    refine (is_yes A30 A31 _ c30 _ c31 _ _ _ rfl rfl rfl (by unfold maxLen; have := HFL.out (keepN x); omega) (HAT30.out.below HC31.out) HAT31.out).mono ?_
    rintro e w32 ⟨rfl, hb32⟩
    have HC32 := Lib.hid hb32
    have HB32 := Lib.hid (HB31.out.trans (hb32.mono HB31.out.size))
    have HD32 := Lib.hid (HD31.out.trans (hb32.mono HD31.out.size))
    clear hb32
    go_wp2_with fail
    refine (drop_anyS A5 _ c5 (textsOf X) x _ HTL.out (by omega) HT2.out (HTX.out.below HD32.out)).mono ?_
    rintro e w33 ⟨A33, c33, rfl, hat33, hb33⟩
    have HAT33 := Lib.hid hat33
    have HC33 := Lib.hid hb33
    have HB33 := Lib.hid (HB32.out.trans (hb33.mono HB32.out.size))
    have HD33 := Lib.hid (HD32.out.trans (hb33.mono HD32.out.size))
    clear hat33 hb33
    go_wp2_with fail
    refine (rdrop4_any A2 _ c2 X x _ HXL.out (by omega) (HX.out.below HD33.out)).mono ?_
    rintro e w34 ⟨v34, rfl, hown34, hb34⟩
    obtain ⟨A34, c34, rfl, _, _, hat34⟩ := at_of_own' hown34
    have HAT34 := Lib.hid hat34
    have HAN34 := Lib.hid (own_addr hown34)
    have HC34 := Lib.hid hb34
    have HB34 := Lib.hid (HB33.out.trans (hb34.mono HB33.out.size))
    have HD34 := Lib.hid (HD33.out.trans (hb34.mono HD33.out.size))
    clear hown34 hat34 hb34
    go_wp2_with fail
    refine (isTexts_yes A33 A34 _ c33 _ c34 _ _ _ rfl rfl (texts_drop X x) (by unfold maxLen; have := HFS.out (keepN x); omega) (by unfold maxLen; have := HFL.out (keepN x); exact Nat.le_trans this (by omega)) (HAT33.out.below HC34.out) HAT34.out (HVF.out _) (tab_below HT.out HB34.out)).mono ?_
    rintro e w35 ⟨rfl, hb35⟩
    have HC35 := Lib.hid hb35
    have HB35 := Lib.hid (HB34.out.trans (hb35.mono HB34.out.size))
    have HD35 := Lib.hid (HD34.out.trans (hb35.mono HD34.out.size))
    clear hb35
    go_wp2_with fail
    refine (mine_any A4 _ c4 X _ HXL.out (by omega) HM2.out (HM.out.below HD35.out)).mono ?_
    rintro e w36 ⟨A36, c36, rfl, hat36, hb36⟩
    have HAT36 := Lib.hid hat36
    have HC36 := Lib.hid hb36
    have HB36 := Lib.hid (HB35.out.trans (hb36.mono HB35.out.size))
    have HD36 := Lib.hid (HD35.out.trans (hb36.mono HD35.out.size))
    clear hat36 hb36
    go_wp2_with fail
    refine (rmine_any A2 _ c2 X _ HXL.out (by omega) (HX.out.below HD36.out)).mono ?_
    rintro e w37 ⟨v37, rfl, hown37, hb37⟩
    obtain ⟨A37, c37, rfl, _, _, hat37⟩ := at_of_own' hown37
    have HAT37 := Lib.hid hat37
    have HAN37 := Lib.hid (own_addr hown37)
    have HC37 := Lib.hid hb37
    have HB37 := Lib.hid (HB36.out.trans (hb37.mono HB36.out.size))
    have HD37 := Lib.hid (HD36.out.trans (hb37.mono HD36.out.size))
    clear hown37 hat37 hb37
    go_wp2_with fail
    refine (is_yes A36 A37 _ c36 _ c37 _ _ _ rfl rfl rfl (by unfold maxLen; have := HFL.out keepM; omega) (HAT36.out.below HC37.out) HAT37.out).mono ?_
    rintro e w38 ⟨rfl, hb38⟩
    have HC38 := Lib.hid hb38
    have HB38 := Lib.hid (HB37.out.trans (hb38.mono HB37.out.size))
    have HD38 := Lib.hid (HD37.out.trans (hb38.mono HD37.out.size))
    clear hb38
    go_wp2_with fail
    refine (mine_anyS A5 _ c5 (textsOf X) _ HTL.out (by omega) HT2.out (HTX.out.below HD38.out)).mono ?_
    rintro e w39 ⟨A39, c39, rfl, hat39, hb39⟩
    have HAT39 := Lib.hid hat39
    have HC39 := Lib.hid hb39
    have HB39 := Lib.hid (HB38.out.trans (hb39.mono HB38.out.size))
    have HD39 := Lib.hid (HD38.out.trans (hb39.mono HD38.out.size))
    clear hat39 hb39
    go_wp2_with fail
    refine (rmine_any A2 _ c2 X _ HXL.out (by omega) (HX.out.below HD39.out)).mono ?_
    rintro e w40 ⟨v40, rfl, hown40, hb40⟩
    obtain ⟨A40, c40, rfl, _, _, hat40⟩ := at_of_own' hown40
    have HAT40 := Lib.hid hat40
    have HAN40 := Lib.hid (own_addr hown40)
    have HC40 := Lib.hid hb40
    have HB40 := Lib.hid (HB39.out.trans (hb40.mono HB39.out.size))
    have HD40 := Lib.hid (HD39.out.trans (hb40.mono HD39.out.size))
    clear hown40 hat40 hb40
    go_wp2_with fail
    refine (isTexts_yes A39 A40 _ c39 _ c40 _ _ _ rfl rfl (texts_mine X) (by unfold maxLen; have := HFS.out keepM; omega) (by unfold maxLen; have := HFL.out keepM; omega) (HAT39.out.below HC40.out) HAT40.out (HVF.out _) (tab_below HT.out HB40.out)).mono ?_
    rintro e w41 ⟨rfl, hb41⟩
    have HC41 := Lib.hid hb41
    have HB41 := Lib.hid (HB40.out.trans (hb41.mono HB40.out.size))
    have HD41 := Lib.hid (HD40.out.trans (hb41.mono HD40.out.size))
    clear hb41
    go_wp2
    go_ret
    exact ⟨rfl, HB41.out⟩
end Go.Proofs.YtibcfmfihcgijaaDoor
/- The walk of PropsTurns. -/
namespace Go.Proofs.YtibcfmfihcgijaaDoor
open Go.RowKit M
def sText (s : PStp) : PStpS := (s.1, s.2.1, if s.1 then ⟨#[]⟩ else itoaB s.2.2)
theorem texts_turn (a b : List Par) : turnP (textsOf a) (textsOf b) = (turnP a b).map sText := by
  have ea : ∀ x, getP (textsOf a) x = (getP a x).map itoaB := fun x => getP_mapV itoaB a x
  have eb : ∀ x, getP (textsOf b) x = (getP b x).map itoaB := fun x => getP_mapV itoaB b x
  unfold turnP dropsP setsP
  rw [texts_of, texts_of, List.map_append]
  congr 1
  · unfold textsOf
    rw [List.filter_map, List.map_map, List.map_map]
    congr 1
    apply List.filter_congr
    intro p _
    show (getP (textsOf b) p.1).isNone = _
    rw [eb]
    cases getP b p.1 <;> rfl
  · unfold textsOf
    rw [List.filter_map, List.map_map, List.map_map]
    congr 1
    apply List.filter_congr
    intro p _
    show (!decide (getP (textsOf a) p.1 = some (itoaB p.2))) = _
    rw [ea]
    congr 1
    rw [decide_eq_decide]
    cases h : getP a p.1 with
    | none => simp
    | some z => simp only [Option.map_some, Option.some.injEq]; exact ⟨fun h => itoaB_inj _ _ h, fun h => by rw [h]⟩
theorem turn_wf {a b : List Par} (hb : ∀ p ∈ b, (Lit.int .i64 p.2).wf = true) : ∀ s ∈ turnP a b, (Lit.int .i64 s.2.2).wf = true := by
  intro s hs
  rcases List.mem_append.1 hs with h | h
  · obtain ⟨p, _, rfl⟩ := List.mem_map.1 h
    rfl
  · obtain ⟨p, hp, rfl⟩ := List.mem_map.1 h
    exact hb p (ofP_sub (List.mem_filter.1 hp).1)
theorem at_stp {w : World} {A : Option Addr} {L : List PStp} (h : At w A (psv L)) {k : Nat} (hk : k < L.length) :
    ∃ b off, A = some ⟨b, off, none⟩ ∧ b < w.heap.size ∧ w.cell? ⟨b, off + k * 3, none⟩ = some (.bool L[k].1) ∧ w.cell? ⟨b, off + k * 3 + 1, none⟩ = some (.string L[k].2.1) ∧ w.cell? ⟨b, off + k * 3 + 2, none⟩ = some (.int .i64 L[k].2.2) := by
  obtain ⟨h1, h2, h3⟩ := psv_at L k hk
  obtain ⟨b, off, e, hb, hc⟩ := h (fun e => by rw [e] at h1; cases h1)
  exact ⟨b, off, e, hb, hc _ _ h1, hc _ _ h2, hc _ _ h3⟩
theorem at_stpS {w : World} {A : Option Addr} {L : List PStpS} (h : At w A (psvS L)) {k : Nat} (hk : k < L.length) :
    ∃ b off, A = some ⟨b, off, none⟩ ∧ b < w.heap.size ∧ w.cell? ⟨b, off + k * 3, none⟩ = some (.bool L[k].1) ∧ w.cell? ⟨b, off + k * 3 + 1, none⟩ = some (.string L[k].2.1) ∧ w.cell? ⟨b, off + k * 3 + 2, none⟩ = some (.string L[k].2.2) := by
  have h1 := St.flat_at (enc := encQS) encQ_lenS L k hk 0 (by omega)
  have h2 := St.flat_at (enc := encQS) encQ_lenS L k hk 1 (by omega)
  have h3 := St.flat_at (enc := encQS) encQ_lenS L k hk 2 (by omega)
  obtain ⟨b, off, e, hb, hc⟩ := h (fun e => by rw [show L.flatMap encQS = [] from e] at h1; simp [encQS] at h1)
  exact ⟨b, off, e, hb, hc _ _ h1, hc _ _ h2, hc _ _ h3⟩
set_option maxHeartbeats 16000000 in
set_option maxRecDepth 100000 in
theorem propsTurns_any (A B : Option Addr) (n c m d : Nat) (a b : List Par) (w : World) (hn : n = a.length) (hm : m = b.length) (hb : n ≤ maxLen) (hb2 : m ≤ maxLen) (ha : At w A (pv a)) (hb' : At w B (pv b))
    (va : ∀ p ∈ a, (Lit.int .i64 p.2).wf = true) (vb : ∀ p ∈ b, (Lit.int .i64 p.2).wf = true) (ht : Tab w) :
    Calls Tryd.prog 5 #[.slice A n c, .slice B m d] w fun e w' => e = .returned (.bool true) ∧ RowKit.Below w.heap.size w w' := by
  have mixed : Tryd.prog.follows .mixedOrders = true := by kernel_rfl
  have HF1 : Hid (∀ w1 : World, RowKit.Below w.heap.size w w1 → Calls Tryd.prog 7 #[.slice A n c, .int .i64 10] w1 fun e w' => ∃ v, e = .returned v ∧ w'.ownsRow w1.heap.size 38 2 v (fewP a 10).length (pv (fewP a 10)) ∧ RowKit.Below w1.heap.size w1 w') := fun w1 h => few4_any A n c 10 a w1 hn hb (by omega) (by omega) (ha.below h)
  have HF2 : Hid (∀ w1 : World, RowKit.Below w.heap.size w w1 → Calls Tryd.prog 7 #[.slice B m d, .int .i64 10] w1 fun e w' => ∃ v, e = .returned v ∧ w'.ownsRow w1.heap.size 38 2 v (fewP b 10).length (pv (fewP b 10)) ∧ RowKit.Below w1.heap.size w1 w') := fun w1 h => few4_any B m d 10 b w1 hm hb2 (by omega) (by omega) (hb'.below h)
  have hl1 := fewP_len a 10
  have hl2 := fewP_len b 10
  have HVX := Lib.hid (fewP_wf (k := 10) va)
  have HVY := Lib.hid (fewP_wf (k := 10) vb)
  have HT := Lib.hid ht
  clear ha hb' hn hm hb hb2 va vb ht
  generalize fewP a 10 = X at hl1 HF1 HVX
  generalize fewP b 10 = Y at hl2 HF2 HVY
  have hr1 := ofP_len X
  have hr2 := ofP_len Y
  have htl := turnP_len X Y
  have HVO : Hid (∀ p ∈ ofP Y, (Lit.int .i64 p.2).wf = true) := fun p hp => HVY.out p (ofP_sub hp)
  have HTW := Lib.hid (turn_wf (a := X) HVY.out)
  have HTT := Lib.hid (texts_turn X Y)
  have HLD := Lib.hid (turnP_leads X Y)
  have HLS : Hid (applyP (textsOf X) ((turnP X Y).map sText) = textsOf (ofP Y)) := by show _ = _; rw [← texts_turn, turnP_leads, texts_of]
  go_enter Tryd.func5, Tryd.ntmps5
  go_wp2_with fail
  refine (awake4_any _).mono ?_
  rintro e w1 ⟨rfl, hb1⟩
  have HB1 := Lib.hid hb1
  clear hb1
  go_wp2_with fail
  refine (HF1.out w1 HB1.out).mono ?_
  rintro e w2 ⟨v2, rfl, hown2, hb2⟩
  obtain ⟨A2, c2, rfl, _, _, hat2⟩ := at_of_own' hown2
  have HAT2 := Lib.hid hat2
  have HAN2 := Lib.hid (own_addr hown2)
  have HC2 := Lib.hid hb2
  have HB2 := Lib.hid (HB1.out.trans (hb2.mono HB1.out.size))
  clear hown2 hat2 hb2
  go_wp2_with fail
  refine (HF2.out w2 HB2.out).mono ?_
  rintro e w3 ⟨v3, rfl, hown3, hb3⟩
  obtain ⟨A3, c3, rfl, _, _, hat3⟩ := at_of_own' hown3
  have HAT3 := Lib.hid hat3
  have HAN3 := Lib.hid (own_addr hown3)
  have HC3 := Lib.hid hb3
  have HB3 := Lib.hid (HB2.out.trans (hb3.mono HB2.out.size))
  clear hown3 hat3 hb3
  go_wp2_with fail
  refine (own4_any A2 _ c2 X _ rfl (by omega) (HAT2.out.below HC3.out)).mono ?_
  rintro e w4 ⟨v4, rfl, hown4, hb4⟩
  obtain ⟨A4, c4, rfl, _, _, hat4⟩ := at_of_own' hown4
  have HAT4 := Lib.hid hat4
  have HAN4 := Lib.hid (own_addr hown4)
  have HC4 := Lib.hid hb4
  have HB4 := Lib.hid (HB3.out.trans (hb4.mono HB3.out.size))
  clear hown4 hat4 hb4
  go_wp2_with fail
  refine (own4_any A3 _ c3 Y _ rfl (by omega) (HAT3.out.below HC4.out)).mono ?_
  rintro e w5 ⟨v5, rfl, hown5, hb5⟩
  obtain ⟨A5, c5, rfl, _, _, hat5⟩ := at_of_own' hown5
  have HAT5 := Lib.hid hat5
  have HAN5 := Lib.hid (own_addr hown5)
  have HC5 := Lib.hid hb5
  have HB5 := Lib.hid (HB4.out.trans (hb5.mono HB4.out.size))
  clear hown5 hat5 hb5
  go_wp2_with fail
  refine (turn_any A4 A5 _ c4 _ c5 X Y _ rfl rfl (by omega) (by omega) HAN4.out HAN5.out (HAT4.out.below HC5.out) HAT5.out).mono ?_
  rintro e w6 ⟨v6, rfl, hown6, hb6⟩
  obtain ⟨A6, c6, rfl, _, _, hat6⟩ := at_of_own' hown6
  have HAT6 := Lib.hid hat6
  have HAN6 := Lib.hid (own_addr hown6)
  have HC6 := Lib.hid hb6
  have HB6 := Lib.hid (HB5.out.trans (hb6.mono HB5.out.size))
  clear hown6 hat6 hb6
  go_wp2_with fail
  refine (texts_any A2 _ c2 X _ rfl (by omega) ((((HAT2.out.below HC3.out).below HC4.out).below HC5.out).below HC6.out) HVX.out (tab_below HT.out HB6.out)).mono ?_
  rintro e w7 ⟨v7, rfl, hown7, hb7⟩
  obtain ⟨A7, c7, rfl, _, _, hat7⟩ := at_of_own' hown7
  have HAT7 := Lib.hid hat7
  have HAN7 := Lib.hid (own_addr hown7)
  have HC7 := Lib.hid hb7
  have HB7 := Lib.hid (HB6.out.trans (hb7.mono HB6.out.size))
  clear hown7 hat7 hb7
  go_wp2_with fail
  refine (texts_any A3 _ c3 Y _ rfl (by omega) ((((HAT3.out.below HC4.out).below HC5.out).below HC6.out).below HC7.out) HVY.out (tab_below HT.out HB7.out)).mono ?_
  rintro e w8 ⟨v8, rfl, hown8, hb8⟩
  obtain ⟨A8, c8, rfl, _, _, hat8⟩ := at_of_own' hown8
  have HAT8 := Lib.hid hat8
  have HAN8 := Lib.hid (own_addr hown8)
  have HC8 := Lib.hid hb8
  have HB8 := Lib.hid (HB7.out.trans (hb8.mono HB7.out.size))
  clear hown8 hat8 hb8
  go_wp2_with fail
  refine (turn_anyS A7 A8 _ c7 _ c8 (textsOf X) (textsOf Y) _ (textsOf_len X).symm (textsOf_len Y).symm (by omega) (by omega) HAN7.out HAN8.out (HAT7.out.below HC8.out) HAT8.out).mono ?_
  rintro e w9 ⟨v9, rfl, hown9, hb9⟩
  obtain ⟨A9, c9, rfl, _, _, hat9⟩ := at_of_own' hown9
  have HAT9 := Lib.hid hat9
  have HAN9 := Lib.hid (own_addr hown9)
  have HC9 := Lib.hid hb9
  have HB9 := Lib.hid (HB8.out.trans (hb9.mono HB8.out.size))
  clear hown9 hat9 hb9
  go_wp2_with fail
  refine (rturn_any A2 A3 _ c2 _ c3 X Y _ rfl rfl (by omega) (by omega) (((((((HAT2.out.below HC3.out).below HC4.out).below HC5.out).below HC6.out).below HC7.out).below HC8.out).below HC9.out) ((((((HAT3.out.below HC4.out).below HC5.out).below HC6.out).below HC7.out).below HC8.out).below HC9.out)).mono ?_
  rintro e w10 ⟨v10, rfl, hown10, hb10⟩
  obtain ⟨A10, c10, rfl, _, _, hat10⟩ := at_of_own' hown10
  have HAT10 := Lib.hid hat10
  have HAN10 := Lib.hid (own_addr hown10)
  have HC10 := Lib.hid hb10
  have HB10 := Lib.hid (HB9.out.trans (hb10.mono HB9.out.size))
  clear hown10 hat10 hb10

  have HX := Lib.hid (((((((((HAT2.out.below HC3.out).below HC4.out).below HC5.out).below HC6.out).below HC7.out).below HC8.out).below HC9.out).below HC10.out))
  have HY := Lib.hid ((((((((HAT3.out.below HC4.out).below HC5.out).below HC6.out).below HC7.out).below HC8.out).below HC9.out).below HC10.out))
  have HL := Lib.hid (((((HAT6.out.below HC7.out).below HC8.out).below HC9.out).below HC10.out))
  have HS0 := Lib.hid ((HAT9.out.below HC10.out))
  have HW := Lib.hid HAT10.out
  have hls : (turnP (textsOf X) (textsOf Y)).length = (turnP X Y).length := by rw [texts_turn, List.length_map]
  have HS : Hid (At w10 A9 (psvS ((turnP X Y).map sText))) := by show At _ _ _; rw [← HTT.out]; exact HS0.out
  have HN9 : Hid (A9 = none → (turnP X Y).length = 0 ∧ c9 = 0) := by show _; rw [← hls]; exact HAN9.out
  rw [hls]
  have HN6 := HAN6
  clear HAT2 HAT3 HAT4 HAT5 HAT6 HAT7 HAT8 HAT9 HAT10 HAN2 HAN3 HAN4 HAN5 HAN6 HAN7 HAN8 HAN9 HAN10 HC2 HC3 HC4 HC5 HC6 HC7 HC8 HC9 HC10 HB1 HB2 HB3 HB4 HB5 HB6 HB7 HB8 HB9 HF1 HF2 HS0 hls HTT
  generalize turnP X Y = S at htl HTW HLD HLS HL HW HS HN9 HN6
  obtain ⟨ns, hns⟩ : ∃ ns, ns = S.length := ⟨_, rfl⟩
  rw [← hns] at htl HN9 HN6
  rw [← hns]
  have HNS := Lib.hid hns
  clear hns
  rename World => wb
  have HDb := Lib.hid (Below.refl wb.heap.size wb)
  go_wp2
  go_loopw [44] (fun i wr => ∃ k : Nat, k ≤ ns ∧ i = .int .i64 k ∧ Below wb.heap.size wb wr) (fun i _ => ns - (intOf i).toNat)
  case atStart => exact ⟨0, Nat.zero_le _, rfl, Below.refl _ _⟩
  case round =>
    obtain ⟨k, hk, rfl, hbel⟩ := hrel
    have hsz := hbel.size
    by_cases hlt : k < ns
    · have hk1 : k < S.length := by have := HNS.out; omega
      have hk2 : k < (S.map sText).length := by rw [List.length_map]; exact hk1
      have hw := HTW.out S[k] (List.getElem_mem hk1)
      obtain ⟨b0, o0, rfl, hb0, p0, p1, p2⟩ := at_stp (HL.out.below hbel) hk1
      obtain ⟨b1, o1, rfl, hb1, q0, q1, q2⟩ := at_stp (HW.out.below hbel) hk1
      obtain ⟨b2, o2, rfl, hb2, r0, r1, r2⟩ := at_stpS (HS.out.below hbel) hk2
      rw [List.getElem_map] at r0 r1 r2
      obtain ⟨y, hy⟩ : ∃ y, y = S[k] := ⟨_, rfl⟩
      rw [← hy] at hw p0 p1 p2 q0 q1 q2 r0 r1 r2
      obtain ⟨f, s, z⟩ := y
      have HWZ := Lib.hid hw
      clear hy hw
      have hss := str_yes (rfl : s = s)
      have hzz : (z == z) = true := beq_self_eq_true z
      have hii := str_yes (rfl : itoaB z = itoaB z)
      have hee := str_yes (rfl : (⟨#[]⟩ : ByteArray) = ⟨#[]⟩)
      cases f with
      | true =>
        simp only [sText, if_true] at r0 r1 r2
        have HP0 := Lib.hid p0
        have HP1 := Lib.hid p1
        have HP2 := Lib.hid p2
        have HR0 := Lib.hid r0
        have HR1 := Lib.hid r1
        have HR2 := Lib.hid r2
        clear p0 p1 p2 r0 r1 r2
        have HBW := Lib.hid (hbel.alloc hsz (.cells #[.bool true, .string s, .int .i64 z] 62))
        go_wp2_with fail
        refine (itoa_bel z _ HWZ.out (tab_below HT.out (HB10.out.trans (HBW.out.mono HB10.out.size)))).mono ?_
        rintro e w5 ⟨rfl, hb5⟩
        have HB5 := Lib.hid (HBW.out.trans (hb5.mono HBW.out.size))
        have x0 : w5.cell? ⟨wr.heap.size, 0, none⟩ = some (.bool true) := (hb5.cell (p := ⟨wr.heap.size, 0, none⟩) (by simp)).trans (by simp)
        have x1 : w5.cell? ⟨wr.heap.size, 1, none⟩ = some (.string s) := (hb5.cell (p := ⟨wr.heap.size, 1, none⟩) (by simp)).trans (by simp)
        have x2 : w5.cell? ⟨wr.heap.size, 2, none⟩ = some (.int .i64 z) := (hb5.cell (p := ⟨wr.heap.size, 2, none⟩) (by simp)).trans (by simp)
        have G5 := (below_alloc wr (.cells #[.bool true, .string s, .int .i64 z] 62)).trans (hb5.mono (by simp))
        have p0 := (G5.cell (p := ⟨b0, o0 + k * 3, none⟩) hb0).trans HP0.out
        have p1 := (G5.cell (p := ⟨b0, o0 + k * 3 + 1, none⟩) hb0).trans HP1.out
        have p2 := (G5.cell (p := ⟨b0, o0 + k * 3 + 2, none⟩) hb0).trans HP2.out
        have r0 := (G5.cell (p := ⟨b2, o2 + k * 3, none⟩) hb2).trans HR0.out
        have r1 := (G5.cell (p := ⟨b2, o2 + k * 3 + 1, none⟩) hb2).trans HR1.out
        have r2 := (G5.cell (p := ⟨b2, o2 + k * 3 + 2, none⟩) hb2).trans HR2.out
        clear q0 q1 q2 hb5 G5
        go_wp2
        go_quiet (fail)
        go_wp2
        go_roundw
        case rel => exact ⟨k + 1, by omega, by go_num, drewN_below' HB5.out _⟩
        case measure => simp [intOf]; omega
      | false =>
        simp only [sText, Bool.false_eq_true, if_false] at r0 r1 r2
        have HP0 := Lib.hid p0
        have HP1 := Lib.hid p1
        have HP2 := Lib.hid p2
        have HR0 := Lib.hid r0
        have HR1 := Lib.hid r1
        have HR2 := Lib.hid r2
        clear p0 p1 p2 r0 r1 r2
        have HBW := Lib.hid (hbel.alloc hsz (.cells #[.bool false, .string s, .int .i64 z] 62))
        go_wp2_with fail
        refine (itoa_bel z _ HWZ.out (tab_below HT.out (HB10.out.trans (HBW.out.mono HB10.out.size)))).mono ?_
        rintro e w5 ⟨rfl, hb5⟩
        have HB5 := Lib.hid (HBW.out.trans (hb5.mono HBW.out.size))
        have x0 : w5.cell? ⟨wr.heap.size, 0, none⟩ = some (.bool false) := (hb5.cell (p := ⟨wr.heap.size, 0, none⟩) (by simp)).trans (by simp)
        have x1 : w5.cell? ⟨wr.heap.size, 1, none⟩ = some (.string s) := (hb5.cell (p := ⟨wr.heap.size, 1, none⟩) (by simp)).trans (by simp)
        have x2 : w5.cell? ⟨wr.heap.size, 2, none⟩ = some (.int .i64 z) := (hb5.cell (p := ⟨wr.heap.size, 2, none⟩) (by simp)).trans (by simp)
        have G5 := (below_alloc wr (.cells #[.bool false, .string s, .int .i64 z] 62)).trans (hb5.mono (by simp))
        have p0 := (G5.cell (p := ⟨b0, o0 + k * 3, none⟩) hb0).trans HP0.out
        have p1 := (G5.cell (p := ⟨b0, o0 + k * 3 + 1, none⟩) hb0).trans HP1.out
        have p2 := (G5.cell (p := ⟨b0, o0 + k * 3 + 2, none⟩) hb0).trans HP2.out
        have r0 := (G5.cell (p := ⟨b2, o2 + k * 3, none⟩) hb2).trans HR0.out
        have r1 := (G5.cell (p := ⟨b2, o2 + k * 3 + 1, none⟩) hb2).trans HR1.out
        have r2 := (G5.cell (p := ⟨b2, o2 + k * 3 + 2, none⟩) hb2).trans HR2.out
        clear q0 q1 q2 hb5 G5
        go_wp2
        go_quiet (fail)
        go_wp2
        go_roundw
        case rel => exact ⟨k + 1, by omega, by go_num, drewN_below' HB5.out _⟩
        case measure => simp [intOf]; omega
    · obtain rfl : k = ns := by omega
      rename World => wl
      have HDL := Lib.hid hbel
      have HBL := Lib.hid (HB10.out.trans (hbel.mono HB10.out.size))
      clear hbel
      go_wp2_with fail
      refine (own4_any A2 _ c2 X _ rfl (by omega) (HX.out.below HDL.out)).mono ?_
      rintro e w11 ⟨v11, rfl, hown11, hb11⟩
      obtain ⟨A11, c11, rfl, _, _, hat11⟩ := at_of_own' hown11
      have HAT11 := Lib.hid hat11
      have HAN11 := Lib.hid (own_addr hown11)
      have HC11 := Lib.hid hb11
      have HB11 := Lib.hid (HBL.out.trans (hb11.mono HBL.out.size))
      have HD11 := Lib.hid (HDL.out.trans (hb11.mono HDL.out.size))
      clear hown11 hat11 hb11
      go_wp2_with fail
      refine (apply_any A11 A6 _ c11 _ c6 X S _ rfl HNS.out (by omega) (by omega) HN6.out HAT11.out (HL.out.below HD11.out)).mono ?_
      rintro e w12 ⟨v12, rfl, hown12, hb12⟩
      obtain ⟨A12, c12, rfl, _, _, hat12⟩ := at_of_own' hown12
      have HAT12 := Lib.hid hat12
      have HAN12 := Lib.hid (own_addr hown12)
      have HC12 := Lib.hid hb12
      have HB12 := Lib.hid (HB11.out.trans (hb12.mono HB11.out.size))
      have HD12 := Lib.hid (HD11.out.trans (hb12.mono HD11.out.size))
      clear hown12 hat12 hb12
      go_wp2_with fail
      refine (rof_any A3 _ c3 Y _ rfl (by omega) (HY.out.below HD12.out)).mono ?_
      rintro e w13 ⟨v13, rfl, hown13, hb13⟩
      obtain ⟨A13, c13, rfl, _, _, hat13⟩ := at_of_own' hown13
      have HAT13 := Lib.hid hat13
      have HAN13 := Lib.hid (own_addr hown13)
      have HC13 := Lib.hid hb13
      have HB13 := Lib.hid (HB12.out.trans (hb13.mono HB12.out.size))
      have HD13 := Lib.hid (HD12.out.trans (hb13.mono HD12.out.size))
      clear hown13 hat13 hb13
      go_wp2_with fail
      refine (is_yes A12 A13 _ c12 _ c13 _ _ _ rfl rfl HLD.out (by rw [HLD.out]; unfold maxLen; omega) (HAT12.out.below HC13.out) HAT13.out).mono ?_
      rintro e w14 ⟨rfl, hb14⟩
      have HC14 := Lib.hid hb14
      have HB14 := Lib.hid (HB13.out.trans (hb14.mono HB13.out.size))
      have HD14 := Lib.hid (HD13.out.trans (hb14.mono HD13.out.size))
      clear hb14
      go_wp2_with fail
      refine (texts_any A2 _ c2 X _ rfl (by omega) (HX.out.below HD14.out) HVX.out (tab_below HT.out HB14.out)).mono ?_
      rintro e w15 ⟨v15, rfl, hown15, hb15⟩
      obtain ⟨A15, c15, rfl, _, _, hat15⟩ := at_of_own' hown15
      have HAT15 := Lib.hid hat15
      have HAN15 := Lib.hid (own_addr hown15)
      have HC15 := Lib.hid hb15
      have HB15 := Lib.hid (HB14.out.trans (hb15.mono HB14.out.size))
      have HD15 := Lib.hid (HD14.out.trans (hb15.mono HD14.out.size))
      clear hown15 hat15 hb15
      go_wp2_with fail
      refine (apply_anyS A15 A9 _ c15 _ c9 (textsOf X) (S.map sText) _ (textsOf_len X).symm (by rw [List.length_map]; exact HNS.out) (by omega) (by omega) HN9.out HAT15.out (HS.out.below HD15.out)).mono ?_
      rintro e w16 ⟨v16, rfl, hown16, hb16⟩
      obtain ⟨A16, c16, rfl, _, _, hat16⟩ := at_of_own' hown16
      have HAT16 := Lib.hid hat16
      have HAN16 := Lib.hid (own_addr hown16)
      have HC16 := Lib.hid hb16
      have HB16 := Lib.hid (HB15.out.trans (hb16.mono HB15.out.size))
      have HD16 := Lib.hid (HD15.out.trans (hb16.mono HD15.out.size))
      clear hown16 hat16 hb16
      go_wp2_with fail
      refine (rof_any A3 _ c3 Y _ rfl (by omega) (HY.out.below HD16.out)).mono ?_
      rintro e w17 ⟨v17, rfl, hown17, hb17⟩
      obtain ⟨A17, c17, rfl, _, _, hat17⟩ := at_of_own' hown17
      have HAT17 := Lib.hid hat17
      have HAN17 := Lib.hid (own_addr hown17)
      have HC17 := Lib.hid hb17
      have HB17 := Lib.hid (HB16.out.trans (hb17.mono HB16.out.size))
      have HD17 := Lib.hid (HD16.out.trans (hb17.mono HD16.out.size))
      clear hown17 hat17 hb17
      go_wp2_with fail
      refine (isTexts_yes A16 A17 _ c16 _ c17 _ _ _ rfl rfl HLS.out (by rw [HLS.out, textsOf_len]; unfold maxLen; omega) (by unfold maxLen; omega) (HAT16.out.below HC17.out) HAT17.out HVO.out (tab_below HT.out HB17.out)).mono ?_
      rintro e w18 ⟨rfl, hb18⟩
      have HC18 := Lib.hid hb18
      have HB18 := Lib.hid (HB17.out.trans (hb18.mono HB17.out.size))
      have HD18 := Lib.hid (HD17.out.trans (hb18.mono HD17.out.size))
      clear hb18
      go_wp2
      go_ret
      exact ⟨rfl, HB18.out⟩
end Go.Proofs.YtibcfmfihcgijaaDoor
/- The rows' list of package-level tables gives the table of powers of ten. -/
namespace Go.Proofs.YtibcfmfihcgijaaDoor
open Go.RowKit M
theorem gPow : Tryd.prog.globalNamed "internal/strconv.uint64pow10" = some 1 := by kernel_rfl
theorem gPowType : (Tryd.prog.globals[1]?).map (·.type) = some 130 := by kernel_rfl
theorem tab_of_laid {W : World} (h : laidMetH Tryd.prog [("math/bits.deBruijn32tab", Rows.laid_math_bits_deBruijn32tab), ("math/bits.deBruijn64tab", Rows.laid_math_bits_deBruijn64tab), ("internal/strconv.uint64pow10", Rows.laid_internal_strconv_uint64pow10)] W) : Tab W := by
  rw [MakeChecks.laidMetH_plain _ _ _ (by kernel_rfl)] at h
  exact Lib.tabIs_of_head (rest := []) gPow gPowType Tryd.underlying130 Tryd.underlying116 (by kernel_rfl) (by kernel_rfl) (laidMet.tail (laidMet.tail h))
end Go.Proofs.YtibcfmfihcgijaaDoor
