/- props' Drop, Mine, Set, Get of a map, of numbers and of texts; the document's own Mine. -/
import Derived.Test.YtibcfmfihcgijaaDoorPrX5
import Derived.Test.YtibcfmfihcgijaaDoorPrX6
import Derived.Test.YtibcfmfihcgijaaDoorPrX7
import Derived.Test.YtibcfmfihcgijaaDoorPrS3
import Derived.Test.YtibcfmfihcgijaaDoorPrU4
import Derived.Test.YtibcfmfihcgijaaDoorPrW4
import Derived.Maps.AppendAt
namespace Go.Proofs.YtibcfmfihcgijaaDoor
open Go.RowKit M
theorem own_fz {w : World} {base : Nat} {e : TypeId} {size n c : Nat} {A : Option Addr} {xs : List Value} (h : w.ownsRow base e size (.slice A n c) n xs) : ∀ b off, A = some ⟨b, off, none⟩ → base ≤ b ∧ ∀ o, w.frozen? ⟨b, o, none⟩ = false := by
  intro b off hA
  rcases h.2 with ⟨hv, _⟩ | ⟨g, c', cur, hv, hb, hh, _⟩
  · injection hv with h1 _ _
    rw [hA] at h1
    cases h1
  · injection hv with h1 _ _
    rw [hA] at h1
    injection h1 with h1
    injection h1 with h1 h2
    subst h1
    exact ⟨hb, fun o => frz_of hh o⟩
def minB (s : ByteArray) : Bool := Lib.hasPrefix s.data.toList [116, 45]
def keepN {V : Type} (x : ByteArray) (p : ByteArray × V) : Bool := !decide (p.1 = x)
def keepM {V : Type} (p : ByteArray × V) : Bool := !minB p.1
theorem minB_short {s : ByteArray} (h : s.size < 2) : minB s = false := by
  have e := Lib.hasPrefix_raw s ⟨#[116, 45]⟩
  unfold minB
  rw [← e, show (⟨#[116, 45]⟩ : ByteArray).size = 2 from rfl, decide_eq_false (by omega)]
  rfl
theorem minB_long {s : ByteArray} (h : 2 ≤ s.size) : minB s = ((s.extract 0 2).toList == (⟨#[116, 45]⟩ : ByteArray).toList) := by
  have e := Lib.hasPrefix_raw s ⟨#[116, 45]⟩
  unfold minB
  rw [← e, show (⟨#[116, 45]⟩ : ByteArray).size = 2 from rfl, decide_eq_true h]
  rfl
theorem drop1 (B : Nat) (x s : ByteArray) (z : Int) (w : World) (hB : w.cell? ⟨B, 0, none⟩ = some (.string x)) :
    Calls Tryd.prog 43 #[.agg #[.string s, .int .i64 z], .pointer (some ⟨B, 0, none⟩)] w fun e w' => e = .returned (.bool (decide (s = x))) ∧ Below w.heap.size w w' := by
  have hB' : (w.alloc (.cells #[.string s, .int .i64 z] 68)).cell? ⟨B, 0, none⟩ = some (.string x) := Lib.cell?_alloc_some _ hB
  by_cases h : s = x
  · have h1 := str_yes h
    have H : Hid (decide (s = x) = true) := decide_eq_true h
    clear h hB
    go_enter Tryd.func43, Tryd.ntmps43
    go_wp2
    go_ret
    exact ⟨ret_bool' H.out.symm, below_alloc _ _⟩
  · have h1 := str_no h
    have H : Hid (decide (s = x) = false) := decide_eq_false h
    clear h hB
    go_enter Tryd.func43, Tryd.ntmps43
    go_wp2
    go_ret
    exact ⟨ret_bool' H.out.symm, below_alloc _ _⟩
theorem mine1 (s : ByteArray) (z : Int) (w : World) :
    Calls Tryd.prog 46 #[.agg #[.string s, .int .i64 z]] w fun e w' => e = .returned (.bool (minB s)) ∧ Below w.heap.size w w' := by
  go_enter Tryd.func46, Tryd.ntmps46
  go_wp2_with (go_at_call 47; refine (Tryd.strings_HasPrefix _ _ _).mono ?_; rintro e w6 ⟨rfl, hw6⟩; subst hw6)
  go_ret
  exact ⟨rfl, below_alloc _ _⟩
set_option maxHeartbeats 2000000 in
theorem drop_any (A : Option Addr) (n c : Nat) (l : List Par) (x : ByteArray) (w : World) (hn : n = l.length) (hb : n ≤ 100000) (hA0 : A = none → n = 0 ∧ c = 0) (ha : At w A (pv l)) :
    Calls Tryd.prog 21 #[.slice A n c, .string x] w fun e w' => ∃ A' c', e = .returned (.slice A' ((ofP l).filter (keepN x)).length c') ∧ At w' A' (pv ((ofP l).filter (keepN x))) ∧ Below w.heap.size w w' := by
  have H := Lib.hid (of_any A n c l (w.alloc (.cells #[.string x] 9)) hn hb hA0 (ha.alloc _))
  have hml := ofP_len l
  rw [← hn] at hml
  clear hn hA0 ha
  generalize ofP l = R at H hml
  go_enter Tryd.func21, Tryd.ntmps21
  go_wp2_with fail
  refine H.out.mono ?_
  rintro e w1 ⟨v, rfl, hown, hbel⟩
  obtain ⟨A1, c1, rfl, hc1, hm1, hat⟩ := at_of_own' hown
  have HBX : Hid (w1.cell? ⟨w.heap.size, 0, none⟩ = some (.string x)) := (hbel.cell (p := ⟨w.heap.size, 0, none⟩) (by simp)).trans (by simp)
  have HD := Lib.hid (delDrop w.heap.size A1 R.length c1 (w.alloc (.cells #[.string x] 9)).heap.size R (fun q => decide (q.1 = x)) w1 rfl (by omega) hc1 hm1 hat hbel.size (own_fz hown) (fun s z W hW => drop1 w.heap.size x s z W ((hW.cell (p := ⟨w.heap.size, 0, none⟩) (by simp)).trans HBX.out)))
  have HB := Lib.hid hbel
  clear hown hbel hat H HBX
  go_wp2_with fail
  refine HD.out.mono ?_
  rintro e w2 ⟨c2, rfl, hat2, hb2⟩
  have HAT := Lib.hid hat2
  have HBL := Lib.hid ((below_alloc w _).trans ((HB.out.trans hb2).mono (by simp)))
  clear hat2 hb2 HD HB
  go_wp2
  go_ret
  exact ⟨_, _, rfl, HAT.out, HBL.out⟩
set_option maxHeartbeats 2000000 in
theorem mine_any (A : Option Addr) (n c : Nat) (l : List Par) (w : World) (hn : n = l.length) (hb : n ≤ 100000) (hA0 : A = none → n = 0 ∧ c = 0) (ha : At w A (pv l)) :
    Calls Tryd.prog 24 #[.slice A n c] w fun e w' => ∃ A' c', e = .returned (.slice A' ((ofP l).filter keepM).length c') ∧ At w' A' (pv ((ofP l).filter keepM)) ∧ Below w.heap.size w w' := by
  have H := Lib.hid (of_any A n c l w hn hb hA0 ha)
  have hml := ofP_len l
  rw [← hn] at hml
  clear hn hA0 ha
  generalize ofP l = R at H hml
  go_enter Tryd.func24, Tryd.ntmps24
  go_wp2_with fail
  refine H.out.mono ?_
  rintro e w1 ⟨v, rfl, hown, hbel⟩
  obtain ⟨A1, c1, rfl, hc1, hm1, hat⟩ := at_of_own' hown
  have HD := Lib.hid (delMine A1 R.length c1 w.heap.size R (fun q => minB q.1) w1 rfl (by omega) hc1 hm1 hat hbel.size (own_fz hown) (fun s z W _ => mine1 s z W))
  have HB := Lib.hid hbel
  clear hown hbel hat H
  go_wp2_with fail
  refine HD.out.mono ?_
  rintro e w2 ⟨c2, rfl, hat2, hb2⟩
  have HAT := Lib.hid hat2
  have HBL := Lib.hid (HB.out.trans hb2)
  clear hat2 hb2 HD HB
  go_wp2
  go_ret
  exact ⟨_, _, rfl, HAT.out, HBL.out⟩
theorem drop1S (B : Nat) (x s : ByteArray) (z : ByteArray) (w : World) (hB : w.cell? ⟨B, 0, none⟩ = some (.string x)) :
    Calls Tryd.prog 45 #[.agg #[.string s, .string z], .pointer (some ⟨B, 0, none⟩)] w fun e w' => e = .returned (.bool (decide (s = x))) ∧ Below w.heap.size w w' := by
  have hB' : (w.alloc (.cells #[.string s, .string z] 70)).cell? ⟨B, 0, none⟩ = some (.string x) := Lib.cell?_alloc_some _ hB
  by_cases h : s = x
  · have h1 := str_yes h
    have H : Hid (decide (s = x) = true) := decide_eq_true h
    clear h hB
    go_enter Tryd.func45, Tryd.ntmps45
    go_wp2
    go_ret
    exact ⟨ret_bool' H.out.symm, below_alloc _ _⟩
  · have h1 := str_no h
    have H : Hid (decide (s = x) = false) := decide_eq_false h
    clear h hB
    go_enter Tryd.func45, Tryd.ntmps45
    go_wp2
    go_ret
    exact ⟨ret_bool' H.out.symm, below_alloc _ _⟩
theorem mine1S (s : ByteArray) (z : ByteArray) (w : World) :
    Calls Tryd.prog 48 #[.agg #[.string s, .string z]] w fun e w' => e = .returned (.bool (minB s)) ∧ Below w.heap.size w w' := by
  go_enter Tryd.func48, Tryd.ntmps48
  go_wp2_with (go_at_call 47; refine (Tryd.strings_HasPrefix _ _ _).mono ?_; rintro e w6 ⟨rfl, hw6⟩; subst hw6)
  go_ret
  exact ⟨rfl, below_alloc _ _⟩
set_option maxHeartbeats 2000000 in
theorem drop_anyS (A : Option Addr) (n c : Nat) (l : List ParS) (x : ByteArray) (w : World) (hn : n = l.length) (hb : n ≤ 100000) (hA0 : A = none → n = 0 ∧ c = 0) (ha : At w A (pvS l)) :
    Calls Tryd.prog 23 #[.slice A n c, .string x] w fun e w' => ∃ A' c', e = .returned (.slice A' ((ofP l).filter (keepN x)).length c') ∧ At w' A' (pvS ((ofP l).filter (keepN x))) ∧ Below w.heap.size w w' := by
  have H := Lib.hid (of_anyS A n c l (w.alloc (.cells #[.string x] 9)) hn hb hA0 (ha.alloc _))
  have hml := ofP_len l
  rw [← hn] at hml
  clear hn hA0 ha
  generalize ofP l = R at H hml
  go_enter Tryd.func23, Tryd.ntmps23
  go_wp2_with fail
  refine H.out.mono ?_
  rintro e w1 ⟨v, rfl, hown, hbel⟩
  obtain ⟨A1, c1, rfl, hc1, hm1, hat⟩ := at_of_own' hown
  have HBX : Hid (w1.cell? ⟨w.heap.size, 0, none⟩ = some (.string x)) := (hbel.cell (p := ⟨w.heap.size, 0, none⟩) (by simp)).trans (by simp)
  have HD := Lib.hid (delDropS w.heap.size A1 R.length c1 (w.alloc (.cells #[.string x] 9)).heap.size R (fun q => decide (q.1 = x)) w1 rfl (by omega) hc1 hm1 hat hbel.size (own_fz hown) (fun s z W hW => drop1S w.heap.size x s z W ((hW.cell (p := ⟨w.heap.size, 0, none⟩) (by simp)).trans HBX.out)))
  have HB := Lib.hid hbel
  clear hown hbel hat H HBX
  go_wp2_with fail
  refine HD.out.mono ?_
  rintro e w2 ⟨c2, rfl, hat2, hb2⟩
  have HAT := Lib.hid hat2
  have HBL := Lib.hid ((below_alloc w _).trans ((HB.out.trans hb2).mono (by simp)))
  clear hat2 hb2 HD HB
  go_wp2
  go_ret
  exact ⟨_, _, rfl, HAT.out, HBL.out⟩
set_option maxHeartbeats 2000000 in
theorem mine_anyS (A : Option Addr) (n c : Nat) (l : List ParS) (w : World) (hn : n = l.length) (hb : n ≤ 100000) (hA0 : A = none → n = 0 ∧ c = 0) (ha : At w A (pvS l)) :
    Calls Tryd.prog 26 #[.slice A n c] w fun e w' => ∃ A' c', e = .returned (.slice A' ((ofP l).filter keepM).length c') ∧ At w' A' (pvS ((ofP l).filter keepM)) ∧ Below w.heap.size w w' := by
  have H := Lib.hid (of_anyS A n c l w hn hb hA0 ha)
  have hml := ofP_len l
  rw [← hn] at hml
  clear hn hA0 ha
  generalize ofP l = R at H hml
  go_enter Tryd.func26, Tryd.ntmps26
  go_wp2_with fail
  refine H.out.mono ?_
  rintro e w1 ⟨v, rfl, hown, hbel⟩
  obtain ⟨A1, c1, rfl, hc1, hm1, hat⟩ := at_of_own' hown
  have HD := Lib.hid (delMineS A1 R.length c1 w.heap.size R (fun q => minB q.1) w1 rfl (by omega) hc1 hm1 hat hbel.size (own_fz hown) (fun s z W _ => mine1S s z W))
  have HB := Lib.hid hbel
  clear hown hbel hat H
  go_wp2_with fail
  refine HD.out.mono ?_
  rintro e w2 ⟨c2, rfl, hat2, hb2⟩
  have HAT := Lib.hid hat2
  have HBL := Lib.hid (HB.out.trans hb2)
  clear hat2 hb2 HD HB
  go_wp2
  go_ret
  exact ⟨_, _, rfl, HAT.out, HBL.out⟩
set_option maxHeartbeats 2000000 in
theorem get_anyS (A : Option Addr) (n c : Nat) (l : List ParS) (t : ByteArray) (w : World) (hn : n = l.length) (hb : n ≤ 100000) (hA0 : A = none → n = 0 ∧ c = 0) (ha : At w A (pvS l)) :
    Calls Tryd.prog 13 #[.slice A n c, .string t] w fun e w' =>
      (∃ z, getP l t = some z ∧ e = .returned (.tuple #[.string z, .bool true]) ∧ RowKit.Below w.heap.size w w') ∨ (getP l t = none ∧ e = .returned (.tuple #[.string { data := #[] }, .bool false]) ∧ RowKit.Below w.heap.size w w') := by
  have H := Lib.hid (of_anyS A n c l w hn hb hA0 ha)
  have hml := ofP_len l
  rw [← hn] at hml
  have HRI := Lib.hid (ofP_rises l)
  have HG := Lib.hid (fun x => ofP_get l x)
  clear hn hA0 ha
  generalize ofP l = R at H hml HRI HG
  go_enter Tryd.func13, Tryd.ntmps13
  go_wp2_with fail
  refine H.out.mono ?_
  rintro e w1 ⟨v, rfl, hown, hbel⟩
  obtain ⟨A1, c1, rfl, _, _, hat⟩ := at_of_own' hown
  have HAT := Lib.hid hat
  have HB := Lib.hid hbel
  clear hown hat hbel H
  go_wp2_with fail
  refine (find_mapS A1 _ c1 R t w1 rfl (by omega) HRI.out HAT.out).mono ?_
  rintro e w2 (⟨z, hz, rfl, hb2⟩ | ⟨hz, rfl, hb2⟩)
  · have HZ := Lib.hid hz
    have HB2 := Lib.hid (HB.out.trans (hb2.mono HB.out.size))
    clear hz hb2
    go_wp2
    go_ret2
    exact .inl ⟨z, by rw [← HG.out]; exact HZ.out, rfl, HB2.out⟩
  · have HZ := Lib.hid hz
    have HB2 := Lib.hid (HB.out.trans (hb2.mono HB.out.size))
    clear hz hb2
    go_wp2
    go_ret2
    exact .inr ⟨by rw [← HG.out]; exact HZ.out, rfl, HB2.out⟩
set_option maxHeartbeats 2000000 in
theorem set_any (A : Option Addr) (n c : Nat) (l : List Par) (x : ByteArray) (z : Int) (w : World) (hn : n = l.length) (hb : n ≤ 10000) (hA0 : A = none → n = 0 ∧ c = 0) (ha : At w A (pv l)) :
    Calls Tryd.prog 20 #[.slice A n c, .string x, .int .i64 z] w fun e w' => ∃ v, e = .returned v ∧ w'.ownsRow w.heap.size 68 2 v (ofP (l ++ [(x, z)])).length (pv (ofP (l ++ [(x, z)]))) ∧ Below w.heap.size w w' := by
  obtain ⟨W, hW⟩ : ∃ W, W = (w.alloc (.cells #[.string x, .int .i64 z] 68)).alloc (.cells #[.slice A n c, .slice (some ⟨w.heap.size, 0, none⟩) 1 1] 27) := ⟨_, rfl⟩
  have hws : W.heap.size = w.heap.size + 2 := by rw [hW]; simp
  have hwb : Below w.heap.size w W := by rw [hW]; exact (below_alloc _ _).alloc (by simp) _
  have HC := Lib.hid (concat_any A (some ⟨w.heap.size, 0, none⟩) n c (w.heap.size + 1) l (x, z) W hn (by omega) hA0 (ha.below hwb) (fun h => nomatch h) (fun _ => ⟨_, 0, rfl, by omega, fun j u hu => by
    rw [hW]
    refine Lib.cell?_alloc_some _ ?_
    have e : pv [(x, z)] = [.string x, .int .i64 z] := rfl
    rw [e] at hu
    match j, hu with
    | 0, hu => simp at hu; subst hu; simp
    | 1, hu => simp at hu; subst hu; simp⟩) (by omega) (by rw [hW]; simp) (by rw [hW]; simp))
  have hl1 : n + 1 = (l ++ [(x, z)]).length := by simp [hn]
  have HL := Lib.hid hl1
  have HWB := Lib.hid hwb
  have HWE := Lib.hid hW
  clear hn hA0 ha hl1 hwb
  go_enter Tryd.func20, Tryd.ntmps20
  go_wp2_with fail
  rw [← hW]
  clear hW
  refine HC.out.mono ?_
  rintro e w1 ⟨v, rfl, hown, hbel⟩
  obtain ⟨A1, c1, rfl, _, _, hat⟩ := at_of_own' hown
  have HAT := Lib.hid hat
  have HAN := Lib.hid (own_addr hown)
  have HB := Lib.hid (HWB.out.trans (hbel.mono HWB.out.size))
  clear hown hat hbel HC
  go_wp2_with fail
  refine (of_any A1 _ c1 (l ++ [(x, z)]) w1 HL.out (by omega) HAN.out HAT.out).mono ?_
  rintro e w2 ⟨v2, rfl, hown2, hb2⟩
  have HO := Lib.hid (own_mono hown2 HB.out.size)
  have HB2 := Lib.hid (HB.out.trans (hb2.mono HB.out.size))
  clear hown2 hb2
  go_wp2
  go_ret
  exact ⟨_, rfl, HO.out, HB2.out⟩
set_option maxHeartbeats 4000000 in
set_option maxRecDepth 100000 in
theorem rmine_any (A : Option Addr) (n c : Nat) (l : List Par) (w : World) (hn : n = l.length) (hb : n ≤ 100000) (ha : At w A (pv l)) :
    Calls Tryd.prog 25 #[.slice A n c] w fun e w' => ∃ v, e = .returned v ∧ w'.ownsRow w.heap.size 38 2 v ((ofP l).filter keepM).length (pv ((ofP l).filter keepM)) ∧ Below w.heap.size w w' := by
  have hml := ofP_len l
  rw [← hn] at hml
  have HOF : Hid (Calls Tryd.prog 16 #[.slice A n c] (w.alloc (.cells #[] 38)) fun e w' => ∃ v, e = .returned v ∧ w'.ownsRow (w.alloc (.cells #[] 38)).heap.size 38 2 v (ofP l).length (pv (ofP l)) ∧ Below (w.alloc (.cells #[] 38)).heap.size (w.alloc (.cells #[] 38)) w') := rof_any A n c l _ hn hb (ha.alloc _)
  clear hn ha
  obtain ⟨i0, hi, hz0, hz1, hz2⟩ := info_parts infoPar
  generalize ofP l = R at hml HOF
  go_enter Tryd.func25, Tryd.ntmps25
  go_wp2_with (go_at_call 16; refine HOF.out.mono ?_; rintro e w1 ⟨v, rfl, hown, hbel⟩; obtain ⟨A1, c1, rfl, hc1, hm1, hat1⟩ := at_of_own' hown; have HA := Lib.hid hat1; have HB1 : Hid (∀ g off, A1 = some ⟨g, off, none⟩ → w.heap.size < g ∧ g < w1.heap.size) := (fun g off e => by subst e; have h5 := hown.lt g rfl; rw [size_alloc] at h5; exact ⟨by omega, h5.2⟩); have HB := Lib.hid ((below_alloc w (.cells #[] 38)).trans (hbel.mono (by rw [size_alloc]; omega))); have HS := Lib.hid (own_below (own_made (base := w.heap.size) (e := 38) (size := 2) w w.heap.size rfl (Nat.le_refl _)) hbel); clear hown hbel hat1)
  have hsz0 := HB.out.size
  go_loopw [3, 10] (fun v i wr => ∃ k : Nat, k ≤ R.length ∧ i = .int .i64 k ∧ Hid (wr.ownsRow w.heap.size 38 2 v ((R.take k).filter keepM).length (pv ((R.take k).filter keepM))) ∧ Below w.heap.size w wr ∧ Hid (At wr A1 (pv R)) ∧ Hid (∀ g, v.ownBlock = some g → g = w.heap.size ∨ w1.heap.size ≤ g) ∧ w1.heap.size ≤ wr.heap.size) (fun _ i _ => R.length - (intOf i).toNat)
  case atStart => exact ⟨0, Nat.zero_le _, rfl, HS.out, HB.out, HA.out, (fun g h => .inl (by simp only [Value.ownBlock, Option.some.injEq] at h; exact h.symm)), Nat.le_refl _⟩
  case round =>
    obtain ⟨k, hk, rfl, hown, hbel, hat, hwhere, hw1⟩ := hrel
    by_cases hlt : k < R.length
    · obtain ⟨b, off, rfl, hlb, hd0, hd1⟩ := at_pair hat.out hlt
      obtain ⟨hb1, hb2⟩ := HB1.out b off rfl
      have hY := filter_take_yes R keepM k hlt
      have hZ := filter_take_no R keepM k hlt
      have hlen := filter_take_le R keepM k
      obtain ⟨s, hs⟩ : ∃ s, s = R[k].1 := ⟨_, rfl⟩
      obtain ⟨z, hz⟩ : ∃ z, z = R[k].2 := ⟨_, rfl⟩
      have hp : R[k] = (s, z) := by rw [hs, hz]
      rw [← hs] at hd0
      rw [← hz] at hd1
      rw [hp] at hY hZ
      clear hs hz hp
      have HY := Lib.hid hY
      have HZ := Lib.hid hZ
      clear hY hZ
      have hsz := hbel.size
      by_cases hq : s.size < 2
      · have hq' : (s.size : Int) < 2 := by omega
        have HX := Lib.hid (HY.out (by simp [keepM, minB_short hq]))
        go_wp2_with (at_builtin; refine wpList_append_own_at _ rfl _ _ 22 rfl w.heap.size 38 i0 (.agg #[.string { data := #[] }, .int .i64 0]) 2 24 Tryd.underlying22 hi hz0 hz1 hz2 rfl (by decide) _ _ _ rfl ((hown.out.alloc _).alloc _) ⟨_, 0, none⟩ 1 1 [.string s, .int .i64 z] rfl rfl (cells_new' _ _ _ _ rfl _ (by simp)) (pv_one [(s, z)]) (by unfold maxLen; omega) (by omega) (by simp; omega) ?_; intro v1 w5 hown1 hgrow1 _hnil1 hloc1; have HO := Lib.hid hown1; have HG := Lib.hid hgrow1; have HL := Lib.hid hloc1; clear hown1 hgrow1 _hnil1 hloc1)
        go_roundw
        case rel => exact ⟨k + 1, by omega, by go_num, by show World.ownsRow _ _ _ _ _ _ _; rw [HX.out, List.length_append, pv_app]; exact HO.out, ((hbel.alloc hsz _).alloc (by simp; omega) _).grown HG.out (by simp; omega) (own_from hown.out), ((hat.out.alloc _).alloc _).grown HG.out (fun e => by rcases hwhere.out b e.symm with h | h <;> omega), (fun g h => by rcases HL.out with e | e; exact hwhere.out g (e.symm.trans h); right; rw [e] at h; injection h with h; simp at h; omega), by have := HG.out.size; simp at this; omega⟩
        case measure => simp [intOf]; omega
      · have hq' : ¬ (s.size : Int) < 2 := by omega
        have hq2 : 2 ≤ s.size := by omega
        by_cases hx : s.extract 0 2 = ⟨#[116, 45]⟩
        · have HX := Lib.hid (HZ.out (by rw [keepM, minB_long hq2, str_yes hx]; rfl))
          have h1 := str_yes hx
          rw [show (⟨#[116, 45]⟩ : ByteArray).toList = [116, 45] from by rw [Lib.toList_data]] at h1
          clear hx
          go_wp2
          go_roundw
          case rel => exact ⟨k + 1, by omega, by go_num, by show World.ownsRow _ _ _ _ _ _ _; rw [HX.out]; exact hown.out.alloc _, hbel.alloc hsz _, hat.out.alloc _, hwhere.out, by simp; omega⟩
          case measure => simp [intOf]; omega
        · have HX := Lib.hid (HY.out (by rw [keepM, minB_long hq2, str_no hx]; rfl))
          have h1 := str_no hx
          rw [show (⟨#[116, 45]⟩ : ByteArray).toList = [116, 45] from by rw [Lib.toList_data]] at h1
          clear hx
          go_wp2_with (at_builtin; refine wpList_append_own_at _ rfl _ _ 22 rfl w.heap.size 38 i0 (.agg #[.string { data := #[] }, .int .i64 0]) 2 24 Tryd.underlying22 hi hz0 hz1 hz2 rfl (by decide) _ _ _ rfl ((hown.out.alloc _).alloc _) ⟨_, 0, none⟩ 1 1 [.string s, .int .i64 z] rfl rfl (cells_new' _ _ _ _ rfl _ (by simp)) (pv_one [(s, z)]) (by unfold maxLen; omega) (by omega) (by simp; omega) ?_; intro v1 w5 hown1 hgrow1 _hnil1 hloc1; have HO := Lib.hid hown1; have HG := Lib.hid hgrow1; have HL := Lib.hid hloc1; clear hown1 hgrow1 _hnil1 hloc1)
          go_roundw
          case rel => exact ⟨k + 1, by omega, by go_num, by show World.ownsRow _ _ _ _ _ _ _; rw [HX.out, List.length_append, pv_app]; exact HO.out, ((hbel.alloc hsz _).alloc (by simp; omega) _).grown HG.out (by simp; omega) (own_from hown.out), ((hat.out.alloc _).alloc _).grown HG.out (fun e => by rcases hwhere.out b e.symm with h | h <;> omega), (fun g h => by rcases HL.out with e | e; exact hwhere.out g (e.symm.trans h); right; rw [e] at h; injection h with h; simp at h; omega), by have := HG.out.size; simp at this; omega⟩
          case measure => simp [intOf]; omega
    · go_wp2
      go_ret
      exact ⟨_, rfl, by have h1 := hown.out
                        rw [List.take_of_length_le (by omega)] at h1; exact h1, hbel⟩
end Go.Proofs.YtibcfmfihcgijaaDoor
