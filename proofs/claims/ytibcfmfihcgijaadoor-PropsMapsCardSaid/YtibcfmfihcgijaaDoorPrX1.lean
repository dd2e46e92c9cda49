/- The contract of layer 4's document's own Get: the last pair of a name. -/
import Derived.Test.YtibcfmfihcgijaaDoorPrW3
import Derived.Test.YtibcfmfihcgijaaDoorPrT
namespace Go.Proofs.YtibcfmfihcgijaaDoor
open Go.RowKit M
theorem getP_hit (l : List Par) (k : Nat) (hk : k < l.length) (x : ByteArray) (h : l[k].1 = x) (hl : ∀ p ∈ l.drop (k + 1), ¬ p.1 = x) : getP l x = some l[k].2 := by
  have key : getP ((l.take k ++ [l[k]]) ++ l.drop (k + 1)) x = some l[k].2 := by rw [getP_append, getP_none hl, Option.none_or, getP_snoc, if_pos h]
  rwa [← take_next l k hk, List.take_append_drop] at key
theorem drop_cons (l : List Par) (k : Nat) (hk : k < l.length) : l.drop k = l[k] :: l.drop (k + 1) := (List.drop_eq_getElem_cons hk)
set_option maxHeartbeats 2000000 in
set_option maxRecDepth 100000 in
theorem rget4_any (A : Option Addr) (n c : Nat) (l : List Par) (x : ByteArray) (w : World) (hn : n = l.length) (hb : n ≤ 100000) (ha : At w A (pv l)) :
    Calls Tryd.prog 12 #[.slice A n c, .string x] w fun e w' =>
      (∃ z, getP l x = some z ∧ e = .returned (.tuple #[.int .i64 z, .bool true]) ∧ Below w.heap.size w w') ∨ (getP l x = none ∧ e = .returned (.tuple #[.int .i64 0, .bool false]) ∧ Below w.heap.size w w') := by
  have HN := Lib.hid hn
  have HA := Lib.hid ha
  clear hn ha
  go_enter Tryd.func12, Tryd.ntmps12
  go_wp2
  go_loopw [6] (fun i wr => ∃ (k q : Nat), k ≤ n ∧ i = .int .i64 ((k : Int) - 1) ∧ wr = w.drewN q ∧ Hid (∀ p ∈ l.drop k, ¬ p.1 = x)) (fun i _ => (intOf i + 1).toNat)
  case atStart => exact ⟨n, 0, Nat.le_refl _, rfl, rfl, by show ∀ p ∈ _, _; rw [List.drop_of_length_le (by have := HN.out; omega)]; intro p hp; cases hp⟩
  case round =>
    obtain ⟨k, q, hk, rfl, rfl, hno⟩ := hrel
    by_cases h0 : k = 0
    · subst h0
      go_wp2
      go_ret2
      exact .inr ⟨getP_none (by have := hno.out; simpa using this), rfl, drewN_below' (Below.refl _ _) q⟩
    · obtain ⟨j, rfl⟩ : ∃ j, k = j + 1 := ⟨k - 1, by omega⟩
      have hj1 : j < l.length := by have := HN.out; omega
      have hji : ((j + 1 : Nat) : Int) - 1 = (j : Int) := by omega
      rw [hji]
      obtain ⟨b, off, rfl, hlb, hc0, hc1⟩ := at_pair HA.out hj1
      have hd := drop_cons l j hj1
      have hhit := getP_hit l j hj1 x
      obtain ⟨p, hp⟩ : ∃ p, p = l[j] := ⟨_, rfl⟩
      rw [← hp] at hc0 hc1 hd hhit
      have HD := Lib.hid hd
      have HH := Lib.hid hhit
      clear hp hd hhit
      obtain ⟨s, z⟩ := p
      have hge : (0 : Int) ≤ (j : Int) := by omega
      have hjn : (j : Int) < (n : Int) := by omega
      by_cases hx : s = x
      · have h1 := str_yes hx
        have HX := Lib.hid hx
        clear hx
        go_wp2
        go_ret2
        exact .inl ⟨z, HH.out HX.out hno.out, rfl, drewN_below' (Below.refl _ _) _⟩
      · have h1 := str_no hx
        have HX := Lib.hid hx
        clear hx
        go_wp2
        go_roundw
        case rel => exact ⟨j, _, by omega, by go_num, rfl, by show ∀ p ∈ _, _; rw [HD.out]; intro p hp; rcases List.mem_cons.1 hp with rfl | hp; exact HX.out; exact hno.out p hp⟩
        case measure => simp [intOf]
end Go.Proofs.YtibcfmfihcgijaaDoor
