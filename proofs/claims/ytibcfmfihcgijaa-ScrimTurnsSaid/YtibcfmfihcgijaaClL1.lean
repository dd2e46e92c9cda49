/- The statements' fixed facts of layer 3, and the walks of ClassesSame and ClassesApply. -/
import Derived.Test.YtibcfmfihcgijaaClW9
namespace Go.Proofs.Ytibcfmfihcgijaa
open Go.RowKit M
def tA : ByteArray := ⟨#[97]⟩
def tB : ByteArray := ⟨#[98]⟩
def tC : ByteArray := ⟨#[99]⟩
def tD : ByteArray := ⟨#[100]⟩
def tX : ByteArray := ⟨#[120]⟩
theorem turn_fixed : turn [tA, tB, tC] [tA, tC, tD] = [(true, tB), (false, tD)] := by decide +kernel
theorem small_ok (l : List ByteArray) (h : (l.all fun s => decide (s.size ≤ 20)) = true) : ∀ s ∈ l, s.size ≤ maxLen := fun s hs => by
  have := of_decide_eq_true (List.all_eq_true.1 h s hs)
  unfold maxLen
  omega
/-- what the fixed call of Turn leaves: two steps, in cells that are known. -/
theorem turn_call (A B : Option Addr) (w : World) (ha : At w A (sv [tA, tB, tC])) (hb : At w B (sv [tA, tC, tD])) :
    Calls Try.prog 25 #[.slice A 3 3, .slice B 3 3] w fun e w' => ∃ b off c, e = .returned (.slice (some ⟨b, off, none⟩) 2 c) ∧ w'.cell? ⟨b, off, none⟩ = some (.bool true) ∧ w'.cell? ⟨b, off + 1, none⟩ = some (.string ⟨#[98]⟩) ∧ w'.cell? ⟨b, off + 2, none⟩ = some (.bool false) ∧ w'.cell? ⟨b, off + 2 + 1, none⟩ = some (.string ⟨#[100]⟩) ∧ Below w.heap.size w w' := by
  refine (cturn_any A B 3 3 3 3 [tA, tB, tC] [tA, tC, tD] w rfl rfl (by omega) (by omega) ha hb (small_ok _ (by decide +kernel)) (small_ok _ (by decide +kernel))).mono ?_
  rintro e w' ⟨v, rfl, hown, hbel⟩
  rw [turn_fixed] at hown
  obtain ⟨A1, c1, rfl, _, _, hat⟩ := at_of_own hown
  obtain ⟨b, off, rfl, hlb, hc⟩ := hat (by simp [stv])
  exact ⟨b, off, c1, rfl, hc 0 _ rfl, hc 1 _ rfl, hc 2 _ rfl, hc 3 _ rfl, hbel⟩
theorem has_x : has (add [] tX) tX = true := by decide +kernel
set_option maxRecDepth 100000 in
theorem awake_any (w : World) : Calls Try.prog 11 #[] w fun e w' => e = .returned (.bool true) ∧ Below w.heap.size w w' := by
  have HX := Lib.hid has_x
  have CA : Hid (∀ w1 : World, Calls Try.prog 19 #[.slice none 0 0, .string ⟨#[120]⟩] w1 fun e w' => ∃ v, e = .returned v ∧ w'.ownsRow w1.heap.size 9 1 v (add [] tX).length (sv (add [] tX)) ∧ Below w1.heap.size w1 w') := fun w1 => cadd_any none 0 0 [] tX w1 rfl (by omega) (At.nil _ _)
  have CH : Hid (∀ (A : Option Addr) (n c : Nat) (w1 : World), n = (add [] tX).length → At w1 A (sv (add [] tX)) → Calls Try.prog 18 #[.slice A n c, .string ⟨#[120]⟩] w1 fun e w' => e = .returned (.bool true) ∧ w1 = w') := fun A n c w1 hn ha => by
    have h := chas_any A n c (add [] tX) tX w1 hn (by rw [hn]; have := add_len [] tX; unfold maxLen; simp at this; omega) ha
    rw [has_x] at h
    exact h
  go_enter Try.func11, Try.ntmps11
  go_wp2_with (first | (go_at_call 25; refine (turn_call _ _ _ ?_ ?_).mono ?_; (exact (at_new _ _ _ _ rfl _ rfl).alloc _); (exact at_new _ _ _ _ (by simp) _ rfl); rintro e w1 ⟨b, off, c, rfl, h0, h1, h2, h3, hb1⟩; have HB1 := Lib.hid hb1; have hsz1 := hb1.size; clear hb1) | (go_at_call 19; refine (CA.out _).mono ?_; rintro e w2 ⟨v, rfl, hown, hb2⟩; obtain ⟨A2, c2, rfl, hc2, hm2, hat2⟩ := at_of_own hown; have HAT2 := Lib.hid hat2; have HB2 := Lib.hid hb2; clear hown hat2 hb2) | (go_at_call 18; refine (CH.out _ _ _ _ rfl HAT2.out).mono ?_; rintro e w3 ⟨rfl, rfl⟩))
  go_ret
  refine ⟨rfl, ?_⟩
  have h0 := (below_alloc w (.cells #[.string ⟨#[97]⟩, .string ⟨#[98]⟩, .string ⟨#[99]⟩] 9)).alloc (by rw [size_alloc]; omega) (.cells #[.string ⟨#[97]⟩, .string ⟨#[99]⟩, .string ⟨#[100]⟩] 9)
  have h1 := h0.trans (HB1.out.mono h0.size)
  exact h1.trans (HB2.out.mono h1.size)
theorem at_few {w : World} {v : Value} {n : Nat} {ss : List ByteArray} {base : Nat} (h : w.ownsRow base 9 1 v n (sv ss)) : ∃ A c, v = .slice A n c ∧ n ≤ c ∧ c ≤ maxLen ∧ At w A (sv ss) := at_of_own h
theorem few_small (l : List ByteArray) (n : Nat) : ∀ s ∈ few l n, s.size ≤ maxLen := fun s hs => by
  obtain ⟨t, _, rfl⟩ := List.mem_map.1 hs
  have : (cutS t 20).size ≤ 20 := by
    unfold cutS
    split
    · simp; omega
    · omega
  unfold maxLen
  omega
set_option maxRecDepth 100000 in
theorem classesSame_any (A B : Option Addr) (n c m d : Nat) (a b : List ByteArray) (w : World) (hn : n = a.length) (hm : m = b.length) (hb : n ≤ maxLen) (hb2 : m ≤ maxLen) (ha : At w A (sv a)) (hb' : At w B (sv b)) :
    Calls Try.prog 4 #[.slice A n c, .slice B m d] w fun e w' => e = .returned (.bool true) ∧ Below w.heap.size w w' := by
  have HF1 : Hid (∀ w1 : World, Below w.heap.size w w1 → Calls Try.prog 12 #[.slice A n c, .int .i64 20] w1 fun e w' => ∃ v, e = .returned v ∧ w'.ownsRow w1.heap.size 9 1 v (few a 20).length (sv (few a 20)) ∧ Below w1.heap.size w1 w') := fun w1 h => few_any A n c 20 a w1 hn hb (by omega) (by omega) (ha.below h)
  have HF2 : Hid (∀ w1 : World, Below w.heap.size w w1 → Calls Try.prog 12 #[.slice B m d, .int .i64 20] w1 fun e w' => ∃ v, e = .returned v ∧ w'.ownsRow w1.heap.size 9 1 v (few b 20).length (sv (few b 20)) ∧ Below w1.heap.size w1 w') := fun w1 h => few_any B m d 20 b w1 hm hb2 (by omega) (by omega) (hb'.below h)
  have hl1 := few_len a 20
  have hl2 := few_len b 20
  clear ha hb' hn hm hb hb2
  generalize few a 20 = X at hl1 HF1
  generalize few b 20 = Y at hl2 HF2
  go_enter Try.func4, Try.ntmps4
  go_wp2_with (first | (go_at_call 11; refine (awake_any _).mono ?_; rintro e w1 ⟨rfl, hb⟩; have HB1 := Lib.hid hb; clear hb) | (go_at_call 12; (with_reducible refine (HF1.out _ HB1.out).mono ?_); rintro e w2 ⟨v2, rfl, hown, hb⟩; obtain ⟨A2, c2, rfl, _, _, hat2⟩ := at_of_own hown; have HAT2 := Lib.hid hat2; have HB2 := Lib.hid (HB1.out.trans (hb.mono HB1.out.size)); clear hown hat2 hb) | (go_at_call 12; (with_reducible refine (HF2.out _ HB2.out).mono ?_); rintro e w3 ⟨v3, rfl, hown, hb⟩; obtain ⟨A3, c3, rfl, _, _, hat3⟩ := at_of_own hown; have HAT3 := Lib.hid hat3; have HAT4 := Lib.hid (HAT2.out.below hb); have HB3 := Lib.hid (HB2.out.trans (hb.mono HB2.out.size)); clear hown hat3 hb) | (go_at_call 24; (with_reducible refine (csame_any A2 A3 _ _ _ _ X Y _ rfl rfl (by unfold maxLen; omega) (by unfold maxLen; omega) HAT4.out HAT3.out).mono ?_); rintro e w4 ⟨rfl, q1, rfl⟩) | (go_at_call 15; (with_reducible refine (same_any A2 A3 _ _ _ _ X Y _ rfl rfl (by unfold maxLen; omega) (by unfold maxLen; omega) (HAT4.out.drewN _) (HAT3.out.drewN _)).mono ?_); rintro e w5 ⟨rfl, q2, rfl⟩) | (go_at_call 24; (with_reducible refine (csame_any A2 A2 _ _ _ _ X X _ rfl rfl (by unfold maxLen; omega) (by unfold maxLen; omega) (HAT4.out.drewN _) (HAT4.out.drewN _)).mono ?_); rintro e w6 ⟨rfl, q3, rfl⟩))
  go_ret
  exact ⟨rfl, drewN_below HB3.out _⟩
end Go.Proofs.Ytibcfmfihcgijaa
