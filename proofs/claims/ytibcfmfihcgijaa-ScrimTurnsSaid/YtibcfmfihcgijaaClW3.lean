/- Contracts of layer 3: Drop and Mine (by the library's DeleteFunc), and the document's own Clean, Drop, Mine. -/
import Derived.Test.YtibcfmfihcgijaaClW2
namespace Go.Proofs.Ytibcfmfihcgijaa
open Go.RowKit M Go.Sort
theorem below_put {α : Type} [Inhabited α] {B : Nat} (enc : α → Value) (w : World) (g off q : Nat) (D : Array α) (os : Array Obj) (h : B ≤ g) (hB : B ≤ w.heap.size) : Below B w (sortWorld enc w g off q D os) := by
  have h1 := put_below enc w g off q D h
  refine ⟨rfl, rfl, rfl, ?_, fun k hk => ?_⟩
  · have := h1.size
    simp only [sortWorld, grow, Array.size_append]
    omega
  · have hk' : k < (putRow enc (Sort.ahead w q) g off D).heap.size := by have := h1.size; omega
    refine Eq.trans ?_ (h1.block k hk)
    simp only [sortWorld, grow]
    rw [Array.getElem?_append_left hk']
theorem delete_any (base : Nat) (v : Value) (n : Nat) (ss : List ByteArray) (w : World) (hown : w.ownsRow base 9 1 v n (sv ss)) (hn : n = ss.length) (hm : n ≤ 1000000) (hb : base ≤ w.heap.size)
    (p : ByteArray → Bool) (g : Nat) (lb : Array Value) (eg : ∀ args w, (callFunc g args).run Try.prog w = .ok (.enter g args) w)
    (hp : ∀ W x, Below base w W → FnGives Try.prog g lb #[.string x] (.bool (p x)) W) :
    Calls Try.prog 41 #[v, .func (.func g) #[] lb] w fun e w' => ∃ v', e = .returned v' ∧ w'.ownsRow base 9 1 v' (ss.filter fun x => !p x).length (sv (ss.filter fun x => !p x)) ∧ Below base w w' := by
  rcases hown.2 with ⟨rfl, h0⟩ | ⟨gb, cap, cur, rfl, hbg, hh, hnc, hcm, _, _⟩
  · have hs : ss = [] := List.eq_nil_of_length_eq_zero (by omega)
    subst hs
    clear hp hown hn h0
    go_enter Try.func41, Try.ntmps41
    go_wp2_with (go_at_call 61; refine (Try.slices_IndexFunc_empty (α := ByteArray) none 0 _ _).mono ?_; rintro e w' ⟨rfl, rfl⟩)
    go_ret
    exact ⟨_, rfl, own_nil' _ _ _ _, Below.refl _ _⟩
  · obtain ⟨D, rfl⟩ : ∃ D : Array ByteArray, D.toList = ss := ⟨ss.toArray, rfl⟩
    have hsz : D.size = n := by simp [hn]
    have hH := own_holds Value.string hown
    have hc := Try.slices_DeleteFunc Value.string (fun _ => rfl) p g lb eg ByteArray.empty Try.zeroValue9 gb 0 cap D w
      (fun W x hW => hp W x (hW.mono hb)) (fun q os dk x _ => hp _ x (below_put Value.string w gb 0 q dk os hbg hb)) hH (by omega) (by omega)
    have hle : (D.toList.filter fun x => !p x).length ≤ n := by rw [hn]; exact List.length_filter_le _ _
    rw [hsz] at hc
    generalize (D.toList.filter fun x => !p x) = r at hc hle
    refine hc.mono ?_
    rintro e w' ⟨rfl, q, rfl⟩
    have ho := own_put hown Value.string q (r ++ List.replicate (n - r.length) ByteArray.empty).toArray (by simp only [List.size_toArray, List.length_append, List.length_replicate]; omega) _ hle
    refine ⟨_, rfl, ?_, put_below Value.string w gb 0 q _ hbg⟩
    simpa [sv] using ho
theorem at_of_own {w : World} {base : Nat} {e : TypeId} {size n : Nat} {v : Value} {xs : List Value} (h : w.ownsRow base e size v n xs) : ∃ A c, v = .slice A n c ∧ n ≤ c ∧ c ≤ maxLen ∧ At w A xs := by
  obtain ⟨A, c, rfl, h1, h2⟩ := own_slice h
  exact ⟨A, c, rfl, h1, h2, At.own h⟩
theorem drop1_any (s c : ByteArray) (B : Nat) (W : World) (hc : W.cell? ⟨B, 0, none⟩ = some (.string c)) : FnGives Try.prog 42 #[.pointer (some ⟨B, 0, none⟩)] #[.string s] (.bool (decide (s = c))) W := by
  show Calls Try.prog 42 #[.string s, .pointer (some ⟨B, 0, none⟩)] W _
  have HS := Lib.hid (str_beq s c)
  go_enter Try.func42, Try.ntmps42
  go_wp2
  go_ret
  exact ⟨ret_bool' HS.out, 0, rfl⟩
theorem cdrop_any (A : Option Addr) (n c : Nat) (ss : List ByteArray) (x : ByteArray) (w : World) (hn : n = ss.length) (hm : n ≤ 1000000) (ha : At w A (sv ss)) :
    Calls Try.prog 20 #[.slice A n c, .string x] w fun e w' => ∃ v, e = .returned v ∧ w'.ownsRow w.heap.size 9 1 v (drop ss x).length (sv (drop ss x)) ∧ Below w.heap.size w w' := by
  have eg : Hid (∀ args w, (callFunc 42 args).run Try.prog w = .ok (.enter 42 args) w) := enters_of Try.func42 (by kernel_rfl) rfl
  have HN := Lib.hid hn
  have HA := Lib.hid ha
  have HB := Lib.hid ((Below.refl w.heap.size w).alloc (Nat.le_refl _) (.cells #[.string x] 9))
  clear hn ha
  go_enter Try.func20, Try.ntmps20
  go_wp2_with (first | (go_at_call 40; refine (clone_any A n c ss _ HN.out hm (HA.out.alloc _)).mono ?_; rintro e w1 ⟨v, rfl, hown, hbel⟩; have HO := Lib.hid hown; have HB1 := Lib.hid hbel; clear hown hbel) | (go_at_call 41; refine (delete_any _ v n ss _ HO.out HN.out hm HB1.out.size (fun s => decide (s = x)) 42 _ eg.out (fun W s hW => drop1_any s x _ W ?_)).mono ?_; rotate_left; rintro e w2 ⟨v2, rfl, hown2, hbel2⟩; have HO2 := Lib.hid hown2; have HB2 := Lib.hid hbel2; clear hown2 hbel2))
  · go_ret
    have h1 := (below_alloc w (.cells #[.string x] 9)).trans (HB1.out.mono (by rw [size_alloc]; omega))
    exact ⟨_, rfl, own_mono HO2.out (by rw [size_alloc]; omega), h1.trans (HB2.out.mono (by rw [size_alloc]; omega))⟩
  · exact box_later HB1.out hW
theorem mine1_any (s : ByteArray) (W : World) : FnGives Try.prog 43 #[] #[.string s] (.bool (resB s)) W := by
  show Calls Try.prog 43 #[.string s] W _
  have C : Hid (∀ W : World, Calls Try.prog 44 #[.string s, .string ⟨#[116, 45]⟩] W fun e w' => e = .returned (.bool (resB s)) ∧ w' = W) := fun W => Try.strings_HasPrefix s ⟨#[116, 45]⟩ W
  go_enter Try.func43, Try.ntmps43
  go_wp2_with (go_at_call 44; refine (C.out _).mono ?_; rintro e w' ⟨rfl, hw⟩; rw [hw])
  go_ret
  exact ⟨rfl, 0, rfl⟩
theorem cmine_any (A : Option Addr) (n c : Nat) (ss : List ByteArray) (w : World) (hn : n = ss.length) (hm : n ≤ 1000000) (ha : At w A (sv ss)) :
    Calls Try.prog 22 #[.slice A n c] w fun e w' => ∃ v, e = .returned v ∧ w'.ownsRow w.heap.size 9 1 v (mine ss).length (sv (mine ss)) ∧ Below w.heap.size w w' := by
  have eg : Hid (∀ args w, (callFunc 43 args).run Try.prog w = .ok (.enter 43 args) w) := enters_of Try.func43 (by kernel_rfl) rfl
  have HN := Lib.hid hn
  have HA := Lib.hid ha
  clear hn ha
  go_enter Try.func22, Try.ntmps22
  go_wp2_with (first | (go_at_call 40; refine (clone_any A n c ss _ HN.out hm HA.out).mono ?_; rintro e w1 ⟨v, rfl, hown, hbel⟩; have HO := Lib.hid hown; have HB1 := Lib.hid hbel; clear hown hbel) | (go_at_call 41; refine (delete_any _ v n ss _ HO.out HN.out hm HB1.out.size resB 43 _ eg.out (fun W s hW => mine1_any s W)).mono ?_; rintro e w2 ⟨v2, rfl, hown2, hbel2⟩; have HO2 := Lib.hid hown2; have HB2 := Lib.hid hbel2; clear hown2 hbel2))
  go_ret
  exact ⟨_, rfl, HO2.out, HB1.out.trans HB2.out⟩
/-- the document's Clean: a loop that asks of each whether it stood before. -/
theorem rclean_any (A : Option Addr) (n c : Nat) (ss : List ByteArray) (w : World) (hn : n = ss.length) (hnc : n ≤ c) (_hm : c ≤ maxLen) (hm' : n ≤ 1000000) (ha : At w A (sv ss)) :
    Calls Try.prog 17 #[.slice A n c] w fun e w' => ∃ v, e = .returned v ∧ w'.ownsRow w.heap.size 9 1 v (clean ss).length (sv (clean ss)) ∧ Below w.heap.size w w' := by
  unfold maxLen at _hm
  have HN := Lib.hid hn
  have HA := Lib.hid ha
  clear hn ha
  obtain ⟨i0, hi, hz0, hz1, hz2⟩ := info_parts infoStr
  go_enter Try.func17, Try.ntmps17
  go_wp2
  go_loopw [3, 9] (fun v i wr => ∃ k : Nat, k ≤ n ∧ i = .int .i64 k ∧ Hid (wr.ownsRow w.heap.size 9 1 v (clean (ss.take k)).length (sv (clean (ss.take k)))) ∧ Below w.heap.size w wr) (fun _ i _ => n - (intOf i).toNat)
  case atStart => exact ⟨0, Nat.zero_le _, rfl, World.ownsRow_made w #[] 0 (Nat.le_refl _) (Nat.zero_le _) rfl, below_alloc _ _⟩
  case round =>
    obtain ⟨k, hk, rfl, hown, hbel⟩ := hrel
    by_cases hlt : k < n
    · have hk1 : k < ss.length := by have := HN.out; omega
      obtain ⟨b, off, rfl, hlb, hc0⟩ := HA.out.one (sv_at ss k hk1)
      have hc := (below_cells hbel).1 b (off + k) hlb
      rw [hc0] at hc
      have HC0 := Lib.hid hc0
      clear hc0
      obtain ⟨s, hs⟩ : ∃ s, s = ss[k] := ⟨_, rfl⟩
      rw [← hs] at hc
      have HT : Hid (clean (ss.take (k + 1)) = add (clean (ss.take k)) s) := by show clean (ss.take (k + 1)) = _; rw [hs]; exact clean_next ss k hk1
      have HK : Hid (k = (ss.take k).length) := by show k = _; rw [List.length_take]; omega
      have hlen := clean_len (ss.take k)
      have hlen2 : (ss.take k).length ≤ k := List.length_take_le _ _
      clear hs
      have hsz := hbel.size
      have HAk : Hid (At wr (some ⟨b, off, none⟩) (sv (ss.take k))) := by show At _ _ _; rw [sv_take]; exact (HA.out.below hbel).take k
      have HHAS := Lib.hid (has_clean (ss.take k) s)
      by_cases hx : s ∈ ss.take k
      · have HX : Hid (clean (ss.take (k + 1)) = clean (ss.take k)) := by show clean (ss.take (k + 1)) = _; rw [HT.out]; unfold add; rw [if_pos ((mem_clean _ _).2 hx)]
        have HH := Lib.hid (has_yes hx)
        clear hx
        go_wp2_with (go_at_call 14; refine (rhas_any _ _ _ (ss.take k) s _ HK.out (by unfold maxLen; omega) HAk.out).mono ?_; rintro e w' ⟨rfl, rfl⟩; rw [HH.out])
        go_roundw
        case rel => exact ⟨k + 1, by omega, by go_num, by show World.ownsRow _ _ _ _ _ _ _; rw [HX.out]; exact hown.out, hbel⟩
        case measure => simp [intOf]; omega
      · have HX : Hid (clean (ss.take (k + 1)) = clean (ss.take k) ++ [s]) := by show clean (ss.take (k + 1)) = _; rw [HT.out]; unfold add; rw [if_neg (fun h => hx ((mem_clean _ _).1 h))]
        have HH := Lib.hid (has_no hx)
        clear hx
        go_wp2_with (first | (go_at_call 14; refine (rhas_any _ _ _ (ss.take k) s _ HK.out (by unfold maxLen; omega) HAk.out).mono ?_; rintro e w' ⟨rfl, rfl⟩; rw [HH.out]) | (at_builtin; refine wpList_append_own _ rfl _ _ 22 rfl w.heap.size 9 i0 (.string { data := #[] }) 1 16 Try.underlying22 hi hz0 hz1 hz2 rfl (by decide) _ _ _ rfl (hown.out.alloc _) ⟨_, 0, none⟩ 1 1 [.string s] rfl rfl (cell_one_new _ _ _) (sv_one [s]) (by unfold maxLen; omega) (by omega) (by simp; omega) ?_; intro v1 w1 hown1 hgrow1 _hnil1; have HO := Lib.hid hown1; have HG := Lib.hid hgrow1; clear hown1 hgrow1 _hnil1))
        go_roundw
        case rel => exact ⟨k + 1, by omega, by go_num, by show World.ownsRow _ _ _ _ _ _ _; rw [HX.out, List.length_append, sv_app]; exact HO.out, (hbel.alloc hsz _).grown HG.out (by simp; omega) (own_from hown.out)⟩
        case measure => simp [intOf]; omega
    · go_wp2
      go_ret
      exact ⟨_, rfl, by have h1 := hown.out
                        rw [List.take_of_length_le (by have := HN.out; omega)] at h1; exact h1, hbel⟩
end Go.Proofs.Ytibcfmfihcgijaa
