/- Contract of weave's Apply. -/
import Derived.Test.YtdojalflgfacgaaWeP6
namespace Go.Proofs.Ytdojalflgfacgaa
open Go.RowKit We
namespace We
theorem stepD_nodup {out o : List Int} {s : Stp} (h : stepD out s = some o) (hn : out.Nodup) : o.Nodup := by
  have hw : (without out s.2.1).Nodup := hn.filter _
  have hm : ¬ s.2.1 ∈ without out s.2.1 := fun h => by
    unfold without at h
    have := (List.mem_filter.1 h).2
    simp at this
  have hp : ∀ k, ((without out s.2.1).take k ++ s.2.1 :: (without out s.2.1).drop k).Nodup := fun k => by
    have e : ((without out s.2.1).take k ++ s.2.1 :: (without out s.2.1).drop k).Perm (s.2.1 :: without out s.2.1) := by
      have := (List.perm_middle (a := s.2.1) (l₁ := (without out s.2.1).take k) (l₂ := (without out s.2.1).drop k))
      rw [List.take_append_drop] at this
      exact this
    exact e.nodup_iff.2 (List.nodup_cons.2 ⟨hm, hw⟩)
  unfold stepD at h
  repeat' (split at h)
  all_goals (first | (cases h; done) | (injection h with h; subst h; first | exact hw | exact hp _ | skip))
theorem appD_nodup : ∀ {L : List Stp} {out o : List Int}, appD out L = some o → out.Nodup → o.Nodup
  | [], out, o, h, hn => by
    have : some out = some o := h
    injection this with this
    rw [← this]; exact hn
  | s :: L, out, o, h, hn => by
    have h1 : (stepD out s).bind (fun o' => appD o' L) = some o := h
    cases hs : stepD out s with
    | none => rw [hs] at h1; cases h1
    | some o' =>
      rw [hs] at h1
      exact appD_nodup (L := L) h1 (stepD_nodup hs hn)
end We
set_option maxHeartbeats 4000000 in
set_option maxRecDepth 100000 in
theorem apply_any (A B : Option Addr) (n c m d : Nat) (l : List Int) (L : List Stp) (w : World) (hn : n = l.length) (hm : m = L.length) (h1 : n ≤ 900) (h2 : m ≤ 900) (ha : At w A (iv l)) (hb : At w B (sc L)) (hok : ∀ x ∈ l, OkI x) :
    Calls Try.prog 9 #[.slice A n c, .slice B m d] w fun e w' => ∃ v ok, e = .returned (.tuple #[v, .bool ok]) ∧ ApD w' w.heap.size v ok (appD (once l) L) ∧ Below w.heap.size w w' := by
  have hol : (once l).length ≤ 900 := by have := once_len l; omega
  have C1 := Lib.hid (once_any A n c l w hn (by omega) ha hok)
  have HM := Lib.hid hm
  have HB := Lib.hid hb
  have HND := Lib.hid (once_nodup l)
  clear hn ha hm hb hok
  generalize once l = O at *
  go_enter Try.func9, Try.ntmps9
  go_wp2_with fail
  refine C1.out.mono ?_
  rintro e w1 ⟨v1, b1, rfl, ho1, _, _, hb1⟩
  have HO := Lib.hid ho1
  have HB1 := Lib.hid hb1
  obtain ⟨A1, c1, rfl, _, _⟩ := own_slice ho1
  clear ho1 hb1 C1
  go_wp2_with fail
  go_loopw [6, 18] (fun v i wr => ∃ k : Nat, k ≤ m ∧ i = .int .i64 k ∧ ∃ out, Hid (appD O (L.take k) = some out) ∧ Hid (wr.ownsRow w.heap.size 3 1 v out.length (iv out)) ∧ Hid (Below w.heap.size w wr)) (fun _ i _ => m - (intOf i).toNat)
  case atStart => exact ⟨0, Nat.zero_le _, rfl, O, by show appD O (L.take 0) = _; rw [List.take_zero]; rfl, HO, HB1⟩
  case round =>
    obtain ⟨k, hk, rfl, out, hap, hown, hbel⟩ := hrel
    by_cases hlt : k < m
    · have hkl : k < L.length := by have := HM.out; omega
      obtain ⟨b1, o1, rfl, hbb, hc1, hc2, hc3⟩ := at_three (HB.out.below hbel.out) hkl
      have hle : out.length ≤ 1900 := by have h9 := appD_len hap.out; rw [List.length_take] at h9; omega
      have HSTOP := Lib.hid (fun h => appD_stop hkl hap.out h)
      have HGO := Lib.hid (fun o' h => appD_go (out' := o') hkl hap.out h)
      have HNO := Lib.hid (appD_nodup hap.out HND.out)
      rw [show L[k] = (L[k].1, L[k].2.1, L[k].2.2) from rfl] at HSTOP HGO
      generalize L[k].1 = x at *
      generalize L[k].2.1 = y at *
      generalize L[k].2.2 = z at *
      have hszr := hbel.out.size
      have B2 := Lib.hid (hbel.out.alloc hszr (.cells #[.int .i64 x, .int .i64 y, .int .i64 z] 31))
      have O2 := Lib.hid (hown.out.alloc (.cells #[.int .i64 x, .int .i64 y, .int .i64 z] 31))
      have hfrom := own_from hown.out
      obtain ⟨A2, k2, rfl, hk2, hk2'⟩ := own_slice hown.out
      have HFR := Lib.hid hfrom
      have CO := Lib.hid (on_any (.slice A2 out.length k2) out.length w.heap.size out x y z (wr.alloc (.cells #[.int .i64 x, .int .i64 y, .int .i64 z] 31)) rfl (by omega) HNO.out O2.out (by rw [size_alloc]; omega))
      clear hfrom
      go_wp2_with fail
      refine CO.out.mono ?_
      rintro e w5 ⟨v5, ok5, rfl, hap5, hbs5⟩
      have B5 : Hid (Below w.heap.size w w5) := Beside.below hbs5 B2.out (by rw [size_alloc]; omega) (fun g hg => HFR.out g hg)
      clear hbs5 CO
      cases hD : stepD out (x, y, z) with
      | none =>
        rw [hD] at hap5
        obtain ⟨rfl, rfl⟩ := hap5
        have HN := Lib.hid (HSTOP.out hD)
        go_wp2_with fail
        go_ret2
        exact ⟨_, _, rfl, by rw [HN.out]; exact ⟨rfl, rfl⟩, B5.out⟩
      | some o' =>
        rw [hD] at hap5
        obtain ⟨rfl, ho5⟩ := hap5
        have HN := Lib.hid (HGO.out o' hD)
        have O5 := Lib.hid ho5
        clear ho5 hD
        obtain ⟨A5, k5, rfl, _, _⟩ := own_slice O5.out
        go_wp2_with fail
        go_roundw
        case rel => exact ⟨k + 1, by omega, by go_num, o', HN, O5, B5⟩
        case measure => simp [intOf]; omega
    · obtain rfl : k = m := by omega
      have hall : L.take k = L := List.take_of_length_le (by have := HM.out; omega)
      rw [hall] at hap
      obtain ⟨A2, k2, rfl, _, _⟩ := own_slice hown.out
      go_wp2_with fail
      go_ret2
      exact ⟨_, _, rfl, by rw [hap.out]; exact ⟨rfl, hown.out⟩, hbel.out⟩
end Go.Proofs.Ytdojalflgfacgaa
