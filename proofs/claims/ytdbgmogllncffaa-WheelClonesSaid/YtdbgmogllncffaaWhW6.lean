/- Contract of the heap's Push. (By gen_push.py.) -/
import Derived.Test.YtdbgmogllncffaaWhW5
import Derived.Maps.AppendAt
import Derived.Deep.DeepCutAuto
import Derived.Shelf.SlMaps.Clone
namespace Go.Proofs.Ytdbgmogllncffaa
open Go.RowKit Go.Sort Wh
attribute [-go_sem] Builtin.append_
theorem infoTm : (Try.prog.info? 47).map (fun i => (i.zero, i.size, i.bytes)) = some (some (.agg #[.int .i64 0, .int .i64 0, .int .i64 0, .int .i64 0]), 4, 32) := by kernel_rfl
theorem info_parts {P : Program} {t : TypeId} {z : Value} {a b : Nat} (h : (P.info? t).map (fun i => (i.zero, i.size, i.bytes)) = some (some z, a, b)) : ∃ i, P.info? t = some i ∧ i.zero = some z ∧ i.size = a ∧ i.bytes = b := by
  cases hi : P.info? t with
  | none => rw [hi] at h; cases h
  | some i =>
    rw [hi] at h
    injection h with h
    injection h with h1 h2
    injection h2 with h2 h3
    exact ⟨i, rfl, h1, h2, h3⟩
/-- what the row and the map of a heap come to be: what they were, or new. -/
def Fresh (s : Nat) (rv mv rv' mv' : Value) : Prop := (∀ q, rv'.ownBlock = some q → rv.ownBlock = some q ∨ s ≤ q) ∧ (∀ q, mv' = .map (some q) → mv = .map (some q) ∨ s ≤ q)
theorem Fresh.refl (s : Nat) (rv mv : Value) : Fresh s rv mv rv mv := ⟨fun _ h => .inl h, fun _ h => .inl h⟩
theorem Fresh.trans {s s' : Nat} {rv mv rv' mv' rv2 mv2 : Value} (h : Fresh s rv mv rv' mv') (k : Fresh s' rv' mv' rv2 mv2) (hs : s ≤ s') : Fresh s rv mv rv2 mv2 :=
  ⟨fun q hq => by rcases k.1 q hq with h1 | h1; exact h.1 q h1; exact .inr (by omega), fun q hq => by rcases k.2 q hq with h1 | h1; exact h.2 q h1; exact .inr (by omega)⟩
theorem place_push {f : Int → Option Value} {xs : List Tm} (h : PlaceOk f xs) (t : Tm) (hn : ∀ x ∈ xs, x.tok ≠ t.tok) : PlaceOk (fun z => if z = t.tok then some (.int .i64 (xs.length : Nat)) else f z) (xs ++ [t]) := by
  refine ⟨fun p x hp => ?_, fun z v hz hv => ?_⟩
  · rcases Nat.lt_or_ge p xs.length with h1 | h1
    · rw [List.getElem?_append_left h1] at hp
      simp only
      rw [if_neg (hn x (List.mem_of_getElem? hp))]
      exact h.1 p x hp
    · rw [List.getElem?_append_right h1] at hp
      have h2 := (List.getElem?_eq_some_iff.1 hp).1
      have h3 : p = xs.length := by simp at h2; omega
      subst h3
      simp at hp
      subst hp
      simp
  · by_cases e : z = t.tok
    · exact ⟨xs.length, t, by simp, e.symm⟩
    · simp only at hv
      rw [if_neg e] at hv
      obtain ⟨p, x, hp, hx⟩ := h.2 z v hz hv
      exact ⟨p, x, by rw [List.getElem?_append_left (List.getElem?_eq_some_iff.1 hp).1]; exact hp, hx⟩
theorem place_none {f : Int → Option Value} {xs : List Tm} (h : PlaceOk f xs) {z : Int} (hz : OkI z) (hn : ∀ x ∈ xs, x.tok ≠ z) : f z = none := by
  cases hv : f z with
  | none => rfl
  | some v =>
    obtain ⟨p, x, hp, hx⟩ := h.2 z v hz hv
    exact absurd hx (hn x (List.mem_of_getElem? hp))
theorem nilmap (p : Option Nat) (w : World) : (binOp .eql 54 (.map p) (.map none)).run Try.prog w = .ok (.bool p.isNone) w := run_eql_map_nil_sl w _ _ _ p Try.underlying54
theorem Beside.over {bad bad' : Nat → Prop} {a b c : World} (h : Beside bad a b) (k : Beside bad' b c) (hb : ∀ g, bad' g → bad g ∨ a.heap.size ≤ g) : Beside bad a c :=
  ⟨k.os.trans h.os, k.tape.trans h.tape, k.output.trans h.output, Nat.le_trans h.size k.size, fun g hg hn => (k.block g (Nat.lt_of_lt_of_le hg h.size) (fun e => by rcases hb g e with h1 | h1; exact hn h1; omega)).trans (h.block g hg hn)⟩
theorem assert_tm (v : Value) (w : World) : (Instr.typeAssert (.iface 47 v) 20 47 true).run Try.prog w = .ok (.tuple #[v, .bool true]) w := by
  simp [Instr.typeAssert, run_underlying Try.underlying47, go_sem, Result.andThen]
/-- a row's block and a map's. -/
theorem blk_ne_map {w : World} {g : Nat} {t : TypeId} {cs : Array Value} (h : Blk w g t cs) {P : Program} {K : TypeId} {m n : Nat} {f : Int → Option Value} (hm : MapOf P K ikey OkI w m f n) : m ≠ g := by
  rintro rfl
  obtain ⟨D, ⟨es, clock, h9, _⟩, _⟩ := hm
  unfold Blk at h
  rw [h9] at h
  cases h
theorem row_ne_map {w : World} {base s n : Nat} {e : TypeId} {v : Value} {xs : List Value} (h : w.ownsRow base e s v n xs) {P : Program} {K : TypeId} {m k : Nat} {f : Int → Option Value} (hm : MapOf P K ikey OkI w m f k) : v.ownBlock ≠ some m := by
  intro hv
  rcases h.2 with ⟨rfl, _⟩ | ⟨g, c, cur, rfl, _, hh, _⟩
  · cases hv
  · injection hv with hv
    subst hv
    obtain ⟨D, ⟨es, clock, h9, _⟩, _⟩ := hm
    simp only at h9
    rw [hh] at h9
    cases h9
theorem row_ne_blk {w : World} {base s n : Nat} {e t : TypeId} {v : Value} {xs : List Value} {g : Nat} {cs : Array Value} (h : w.ownsRow base e s v n xs) (hb : Blk w g t cs) (hne : e ≠ t) : v.ownBlock ≠ some g := by
  intro hv
  rcases h.2 with ⟨rfl, _⟩ | ⟨g', c, cur, rfl, _, hh, _⟩
  · cases hv
  · injection hv with hv
    subst hv
    unfold Blk at hb
    simp only at hb
    rw [hh] at hb
    injection hb with hb
    injection hb with _ hb _
    exact hne hb
set_option maxHeartbeats 4000000 in
set_option maxRecDepth 100000 in
theorem push_any (b : Nat) (rv mv : Value) (last most : Int) (xs : List Tm) (t : Tm) (w : World) (h : Pl w b rv mv last most xs) (ht : OkI t.tok) (hn : ∀ x ∈ xs, x.tok ≠ t.tok) (hf : xs.length < 65536) :
    Calls Try.prog 73 #[.pointer (some ⟨b, 0, none⟩), .iface 47 (.agg #[.int .i64 t.tok, .int .i64 t.dl, .int .i64 t.k, .int .i64 t.n])] w fun e w' => e = .returned (.tuple #[]) ∧ ∃ rv' mv', Pl w' b rv' mv' last most (xs ++ [t]) ∧ Beside (Bad b rv mv) w w' ∧ Fresh w.heap.size rv mv rv' mv' := by
  have mixed : Try.prog.follows .mixedOrders = true := by kernel_rfl
  obtain ⟨i0, hi, hz0, hz1, hz2⟩ := info_parts infoTm
  obtain ⟨A, c, rfl, hc1, hc2⟩ := own_slice h.row
  have hnm := nilmap
  have hmm := @run_makeMap Try.prog
  have has := assert_tm
  have HF : Hid (xs.length < 65536) := hf
  have HT := Lib.hid ht
  have HN := Lib.hid hn
  have HTK := Lib.hid h.tok
  have hbl := h.blk.lt
  clear ht hn
  obtain ⟨V0, hV0⟩ : ∃ V0, V0 = w.alloc (.cells #[.int .i64 t.tok, .int .i64 t.dl, .int .i64 t.k, .int .i64 t.n] 47) := ⟨_, rfl⟩
  have hbe : Below w.heap.size w V0 := hV0 ▸ below_alloc _ _
  have hT0 : Blk V0 w.heap.size 47 #[.int .i64 t.tok, .int .i64 t.dl, .int .i64 t.k, .int .i64 t.n] := hV0 ▸ Blk.new _ _ _
  have hs0 : V0.heap.size = w.heap.size + 1 := by rw [hV0]; simp
  have hB0 := h.blk.below hbe
  have hR0 := own_below h.row hbe
  have hM0 := h.map.below hbe
  have HBS : Hid (Beside (Bad b (.slice A xs.length c) mv) w V0) := Beside.ofBelow hbe
  clear h hbe
  have HV0 := Lib.hid hV0
  clear hV0
  rcases hM0 with ⟨hmv, hx⟩ | ⟨m, f, hmv, hmf, hpl⟩
  · subst hmv
    have c1 : V0.cell? ⟨b, 1, none⟩ = some (.map none) := hB0.cell 1 rfl
    have hfz : V0.frozen? ⟨b, 1, none⟩ = false := hB0.frozen 1
    have hfz2 : (V0.alloc (.map #[] 0)).frozen? ⟨b, 1, none⟩ = false := (hB0.alloc _).frozen 1
    have hbz : b < V0.heap.size := hB0.lt
    obtain ⟨V, hV⟩ : ∃ V, V = (V0.setCell ⟨b, 1, none⟩ (.map (some V0.heap.size))).alloc (.map #[] 0) := ⟨_, rfl⟩
    have HB1 : Hid (Blk V b 58 #[.slice A xs.length c, .map (some V0.heap.size), .int .i64 last, .int .i64 most]) := by
      show Blk _ _ _ _
      rw [hV]; exact (hB0.set 1 _).alloc _
    have hne : b ≠ w.heap.size := Nat.ne_of_lt hbl
    have HT1 : Hid (Blk V w.heap.size 47 #[.int .i64 t.tok, .int .i64 t.dl, .int .i64 t.k, .int .i64 t.n]) := by
      show Blk _ _ _ _
      rw [hV]; exact (hT0.other _ _ _ (Ne.symm hne)).alloc _
    have hrb := row_ne_blk hR0 hB0 (by decide)
    have HR1 : Hid (V.ownsRow 0 47 4 (.slice A xs.length c) xs.length (tv xs)) := by
      rw [hV]
      exact own_below (((Beside.refl (fun x => x = b) _).set (.inl rfl) 1 _).keepsOwn hR0 (by intro q hq e; exact hrb (by rw [hq, e]))) (below_alloc _ _)
    have HM1 : Hid (MapOf Try.prog 3 ikey OkI V V0.heap.size (fun _ => none) xs.length) := by
      rw [hV, show xs.length = 0 by rw [hx]; rfl]
      have h9 := MapOf.made Try.prog 3 ikey OkI (V0.setCell ⟨b, 1, none⟩ (.map (some V0.heap.size)))
      rw [show (V0.setCell ⟨b, 1, none⟩ (.map (some V0.heap.size))).heap.size = V0.heap.size by simp] at h9
      exact h9
    have HP1 : Hid (PlaceOk (fun _ => none) xs) := by rw [hx]; exact ⟨fun p t h => by simp at h, fun i v _ h => by cases h⟩
    have HBS1 : Hid (Beside (Bad b (.slice A xs.length c) (.map none)) w V) := by rw [hV]; exact (HBS.out.set (.inl (.inl rfl)) 1 _).alloc _
    have HS1 : Hid (w.heap.size < V.heap.size) := by rw [hV]; show _ < _; simp [hs0]; omega
    have HFR : Hid (∀ q, Value.map (some V0.heap.size) = .map (some q) → Value.map none = .map (some q) ∨ w.heap.size ≤ q) := fun q hq => by injection hq with hq; injection hq with hq; exact .inr (by omega)
    have HV := Lib.hid hV
    have HX := Lib.hid hx
    have HS0 := Lib.hid hs0
    clear hV hs0 hR0 hT0 hB0 hrb hne hx HBS
    go_enter Try.func73, Try.ntmps73
    go_upto_region 2 with fail
    rw [← HV0.out]
    go_upto_region 4 with fail
    rw [← HV.out]
    clear HV HV0 hfz hfz2 hbz c1 HS0
    generalize V0.heap.size = m at *
    clear V0
    obtain ⟨f, hf'⟩ : ∃ f : Int → Option Value, f = fun _ => none := ⟨_, rfl⟩
    rw [← hf'] at HM1 HP1
    clear hf'
    have hs1 := HS1.out
    have hMb := blk_ne_map HB1.out HM1.out
    have hMt := blk_ne_map HT1.out HM1.out
    have hMr := row_ne_map HR1.out HM1.out
    have hRb := row_ne_blk HR1.out HB1.out (by decide)
    have hfn := place_none HP1.out HT.out HN.out
    obtain ⟨w1, hrun1, hm1, hg1, hz1'⟩ := (HM1.out.block (w' := V.drew) rfl).store (intWay Try.underlying3) Try.underlying54 (by have := HF.out; unfold maxLen; omega) t.tok HT.out (.int .i64 (xs.length : Nat))
    rw [hfn] at hm1
    simp only [Option.isSome_none, Bool.false_eq_true, if_false] at hm1
    have k0 : V.drew.cell? ⟨b, 0, none⟩ = some (.slice A xs.length c) := HB1.out.cell 0 rfl
    have k1 : V.drew.cell? ⟨b, 1, none⟩ = some (.map (some m)) := HB1.out.cell 1 rfl
    have k2 : V.drew.cell? ⟨w.heap.size, 0, none⟩ = some (.int .i64 t.tok) := HT1.out.cell 0 rfl
    have B2 : Blk w1 b _ _ := (HB1.out.heap (w' := V.drew) rfl).grown hg1 (by intro e; injection e with e; exact hMb e.symm)
    have T2 : Blk w1 w.heap.size _ _ := (HT1.out.heap (w' := V.drew) rfl).grown hg1 (by intro e; injection e with e; exact hMt e.symm)
    have R2 : w1.ownsRow 0 _ _ _ _ _ := (Beside.grown (bad := fun x => x = m) (Beside.refl _ V.drew) hg1 (fun q hq => by injection hq with hq; exact .inl hq.symm)).keepsOwn (own_heap HR1.out rfl) (by intro q hq e; exact hMr (by rw [hq, e]))
    have hbw1 : b < w1.heap.size := B2.lt
    have OA : ((w1.alloc (.cells #[.int .i64 t.tok, .int .i64 t.dl, .int .i64 t.k, .int .i64 t.n] 47)).drew).ownsRow 0 47 4 (.slice A xs.length c) xs.length (tv xs) := own_drew (own_below R2 (below_alloc w1 _))
    obtain ⟨v2, w2, hrun2, hown2, hgrow2, _, hat2⟩ := run_append_own_at (P := Try.prog) ((w1.alloc (.cells #[.int .i64 t.tok, .int .i64 t.dl, .int .i64 t.k, .int .i64 t.n] 47)).drew) 0 38 38 47 i0 _ 4 32 Try.underlying38 hi hz0 hz1 hz2 rfl (by decide) _ _ _ OA ⟨w1.heap.size, 0, none⟩ 1 1 [.int .i64 t.tok, .int .i64 t.dl, .int .i64 t.k, .int .i64 t.n] rfl (cells_new' w1 _ _ _ rfl _ rfl) (by intro u hu; simp at hu; rcases hu with rfl | rfl | rfl | rfl <;> rfl) (by have := HF.out; unfold maxLen; omega) (by have := HF.out; omega) (Nat.zero_le _)
    obtain ⟨A2, c2, rfl, _, _⟩ := own_slice hown2
    have hgs : (w1.alloc (.cells #[.int .i64 t.tok, .int .i64 t.dl, .int .i64 t.k, .int .i64 t.n] 47)).drew.heap.size = w1.heap.size + 1 := size_alloc w1 _
    have B3 : Blk w2 b 58 _ := ((B2.alloc (.cells #[.int .i64 t.tok, .int .i64 t.dl, .int .i64 t.k, .int .i64 t.n] 47)).drew).grown hgrow2 (by intro e; exact hRb e.symm)
    have M3 : MapOf Try.prog 3 ikey OkI w2 m _ _ := ((hm1.below (below_alloc w1 (.cells #[.int .i64 t.tok, .int .i64 t.dl, .int .i64 t.k, .int .i64 t.n] 47))).block (w' := (w1.alloc (.cells #[.int .i64 t.tok, .int .i64 t.dl, .int .i64 t.k, .int .i64 t.n] 47)).drew) rfl).grown hgrow2 (by intro e; exact hMr e.symm)
    have hv2b : (Value.slice A2 (xs.length + 1) c2).ownBlock ≠ some b := by
      rcases hat2 with h9 | h9
      · rw [h9]; exact hRb
      · rw [h9, hgs]; intro e; injection e with e; omega
    have HPE : Hid (Pl (w2.setCell ⟨b, 0, none⟩ (.slice A2 (xs.length + 1) c2)) b (.slice A2 (xs.length + 1) c2) (.map (some m)) last most (xs ++ [t])) := by
      refine ⟨B3.set 0 _, ?_, .inr ⟨m, _, rfl, ?_, place_push HP1.out t HN.out⟩, ?_, ?_⟩
      · rw [List.length_append, tv_app]
        exact ((Beside.refl (fun x => x = b) w2).set (.inl rfl) 0 _).keepsOwn hown2 (by intro q hq e; exact hv2b (by rw [hq, e]))
      · rw [List.length_append]
        exact M3.block (set_other (fun e => hMb e) _ _)
      · intro x hx
        rcases List.mem_append.1 hx with h9 | h9
        · exact HTK.out x h9
        · rw [List.mem_singleton.1 h9]; exact HT.out
      · rw [List.length_append]; have := HF.out; show _ + 1 ≤ _; omega
    have S1 : Beside (Bad b (.slice A xs.length c) (.map none)) w w1 := (HBS1.out.drewN 1).grown hg1 (fun q hq => by injection hq with hq; rcases HFR.out q (by rw [hq]) with h9 | h9; exact .inl (.inr (.inr h9)); exact .inr h9)
    have S2 : Beside (Bad b (.slice A xs.length c) (.map none)) w w2 := ((S1.alloc (.cells #[.int .i64 t.tok, .int .i64 t.dl, .int .i64 t.k, .int .i64 t.n] 47)).drewN 1).grown hgrow2 (fun q hq => .inl (.inr (.inl hq)))
    have HBE : Hid (Beside (Bad b (.slice A xs.length c) (.map none)) w (w2.setCell ⟨b, 0, none⟩ (.slice A2 (xs.length + 1) c2))) := S2.set (.inl (.inl rfl)) 0 _
    have HFE : Hid (Fresh w.heap.size (.slice A xs.length c) (.map none) (.slice A2 (xs.length + 1) c2) (.map (some m))) := by
      refine ⟨fun q hq => ?_, fun q hq => HFR.out q hq⟩
      rcases hat2 with h9 | h9
      · exact .inl (h9 ▸ hq)
      · rw [h9, hgs] at hq; injection hq with hq; have := S1.size; exact .inr (by omega)
    have l0 : w1.cell? ⟨b, 0, none⟩ = some (.slice A xs.length c) := B2.cell 0 rfl
    have l0d : w1.drew.cell? ⟨b, 0, none⟩ = some (.slice A xs.length c) := B2.cell 0 rfl
    have l0a : (w1.alloc (.cells #[.int .i64 t.tok, .int .i64 t.dl, .int .i64 t.k, .int .i64 t.n] 47)).cell? ⟨b, 0, none⟩ = some (.slice A xs.length c) := (B2.alloc _).cell 0 rfl
    have n0 : w1.cell? ⟨w.heap.size, 0, none⟩ = some (.int .i64 t.tok) := T2.cell 0 rfl
    have n1 : w1.cell? ⟨w.heap.size, 1, none⟩ = some (.int .i64 t.dl) := T2.cell 1 rfl
    have n2 : w1.cell? ⟨w.heap.size, 2, none⟩ = some (.int .i64 t.k) := T2.cell 2 rfl
    have n3 : w1.cell? ⟨w.heap.size, 3, none⟩ = some (.int .i64 t.n) := T2.cell 3 rfl
    have n0d : w1.drew.cell? ⟨w.heap.size, 0, none⟩ = some (.int .i64 t.tok) := T2.cell 0 rfl
    have n1d : w1.drew.cell? ⟨w.heap.size, 1, none⟩ = some (.int .i64 t.dl) := T2.cell 1 rfl
    have n2d : w1.drew.cell? ⟨w.heap.size, 2, none⟩ = some (.int .i64 t.k) := T2.cell 2 rfl
    have n3d : w1.drew.cell? ⟨w.heap.size, 3, none⟩ = some (.int .i64 t.n) := T2.cell 3 rfl
    have o0 : w2.cell? ⟨b, 0, none⟩ = some (.slice A xs.length c) := B3.cell 0 rfl
    have ofz : w2.frozen? ⟨b, 0, none⟩ = false := B3.frozen 0
    clear HBS1 HB1 HT1 HR1 HM1 hm1 hg1 hz1' B2 T2 R2 OA hown2 hgrow2 hat2 hgs B3 M3 hv2b S1 S2 HFR hMb hMt hMr hRb hfn
    change Code.wp _ _ _ _ V
    go_region
    go_upto_region 5 with fail
    clear k0 k1 k2 hrun1
    change Code.wp _ _ _ _ w1
    go_region
    go_end0
    exact ⟨rfl, _, _, HPE.out, HBE.out, HFE.out⟩
  · subst hmv
    obtain ⟨V, hV⟩ : ∃ V, V = V0 := ⟨_, rfl⟩
    rw [← hV] at hB0 hR0 hT0 hmf HV0 hs0 HBS
    have c1 : V.cell? ⟨b, 1, none⟩ = some (.map (some m)) := hB0.cell 1 rfl
    have HB1 := Lib.hid hB0
    have HT1 := Lib.hid hT0
    have HR1 := Lib.hid hR0
    have HM1 := Lib.hid hmf
    have HP1 := Lib.hid hpl
    have HBS1 := HBS
    have HS1 : Hid (w.heap.size < V.heap.size) := by rw [hs0]; exact Nat.lt_succ_self _
    have HFR : Hid (∀ q, Value.map (some m) = .map (some q) → Value.map (some m) = .map (some q) ∨ w.heap.size ≤ q) := fun q hq => .inl hq
    clear hR0 hT0 hB0 hmf hpl hs0 hV HBS V0
    go_enter Try.func73, Try.ntmps73
    go_upto_region 2 with fail
    rw [← HV0.out]
    go_upto_region 4 with fail
    clear c1 HV0
    have hs1 := HS1.out
    have hMb := blk_ne_map HB1.out HM1.out
    have hMt := blk_ne_map HT1.out HM1.out
    have hMr := row_ne_map HR1.out HM1.out
    have hRb := row_ne_blk HR1.out HB1.out (by decide)
    have hfn := place_none HP1.out HT.out HN.out
    obtain ⟨w1, hrun1, hm1, hg1, hz1'⟩ := (HM1.out.block (w' := V.drew) rfl).store (intWay Try.underlying3) Try.underlying54 (by have := HF.out; unfold maxLen; omega) t.tok HT.out (.int .i64 (xs.length : Nat))
    rw [hfn] at hm1
    simp only [Option.isSome_none, Bool.false_eq_true, if_false] at hm1
    have k0 : V.drew.cell? ⟨b, 0, none⟩ = some (.slice A xs.length c) := HB1.out.cell 0 rfl
    have k1 : V.drew.cell? ⟨b, 1, none⟩ = some (.map (some m)) := HB1.out.cell 1 rfl
    have k2 : V.drew.cell? ⟨w.heap.size, 0, none⟩ = some (.int .i64 t.tok) := HT1.out.cell 0 rfl
    have B2 : Blk w1 b _ _ := (HB1.out.heap (w' := V.drew) rfl).grown hg1 (by intro e; injection e with e; exact hMb e.symm)
    have T2 : Blk w1 w.heap.size _ _ := (HT1.out.heap (w' := V.drew) rfl).grown hg1 (by intro e; injection e with e; exact hMt e.symm)
    have R2 : w1.ownsRow 0 _ _ _ _ _ := (Beside.grown (bad := fun x => x = m) (Beside.refl _ V.drew) hg1 (fun q hq => by injection hq with hq; exact .inl hq.symm)).keepsOwn (own_heap HR1.out rfl) (by intro q hq e; exact hMr (by rw [hq, e]))
    have hbw1 : b < w1.heap.size := B2.lt
    have OA : ((w1.alloc (.cells #[.int .i64 t.tok, .int .i64 t.dl, .int .i64 t.k, .int .i64 t.n] 47)).drew).ownsRow 0 47 4 (.slice A xs.length c) xs.length (tv xs) := own_drew (own_below R2 (below_alloc w1 _))
    obtain ⟨v2, w2, hrun2, hown2, hgrow2, _, hat2⟩ := run_append_own_at (P := Try.prog) ((w1.alloc (.cells #[.int .i64 t.tok, .int .i64 t.dl, .int .i64 t.k, .int .i64 t.n] 47)).drew) 0 38 38 47 i0 _ 4 32 Try.underlying38 hi hz0 hz1 hz2 rfl (by decide) _ _ _ OA ⟨w1.heap.size, 0, none⟩ 1 1 [.int .i64 t.tok, .int .i64 t.dl, .int .i64 t.k, .int .i64 t.n] rfl (cells_new' w1 _ _ _ rfl _ rfl) (by intro u hu; simp at hu; rcases hu with rfl | rfl | rfl | rfl <;> rfl) (by have := HF.out; unfold maxLen; omega) (by have := HF.out; omega) (Nat.zero_le _)
    obtain ⟨A2, c2, rfl, _, _⟩ := own_slice hown2
    have hgs : (w1.alloc (.cells #[.int .i64 t.tok, .int .i64 t.dl, .int .i64 t.k, .int .i64 t.n] 47)).drew.heap.size = w1.heap.size + 1 := size_alloc w1 _
    have B3 : Blk w2 b 58 _ := ((B2.alloc (.cells #[.int .i64 t.tok, .int .i64 t.dl, .int .i64 t.k, .int .i64 t.n] 47)).drew).grown hgrow2 (by intro e; exact hRb e.symm)
    have M3 : MapOf Try.prog 3 ikey OkI w2 m _ _ := ((hm1.below (below_alloc w1 (.cells #[.int .i64 t.tok, .int .i64 t.dl, .int .i64 t.k, .int .i64 t.n] 47))).block (w' := (w1.alloc (.cells #[.int .i64 t.tok, .int .i64 t.dl, .int .i64 t.k, .int .i64 t.n] 47)).drew) rfl).grown hgrow2 (by intro e; exact hMr e.symm)
    have hv2b : (Value.slice A2 (xs.length + 1) c2).ownBlock ≠ some b := by
      rcases hat2 with h9 | h9
      · rw [h9]; exact hRb
      · rw [h9, hgs]; intro e; injection e with e; omega
    have HPE : Hid (Pl (w2.setCell ⟨b, 0, none⟩ (.slice A2 (xs.length + 1) c2)) b (.slice A2 (xs.length + 1) c2) (.map (some m)) last most (xs ++ [t])) := by
      refine ⟨B3.set 0 _, ?_, .inr ⟨m, _, rfl, ?_, place_push HP1.out t HN.out⟩, ?_, ?_⟩
      · rw [List.length_append, tv_app]
        exact ((Beside.refl (fun x => x = b) w2).set (.inl rfl) 0 _).keepsOwn hown2 (by intro q hq e; exact hv2b (by rw [hq, e]))
      · rw [List.length_append]
        exact M3.block (set_other (fun e => hMb e) _ _)
      · intro x hx
        rcases List.mem_append.1 hx with h9 | h9
        · exact HTK.out x h9
        · rw [List.mem_singleton.1 h9]; exact HT.out
      · rw [List.length_append]; have := HF.out; show _ + 1 ≤ _; omega
    have S1 : Beside (Bad b (.slice A xs.length c) (.map (some m))) w w1 := (HBS1.out.drewN 1).grown hg1 (fun q hq => by injection hq with hq; rcases HFR.out q (by rw [hq]) with h9 | h9; exact .inl (.inr (.inr h9)); exact .inr h9)
    have S2 : Beside (Bad b (.slice A xs.length c) (.map (some m))) w w2 := ((S1.alloc (.cells #[.int .i64 t.tok, .int .i64 t.dl, .int .i64 t.k, .int .i64 t.n] 47)).drewN 1).grown hgrow2 (fun q hq => .inl (.inr (.inl hq)))
    have HBE : Hid (Beside (Bad b (.slice A xs.length c) (.map (some m))) w (w2.setCell ⟨b, 0, none⟩ (.slice A2 (xs.length + 1) c2))) := S2.set (.inl (.inl rfl)) 0 _
    have HFE : Hid (Fresh w.heap.size (.slice A xs.length c) (.map (some m)) (.slice A2 (xs.length + 1) c2) (.map (some m))) := by
      refine ⟨fun q hq => ?_, fun q hq => HFR.out q hq⟩
      rcases hat2 with h9 | h9
      · exact .inl (h9 ▸ hq)
      · rw [h9, hgs] at hq; injection hq with hq; have := S1.size; exact .inr (by omega)
    have l0 : w1.cell? ⟨b, 0, none⟩ = some (.slice A xs.length c) := B2.cell 0 rfl
    have l0d : w1.drew.cell? ⟨b, 0, none⟩ = some (.slice A xs.length c) := B2.cell 0 rfl
    have l0a : (w1.alloc (.cells #[.int .i64 t.tok, .int .i64 t.dl, .int .i64 t.k, .int .i64 t.n] 47)).cell? ⟨b, 0, none⟩ = some (.slice A xs.length c) := (B2.alloc _).cell 0 rfl
    have n0 : w1.cell? ⟨w.heap.size, 0, none⟩ = some (.int .i64 t.tok) := T2.cell 0 rfl
    have n1 : w1.cell? ⟨w.heap.size, 1, none⟩ = some (.int .i64 t.dl) := T2.cell 1 rfl
    have n2 : w1.cell? ⟨w.heap.size, 2, none⟩ = some (.int .i64 t.k) := T2.cell 2 rfl
    have n3 : w1.cell? ⟨w.heap.size, 3, none⟩ = some (.int .i64 t.n) := T2.cell 3 rfl
    have n0d : w1.drew.cell? ⟨w.heap.size, 0, none⟩ = some (.int .i64 t.tok) := T2.cell 0 rfl
    have n1d : w1.drew.cell? ⟨w.heap.size, 1, none⟩ = some (.int .i64 t.dl) := T2.cell 1 rfl
    have n2d : w1.drew.cell? ⟨w.heap.size, 2, none⟩ = some (.int .i64 t.k) := T2.cell 2 rfl
    have n3d : w1.drew.cell? ⟨w.heap.size, 3, none⟩ = some (.int .i64 t.n) := T2.cell 3 rfl
    have o0 : w2.cell? ⟨b, 0, none⟩ = some (.slice A xs.length c) := B3.cell 0 rfl
    have ofz : w2.frozen? ⟨b, 0, none⟩ = false := B3.frozen 0
    clear HBS1 HB1 HT1 HR1 HM1 hm1 hg1 hz1' B2 T2 R2 OA hown2 hgrow2 hat2 hgs B3 M3 hv2b S1 S2 HFR hMb hMt hMr hRb hfn
    change Code.wp _ _ _ _ V
    go_region
    go_upto_region 5 with fail
    clear k0 k1 k2 hrun1
    change Code.wp _ _ _ _ w1
    go_region
    go_end0
    exact ⟨rfl, _, _, HPE.out, HBE.out, HFE.out⟩
end Go.Proofs.Ytdbgmogllncffaa
