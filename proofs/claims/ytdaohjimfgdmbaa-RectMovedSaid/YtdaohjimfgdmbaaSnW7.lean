/- The stable sort of entries at this seat's translation; the cells of what CompactFunc leaves. -/
import Derived.Test.YtdaohjimfgdmbaaSnW6
import Derived.Test.YtdaohjimfgdmbaaSnW2
namespace Go.Proofs.Ytdaohjimfgdmbaa
open Go.Shelf Go.RowKit Go.Lib Go.Sort Go.Proofs Sn
theorem below_run {B : Nat} {a : World} (b : Nat) (hb : B ≤ b) : ∀ (vs : List Value) (o : Nat) {w : World}, RowKit.Below B a w → RowKit.Below B a (w.setCells b o vs)
  | [], _, _, h => h
  | v :: r, o, w, h => by
    rw [World.setCells]
    exact below_run b hb r (o + 1) (h.setCell (p := ⟨b, o, none⟩) hb v)
theorem sort_row (blk cap : Nat) (d : Array En) (w : World) (R : RowK ec 5 w blk 0 d) (hsz : d.size < 100000000000) :
    Calls Try.prog 37 #[.slice (some ⟨blk, 0, none⟩) d.size cap, .func (.func 38) #[] #[]] w fun e w' => e = .returned (.tuple #[]) ∧ ∃ d', St.Kept (nm := En.id) 0 d.size d d' ∧ SortedIn (ltOf (cf En.id)) 0 d.size d' ∧ SWK ec 5 w blk 0 d' w' :=
  St.EN.sorts (nm := En.id) ec (cf En.id) (swo En.id) (ne En.id) 38 #[] blk 0 cap d w (enters_of Try.func38 (by kernel_rfl) rfl) (cmp_lays blk d.size w) R hsz
theorem Compacted.cells {d : Array En} {w w' : World} {blk : Nat} (h : Compacted En.id ec 5 zE0 blk 0 d w w') (R : RowK ec 5 w blk 0 d) {D : Nat} (hD : D ≤ blk) (hDw : D ≤ w.heap.size) :
    At w' (some ⟨blk, 0, none⟩) (ecs (comp En.id d.toList)) ∧ RowKit.Below D w w' ∧ blk < w'.heap.size := by
  obtain ⟨dk, W1, hs, hm, hS, ht, hw⟩ := h
  have hat := St.at_of_holds (enc := ec) (k := 5) ec_len (hS.holds R.hblk R.hH hs) (hS.lt R.hblk)
  have hb1 : RowKit.Below D w W1 := St.swk_below hS hD hDw
  have hl1 : blk < W1.heap.size := hS.lt R.hblk
  have hsplit : dk.toList.flatMap ec = ecs (comp En.id d.toList) ++ ecs (dk.toList.drop (comp En.id d.toList).length) := by
    rw [← ecs_app]
    conv => rhs; arg 1; arg 1; rw [← ht]
    rw [List.take_append_drop]
    rfl
  have hpre : At W1 (some ⟨blk, 0, none⟩) (ecs (comp En.id d.toList)) := fun hx => by
    obtain ⟨b, off, e, hl, hc⟩ := hat (by rw [hsplit]; intro q; exact hx (List.append_eq_nil_iff.1 q).1)
    exact ⟨b, off, e, hl, fun j u hj => hc j u (by rw [hsplit, List.getElem?_append_left (List.getElem?_eq_some_iff.1 hj).1]; exact hj)⟩
  rcases hw with rfl | rfl
  · exact ⟨hpre, hb1, hl1⟩
  · refine ⟨fun hx => ?_, below_run blk hD _ _ hb1, by simpa using hl1⟩
    obtain ⟨b, off, e, hl, hc⟩ := hpre hx
    refine ⟨b, off, e, by simpa using hl, fun j u hj => ?_⟩
    rw [← hc j u hj]
    have hj' := (List.getElem?_eq_some_iff.1 hj).1
    rw [ecs_len] at hj'
    injection e with e
    injection e with e1 e2
    subst e1 e2
    exact World.cell?_setCells_out _ _ _ _ _ (fun _ _ => Or.inl (by show 0 + j < 0 + _ * 5; omega))
end Go.Proofs.Ytdaohjimfgdmbaa
