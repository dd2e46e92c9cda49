/- The walk of FramesSecond. -/
import Derived.Test.YtpdlholoeaphgaaFrNM
import Derived.Test.YtpdlholoeaphgaaFrAd
import Derived.Lib.Hide
namespace Go.Proofs.Ytpdlholoeaphgaa
open Go.RowKit
namespace Fr
attribute [-go_sem] Builtin.append_
def iv (l : List Int) : List Value := l.map (Value.int .i64)
def bvs (l : List Bool) : List Value := l.map Value.bool
theorem iv_len (l : List Int) : (iv l).length = l.length := by simp [iv]
theorem iv_at {l : List Int} {k : Nat} (h : k < l.length) : (iv l)[k]? = some (.int .i64 (ai l k)) := by simp [iv, ai, h]
theorem iv_snoc (l : List Int) (x : Int) : iv (l ++ [x]) = iv l ++ [.int .i64 x] := by simp [iv]
theorem bv_at {l : List Bool} {k : Nat} (h : k < l.length) : (bvs l)[k]? = some (.bool (bi l k)) := by simp [bvs, bi, h]
theorem bv_set (l : List Bool) (k : Nat) : (bvs l).set k (.bool true) = bvs (l.set k true) := by simp [bvs, List.map_set]
theorem infoI : (Try.prog.info? 3).map (fun i => (i.zero, i.size, i.bytes)) = some (some (.int .i64 0), 1, 8) := by kernel_rfl
theorem infoB : (Try.prog.info? 4).map (fun i => (i.zero, i.size, i.bytes)) = some (some (.bool false), 1, 1) := by kernel_rfl
/-- what the walk keeps in memory: the queue b, the row of what was asked, the row gg of what is gone. -/
structure NF (w W : World) (gw gg b : Nat) (la : Int) (r1 r2 va : Value) (ask : List Int) (gone : List Bool) (a1 a2 : List Wt) : Prop where
  qm : Qm W b 78 [] [] r1 r2 la 200 a1 a2
  new : ∀ q, Qb b r1 r2 q → gw ≤ q
  bel : Below gw w W
  sz : gw ≤ W.heap.size
  ask : W.ownsRow gw 3 1 va ask.length (iv ask)
  gone : W.ownsRow gw 4 1 (.slice (some ⟨gg, 0, none⟩) 101 101) 101 (bvs gone)
theorem own_ne_blk {w : World} {base s n : Nat} {e t : TypeId} {v : Value} {xs : List Value} {g : Nat} {cs : Array Value} (h : w.ownsRow base e s v n xs) (hb : Blk w g t cs) (hne : e ≠ t) : v.ownBlock ≠ some g := Fr.row_ne_blk h hb hne
/-- blocks of the queue hold neither row. -/
theorem qb_apart {W : World} {b base s n : Nat} {e : TypeId} {v : Value} {xs : List Value} {r1 r2 : Value} {last most : Int} {a1 a2 : List Wt} (hq : Qm W b 78 [] [] r1 r2 last most a1 a2) (h : W.ownsRow base e s v n xs) (h1 : e ≠ 78) (h2 : e ≠ 49) : ∀ q, v.ownBlock = some q → ¬ Qb b r1 r2 q := by
  intro q hv hb
  rcases hb with rfl | hb | hb
  · exact Fr.row_ne_blk h hq.blk h1 hv
  · rcases own_ne h hq.row1 h2 with h3 | h3
    · rw [h3] at hv; cases hv
    · exact h3 (by rw [hv, hb])
  · rcases own_ne h hq.row2 h2 with h3 | h3
    · rw [h3] at hv; cases hv
    · exact h3 (by rw [hv, hb])
/-- a call of the queue's leaves the rows. -/
theorem NF.call {w W W' : World} {gw gg b : Nat} {la la' : Int} {r1 r2 va r1' r2' : Value} {ask : List Int} {gone : List Bool} {a1 a2 a1' a2' : List Wt} (h : NF w W gw gg b la r1 r2 va ask gone a1 a2) (hw : Way W W' b r1 r2 r1' r2') (hq : Qm W' b 78 [] [] r1' r2' la' 200 a1' a2') : NF w W' gw gg b la' r1' r2' va ask gone a1' a2' :=
  ⟨hq, fun q hb => by rcases hw.2 q hb with h9 | h9; exact h.new q h9; exact Nat.le_trans h.sz h9, hw.1.below h.bel h.sz (fun q hb => h.new q hb), Nat.le_trans h.sz hw.1.size, hw.1.keepsOwn h.ask (qb_apart h.qm h.ask (by decide) (by decide)), hw.1.keepsOwn h.gone (qb_apart h.qm h.gone (by decide) (by decide))⟩
theorem NF.below {w W W' : World} {gw gg b : Nat} {la : Int} {r1 r2 va : Value} {ask : List Int} {gone : List Bool} {a1 a2 : List Wt} (h : NF w W gw gg b la r1 r2 va ask gone a1 a2) (hb : Below W.heap.size W W') : NF w W' gw gg b la r1 r2 va ask gone a1 a2 :=
  ⟨h.qm.below hb, h.new, h.bel.trans (hb.mono h.sz), Nat.le_trans h.sz hb.size, own_below h.ask hb, own_below h.gone hb⟩
/-- one more is gone. -/
theorem NF.mark {w W : World} {gw gg b : Nat} {la : Int} {r1 r2 va : Value} {ask : List Int} {gone : List Bool} {a1 a2 : List Wt} (h : NF w W gw gg b la r1 r2 va ask gone a1 a2) (k : Nat) : NF w (W.setCell ⟨gg, k, none⟩ (.bool true)) gw gg b la r1 r2 va ask (gone.set k true) a1 a2 := by
  have hg : (Value.slice (some ⟨gg, 0, none⟩) 101 101).ownBlock = some gg := rfl
  have hne := qb_apart h.qm h.gone (by decide) (by decide)
  have hbs : Beside (fun x => x = gg) W (W.setCell ⟨gg, k, none⟩ (.bool true)) := (Beside.refl (fun x => x = gg) W).set (.inl rfl) _ _
  have hgw : gw ≤ gg := own_from h.gone gg hg
  refine ⟨h.qm.beside hbs (fun q hq e => hne gg hg (by rw [← e]; exact hq)), h.new, hbs.below h.bel h.sz (fun q hq => by rw [hq]; exact hgw), by simpa using h.sz, hbs.keepsOwn h.ask (fun q hq e => ?_), ?_⟩
  · rcases own_ne h.ask h.gone (by decide) with h3 | h3
    · rw [h3] at hq; cases hq
    · exact h3 (by rw [hq, e]; rfl)
  · have := (h.gone.stored k (.bool true)).1
    rwa [bv_set] at this
/-- one more was asked: the row that is longer. -/
theorem NF.asked {w W W' : World} {gw gg b : Nat} {la : Int} {r1 r2 va va' : Value} {ask : List Int} {gone : List Bool} {a1 a2 : List Wt} {x : Int} (h : NF w W gw gg b la r1 r2 va ask gone a1 a2) (hg : W.grownBy W' va.ownBlock) (ho : W'.ownsRow gw 3 1 va' (ask.length + 1) (iv ask ++ [.int .i64 x])) : NF w W' gw gg b la r1 r2 va' (ask ++ [x]) gone a1 a2 := by
  have hbs : Beside (fun x => va.ownBlock = some x) W W' := (Beside.refl (fun x => va.ownBlock = some x) W).grown hg (fun q hq => .inl hq)
  have hne := qb_apart h.qm h.ask (by decide) (by decide)
  refine ⟨h.qm.beside hbs (fun q hq e => hne q e hq), h.new, hbs.below h.bel h.sz (fun q hq => own_from h.ask q hq), Nat.le_trans h.sz hbs.size, by rw [List.length_append, List.length_singleton, iv_snoc]; exact ho, hbs.keepsOwn h.gone (fun q hq e => ?_)⟩
  rcases own_ne h.ask h.gone (by decide) with h3 | h3
  · rw [h3] at e; cases e
  · exact h3 (by rw [e, hq])
theorem own_set_true {W : World} {base gg : Nat} {gone : List Bool} (h : W.ownsRow base 4 1 (.slice (some ⟨gg, 0, none⟩) 101 101) 101 (bvs gone)) (k : Nat) (hk : k < 101) : W.cell? ⟨gg, k, none⟩ = some (.bool (bi gone k)) ∧ W.frozen? ⟨gg, k, none⟩ = false := by
  have hl : gone.length = 101 := by have := h.1; simpa [bvs] using this
  refine ⟨?_, h.frozenAt k⟩
  rw [h.cellAt k (by omega)]
  exact bv_at (by omega)
theorem ask_cell {W : World} {base n : Nat} {va : Value} {ask : List Int} (h : W.ownsRow base 3 1 va ask.length (iv ask)) (hn : n < ask.length) : ∃ g c, va = .slice (some ⟨g, 0, none⟩) ask.length c ∧ W.cell? ⟨g, n, none⟩ = some (.int .i64 (ai ask n)) := by
  obtain ⟨g, c, rfl, _⟩ := own_head h (by omega)
  exact ⟨g, c, rfl, by rw [h.cellAt n (by omega)]; exact iv_at hn⟩
end Fr
end Go.Proofs.Ytpdlholoeaphgaa
