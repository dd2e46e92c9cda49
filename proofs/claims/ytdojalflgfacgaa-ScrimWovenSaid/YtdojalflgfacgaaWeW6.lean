/- What weave's Steps keeps in memory between two rounds. -/
import Derived.Test.YtdojalflgfacgaaWeW5
namespace Go.Proofs.Ytdojalflgfacgaa
open Go.RowKit We
def Typed (W : World) (x : Nat) (T : TypeId) : Prop := ∃ cs fr, W.heap[x]? = some (.cells cs T fr)
theorem Typed.ne {W : World} {x y : Nat} {T U : TypeId} (h : Typed W x T) (k : Typed W y U) (hne : T ≠ U) : x ≠ y := by
  rintro rfl
  obtain ⟨cs, fr, h⟩ := h
  obtain ⟨ds, gr, k⟩ := k
  rw [h] at k
  injection k with k
  injection k with _ k _
  exact hne k
theorem typed_boxed {W : World} {B : Nat} {t : TypeId} {v : Value} (h : Boxed W B t v) : Typed W B t := ⟨_, _, h⟩
theorem typed_own {W : World} {base : Nat} {e : TypeId} {size n : Nat} {v : Value} {xs : List Value} (h : W.ownsRow base e size v n xs) {x : Nat} (hx : v.ownBlock = some x) : Typed W x e := by
  rcases h.2 with ⟨rfl, _⟩ | ⟨g, c, cur, rfl, _, hh, _⟩
  · cases hx
  · simp only [Value.ownBlock, Option.some.injEq] at hx
    subst hx
    exact ⟨_, _, hh⟩
theorem map_not_typed {α : Type} {P : Program} {K : TypeId} {kl : α → Lit} {ok : α → Prop} {w : World} {b n : Nat} {f : α → Option Value} (h : MapOf P K kl ok w b f n) {x : Nat} {T : TypeId} (k : Typed w x T) : b ≠ x := by
  rintro rfl
  obtain ⟨D, ⟨es, clock, h1, _⟩, _⟩ := h
  obtain ⟨cs, fr, k⟩ := k
  rw [h1] at k
  cases k
theorem boxed_keep {bad : Nat → Prop} {W W' : World} {B : Nat} {t : TypeId} {v : Value} (h : Boxed W B t v) (hb : Beside bad W W') (hn : ¬ bad B) : Boxed W' B t v := (hb.block B h.lt hn).trans h
structure Core (W : World) (p5 m1 p8 gb p9 g Bs base na : Nat) (A2 : Option Addr) (n2 c2 : Nat) (a b : List Int) (st : Nat → Bool) : Prop where
  box5 : Boxed W p5 48 (.map (some m1))
  map1 : MapOf Try.prog 3 ikey OkI W m1 (posF a) a.length
  box8 : Boxed W p8 52 (.slice (some ⟨gb, 0, none⟩) na na)
  row8 : W.ownsRow base 4 1 (.slice (some ⟨gb, 0, none⟩) na na) na (bits na st)
  box9 : Boxed W p9 54 (.pointer (some ⟨g, 0, none⟩))
  boxB : Boxed W Bs 22 (.slice A2 n2 c2)
  rowB : W.ownsRow base 3 1 (.slice A2 n2 c2) n2 (iv b)
section
variable {W W' : World} {p5 m1 p8 gb p9 g Bs base na : Nat} {A2 : Option Addr} {n2 c2 : Nat} {a b : List Int} {st : Nat → Bool}
theorem Core.keep {bad : Nat → Prop} (h : Core W p5 m1 p8 gb p9 g Bs base na A2 n2 c2 a b st) (hb : Beside bad W W') (h5 : ¬ bad p5) (hm : ¬ bad m1) (h8 : ¬ bad p8) (hg : ¬ bad gb) (h9 : ¬ bad p9) (hB : ¬ bad Bs) (hA : ∀ x, (Value.slice A2 n2 c2).ownBlock = some x → ¬ bad x) : Core W' p5 m1 p8 gb p9 g Bs base na A2 n2 c2 a b st :=
  ⟨boxed_keep h.box5 hb h5, h.map1.block (hb.block m1 h.map1.lt hm), boxed_keep h.box8 hb h8, hb.keepsOwn h.row8 (fun x hx => by simp only [Value.ownBlock, Option.some.injEq] at hx; rw [← hx]; exact hg), boxed_keep h.box9 hb h9, boxed_keep h.boxB hb hB, hb.keepsOwn h.rowB hA⟩
/-- the whole: what is fixed, the steps so far, what is left. -/
structure St (W : World) (p5 m1 p7 p8 gb p9 g tb Bs base na : Nat) (A2 : Option Addr) (n2 c2 : Nat) (a b : List Int) (st : Nat → Bool) (L : List Stp) (f : Nat → Bool) (bf lm : Nat) : Prop where
  core : Core W p5 m1 p8 gb p9 g Bs base na A2 n2 c2 a b st
  steps : ∃ v, Boxed W p7 25 v ∧ W.ownsRow base 31 3 v L.length (sc L)
  rest : RestIs W g tb na base f bf lm
  ne : gb ≠ tb
variable {p7 tb : Nat} {L : List Stp} {f : Nat → Bool} {bf lm : Nat}
theorem rest_typed (h : RestIs W g tb na base f bf lm) : Typed W g 62 ∧ Typed W tb 4 := ⟨⟨_, _, h.cells⟩, typed_own h.row rfl⟩
/-- take and cut: only what is left turns. -/
theorem St.rests {f' : Nat → Bool} {bf' lm' : Nat} (h : St W p5 m1 p7 p8 gb p9 g tb Bs base na A2 n2 c2 a b st L f bf lm) (hb : Beside (inRest g tb) W W') (hr : RestIs W' g tb na base f' bf' lm') : St W' p5 m1 p7 p8 gb p9 g tb Bs base na A2 n2 c2 a b st L f' bf' lm' := by
  obtain ⟨tg, tt⟩ := rest_typed h.rest
  have key : ∀ {x : Nat} {T : TypeId}, Typed W x T → T ≠ 62 → T ≠ 4 → ¬ inRest g tb x := fun hx h1 h2 hbad => by
    rcases hbad with e | e
    · exact hx.ne tg h1 e
    · exact hx.ne tt h2 e
  refine ⟨h.core.keep hb (key (typed_boxed h.core.box5) (by decide) (by decide)) ?_ (key (typed_boxed h.core.box8) (by decide) (by decide)) ?_ (key (typed_boxed h.core.box9) (by decide) (by decide)) (key (typed_boxed h.core.boxB) (by decide) (by decide)) (fun x hx => key (typed_own h.core.rowB hx) (by decide) (by decide)), ?_, hr, h.ne⟩
  · rintro (e | e)
    · exact map_not_typed h.core.map1 tg e
    · exact map_not_typed h.core.map1 tt e
  · rintro (e | e)
    · exact (typed_own h.core.row8 (x := gb) rfl).ne tg (by decide) e
    · exact h.ne e
  · obtain ⟨v, h1, h2⟩ := h.steps
    exact ⟨v, boxed_keep h1 hb (key (typed_boxed h1) (by decide) (by decide)), hb.keepsOwn h2 (fun x hx => key (typed_own h2 hx) (by decide) (by decide))⟩
theorem keeps_rests (B : Nat) (h : RestIs W g tb na base f bf lm) (hb : Beside (inRest g tb) W W') : KeepsFrom B W W' := by
  obtain ⟨⟨cs, fr, tg⟩, ⟨ds, gr, tt⟩⟩ := rest_typed h
  refine ⟨hb.size, fun k o _ hk ho => (hb.block k (Array.getElem?_eq_some_iff.1 hk).1 ?_).trans hk⟩
  rintro (rfl | rfl)
  · rw [tg] at hk; cases hk; cases ho
  · rw [tt] at hk; cases hk; cases ho
/-- all that lies lies as it lay. -/
theorem St.same (h : St W p5 m1 p7 p8 gb p9 g tb Bs base na A2 n2 c2 a b st L f bf lm) {row : Option Nat} (hg : W.grownBy W' row) (hr : ∀ r, row = some r → m1 < r ∧ ∃ o : Obj, W.heap[r]? = some o ∧ o.isCells = false) : St W' p5 m1 p7 p8 gb p9 g tb Bs base na A2 n2 c2 a b st L f bf lm := by
  have hb : Beside (fun x => row = some x) W W' := (Beside.refl _ W).grown hg (fun q hq => .inl hq)
  have key : ∀ {x : Nat} {T : TypeId}, Typed W x T → ¬ row = some x := fun hx e => by
    obtain ⟨_, o, ho, hc⟩ := hr _ e
    obtain ⟨cs, fr, hx⟩ := hx
    rw [hx] at ho
    cases ho
    cases hc
  obtain ⟨tg, tt⟩ := rest_typed h.rest
  obtain ⟨v, h1, h2⟩ := h.steps
  refine ⟨h.core.keep hb (key (typed_boxed h.core.box5)) (fun e => by have := (hr _ e).1; omega) (key (typed_boxed h.core.box8)) (key (typed_own h.core.row8 rfl)) (key (typed_boxed h.core.box9)) (key (typed_boxed h.core.boxB)) (fun x hx => key (typed_own h.core.rowB hx)), ⟨v, boxed_keep h1 hb (key (typed_boxed h1)), hb.keepsOwn h2 (fun x hx => key (typed_own h2 hx))⟩, h.rest.heap (hb.block g h.rest.lt.1 (key tg)) (hb.block tb h.rest.lt.2 (key tt)), h.ne⟩
theorem St.alloc (h : St W p5 m1 p7 p8 gb p9 g tb Bs base na A2 n2 c2 a b st L f bf lm) (o : Obj) : St (W.alloc o) p5 m1 p7 p8 gb p9 g tb Bs base na A2 n2 c2 a b st L f bf lm := h.same (World.grownBy_alloc W o none) (fun r e => by cases e)
theorem St.drew (h : St W p5 m1 p7 p8 gb p9 g tb Bs base na A2 n2 c2 a b st L f bf lm) : St W.drew p5 m1 p7 p8 gb p9 g tb Bs base na A2 n2 c2 a b st L f bf lm := by
  obtain ⟨v, h1, h2⟩ := h.steps
  exact ⟨⟨h.core.box5, h.core.map1.block rfl, h.core.box8, own_heap h.core.row8 rfl, h.core.box9, h.core.boxB, own_heap h.core.rowB rfl⟩, ⟨v, h1, own_heap h2 rfl⟩, h.rest.heap rfl rfl, h.ne⟩
/-- a step is appended, and the new slice stored. -/
theorem St.append {w1 : World} {v v' : Value} {s : Stp} (h : St W p5 m1 p7 p8 gb p9 g tb Bs base na A2 n2 c2 a b st L f bf lm) (hv : Boxed W p7 25 v) (ho : W.ownsRow base 31 3 v L.length (sc L))
    (hown' : w1.ownsRow base 31 3 v' (L.length + 1) (sc L ++ sc [s])) (hg : W.grownBy w1 v.ownBlock) : St (w1.setCell ⟨p7, 0, none⟩ v') p5 m1 p7 p8 gb p9 g tb Bs base na A2 n2 c2 a b st (L ++ [s]) f bf lm ∧ KeepsOthers W (w1.setCell ⟨p7, 0, none⟩ v') := by
  have hb1 : Beside (fun x => x = p7 ∨ v.ownBlock = some x) W w1 := (Beside.refl _ W).grown hg (fun q hq => .inl (.inr hq))
  have hb : Beside (fun x => x = p7 ∨ v.ownBlock = some x) W (w1.setCell ⟨p7, 0, none⟩ v') := hb1.set (.inl (.inl rfl)) 0 v'
  have key : ∀ {x : Nat} {T : TypeId}, Typed W x T → T ≠ 25 → T ≠ 31 → ¬ (x = p7 ∨ v.ownBlock = some x) := fun hx h1 h2 hbad => by
    rcases hbad with e | e
    · exact hx.ne (typed_boxed hv) h1 e
    · exact hx.ne (typed_own ho e) h2 rfl
  have hp7 : v.ownBlock ≠ some p7 := fun e => (typed_boxed hv).ne (typed_own ho e) (by decide) rfl
  have hv1 : Boxed w1 p7 25 v := (hg.block p7 hv.lt (fun e => hp7 e.symm)).trans hv
  obtain ⟨tg, tt⟩ := rest_typed h.rest
  refine ⟨⟨h.core.keep hb (key (typed_boxed h.core.box5) (by decide) (by decide)) ?_ (key (typed_boxed h.core.box8) (by decide) (by decide)) (key (typed_own h.core.row8 rfl) (by decide) (by decide)) (key (typed_boxed h.core.box9) (by decide) (by decide)) (key (typed_boxed h.core.boxB) (by decide) (by decide)) (fun x hx => key (typed_own h.core.rowB hx) (by decide) (by decide)),
    ⟨v', ?_, ?_⟩, h.rest.heap (hb.block g h.rest.lt.1 (key tg (by decide) (by decide))) (hb.block tb h.rest.lt.2 (key tt (by decide) (by decide))), h.ne⟩, ?_⟩
  · rintro (e | e)
    · exact map_not_typed h.core.map1 (typed_boxed hv) e
    · exact map_not_typed h.core.map1 (typed_own ho e) rfl
  · show (w1.setCell ⟨p7, 0, none⟩ v').heap[p7]? = _
    rw [set_block hv1 0 v']
    rfl
  · rw [List.length_append, sc_app]
    refine hown'.kept (row := some p7) ⟨rfl, rfl, rfl, by simp, fun k _ hk => set_other (fun e => hk (by rw [e])) 0 v'⟩ (.inr (fun e => ?_))
    exact (typed_boxed hv1).ne (typed_own hown' e) (by decide) rfl
  · refine (KeepsOthers.of_grownBy hg fun j o ej hj => ?_).trans (KeepsOthers.setCell _ _ _)
    obtain ⟨cs, fr, h9⟩ := typed_own ho ej
    rw [h9] at hj
    cases hj
    rfl
end
end Go.Proofs.Ytdojalflgfacgaa
