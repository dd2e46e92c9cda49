/- How the statements' arguments are opened: slices of entries, of shifts, of numbers, and structs of them. -/
import Derived.Test.YtdaohjimfgdmbaaSpOwn
import Derived.Test.YtdaohjimfgdmbaaChecked
namespace Go.Proofs.Ytdaohjimfgdmbaa
open Go.RowKit Go.ChangeShapes Go.WideShapes Go.Deep Sn
def OkI' (z : Int) : Prop := (Lit.int .i64 z).wf = true
def OkE (t : En) : Prop := OkI' t.id
def EnsIn (w : World) (A : Option Addr) (n c : Nat) (L : List En) : Prop := Op.SliceOf w ec OkE A n c L
def zc (z : Int) : List Value := [.int .i64 z]
def NumsIn (w : World) (A : Option Addr) (n c : Nat) (L : List Int) : Prop := Op.SliceOf w zc OkI' A n c L
/-- a shift: its number, and how far. -/
structure Sn.Sh where
  id : Int
  dx : Int
  dy : Int
deriving DecidableEq, Inhabited
def shc (t : Sh) : List Value := [.int .i64 t.id, .int .i64 t.dx, .int .i64 t.dy]
def ShsIn (w : World) (A : Option Addr) (n c : Nat) (L : List Sh) : Prop := Op.SliceOf w shc (fun t => OkI' t.id) A n c L
def EnsArg (w : World) (v : Value) : Prop := ∃ A n c L, v = .slice A n c ∧ EnsIn w A n c L
def ShsArg (w : World) (v : Value) : Prop := ∃ A n c L, v = .slice A n c ∧ ShsIn w A n c L
def IntArg (_ : World) (v : Value) : Prop := ∃ a, v = .int .i64 a ∧ OkI' a
def ShArg (_ : World) (v : Value) : Prop := ∃ a b c, v = .agg #[.int .i64 a, .int .i64 b, .int .i64 c]
def TwoArg (w : World) (v : Value) : Prop := ∃ A n c L B m d M x y, v = .agg #[.slice A n c, .slice B m d, .int .i64 x, .int .i64 y] ∧ EnsIn w A n c L ∧ EnsIn w B m d M
def BothArg (w : World) (v : Value) : Prop := ∃ A n c L B m d M C k e I, v = .agg #[.slice A n c, .slice B m d, .slice C k e] ∧ EnsIn w A n c L ∧ EnsIn w B m d M ∧ NumsIn w C k e I
/-- what a program says of the types. -/
structure Ty (P : Program) : Prop where
  u0 : P.underlying 32 = some (.struct #[{ name := "X", type := 3, offset := 0, embedded := false, tag := "", pkgPath := "", byteOffset := 0 }, { name := "Y", type := 3, offset := 1, embedded := false, tag := "", pkgPath := "", byteOffset := 8 }, { name := "W", type := 3, offset := 2, embedded := false, tag := "", pkgPath := "", byteOffset := 16 }, { name := "H", type := 3, offset := 3, embedded := false, tag := "", pkgPath := "", byteOffset := 24 }])
  u1 : P.underlying 3 = some (.int .i64)
  u2 : P.underlying 60 = some (.struct #[{ name := "ID", type := 3, offset := 0, embedded := false, tag := "", pkgPath := "", byteOffset := 0 }, { name := "DX", type := 3, offset := 1, embedded := false, tag := "", pkgPath := "", byteOffset := 8 }, { name := "DY", type := 3, offset := 2, embedded := false, tag := "", pkgPath := "", byteOffset := 16 }])
  u3 : P.underlying 44 = some (.struct #[{ name := "ID", type := 3, offset := 0, embedded := false, tag := "", pkgPath := "", byteOffset := 0 }, { name := "Rect", type := 32, offset := 1, embedded := false, tag := "", pkgPath := "", byteOffset := 8 }])
  u4 : P.underlying 22 = some (.slice 44)
  u5 : P.underlying 55 = some (.slice 60)
  u6 : P.underlying 42 = some (.slice 3)
  u7 : P.underlying 41 = some (.struct #[{ name := "A", type := 22, offset := 0, embedded := false, tag := "", pkgPath := "", byteOffset := 0 }, { name := "B", type := 22, offset := 1, embedded := false, tag := "", pkgPath := "", byteOffset := 24 }, { name := "X", type := 3, offset := 2, embedded := false, tag := "", pkgPath := "", byteOffset := 48 }, { name := "Y", type := 3, offset := 3, embedded := false, tag := "", pkgPath := "", byteOffset := 56 }])
  u8 : P.underlying 51 = some (.struct #[{ name := "Before", type := 22, offset := 0, embedded := false, tag := "", pkgPath := "", byteOffset := 0 }, { name := "After", type := 22, offset := 1, embedded := false, tag := "", pkgPath := "", byteOffset := 24 }, { name := "Kids", type := 42, offset := 2, embedded := false, tag := "", pkgPath := "", byteOffset := 48 }])
  c0 : P.cellsOf 32 = 4
  c1 : P.cellsOf 3 = 1
  c2 : P.cellsOf 60 = 3
  c3 : P.cellsOf 44 = 5
  c4 : P.cellsOf 41 = 4
  c5 : P.cellsOf 22 = 1
  c6 : P.cellsOf 51 = 3
  c7 : P.cellsOf 42 = 1
theorem tyA : Ty Try.prog := ⟨Try.underlying32, Try.underlying3, Try.underlying60, Try.underlying44, Try.underlying22, Try.underlying55, Try.underlying42, Try.underlying41, Try.underlying51, by kernel_rfl, by kernel_rfl, by kernel_rfl, by kernel_rfl, by kernel_rfl, by kernel_rfl, by kernel_rfl, by kernel_rfl⟩
section
variable {H : Type} {P : Program} {enc : TypeId × Value → H} {w : World} {base : Nat} {spare : Nat → Bool} {held : Bool}
theorem arg_slice {t e : TypeId} {R : List Value → Prop} {r : Reach} {b0 : Nat} {v : Value} {d : DataW H} {p : List MemPlace} (ht : P.underlying t = some (.slice e)) (ho : Op.Opens enc P w base spare held t R) (hval : Value.okWide P w r b0 t v) (h : DataW.Trod enc P w base spare held t v d p) : ∃ A n c, v = .slice A n c ∧ R [.slice A n c] := by
  obtain ⟨A, n, c, rfl⟩ := okWide_slice ht hval
  exact ⟨A, n, c, rfl, Op.opened ho h⟩
theorem arg_struct {t : TypeId} {fs : Array Field} {R : List Value → Prop} {r : Reach} {b0 : Nat} {v : Value} {d : DataW H} {p : List MemPlace} (ht : P.underlying t = some (.struct fs)) (ho : Op.Opens enc P w base spare held t R) (hval : Value.okWide P w r b0 t v) (h : DataW.Trod enc P w base spare held t v d p) : ∃ cs : Array Value, v = .agg cs ∧ R cs.toList := by
  obtain ⟨cs, rfl, _⟩ := okWide_struct ht hval
  exact ⟨cs, rfl, Op.opened ho h⟩
theorem arg_int {t : TypeId} {r : Reach} {b0 : Nat} {v : Value} {d : DataW H} {p : List MemPlace} (ht : P.underlying t = some (.int .i64)) (hval : Value.okWide P w r b0 t v) (h : DataW.Trod enc P w base spare held t v d p) : IntArg w v := by
  obtain ⟨a, rfl, _, _, ha⟩ := open_int ht hval h
  exact ⟨a, rfl, ha⟩
theorem rect_opens (T : Ty P) : Op.Opens enc P w base spare held 32 fun cs => ∃ a b c e : Int, cs = [.int .i64 a, .int .i64 b, .int .i64 c, .int .i64 e] := by
  intro fuel cs x h
  obtain ⟨h1, h2⟩ := Op.o_struct (R := fun _ cs => ∃ n, cs = [.int .i64 n] ∧ (Lit.int .i64 n).wf = true) T.u0 (fun i f hi => by
    match i, hi with
    | 0, hi => injection hi with hi; subst hi; exact Op.o_int T.u1
    | 1, hi => injection hi with hi; subst hi; exact Op.o_int T.u1
    | 2, hi => injection hi with hi; subst hi; exact Op.o_int T.u1
    | 3, hi => injection hi with hi; subst hi; exact Op.o_int T.u1) fuel cs x h
  rw [T.c0] at h1
  match cs, h1 with
  | [a0, a1, a2, a3], _ =>
    obtain ⟨n0, e0, w0⟩ := h2 0 _ rfl
    obtain ⟨n1, e1, w1⟩ := h2 1 _ rfl
    obtain ⟨n2, e2, w2⟩ := h2 2 _ rfl
    obtain ⟨n3, e3, w3⟩ := h2 3 _ rfl
    have y0 : a0 = .int .i64 n0 := by have q := e0; simpa [T.c1] using q
    have y1 : a1 = .int .i64 n1 := by have q := e1; simpa [T.c1] using q
    have y2 : a2 = .int .i64 n2 := by have q := e2; simpa [T.c1] using q
    have y3 : a3 = .int .i64 n3 := by have q := e3; simpa [T.c1] using q
    subst y0
    subst y1
    subst y2
    subst y3
    exact ⟨_, _, _, _, rfl⟩
theorem sh_opens (T : Ty P) : Op.Opens enc P w base spare held 60 fun cs => ∃ t : Sh, cs = shc t ∧ OkI' t.id := by
  intro fuel cs x h
  obtain ⟨h1, h2⟩ := Op.o_struct (R := fun _ cs => ∃ n, cs = [.int .i64 n] ∧ (Lit.int .i64 n).wf = true) T.u2 (fun i f hi => by
    match i, hi with
    | 0, hi => injection hi with hi; subst hi; exact Op.o_int T.u1
    | 1, hi => injection hi with hi; subst hi; exact Op.o_int T.u1
    | 2, hi => injection hi with hi; subst hi; exact Op.o_int T.u1) fuel cs x h
  rw [T.c2] at h1
  match cs, h1 with
  | [a0, a1, a2], _ =>
    obtain ⟨n0, e0, w0⟩ := h2 0 _ rfl
    obtain ⟨n1, e1, w1⟩ := h2 1 _ rfl
    obtain ⟨n2, e2, w2⟩ := h2 2 _ rfl
    have y0 : a0 = .int .i64 n0 := by have q := e0; simpa [T.c1] using q
    have y1 : a1 = .int .i64 n1 := by have q := e1; simpa [T.c1] using q
    have y2 : a2 = .int .i64 n2 := by have q := e2; simpa [T.c1] using q
    subst y0
    subst y1
    subst y2
    exact ⟨⟨n0, n1, n2⟩, rfl, w0⟩
theorem en_opens (T : Ty P) : Op.Opens enc P w base spare held 44 fun cs => ∃ t : En, cs = ec t ∧ OkE t := by
  intro fuel cs x h
  obtain ⟨h1, h2⟩ := Op.o_struct (R := fun i cs => (i = 0 → ∃ n, cs = [.int .i64 n] ∧ (Lit.int .i64 n).wf = true) ∧ (i = 1 → ∃ a b c e : Int, cs = [.int .i64 a, .int .i64 b, .int .i64 c, .int .i64 e])) T.u3 (fun i f hi => by
    match i, hi with
    | 0, hi => injection hi with hi; subst hi; exact fun a b c d => ⟨fun _ => Op.o_int T.u1 a b c d, fun h => (by cases h)⟩
    | 1, hi => injection hi with hi; subst hi; exact fun a b c d => ⟨fun h => (by cases h), fun _ => (rect_opens T) a b c d⟩) fuel cs x h
  rw [T.c3] at h1
  match cs, h1 with
  | [a0, a1, a2, a3, a4], _ =>
    obtain ⟨n0, e0, w0⟩ := (h2 0 _ rfl).1 rfl
    obtain ⟨n1, n2, n3, n4, e1⟩ := (h2 1 _ rfl).2 rfl
    have y0 : a0 = .int .i64 n0 := by have q := e0; simpa [T.c1] using q
    have y1 : a1 = .int .i64 n1 ∧ a2 = .int .i64 n2 ∧ a3 = .int .i64 n3 ∧ a4 = .int .i64 n4 := by have q := e1; simpa [T.c0] using q
    obtain ⟨rfl, rfl, rfl, rfl⟩ := y1
    subst y0
    exact ⟨⟨n0, n1, n2, n3, n4⟩, rfl, w0⟩
theorem int_opens (T : Ty P) : Op.Opens enc P w base spare held 3 fun cs => ∃ z : Int, cs = zc z ∧ OkI' z := Op.o_int T.u1
theorem ens_opens (T : Ty P) : Op.Opens enc P w base spare held 22 fun cs => ∃ A n c L, cs = [.slice A n c] ∧ EnsIn w A n c L := Op.o_slice 5 T.u4 T.c3 (fun _ => rfl) (en_opens T)
theorem shs_opens (T : Ty P) : Op.Opens enc P w base spare held 55 fun cs => ∃ A n c L, cs = [.slice A n c] ∧ ShsIn w A n c L := Op.o_slice 3 T.u5 T.c2 (fun _ => rfl) (sh_opens T)
theorem nums_opens (T : Ty P) : Op.Opens enc P w base spare held 42 fun cs => ∃ A n c L, cs = [.slice A n c] ∧ NumsIn w A n c L := Op.o_slice 1 T.u6 T.c1 (fun _ => rfl) (int_opens T)
variable {r : Reach} {b0 : Nat} {v : Value} {d : DataW H} {p : List MemPlace}
theorem ens_arg (T : Ty P) (hval : Value.okWide P w r b0 22 v) (h : DataW.Trod enc P w base spare held 22 v d p) : EnsArg w v := by
  obtain ⟨A, n, c, rfl, A', n', c', L, e, hL⟩ := arg_slice T.u4 (ens_opens T) hval h
  injection e with e _
  injection e with e1 e2 e3
  subst e1 e2 e3
  exact ⟨_, _, _, _, rfl, hL⟩
theorem shs_arg (T : Ty P) (hval : Value.okWide P w r b0 55 v) (h : DataW.Trod enc P w base spare held 55 v d p) : ShsArg w v := by
  obtain ⟨A, n, c, rfl, A', n', c', L, e, hL⟩ := arg_slice T.u5 (shs_opens T) hval h
  injection e with e _
  injection e with e1 e2 e3
  subst e1 e2 e3
  exact ⟨_, _, _, _, rfl, hL⟩
theorem int_arg (T : Ty P) (hval : Value.okWide P w r b0 3 v) (h : DataW.Trod enc P w base spare held 3 v d p) : IntArg w v := arg_int T.u1 hval h
theorem sh_arg (T : Ty P) (hval : Value.okWide P w r b0 60 v) (h : DataW.Trod enc P w base spare held 60 v d p) : ShArg w v := by
  obtain ⟨cs, rfl, t, e, _⟩ := arg_struct T.u2 (sh_opens T) hval h
  refine ⟨t.id, t.dx, t.dy, ?_⟩
  have : cs = (shc t).toArray := by rw [← e]
  rw [this]
  rfl
theorem two_arg (T : Ty P) (hval : Value.okWide P w r b0 41 v) (h : DataW.Trod enc P w base spare held 41 v d p) : TwoArg w v := by
  obtain ⟨cs, rfl, h1, h2⟩ := arg_struct T.u7 (Op.o_struct (R := fun i cs => (i < 2 → ∃ A n c L, cs = [.slice A n c] ∧ EnsIn w A n c L) ∧ (2 ≤ i → ∃ n, cs = [.int .i64 n] ∧ (Lit.int .i64 n).wf = true)) T.u7 (fun i f hi => by
    match i, hi with
    | 0, hi => injection hi with hi; subst hi; exact fun a b c d => ⟨fun _ => (ens_opens T) a b c d, fun h => absurd h (by decide)⟩
    | 1, hi => injection hi with hi; subst hi; exact fun a b c d => ⟨fun _ => (ens_opens T) a b c d, fun h => absurd h (by decide)⟩
    | 2, hi => injection hi with hi; subst hi; exact fun a b c d => ⟨fun h => absurd h (by decide), fun _ => Op.o_int T.u1 a b c d⟩
    | 3, hi => injection hi with hi; subst hi; exact fun a b c d => ⟨fun h => absurd h (by decide), fun _ => Op.o_int T.u1 a b c d⟩)) hval h
  rw [T.c4] at h1
  obtain ⟨x0, x1, x2, x3, hxy⟩ : ∃ x y z u, cs.toList = [x, y, z, u] := by
    match hl : cs.toList, (show cs.toList.length = 4 by simpa using h1) with
    | [x, y, z, u], _ => exact ⟨x, y, z, u, rfl⟩
  obtain rfl : cs = #[x0, x1, x2, x3] := by rw [← hxy]
  obtain ⟨A, n, c, L, e0, hL⟩ := (h2 0 _ rfl).1 (by decide)
  obtain ⟨B, m, e, M, e1, hM⟩ := (h2 1 _ rfl).1 (by decide)
  obtain ⟨n2, e2, _⟩ := (h2 2 _ rfl).2 (by decide)
  obtain ⟨n3, e3, _⟩ := (h2 3 _ rfl).2 (by decide)
  have y0 : x0 = .slice A n c := by have q := e0; simpa [T.c5] using q
  have y1 : x1 = .slice B m e := by have q := e1; simpa [T.c5] using q
  have y2 : x2 = .int .i64 n2 := by have q := e2; simpa [T.c1] using q
  have y3 : x3 = .int .i64 n3 := by have q := e3; simpa [T.c1] using q
  subst y0 y1 y2 y3
  exact ⟨A, n, c, L, B, m, e, M, n2, n3, rfl, hL, hM⟩
theorem both_arg (T : Ty P) (hval : Value.okWide P w r b0 51 v) (h : DataW.Trod enc P w base spare held 51 v d p) : BothArg w v := by
  obtain ⟨cs, rfl, h1, h2⟩ := arg_struct T.u8 (Op.o_struct (R := fun i cs => (i < 2 → ∃ A n c L, cs = [.slice A n c] ∧ EnsIn w A n c L) ∧ (2 ≤ i → ∃ A n c L, cs = [.slice A n c] ∧ NumsIn w A n c L)) T.u8 (fun i f hi => by
    match i, hi with
    | 0, hi => injection hi with hi; subst hi; exact fun a b c d => ⟨fun _ => (ens_opens T) a b c d, fun h => absurd h (by decide)⟩
    | 1, hi => injection hi with hi; subst hi; exact fun a b c d => ⟨fun _ => (ens_opens T) a b c d, fun h => absurd h (by decide)⟩
    | 2, hi => injection hi with hi; subst hi; exact fun a b c d => ⟨fun h => absurd h (by decide), fun _ => (nums_opens T) a b c d⟩)) hval h
  rw [T.c6] at h1
  obtain ⟨x0, x1, x2, hxy⟩ : ∃ x y z, cs.toList = [x, y, z] := by
    match hl : cs.toList, (show cs.toList.length = 3 by simpa using h1) with
    | [x, y, z], _ => exact ⟨x, y, z, rfl⟩
  obtain rfl : cs = #[x0, x1, x2] := by rw [← hxy]
  obtain ⟨A, n, c, L, e0, hL⟩ := (h2 0 _ rfl).1 (by decide)
  obtain ⟨B, m, e, M, e1, hM⟩ := (h2 1 _ rfl).1 (by decide)
  obtain ⟨C, k, f, I, e2, hI⟩ := (h2 2 _ rfl).2 (by decide)
  have y0 : x0 = .slice A n c := by have q := e0; simpa [T.c5] using q
  have y1 : x1 = .slice B m e := by have q := e1; simpa [T.c5] using q
  have y2 : x2 = .slice C k f := by have q := e2; simpa [T.c7] using q
  subst y0 y1 y2
  exact ⟨A, n, c, L, B, m, e, M, C, k, f, I, rfl, hL, hM, hI⟩
end
end Go.Proofs.Ytdaohjimfgdmbaa
