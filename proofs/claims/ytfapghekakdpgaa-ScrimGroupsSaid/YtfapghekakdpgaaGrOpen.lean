/- How the statements' arguments are opened: kids of a group, of a slot, keys, modes. -/
import Derived.Test.YtfapghekakdpgaaGrMath
import Derived.Test.YtfapghekakdpgaaOpenG
import Derived.Test.YtfapghekakdpgaaChecked
namespace Go.Proofs.Ytfapghekakdpgaa
open Go.RowKit Go.ChangeShapes Go.WideShapes Go.Deep Gr
def OkI' (z : Int) : Prop := (Lit.int .i64 z).wf = true
/-- a slot's kid as cells -/
def sc (k : ByteArray × Int) : List Value := [.string k.1, .int .i64 k.2]
def tc (s : ByteArray) : List Value := [.string s]
def zc (z : Int) : List Value := [.int .i64 z]
theorem tc_sv (L : List ByteArray) : L.flatMap tc = sv L := by
  induction L with
  | nil => rfl
  | cons a L ih => rw [List.flatMap_cons, ih]; rfl
theorem zc_iv (L : List Int) : L.flatMap zc = iv L := by
  induction L with
  | nil => rfl
  | cons a L ih => rw [List.flatMap_cons, ih]; rfl
def GksArg (w : World) (v : Value) : Prop := ∃ A n c L, v = .slice A n c ∧ Op.SliceOf w gc (fun k => OkS k.1) A n c L
def SksArg (w : World) (v : Value) : Prop := ∃ A n c L, v = .slice A n c ∧ Op.SliceOf w sc (fun k => OkS k.1) A n c L
def StrsArg (w : World) (v : Value) : Prop := ∃ A n c L, v = .slice A n c ∧ Op.SliceOf w tc OkS A n c L
def NumsArg (w : World) (v : Value) : Prop := ∃ A n c L, v = .slice A n c ∧ Op.SliceOf w zc OkI' A n c L
def TextArg (_ : World) (v : Value) : Prop := ∃ s, v = .string s ∧ OkS s
def IntArg (_ : World) (v : Value) : Prop := ∃ a, v = .int .i64 a ∧ OkI' a
def StaysArg (w : World) (v : Value) : Prop := ∃ A n c L B m d K x y, v = .agg #[.slice A n c, .slice B m d, .int .i64 x, .int .i64 y] ∧ Op.SliceOf w gc (fun k => OkS k.1) A n c L ∧ Op.SliceOf w tc OkS B m d K
/-- what a program says of the types. -/
structure Ty (P : Program) : Prop where
  u0 : P.underlying 35 = some (.struct #[{ name := "Key", type := 9, offset := 0, embedded := false, tag := "", pkgPath := "", byteOffset := 0 }, { name := "Ghost", type := 4, offset := 1, embedded := false, tag := "", pkgPath := "", byteOffset := 16 }])
  u1 : P.underlying 9 = some .string
  u2 : P.underlying 4 = some .bool
  u3 : P.underlying 3 = some (.int .i64)
  u4 : P.underlying 63 = some (.struct #[{ name := "Key", type := 9, offset := 0, embedded := false, tag := "", pkgPath := "", byteOffset := 0 }, { name := "Kind", type := 3, offset := 1, embedded := false, tag := "", pkgPath := "", byteOffset := 16 }])
  u5 : P.underlying 22 = some (.slice 35)
  u6 : P.underlying 44 = some (.slice 63)
  u7 : P.underlying 23 = some (.slice 9)
  u8 : P.underlying 29 = some (.slice 3)
  u9 : P.underlying 42 = some (.struct #[{ name := "Old", type := 22, offset := 0, embedded := false, tag := "", pkgPath := "", byteOffset := 0 }, { name := "Keys", type := 23, offset := 1, embedded := false, tag := "", pkgPath := "", byteOffset := 24 }, { name := "I", type := 3, offset := 2, embedded := false, tag := "", pkgPath := "", byteOffset := 48 }, { name := "J", type := 3, offset := 3, embedded := false, tag := "", pkgPath := "", byteOffset := 56 }])
  c0 : P.cellsOf 35 = 2
  c1 : P.cellsOf 9 = 1
  c2 : P.cellsOf 4 = 1
  c3 : P.cellsOf 3 = 1
  c4 : P.cellsOf 63 = 2
  c5 : P.cellsOf 22 = 1
  c7 : P.cellsOf 23 = 1
  c9 : P.cellsOf 42 = 4
theorem tyA : Ty Try.prog := ⟨Try.underlying35, Try.underlying9, Try.underlying4, Try.underlying3, Try.underlying63, Try.underlying22, Try.underlying44, Try.underlying23, Try.underlying29, Try.underlying42, by kernel_rfl, by kernel_rfl, by kernel_rfl, by kernel_rfl, by kernel_rfl, by kernel_rfl, by kernel_rfl, by kernel_rfl⟩
section
variable {H : Type} {P : Program} {enc : TypeId × Value → H} {w : World} {base : Nat} {spare : Nat → Bool} {held : Bool}
theorem arg_slice {t e : TypeId} {R : List Value → Prop} {r : Reach} {b0 : Nat} {v : Value} {d : DataW H} {p : List MemPlace} (ht : P.underlying t = some (.slice e)) (ho : Op.Opens enc P w base spare held t R) (hval : Value.okWide P w r b0 t v) (h : DataW.Trod enc P w base spare held t v d p) : ∃ A n c, v = .slice A n c ∧ R [.slice A n c] := by
  obtain ⟨A, n, c, rfl⟩ := okWide_slice ht hval
  exact ⟨A, n, c, rfl, Op.opened ho h⟩
theorem arg_struct {t : TypeId} {fs : Array Field} {R : List Value → Prop} {r : Reach} {b0 : Nat} {v : Value} {d : DataW H} {p : List MemPlace} (ht : P.underlying t = some (.struct fs)) (ho : Op.Opens enc P w base spare held t R) (hval : Value.okWide P w r b0 t v) (h : DataW.Trod enc P w base spare held t v d p) : ∃ cs : Array Value, v = .agg cs ∧ R cs.toList := by
  obtain ⟨cs, rfl, _⟩ := okWide_struct ht hval
  exact ⟨cs, rfl, Op.opened ho h⟩
theorem gk_opens (T : Ty P) : Op.Opens enc P w base spare held 35 fun cs => ∃ k : Gk, cs = gc k ∧ OkS k.1 := by
  intro fuel cs x h
  obtain ⟨h1, h2⟩ := Op.o_struct (R := fun i cs => (i = 0 → ∃ s : ByteArray, cs = [.string s] ∧ s.size ≤ maxLen) ∧ (i = 1 → ∃ b, cs = [.bool b])) T.u0 (fun i f hi => by
    match i, hi with
    | 0, hi => injection hi with hi; subst hi; exact fun a b c d => ⟨fun _ => Op.o_string T.u1 a b c d, fun h => (by cases h)⟩
    | 1, hi => injection hi with hi; subst hi; exact fun a b c d => ⟨fun h => (by cases h), fun _ => Op.o_bool T.u2 a b c d⟩) fuel cs x h
  rw [T.c0] at h1
  match cs, h1 with
  | [a0, a1], _ =>
    obtain ⟨s, e0, w0⟩ := (h2 0 _ rfl).1 rfl
    obtain ⟨b, e1⟩ := (h2 1 _ rfl).2 rfl
    have y0 : a0 = .string s := by have q := e0; simpa [T.c1] using q
    have y1 : a1 = .bool b := by have q := e1; simpa [T.c2] using q
    subst y0
    subst y1
    exact ⟨(s, b), rfl, w0⟩
theorem sk_opens (T : Ty P) : Op.Opens enc P w base spare held 63 fun cs => ∃ k : ByteArray × Int, cs = sc k ∧ OkS k.1 := by
  intro fuel cs x h
  obtain ⟨h1, h2⟩ := Op.o_struct (R := fun i cs => (i = 0 → ∃ s : ByteArray, cs = [.string s] ∧ s.size ≤ maxLen) ∧ (i = 1 → ∃ n, cs = [.int .i64 n] ∧ (Lit.int .i64 n).wf = true)) T.u4 (fun i f hi => by
    match i, hi with
    | 0, hi => injection hi with hi; subst hi; exact fun a b c d => ⟨fun _ => Op.o_string T.u1 a b c d, fun h => (by cases h)⟩
    | 1, hi => injection hi with hi; subst hi; exact fun a b c d => ⟨fun h => (by cases h), fun _ => Op.o_int T.u3 a b c d⟩) fuel cs x h
  rw [T.c4] at h1
  match cs, h1 with
  | [a0, a1], _ =>
    obtain ⟨s, e0, w0⟩ := (h2 0 _ rfl).1 rfl
    obtain ⟨b, e1, _⟩ := (h2 1 _ rfl).2 rfl
    have y0 : a0 = .string s := by have q := e0; simpa [T.c1] using q
    have y1 : a1 = .int .i64 b := by have q := e1; simpa [T.c3] using q
    subst y0
    subst y1
    exact ⟨(s, b), rfl, w0⟩
theorem str_opens (T : Ty P) : Op.Opens enc P w base spare held 9 fun cs => ∃ s : ByteArray, cs = tc s ∧ OkS s := Op.o_string T.u1
theorem int_opens (T : Ty P) : Op.Opens enc P w base spare held 3 fun cs => ∃ z : Int, cs = zc z ∧ OkI' z := Op.o_int T.u3
theorem gks_opens (T : Ty P) : Op.Opens enc P w base spare held 22 fun cs => ∃ A n c L, cs = [.slice A n c] ∧ Op.SliceOf w gc (fun k => OkS k.1) A n c L := Op.o_slice 2 T.u5 T.c0 (fun _ => rfl) (gk_opens T)
theorem sks_opens (T : Ty P) : Op.Opens enc P w base spare held 44 fun cs => ∃ A n c L, cs = [.slice A n c] ∧ Op.SliceOf w sc (fun k => OkS k.1) A n c L := Op.o_slice 2 T.u6 T.c4 (fun _ => rfl) (sk_opens T)
theorem strs_opens (T : Ty P) : Op.Opens enc P w base spare held 23 fun cs => ∃ A n c L, cs = [.slice A n c] ∧ Op.SliceOf w tc OkS A n c L := Op.o_slice 1 T.u7 T.c1 (fun _ => rfl) (str_opens T)
theorem nums_opens (T : Ty P) : Op.Opens enc P w base spare held 29 fun cs => ∃ A n c L, cs = [.slice A n c] ∧ Op.SliceOf w zc OkI' A n c L := Op.o_slice 1 T.u8 T.c3 (fun _ => rfl) (int_opens T)
variable {r : Reach} {b0 : Nat} {v : Value} {d : DataW H} {p : List MemPlace}
theorem gks_arg (T : Ty P) (hval : Value.okWide P w r b0 22 v) (h : DataW.Trod enc P w base spare held 22 v d p) : GksArg w v := by
  obtain ⟨A, n, c, rfl, A', n', c', L, e, hL⟩ := arg_slice T.u5 (gks_opens T) hval h
  injection e with e _
  injection e with e1 e2 e3
  subst e1 e2 e3
  exact ⟨_, _, _, _, rfl, hL⟩
theorem sks_arg (T : Ty P) (hval : Value.okWide P w r b0 44 v) (h : DataW.Trod enc P w base spare held 44 v d p) : SksArg w v := by
  obtain ⟨A, n, c, rfl, A', n', c', L, e, hL⟩ := arg_slice T.u6 (sks_opens T) hval h
  injection e with e _
  injection e with e1 e2 e3
  subst e1 e2 e3
  exact ⟨_, _, _, _, rfl, hL⟩
theorem strs_arg (T : Ty P) (hval : Value.okWide P w r b0 23 v) (h : DataW.Trod enc P w base spare held 23 v d p) : StrsArg w v := by
  obtain ⟨A, n, c, rfl, A', n', c', L, e, hL⟩ := arg_slice T.u7 (strs_opens T) hval h
  injection e with e _
  injection e with e1 e2 e3
  subst e1 e2 e3
  exact ⟨_, _, _, _, rfl, hL⟩
theorem nums_arg (T : Ty P) (hval : Value.okWide P w r b0 29 v) (h : DataW.Trod enc P w base spare held 29 v d p) : NumsArg w v := by
  obtain ⟨A, n, c, rfl, A', n', c', L, e, hL⟩ := arg_slice T.u8 (nums_opens T) hval h
  injection e with e _
  injection e with e1 e2 e3
  subst e1 e2 e3
  exact ⟨_, _, _, _, rfl, hL⟩
theorem text_arg (T : Ty P) (_ : Value.okWide P w r b0 9 v) (h : DataW.Trod enc P w base spare held 9 v d p) : TextArg w v := by
  obtain ⟨s, rfl, _, _, ha⟩ := Go.ChangeMaps.open_string T.u1 ‹_› h
  exact ⟨s, rfl, ha⟩
theorem int_arg (T : Ty P) (hval : Value.okWide P w r b0 3 v) (h : DataW.Trod enc P w base spare held 3 v d p) : IntArg w v := by
  obtain ⟨a, rfl, _, _, ha⟩ := open_int T.u3 hval h
  exact ⟨a, rfl, ha⟩
theorem stays_arg (T : Ty P) (hval : Value.okWide P w r b0 42 v) (h : DataW.Trod enc P w base spare held 42 v d p) : StaysArg w v := by
  obtain ⟨cs, rfl, h1, h2⟩ := arg_struct T.u9 (Op.o_struct (R := fun i cs => (i = 0 → ∃ A n c L, cs = [.slice A n c] ∧ Op.SliceOf w gc (fun k => OkS k.1) A n c L) ∧ (i = 1 → ∃ A n c L, cs = [.slice A n c] ∧ Op.SliceOf w tc OkS A n c L) ∧ (2 ≤ i → ∃ n, cs = [.int .i64 n] ∧ (Lit.int .i64 n).wf = true)) T.u9 (fun i f hi => by
    match i, hi with
    | 0, hi => injection hi with hi; subst hi; exact fun a b c d => ⟨fun _ => (gks_opens T) a b c d, fun h => absurd h (by decide), fun h => absurd h (by decide)⟩
    | 1, hi => injection hi with hi; subst hi; exact fun a b c d => ⟨fun h => absurd h (by decide), fun _ => (strs_opens T) a b c d, fun h => absurd h (by decide)⟩
    | 2, hi => injection hi with hi; subst hi; exact fun a b c d => ⟨fun h => absurd h (by decide), fun h => absurd h (by decide), fun _ => Op.o_int T.u3 a b c d⟩
    | 3, hi => injection hi with hi; subst hi; exact fun a b c d => ⟨fun h => absurd h (by decide), fun h => absurd h (by decide), fun _ => Op.o_int T.u3 a b c d⟩)) hval h
  rw [T.c9] at h1
  obtain ⟨x0, x1, x2, x3, hxy⟩ : ∃ x y z u, cs.toList = [x, y, z, u] := by
    match hl : cs.toList, (show cs.toList.length = 4 by simpa using h1) with
    | [x, y, z, u], _ => exact ⟨x, y, z, u, rfl⟩
  obtain rfl : cs = #[x0, x1, x2, x3] := by rw [← hxy]
  obtain ⟨A, n, c, L, e0, hL⟩ := (h2 0 _ rfl).1 rfl
  obtain ⟨B, m, e, K, e1, hK⟩ := (h2 1 _ rfl).2.1 rfl
  obtain ⟨n2, e2, _⟩ := (h2 2 _ rfl).2.2 (by decide)
  obtain ⟨n3, e3, _⟩ := (h2 3 _ rfl).2.2 (by decide)
  have y0 : x0 = .slice A n c := by have q := e0; simpa [T.c5] using q
  have y1 : x1 = .slice B m e := by have q := e1; simpa [T.c7] using q
  have y2 : x2 = .int .i64 n2 := by have q := e2; simpa [T.c3] using q
  have y3 : x3 = .int .i64 n3 := by have q := e3; simpa [T.c3] using q
  subst y0 y1 y2 y3
  exact ⟨A, n, c, L, B, m, e, K, n2, n3, rfl, hL, hK⟩
end
end Go.Proofs.Ytfapghekakdpgaa
