/- Plain facts for texts: numerals tell their numbers apart, and a map of texts is the map of what is told. -/
import Derived.Test.YtibcfmfihcgijaaDoorPrMath
import Derived.Lib.ItoaMem
namespace Go.Proofs.YtibcfmfihcgijaaDoor.M
def valT (l : List UInt8) : Nat := l.foldl (fun n c => n * 10 + (c.toNat - 48)) 0
theorem valT_snoc (l : List UInt8) (c : UInt8) : valT (l ++ [c]) = valT l * 10 + (c.toNat - 48) := by simp [valT, List.foldl_append]
theorem dec_stepT (u : Nat) (h : 10 ≤ u) : Lib.decDigits u = Lib.decDigits (u / 10) ++ [UInt8.ofNat (48 + u % 10)] := by
  rw [Lib.decDigits, dif_neg (by omega)]
theorem valT_dec (u : Nat) : valT (Lib.decDigits u) = u ∧ ∀ c ∈ Lib.decDigits u, 48 ≤ c.toNat := by
  induction u using Nat.strongRecOn with
  | _ u ih =>
    by_cases h : u < 10
    · rw [Lib.decDigits_one h]
      have e : (UInt8.ofNat (48 + u)).toNat = 48 + u := by simp; omega
      constructor
      · simp only [valT, List.foldl_cons, List.foldl_nil, e]; omega
      · intro c hc; rw [List.mem_singleton.1 hc, e]; omega
    · obtain ⟨h1, h2⟩ := ih (u / 10) (by omega)
      rw [dec_stepT u (by omega)]
      have e : (UInt8.ofNat (48 + u % 10)).toNat = 48 + u % 10 := by simp; omega
      constructor
      · rw [valT_snoc, h1, e]; omega
      · intro c hc
        rcases List.mem_append.1 hc with h | h
        · exact h2 c h
        · rw [List.mem_singleton.1 h, e]; omega
theorem itoa_inj {a b : Int} (h : Lib.itoa a = Lib.itoa b) : a = b := by
  have key : ∀ u : Nat, ∀ l : List UInt8, Lib.decDigits u ≠ 45 :: l := fun u l e => by
    have := (valT_dec u).2 45 (by rw [e]; exact List.mem_cons_self)
    revert this; decide
  unfold Lib.itoa at h
  split at h <;> split at h
  · injection h with _ h
    have := congrArg valT h
    rw [(valT_dec _).1, (valT_dec _).1] at this
    omega
  · exact absurd h.symm (key _ _)
  · exact absurd h (key _ _)
  · have := congrArg valT h
    rw [(valT_dec _).1, (valT_dec _).1] at this
    omega
section
variable {V U : Type} (f : V → U)
def mapV (l : List (BA × V)) : List (BA × U) := l.map fun p => (p.1, f p.2)
theorem setP_mapV (m : List (BA × V)) (p : BA × V) : setP (mapV f m) (p.1, f p.2) = mapV f (setP m p) := by
  induction m with
  | nil => rfl
  | cons q m ih =>
    show setP ((q.1, f q.2) :: mapV f m) (p.1, f p.2) = _
    unfold setP
    simp only []
    split
    · rfl
    · split
      · rfl
      · rw [ih]; rfl
theorem ofP_mapV (l : List (BA × V)) : ofP (mapV f l) = mapV f (ofP l) := by
  have h : ∀ (l : List (BA × V)) (m : List (BA × V)), (mapV f l).foldl setP (mapV f m) = mapV f (l.foldl setP m) := by
    intro l
    induction l with
    | nil => intro m; rfl
    | cons p l ih =>
      intro m
      show (mapV f l).foldl setP (setP (mapV f m) (p.1, f p.2)) = _
      rw [setP_mapV, ih]; rfl
  exact h l []
theorem getP_mapV (l : List (BA × V)) (x : BA) : getP (mapV f l) x = (getP l x).map f := by
  have h : ∀ (l : List (BA × V)) (acc : Option V), (mapV f l).foldl (fun acc p => if p.1 = x then some p.2 else acc) (acc.map f) = (l.foldl (fun acc p => if p.1 = x then some p.2 else acc) acc).map f := by
    intro l
    induction l with
    | nil => intro acc; rfl
    | cons p l ih =>
      intro acc
      show (mapV f l).foldl _ (if p.1 = x then some (f p.2) else acc.map f) = _
      rw [List.foldl_cons, ← ih]
      congr 1
      split <;> rfl
  exact h l none
theorem mapV_inj (hf : ∀ a b, f a = f b → a = b) {l m : List (BA × V)} (h : mapV f l = mapV f m) : l = m := by
  refine List.map_inj_right (f := fun p : BA × V => (p.1, f p.2)) ?_ |>.1 h
  rintro ⟨x, a⟩ ⟨y, b⟩ e
  injection e with e1 e2
  exact Prod.ext e1 (hf _ _ e2)
end
end Go.Proofs.YtibcfmfihcgijaaDoor.M
