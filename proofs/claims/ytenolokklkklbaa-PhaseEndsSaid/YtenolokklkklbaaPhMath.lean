/- A kid's states as plain maths: what comes of each call. -/
import Derived.Test.YtenolokklkklbaaHkMath
namespace Go.Proofs.Ytenolokklkklbaa
namespace Ph
structure St where
  k : Int
  m : Int
  x : Int
  y : Int
  d : Int
  e : Int
structure Ou where
  s : St
  h : List Int
  j : Int
  mj : Int
  en : Bool
  me : Bool
  go : Bool
def St.ent (s : St) : Bool := decide (s.k = 2) || decide (s.k = 3)
def St.lea (s : St) : Bool := decide (s.k = 5) || decide (s.k = 6)
def St.com (s : St) : Bool := s.ent || decide (s.k = 0)
def mk (s : St) : Ou := ⟨s, [], 0, 0, false, false, false⟩
def Ou.kind (o : Ou) (k : Int) : Ou := ⟨⟨k, o.s.m, o.s.x, o.s.y, o.s.d, o.s.e⟩, o.h, o.j, o.mj, o.en, o.me, o.go⟩
def Ou.dur (o : Ou) (d : Int) : Ou := ⟨⟨o.s.k, o.s.m, o.s.x, o.s.y, d, o.s.e⟩, o.h, o.j, o.mj, o.en, o.me, o.go⟩
def Ou.job (o : Ou) (j : Int) : Ou := ⟨o.s, o.h, j, o.mj, o.en, o.me, o.go⟩
def Ou.report (o : Ou) (l : List Int) : Ou := ⟨o.s, o.h ++ l, o.j, o.mj, o.en, o.me, o.go⟩
def Ou.ended (o : Ou) : Ou := ⟨o.s, o.h, o.j, o.mj, true, o.me, o.go⟩
def Ou.gone (o : Ou) : Ou := ⟨o.s, o.h, o.j, o.mj, o.en, o.me, true⟩
def Ou.become (o : Ou) (k : Int) : Ou := (o.kind k).dur 0
def Ou.fin (o : Ou) (h : Int) : Ou := (o.report [h]).ended
def Ou.unmoved (o : Ou) : Ou := ⟨⟨o.s.k, 0, 0, 0, o.s.d, 0⟩, o.h, o.j, o.mj, o.en, true, o.go⟩
def Ou.endMove (o : Ou) : Ou := if o.s.m = 0 then o else o.unmoved
def Ou.stopE (o : Ou) : Ou := if o.s.ent then o.fin 4 else o
def Ou.vanish (o : Ou) : Ou := (o.fin 7).gone
def Ou.begin (o : Ou) (f t d : Int) (once : Bool) : Ou := (((o.kind (if once then t else f)).job (if once then 2 else 1)).dur d).endMove
def enter (s : St) (d : Int) (once : Bool) : Ou := if s.k = 1 then ((mk s).report [1, 2]).begin 2 3 d once else mk s
def leave (s : St) (d : Int) (once : Bool) : Ou := if s.com || decide (s.k = 4) then (((mk s).stopE).report [5, 6]).begin 5 6 d once else mk s
def hold (s : St) : Ou := if s.com then (((mk s).stopE).become 4).endMove else mk s
def ret (s : St) : Ou := if s.lea then ((mk s).fin 8).become 1 else if s.k = 4 then (mk s).kind 0 else mk s
def frame (s : St) : Ou := if s.k = 2 then ((mk s).kind 3).job 2 else if s.k = 5 then ((mk s).kind 6).job 2 else mk s
def finish (s : St) : Ou := if s.k = 3 then ((mk s).fin 3).become 0 else if s.k = 6 then (mk s).vanish else mk s
def cancel (s : St) : Ou := if s.ent then (((mk s).endMove).stopE).become 0 else if s.lea then ((mk s).endMove).vanish else (mk s).endMove
def settle (s : St) : Ou := if s.k = 1 ∨ s.k = 4 then (cancel s).gone else cancel s
def Ou.away (o : Ou) (x y d : Int) : Ou := ⟨⟨0, 1, x, y, o.s.d, d⟩, o.h, o.j, 1, o.en, o.me, o.go⟩
def shift (s : St) (x y d : Int) : Ou := if s.k = 0 ∧ (x ≠ 0 ∨ y ≠ 0) then ((mk s).endMove).away x y d else mk s
def Ou.back (o : Ou) : Ou := ⟨⟨o.s.k, 2, 0, 0, o.s.d, o.s.e⟩, o.h, o.j, 2, o.en, o.me, o.go⟩
def moveFrame (s : St) : Ou := if s.m = 1 then (mk s).back else mk s
def moveFinish (s : St) : Ou := if s.m = 2 then (mk s).endMove else mk s
structure Ac where
  c : Int
  d : Int
  x : Int
  y : Int
  o : Bool
def pdo (s : St) (a : Ac) : Ou :=
  if a.c = 0 then enter s a.d a.o else if a.c = 1 then leave s a.d a.o else if a.c = 2 then hold s else if a.c = 3 then ret s else if a.c = 4 then frame s else if a.c = 5 then finish s
  else if a.c = 6 then cancel s else if a.c = 7 then settle s else if a.c = 8 then shift s a.x a.y a.d else if a.c = 9 then moveFrame s else moveFinish s
def fresh (b : Bool) : St := ⟨if b then 1 else 0, 0, 0, 0, 0, 0⟩
end Ph
end Go.Proofs.Ytenolokklkklbaa
