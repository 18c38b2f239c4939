/- Decisions, plain: a council of voices and tries; what an event does to it. -/
import Derived.Test.YtmejdblobikclaaBaP
namespace Go.Proofs.Ytmejdblobikclaa
open Go.RowKit
set_option linter.unusedVariables false

/-- A try: Id, Ballot, Value, Promises, Asked, Takers, Chosen. -/
structure Ty where
  i : Int
  b : Int
  v : ByteArray
  ps : List Nt
  as : Bool
  tk : List Int
  ch : Bool
/-- What happens: Kind, Id, At, Value. -/
structure Hp where
  k : Int
  i : Int
  a : Int
  v : ByteArray
/-- A council: Voices, Tries, Notes, Chosen. -/
structure Cn where
  vs : List Vo
  ts : List Ty
  ns : List Nt
  ch : List ByteArray
def zeroTy : Ty := ⟨0, 0, ⟨#[]⟩, [], false, [], false⟩
def zeroCn : Cn := ⟨[], [], [], []⟩
def newTy (i : Nat) : Ty := ⟨(i : Int) + 1, 0, ⟨#[]⟩, [], false, [], false⟩
def newCn (v t : Nat) : Cn := ⟨List.replicate v zeroVo, (List.range t).map newTy, [], []⟩
/-- A right event among so many tries. -/
def okHp (t : Int) (e : Hp) : Prop := (1 ≤ e.k ∧ e.k ≤ 4) ∧ (1 ≤ e.i ∧ e.i ≤ t) ∧ 0 ≤ e.a ∧ (e.k = 1 → 1 ≤ e.v.size ∧ e.v.size ≤ 40) ∧ (e.k ≠ 1 → e.v.toList = [])
instance (t : Int) (e : Hp) : Decidable (okHp t e) := by unfold okHp; infer_instance
def tyAt (c : Cn) (i : Int) : Ty := c.ts.getD (i.toNat - 1) zeroTy
def voAt (c : Cn) (i : Int) : Vo := c.vs.getD (i.toNat - 1) zeroVo
def setTy (c : Cn) (i : Int) (t : Ty) : Cn := { c with ts := c.ts.set (i.toNat - 1) t }
def setVo (c : Cn) (i : Int) (v : Vo) : Cn := { c with vs := c.vs.set (i.toNat - 1) v }
/-- The next ballot of a try. -/
def nextB (t : Ty) (i : Int) : Int := if 0 < t.b then t.b + 10 else i
def askP (i b : Int) (k : Nat) : Nt := ⟨1, i, (k : Int) + 1, b, 0, ⟨#[]⟩⟩
def askT (i b : Int) (v : ByteArray) (k : Nat) : Nt := ⟨3, i, (k : Int) + 1, b, 0, v⟩
def propC (c : Cn) (e : Hp) : Cn × Int :=
  if 10000 < nextB (tyAt c e.i) e.i then (c, 1)
  else ({ setTy c e.i ⟨e.i, nextB (tyAt c e.i) e.i, e.v, [], false, [], false⟩ with ns := c.ns ++ (List.range c.vs.length).map (askP e.i (nextB (tyAt c e.i) e.i)) }, 0)
def promC (c : Cn) (m : Nt) : Cn × Int :=
  if (tyAt c m.o).b ≠ m.b ∨ (tyAt c m.o).as = true then (c, 1)
  else if (tyAt c m.o).ps.any (fun p => p.f == m.f) = true then (c, 1)
  else if ((tyAt c m.o).ps.length : Int) + 1 = mostI c.vs.length then
    ({ setTy c m.o ⟨(tyAt c m.o).i, (tyAt c m.o).b, (pickS ((tyAt c m.o).ps ++ [m]) (tyAt c m.o).v).2, (tyAt c m.o).ps ++ [m], true, (tyAt c m.o).tk, (tyAt c m.o).ch⟩ with ns := c.ns ++ (List.range c.vs.length).map (askT (tyAt c m.o).i (tyAt c m.o).b (pickS ((tyAt c m.o).ps ++ [m]) (tyAt c m.o).v).2) }, 0)
  else (setTy c m.o { tyAt c m.o with ps := (tyAt c m.o).ps ++ [m] }, 0)
def takC (c : Cn) (m : Nt) : Cn × Int :=
  if (tyAt c m.o).b ≠ m.b ∨ (tyAt c m.o).tk.any (fun p => p == m.f) = true then (c, 1)
  else if ((tyAt c m.o).tk.length : Int) + 1 = mostI c.vs.length then
    ({ setTy c m.o { tyAt c m.o with tk := (tyAt c m.o).tk ++ [m.f], ch := true } with ch := c.ch ++ [(tyAt c m.o).v] }, 0)
  else (setTy c m.o { tyAt c m.o with tk := (tyAt c m.o).tk ++ [m.f] }, 0)
def hearC (c : Cn) (m : Nt) : Cn × Int :=
  if (hearA (voAt c m.o) m).2.2 = true then ({ setVo c m.o (hearA (voAt c m.o) m).1 with ns := c.ns ++ [(hearA (voAt c m.o) m).2.1] }, 0)
  else (c, 1)
def carrC (c : Cn) (m : Nt) : Cn × Int := if m.k = 2 then promC c m else if m.k = 4 then takC c m else hearC c m
def ntAt (c : Cn) (k : Nat) : Nt := c.ns.getD k zeroNt
def dropC (c : Cn) (k : Nat) : Cn := { c with ns := c.ns.take k ++ c.ns.drop (k + 1) }
def placeC (c : Cn) (e : Hp) : Nat := e.a.toNat % c.ns.length
def doC (c : Cn) (e : Hp) : Cn × Int :=
  if e.k = 1 then propC c e
  else if c.ns = [] then (c, 1)
  else if e.k = 4 then ({ c with ns := c.ns ++ [ntAt c (placeC c e)] }, 0)
  else if e.k = 3 then (dropC c (placeC c e), 0)
  else carrC (dropC c (placeC c e)) (ntAt c (placeC c e))
def runC (c : Cn) : List Hp → Cn × List Int
  | [] => (c, [])
  | e :: es => ((runC (doC c e).1 es).1, (doC c e).2 :: (runC (doC c e).1 es).2)
theorem runC_append (c : Cn) (es : List Hp) (e : Hp) : runC c (es ++ [e]) = ((doC (runC c es).1 e).1, (runC c es).2 ++ [(doC (runC c es).1 e).2]) := by
  induction es generalizing c with
  | nil => rfl
  | cons x xs ih => simp only [List.cons_append, runC, ih]
end Go.Proofs.Ytmejdblobikclaa
