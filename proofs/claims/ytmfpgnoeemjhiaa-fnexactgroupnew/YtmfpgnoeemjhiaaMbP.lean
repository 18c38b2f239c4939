/- Members, plain: what they are, what they hear, begin, adopt. -/
import Derived.Test.YtmfpgnoeemjhiaaViS
import Derived.Test.YtmfpgnoeemjhiaaMsS
namespace Go.Proofs.Ytmfpgnoeemjhiaa
open Go.RowKit
set_option linter.unusedVariables false

instance : DecidableEq Im := fun a b => decidable_of_iff (a.k = b.k ∧ a.v = b.v ∧ a.n = b.n) ⟨fun h => by cases a; cases b; simp_all, fun h => by rw [h]; exact ⟨rfl, rfl, rfl⟩⟩
structure Tk where
  op : Int
  cl : Int
  nu : Int
  it : Im
  lf : List Int
structure Mb where
  id : Int
  ep : Int
  fe : Bool
  ba : Bool
  le : Bool
  se : Bool
  wa : List Int
  is : List Im
  cn : Int
  tk : Tk
structure Sd where
  cl : Int
  ep : Int
  nu : Int
  it : Im
def zeroTk : Tk := ⟨0, 0, 0, zeroIm, []⟩
def zeroMb : Mb := ⟨0, 0, false, false, false, false, [], [], 0, zeroTk⟩
def okIds (l : List Int) : Prop := (∀ x ∈ l, 1 ≤ x ∧ x ≤ 6) ∧ l.Pairwise (· < ·)
instance (l : List Int) : Decidable (okIds l) := by unfold okIds; infer_instance
def noTk (t : Tk) : Prop := t.op = 0 ∧ t.cl = 0 ∧ t.nu = 0 ∧ t.it = zeroIm ∧ t.lf = []
instance (t : Tk) : Decidable (noTk t) := by unfold noTk; infer_instance
def okTk (t : Tk) (se : Bool) : Prop := noTk t ∨ ((t.op = 1 ∨ t.op = 2) ∧ se = true ∧ (0 ≤ t.cl ∧ t.cl ≤ 1000) ∧ (1 ≤ t.nu ∧ t.nu ≤ 900))
instance (t : Tk) (se : Bool) : Decidable (okTk t se) := by unfold okTk; infer_instance
def okMb (m : Mb) : Prop := (1 ≤ m.id ∧ m.id ≤ 6) ∧ (1 ≤ m.ep ∧ m.ep ≤ 9) ∧ (m.se = true → m.ba = true ∧ m.le = true ∧ m.wa = []) ∧ (m.fe = true → m.ba = false ∧ m.le = false) ∧ okIds m.wa ∧ okIds m.tk.lf ∧ okIms m.is ∧ (0 ≤ m.cn ∧ m.cn ≤ 900) ∧ okTk m.tk m.se
instance (m : Mb) : Decidable (okMb m) := by unfold okMb; infer_instance
def vwA (vs : List (List Int)) (e : Int) : List Int := vs.getD (e - 1).toNat []
def newMb (id : Int) (vs : List (List Int)) : Mb × Bool := if okViews vs ∧ (1 ≤ id ∧ id ≤ 6) then (⟨id, 1, false, decide (id ∈ vwA vs 1), decide ((vwA vs 1).headD 0 = id), decide ((vwA vs 1).headD 0 = id), [], [], 0, zeroTk⟩, true) else (zeroMb, false)
def othV (v : List Int) (id : Int) : List Int := ([1, 2, 3, 4, 5, 6] : List Int).filter (fun x => decide (x ≠ id) && decide (x ∈ v))
def wthV (l : List Int) (x : Int) : List Int := l.filter (fun y => decide (y ≠ x))
/-- A member that leads has the state. -/
def hasM (m : Mb) (v : List Int) (is : List Im) : Mb × List Ms := ({ m with ba := true, is := is, wa := othV v m.id, se := decide (othV v m.id = []) }, (wthV v m.id).map (fun t => ⟨3, m.id, t, m.ep, 0, is⟩))
def adoR (m : Mb) (vs : List (List Int)) (e : Int) : Prop := okMb m ∧ okViews vs ∧ (2 ≤ e ∧ e ≤ vs.length) ∧ m.ep < e ∧ (vwA vs e).headD 0 = m.id
instance (m : Mb) (vs : List (List Int)) (e : Int) : Decidable (adoR m vs e) := by unfold adoR; infer_instance
def ledM (m : Mb) (e : Int) : Mb := ⟨m.id, e, false, false, true, false, [], m.is, 0, zeroTk⟩
def hadM (m : Mb) (vs : List (List Int)) (e : Int) : Prop := m.ba = true ∧ m.ep = e - 1 ∧ m.id ∈ vwA vs (e - 1)
instance (m : Mb) (vs : List (List Int)) (e : Int) : Decidable (hadM m vs e) := by unfold hadM; infer_instance
def adoM (m : Mb) (vs : List (List Int)) (e : Int) : Mb × List Ms := if hadM m vs e then hasM (ledM m e) (vwA vs e) m.is else (ledM m e, (wthV (vwA vs (e - 1)) m.id).map (fun v => ⟨1, m.id, v, e, 0, []⟩))
def adopt (m : Mb) (vs : List (List Int)) (e : Int) : Mb × List Ms × Bool := if adoR m vs e then ((adoM m vs e).1, (adoM m vs e).2, true) else (zeroMb, [], false)
def bareM (m : Mb) (e : Int) : Mb := ⟨m.id, e, false, false, false, false, [], m.is, 0, zeroTk⟩
def instM (m : Mb) (e : Int) (is : List Im) : Mb := ⟨m.id, e, false, true, false, false, [], is, 0, zeroTk⟩
def finM (m : Mb) : Mb × List Sd := if m.tk.op = 1 then ({ m with is := putI m.is m.tk.it, tk := zeroTk }, [⟨m.tk.cl, m.ep, m.tk.nu, m.tk.it⟩]) else ({ m with tk := zeroTk }, [⟨m.tk.cl, m.ep, m.tk.nu, imOf m.is m.tk.it.k⟩])
def repM (m : Mb) (x : Ms) (k : Int) : List Ms := [⟨k, m.id, x.f, x.e, x.n, []⟩]
def leftM (m : Mb) (f : Int) : Mb := { m with tk := { m.tk with lf := wthV m.tk.lf f } }
def doneM (m : Mb) (f : Int) : Mb := { m with wa := wthV m.wa f, se := m.ba && decide (wthV m.wa f = []) }
def opOf (k : Int) : Int := if k = 8 then 2 else 1
/-- A message of its own Epoch. -/
def ownM (m : Mb) (v : List Int) (x : Ms) : Mb × List Ms × List Sd :=
  if x.k = 2 then (if m.le = true ∧ m.ba = false then ((hasM m v x.is).1, (hasM m v x.is).2, []) else (m, [], []))
  else if x.k = 3 then (if m.id ∉ v ∨ v.headD 0 = m.id then (m, [], []) else if m.ba = true then (m, repM m x 4, []) else if m.fe = true then (m, [], []) else (instM m m.ep x.is, repM m x 4, []))
  else if x.k = 4 then (if m.le = true then (doneM m x.f, [], []) else (m, [], []))
  else if x.k = 5 then (if m.ba = true then ({ m with is := putI m.is (x.is.headD zeroIm) }, repM m x 6, []) else (m, [], []))
  else if x.k = 7 then (if m.ba = true then (m, repM m x 8, []) else (m, [], []))
  else if x.k = 6 ∨ x.k = 8 then (if m.tk.op = opOf x.k ∧ m.tk.nu = x.n then (if wthV m.tk.lf x.f = [] then ((finM (leftM m x.f)).1, [], (finM (leftM m x.f)).2) else (leftM m x.f, [], [])) else (m, [], []))
  else (m, [], [])
def heaR (m : Mb) (vs : List (List Int)) (x : Ms) : Prop := okMb m ∧ okViews vs ∧ okMs x ∧ x.o = m.id ∧ m.ep ≤ x.e ∧ x.e ≤ vs.length ∧ m.ep ≤ vs.length
instance (m : Mb) (vs : List (List Int)) (x : Ms) : Decidable (heaR m vs x) := by unfold heaR; infer_instance
def hearM (m : Mb) (vs : List (List Int)) (x : Ms) : Mb × List Ms × List Sd :=
  if heaR m vs x then
    (if x.e = m.ep then ownM m (vwA vs m.ep) x
    else if x.k = 1 ∧ x.e = m.ep + 1 ∧ m.ba = true ∧ m.id ∈ vwA vs m.ep then (bareM m x.e, [⟨2, m.id, x.f, x.e, 0, m.is⟩], [])
    else if x.k = 3 ∧ m.id ∈ vwA vs x.e ∧ (vwA vs x.e).headD 0 ≠ m.id then (instM m x.e x.is, repM m x 4, [])
    else (m, [], []))
  else (m, [], [])
def begR (m : Mb) (vs : List (List Int)) (op cl : Int) (key val : ByteArray) : Prop := okMb m ∧ okViews vs ∧ m.se = true ∧ m.tk.op = 0 ∧ m.cn < 900 ∧ (op = 1 ∨ op = 2) ∧ (0 ≤ cl ∧ cl ≤ 1000) ∧ (1 ≤ key.size ∧ key.size ≤ 12) ∧ val.size ≤ 20 ∧ (op = 2 → val = ⟨#[]⟩) ∧ m.ep ≤ vs.length ∧ (vwA vs m.ep).headD 0 = m.id
instance (m : Mb) (vs : List (List Int)) (op cl : Int) (key val : ByteArray) : Decidable (begR m vs op cl key val) := by unfold begR; infer_instance
def begI (m : Mb) (key val : ByteArray) : Im := ⟨key, val, 1000 * m.ep + (m.cn + 1)⟩
def begM (m : Mb) (vs : List (List Int)) (op cl : Int) (key val : ByteArray) : Mb := { m with cn := m.cn + 1, tk := ⟨op, cl, m.cn + 1, begI m key val, othV (vwA vs m.ep) m.id⟩ }
def askM (m : Mb) (vs : List (List Int)) (op : Int) (key val : ByteArray) : List Ms := (wthV (vwA vs m.ep) m.id).map (fun t => if op = 1 then ⟨5, m.id, t, m.ep, m.cn + 1, [begI m key val]⟩ else ⟨7, m.id, t, m.ep, m.cn + 1, []⟩)
def begB (m : Mb) (vs : List (List Int)) (op cl : Int) (key val : ByteArray) : Prop := begR m vs op cl key val ∧ (op = 1 → imOf (putI m.is (begI m key val)) key = begI m key val)
instance (m : Mb) (vs : List (List Int)) (op cl : Int) (key val : ByteArray) : Decidable (begB m vs op cl key val) := by unfold begB; infer_instance
def begin_ (m : Mb) (vs : List (List Int)) (op cl : Int) (key val : ByteArray) : Mb × List Ms × List Sd × Bool :=
  if begB m vs op cl key val then
    (if othV (vwA vs m.ep) m.id = [] then ((finM (begM m vs op cl key val)).1, [], (finM (begM m vs op cl key val)).2, true)
    else (begM m vs op cl key val, askM m vs op key val, [], true))
  else (zeroMb, [], [], false)
def fallM (m : Mb) : Mb := ⟨m.id, m.ep, true, false, false, false, [], [], 0, zeroTk⟩
end Go.Proofs.Ytmfpgnoeemjhiaa
