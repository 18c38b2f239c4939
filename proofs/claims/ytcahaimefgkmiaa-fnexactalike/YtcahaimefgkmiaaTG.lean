/- Members, plain: what they are, what they hear, begin, adopt. -/
import Derived.Test.YtcahaimefgkmiaaTD
import Derived.Test.YtcahaimefgkmiaaTF
import Derived.Test.YtcahaimefgkmiaaTA
import Derived.Deep.SlicePairs
import Derived.Lib.SmallJoins
import Derived.ProofKit
import Derived.OpenShut
import Derived.Test.YtcahaimefgkmiaaTE
import Derived.Deep.RegionHeld3
namespace Go.Proofs.Ytcahaimefgkmiaa
open Go.RowKit
set_option linter.unusedVariables false

instance : DecidableEq Im := fun a b => decidable_of_iff (a.k = b.k ∧ a.v = b.v ∧ a.n = b.n) ⟨fun h => by cases a; cases b; simp_all, fun h => by rw [h]; exact ⟨rfl, rfl, rfl⟩⟩
structure Tk where
  op : Int
  cl : Int
  nu : Int
  it : Im
  lf : List Int
structure Mb where
  id : Int
  ep : Int
  fe : Bool
  ba : Bool
  le : Bool
  se : Bool
  wa : List Int
  is : List Im
  cn : Int
  tk : Tk
structure Sd where
  cl : Int
  ep : Int
  nu : Int
  it : Im
def zeroTk : Tk := ⟨0, 0, 0, zeroIm, []⟩
def zeroMb : Mb := ⟨0, 0, false, false, false, false, [], [], 0, zeroTk⟩
def okIds (l : List Int) : Prop := (∀ x ∈ l, 1 ≤ x ∧ x ≤ 6) ∧ l.Pairwise (· < ·)
instance (l : List Int) : Decidable (okIds l) := by unfold okIds; infer_instance
def noTk (t : Tk) : Prop := t.op = 0 ∧ t.cl = 0 ∧ t.nu = 0 ∧ t.it = zeroIm ∧ t.lf = []
instance (t : Tk) : Decidable (noTk t) := by unfold noTk; infer_instance
def okTk (t : Tk) (se : Bool) : Prop := noTk t ∨ ((t.op = 1 ∨ t.op = 2) ∧ se = true ∧ (0 ≤ t.cl ∧ t.cl ≤ 1000) ∧ (1 ≤ t.nu ∧ t.nu ≤ 900))
instance (t : Tk) (se : Bool) : Decidable (okTk t se) := by unfold okTk; infer_instance
def okMb (m : Mb) : Prop := (1 ≤ m.id ∧ m.id ≤ 6) ∧ (1 ≤ m.ep ∧ m.ep ≤ 9) ∧ (m.se = true → m.ba = true ∧ m.le = true ∧ m.wa = []) ∧ (m.fe = true → m.ba = false ∧ m.le = false) ∧ okIds m.wa ∧ okIds m.tk.lf ∧ okIms m.is ∧ (0 ≤ m.cn ∧ m.cn ≤ 900) ∧ okTk m.tk m.se
instance (m : Mb) : Decidable (okMb m) := by unfold okMb; infer_instance
def vwA (vs : List (List Int)) (e : Int) : List Int := vs.getD (e - 1).toNat []
def newMb (id : Int) (vs : List (List Int)) : Mb × Bool := if okViews vs ∧ (1 ≤ id ∧ id ≤ 6) then (⟨id, 1, false, decide (id ∈ vwA vs 1), decide ((vwA vs 1).headD 0 = id), decide ((vwA vs 1).headD 0 = id), [], [], 0, zeroTk⟩, true) else (zeroMb, false)
def othV (v : List Int) (id : Int) : List Int := ([1, 2, 3, 4, 5, 6] : List Int).filter (fun x => decide (x ≠ id) && decide (x ∈ v))
def wthV (l : List Int) (x : Int) : List Int := l.filter (fun y => decide (y ≠ x))
/-- A member that leads has the state. -/
def hasM (m : Mb) (v : List Int) (is : List Im) : Mb × List Ms := ({ m with ba := true, is := is, wa := othV v m.id, se := decide (othV v m.id = []) }, (wthV v m.id).map (fun t => ⟨3, m.id, t, m.ep, 0, is⟩))
def adoR (m : Mb) (vs : List (List Int)) (e : Int) : Prop := okMb m ∧ okViews vs ∧ (2 ≤ e ∧ e ≤ vs.length) ∧ m.ep < e ∧ (vwA vs e).headD 0 = m.id
instance (m : Mb) (vs : List (List Int)) (e : Int) : Decidable (adoR m vs e) := by unfold adoR; infer_instance
def ledM (m : Mb) (e : Int) : Mb := ⟨m.id, e, false, false, true, false, [], m.is, 0, zeroTk⟩
def hadM (m : Mb) (vs : List (List Int)) (e : Int) : Prop := m.ba = true ∧ m.ep = e - 1 ∧ m.id ∈ vwA vs (e - 1)
instance (m : Mb) (vs : List (List Int)) (e : Int) : Decidable (hadM m vs e) := by unfold hadM; infer_instance
def adoM (m : Mb) (vs : List (List Int)) (e : Int) : Mb × List Ms := if hadM m vs e then hasM (ledM m e) (vwA vs e) m.is else (ledM m e, (wthV (vwA vs (e - 1)) m.id).map (fun v => ⟨1, m.id, v, e, 0, []⟩))
def adopt (m : Mb) (vs : List (List Int)) (e : Int) : Mb × List Ms × Bool := if adoR m vs e then ((adoM m vs e).1, (adoM m vs e).2, true) else (zeroMb, [], false)
def bareM (m : Mb) (e : Int) : Mb := ⟨m.id, e, false, false, false, false, [], m.is, 0, zeroTk⟩
def instM (m : Mb) (e : Int) (is : List Im) : Mb := ⟨m.id, e, false, true, false, false, [], is, 0, zeroTk⟩
def finM (m : Mb) : Mb × List Sd := if m.tk.op = 1 then ({ m with is := putI m.is m.tk.it, tk := zeroTk }, [⟨m.tk.cl, m.ep, m.tk.nu, m.tk.it⟩]) else ({ m with tk := zeroTk }, [⟨m.tk.cl, m.ep, m.tk.nu, imOf m.is m.tk.it.k⟩])
def repM (m : Mb) (x : Ms) (k : Int) : List Ms := [⟨k, m.id, x.f, x.e, x.n, []⟩]
def leftM (m : Mb) (f : Int) : Mb := { m with tk := { m.tk with lf := wthV m.tk.lf f } }
def doneM (m : Mb) (f : Int) : Mb := { m with wa := wthV m.wa f, se := m.ba && decide (wthV m.wa f = []) }
def opOf (k : Int) : Int := if k = 8 then 2 else 1
/-- A message of its own Epoch. -/
def ownM (m : Mb) (v : List Int) (x : Ms) : Mb × List Ms × List Sd :=
  if x.k = 2 then (if m.le = true ∧ m.ba = false then ((hasM m v x.is).1, (hasM m v x.is).2, []) else (m, [], []))
  else if x.k = 3 then (if m.id ∉ v ∨ v.headD 0 = m.id then (m, [], []) else if m.ba = true then (m, repM m x 4, []) else if m.fe = true then (m, [], []) else (instM m m.ep x.is, repM m x 4, []))
  else if x.k = 4 then (if m.le = true then (doneM m x.f, [], []) else (m, [], []))
  else if x.k = 5 then (if m.ba = true then ({ m with is := putI m.is (x.is.headD zeroIm) }, repM m x 6, []) else (m, [], []))
  else if x.k = 7 then (if m.ba = true then (m, repM m x 8, []) else (m, [], []))
  else if x.k = 6 ∨ x.k = 8 then (if m.tk.op = opOf x.k ∧ m.tk.nu = x.n then (if wthV m.tk.lf x.f = [] then ((finM (leftM m x.f)).1, [], (finM (leftM m x.f)).2) else (leftM m x.f, [], [])) else (m, [], []))
  else (m, [], [])
def heaR (m : Mb) (vs : List (List Int)) (x : Ms) : Prop := okMb m ∧ okViews vs ∧ okMs x ∧ x.o = m.id ∧ m.ep ≤ x.e ∧ x.e ≤ vs.length ∧ m.ep ≤ vs.length
instance (m : Mb) (vs : List (List Int)) (x : Ms) : Decidable (heaR m vs x) := by unfold heaR; infer_instance
def hearM (m : Mb) (vs : List (List Int)) (x : Ms) : Mb × List Ms × List Sd :=
  if heaR m vs x then
    (if x.e = m.ep then ownM m (vwA vs m.ep) x
    else if x.k = 1 ∧ x.e = m.ep + 1 ∧ m.ba = true ∧ m.id ∈ vwA vs m.ep then (bareM m x.e, [⟨2, m.id, x.f, x.e, 0, m.is⟩], [])
    else if x.k = 3 ∧ m.id ∈ vwA vs x.e ∧ (vwA vs x.e).headD 0 ≠ m.id then (instM m x.e x.is, repM m x 4, [])
    else (m, [], []))
  else (m, [], [])
def begR (m : Mb) (vs : List (List Int)) (op cl : Int) (key val : ByteArray) : Prop := okMb m ∧ okViews vs ∧ m.se = true ∧ m.tk.op = 0 ∧ m.cn < 900 ∧ (op = 1 ∨ op = 2) ∧ (0 ≤ cl ∧ cl ≤ 1000) ∧ (1 ≤ key.size ∧ key.size ≤ 12) ∧ val.size ≤ 20 ∧ (op = 2 → val = ⟨#[]⟩) ∧ m.ep ≤ vs.length ∧ (vwA vs m.ep).headD 0 = m.id
instance (m : Mb) (vs : List (List Int)) (op cl : Int) (key val : ByteArray) : Decidable (begR m vs op cl key val) := by unfold begR; infer_instance
def begI (m : Mb) (key val : ByteArray) : Im := ⟨key, val, 1000 * m.ep + (m.cn + 1)⟩
def begM (m : Mb) (vs : List (List Int)) (op cl : Int) (key val : ByteArray) : Mb := { m with cn := m.cn + 1, tk := ⟨op, cl, m.cn + 1, begI m key val, othV (vwA vs m.ep) m.id⟩ }
def askM (m : Mb) (vs : List (List Int)) (op : Int) (key val : ByteArray) : List Ms := (wthV (vwA vs m.ep) m.id).map (fun t => if op = 1 then ⟨5, m.id, t, m.ep, m.cn + 1, [begI m key val]⟩ else ⟨7, m.id, t, m.ep, m.cn + 1, []⟩)
def begB (m : Mb) (vs : List (List Int)) (op cl : Int) (key val : ByteArray) : Prop := begR m vs op cl key val ∧ (op = 1 → imOf (putI m.is (begI m key val)) key = begI m key val)
instance (m : Mb) (vs : List (List Int)) (op cl : Int) (key val : ByteArray) : Decidable (begB m vs op cl key val) := by unfold begB; infer_instance
def begin_ (m : Mb) (vs : List (List Int)) (op cl : Int) (key val : ByteArray) : Mb × List Ms × List Sd × Bool :=
  if begB m vs op cl key val then
    (if othV (vwA vs m.ep) m.id = [] then ((finM (begM m vs op cl key val)).1, [], (finM (begM m vs op cl key val)).2, true)
    else (begM m vs op cl key val, askM m vs op key val, [], true))
  else (zeroMb, [], [], false)
def fallM (m : Mb) : Mb := ⟨m.id, m.ep, true, false, false, false, [], [], 0, zeroTk⟩
end Go.Proofs.Ytcahaimefgkmiaa
namespace Go.Proofs.Ytcahaimefgkmiaa
open Go.ChangeShapes Go.WideShapes Go.ChangeAt Go.RowKit Go.Deep Go.Joins

set_option maxRecDepth 100000 in
theorem open_ints {H : Type} {enc : TypeId × Value → H} {w : World} {base fuel : Nat} {sp : Nat → Bool} {held : Bool} {cs : List Value} {x : DataW H × List MemPlace} (h : DataW.trod enc Try.prog w base sp held fuel 62 cs = some x) :
    ∃ (ao : Option Addr) (l : List Int) (ca : Nat), cs = [.slice ao l.length ca] ∧ RdZ w ao l ∧ l.length ≤ maxLen := by
  rcases open_slice Try.underlying62 h with ⟨rfl, _⟩ | ⟨a, len, cap, m, n, D, Pl, rfl, hb, hl, hm, hmm, _, hx⟩
  · exact ⟨none, [], 0, rfl, fun i hi => by simp at hi, Nat.zero_le _⟩
  have hlm : len ≤ m := by rw [hmm]; split <;> omega
  have hc : Try.prog.cellsOf 3 = 1 := by kernel_rfl
  have each : ∀ i, i < m → ∃ s : Int, w.cell? ((a.add (i * 1)).add 0) = some (.int .i64 s) := by
    intro i hi
    obtain ⟨cs', h1, h2⟩ := hx i hi
    rw [hc] at h1
    obtain ⟨_, hlen, hcell⟩ := World.cells?_some h1
    obtain ⟨s, e, _, _⟩ := DataW.trod_int Try.underlying3 h2
    refine ⟨s, ?_⟩
    rw [hcell 0 (by omega), e]
    rfl
  obtain ⟨S, hS⟩ := choose_lt each
  refine ⟨some a, (List.range len).map S, cap, by simp, ?_, by simp; omega⟩
  intro i hi
  have hi' : i < len := by simpa using hi
  have hci := hS i (by omega)
  obtain ⟨b, o, spot⟩ := a
  have hspot : spot = none := by
    have := hS 0 (by omega)
    simpa [Addr.add] using World.cell?_spot this
  subst hspot
  simp only [Addr.add_lit, Nat.mul_one, Nat.add_zero] at hci
  refine ⟨b, o, rfl, World.block_lt_of_cell? w _ hci, ?_⟩
  simp only [List.getElem_map, List.getElem_range]
  exact hci

set_option maxRecDepth 100000 in
theorem open_intsV {H : Type} {enc : TypeId × Value → H} {w : World} {r : Reach} {b0 base : Nat} {sp : Nat → Bool} {held : Bool} {v : Value} {d : DataW H} {p : List MemPlace} (hv : Value.okWide Try.prog w r b0 62 v) (h : DataW.Trod enc Try.prog w base sp held 62 v d p) :
    ∃ (ao : Option Addr) (l : List Int) (ca : Nat), v = .slice ao l.length ca ∧ RdZ w ao l ∧ l.length ≤ maxLen := by
  obtain ⟨a0, len0, cap0, rfl⟩ := okWide_slice Try.underlying62 hv
  obtain ⟨n, h0⟩ := h
  obtain ⟨ao, l, ca, e0, hR, hl⟩ := open_ints h0
  simp [Value.cells] at e0
  obtain ⟨rfl, rfl, rfl⟩ := e0
  exact ⟨_, l, _, rfl, hR, hl⟩

/-- A row of numbers that is the call's own, behind a bound. -/
def OwnK (w : World) (B : Nat) (ao : Option Addr) (c : Nat) (L : List Int) : Prop := w.ownsRow B 3 1 (.slice ao L.length c) L.length (iz L)
theorem OwnK.rd {w : World} {B c : Nat} {ao : Option Addr} {L : List Int} (h : OwnK w B ao c L) : RdZ w ao L := rdZ_of_own h
theorem OwnK.later {w w' : World} {B c : Nat} {ao : Option Addr} {L : List Int} (h : OwnK w B ao c L) (hb : Below w.heap.size w w') : OwnK w' B ao c L := own_kept h hb
theorem OwnK.base {w : World} {B B' c : Nat} {ao : Option Addr} {L : List Int} (h : OwnK w B ao c L) (hB : B' ≤ B) : OwnK w B' ao c L := own_base h hB
theorem OwnK.lt {w : World} {B c : Nat} {ao : Option Addr} {L : List Int} (h : OwnK w B ao c L) : ∀ g, (Value.slice ao L.length c).ownBlock = some g → B ≤ g ∧ g < w.heap.size := fun g e => World.ownsRow.lt h g e
theorem toIntS_own (ao : Option Addr) (l : List Int) (ca : Nat) (w : World) (hl : l.length ≤ 1048576) (hA : RdZ w ao l) :
    Calls Try.prog 64 #[.slice ao l.length ca] w fun e w' => ∃ b c, e = .returned (.slice b l.length c) ∧ OwnK w' w.heap.size b c l ∧ Below w.heap.size w w' := toIntS_any ao l ca w hl hA
theorem eqIntS_own (a b : Option Addr) (l : List Int) (ca cb : Nat) (w : World) (hl : l.length ≤ 1048576) (ha : RdZ w a l) (hb : RdZ w b l) :
    Calls Try.prog 69 #[.slice a l.length ca, .slice b l.length cb] w fun e w' => e = .returned (.bool true) ∧ Below w.heap.size w w' := by
  refine (eqIntS_any a b l l ca cb w hl ha hb).mono ?_
  rintro e w' ⟨x, rfl, hx, hb⟩
  rw [hx.2 rfl]
  exact ⟨rfl, hb⟩
end Go.Proofs.Ytcahaimefgkmiaa
namespace Go.Proofs.Ytcahaimefgkmiaa
open Go.RowKit
set_option linter.unusedVariables false

/-- Rows of numbers as rows of elements of one cell. -/
def zC (x : Int) : List Value := [.int .i64 x]
theorem encZ : EncK zC 1 := ⟨fun _ => rfl, fun x u hu => by simp only [zC, List.mem_cons, List.not_mem_nil, or_false] at hu; rcases hu with rfl; rfl⟩
theorem row_z (l : List Int) : rowG zC l = iz l := by
  induction l with
  | nil => rfl
  | cons a l ih => show zC a ++ rowG zC l = _; rw [ih]; rfl
theorem RdZ.g {w : World} {a : Option Addr} {l : List Int} (h : RdZ w a l) : RdG zC 1 w a l := fun i hi => by
  obtain ⟨b, o, h1, h2, h3⟩ := h i hi
  refine ⟨b, o, h1, h2, fun j hj => ?_⟩
  obtain rfl : j = 0 := by omega
  rw [Nat.mul_one, Nat.add_zero, h3]
  rfl
theorem RdG.z {w : World} {a : Option Addr} {l : List Int} (h : RdG zC 1 w a l) : RdZ w a l := fun i hi => by
  obtain ⟨b, o, h1, h2, h3⟩ := h i hi
  refine ⟨b, o, h1, h2, ?_⟩
  have := h3 0 (by omega)
  rw [Nat.mul_one, Nat.add_zero] at this
  exact this
theorem rowZ_k : RowK Try.prog 62 3 1 := rowK_mk Try.underlying62 Try.infoZ rfl (by decide) (by decide)
/-- Where the three rows of a member lie. -/
structure MA where
  wa : Option Addr
  wc : Nat
  ia : Option Addr
  ic : Nat
  la : Option Addr
  lc : Nat
def mbV (m : Mb) (A : MA) : Value := .agg #[.int .i64 m.id, .int .i64 m.ep, .bool m.fe, .bool m.ba, .bool m.le, .bool m.se, .slice A.wa m.wa.length A.wc, .slice A.ia m.is.length A.ic, .int .i64 m.cn, .int .i64 m.tk.op, .int .i64 m.tk.cl, .int .i64 m.tk.nu, .string m.tk.it.k, .string m.tk.it.v, .int .i64 m.tk.it.n, .slice A.la m.tk.lf.length A.lc]
structure RdMb (w : World) (m : Mb) (A : MA) : Prop where
  wr : RdZ w A.wa m.wa
  ir : RdG imC 3 w A.ia m.is
  lr : RdZ w A.la m.tk.lf
theorem RdMb.later {w w' : World} {m : Mb} {A : MA} (h : RdMb w m A) (hb : Below w.heap.size w w') : RdMb w' m A := ⟨h.wr.later hb, h.ir.later hb, h.lr.later hb⟩
/-- How much a member may hold. -/
structure SzMb (m : Mb) : Prop where
  wl : m.wa.length ≤ 1048576
  il : m.is.length ≤ 1048576
  ll : m.tk.lf.length ≤ 1048576
def noMA : MA := ⟨none, 0, none, 0, none, 0⟩
theorem RdMb.zero (w : World) : RdMb w zeroMb noMA := ⟨fun i hi => by simp [zeroMb] at hi, fun i hi => by simp [zeroMb] at hi, fun i hi => by simp [zeroMb, zeroTk] at hi⟩
/-- A message in a row, and where its items lie. -/
structure Mv where
  m : Ms
  a : Option Addr
  c : Nat
def mvC (x : Mv) : List Value := [.int .i64 x.m.k, .int .i64 x.m.f, .int .i64 x.m.o, .int .i64 x.m.e, .int .i64 x.m.n, .slice x.a x.m.is.length x.c]
theorem encMv : EncK mvC 6 := ⟨fun _ => rfl, fun x u hu => by simp only [mvC, List.mem_cons, List.not_mem_nil, or_false] at hu; rcases hu with rfl | rfl | rfl | rfl | rfl | rfl <;> rfl⟩
theorem Try.infoMv : (Try.prog.info? 103).map (fun i => (i.zero, i.size, i.bytes)) = some (some (.agg #[.int .i64 0, .int .i64 0, .int .i64 0, .int .i64 0, .int .i64 0, .slice none 0 0]), 6, 64) := by kernel_rfl
theorem rowMv : RowK Try.prog 44 103 6 := rowK_mk Try.underlying44 Try.infoMv rfl (by decide) (by decide)
structure RdMs (w : World) (a : Option Addr) (L : List Mv) : Prop where
  r : RdG mvC 6 w a L
  i : ∀ x ∈ L, RdG imC 3 w x.a x.m.is
theorem RdMs.later {w w' : World} {a : Option Addr} {L : List Mv} (h : RdMs w a L) (hb : Below w.heap.size w w') : RdMs w' a L := ⟨h.r.later hb, fun x hx => (h.i x hx).later hb⟩
theorem RdMs.nil (w : World) (a : Option Addr) : RdMs w a [] := ⟨RdG.nil _ _, fun x hx => by simp at hx⟩
/-- What is said, in a row. -/
def sdC (x : Sd) : List Value := [.int .i64 x.cl, .int .i64 x.ep, .int .i64 x.nu, .string x.it.k, .string x.it.v, .int .i64 x.it.n]
theorem encSd : EncK sdC 6 := ⟨fun _ => rfl, fun x u hu => by simp only [sdC, List.mem_cons, List.not_mem_nil, or_false] at hu; rcases hu with rfl | rfl | rfl | rfl | rfl | rfl <;> rfl⟩
theorem Try.infoMb : (Try.prog.info? 69).map (fun i => (i.zero, i.size, i.bytes)) = some (some (mbV zeroMb noMA), 16, 168) := by kernel_rfl
end Go.Proofs.Ytcahaimefgkmiaa
namespace Go.Proofs.Ytcahaimefgkmiaa
open Go.ChangeShapes Go.WideShapes Go.ChangeAt Go.RowKit Go.Deep Go.Joins
set_option linter.unusedVariables false

set_option maxRecDepth 100000 in
theorem toItem_any (x : Im) (w : World) : Calls Try.prog 85 #[.agg #[.string x.k, .string x.v, .int .i64 x.n]] w fun e w' => e = .returned (.agg #[.string x.k, .string x.v, .int .i64 x.n]) ∧ Below w.heap.size w w' := by
  go_enter Try.func85, Try.ntmps85
  go_wp2
  go_returns
  exact ⟨rfl, by go_grown⟩

set_option maxRecDepth 100000 in
theorem eqItem_same (x : Im) (w : World) : Calls Try.prog 86 #[.agg #[.string x.k, .string x.v, .int .i64 x.n], .agg #[.string x.k, .string x.v, .int .i64 x.n]] w fun e w' => e = .returned (.bool true) ∧ Below w.heap.size w w' := by
  have q2 : (x.n != x.n) = false := by simp
  obtain ⟨t0, r0⟩ := tx_eq x.k
  obtain ⟨t1, r1⟩ := tx_eq x.v
  obtain ⟨k, v, n⟩ := x
  dsimp only at *
  go_enter Try.func86, Try.ntmps86
  go_wp2
  go_ret
  exact ⟨rfl, by go_grown⟩

set_option maxRecDepth 100000 in
theorem szItem_any (x : Im) (left : Nat) (w : World) (hk : x.k.size ≤ 9223372036854775807 ∧ x.v.size ≤ 9223372036854775807) (hl : left ≤ 1048576) :
    Calls Try.prog 84 #[.agg #[.string x.k, .string x.v, .int .i64 x.n], .int .i64 (left : Int)] w fun e w' => (e = .returned (.int .i64 (-1)) ∨ ∃ r : Nat, e = .returned (.int .i64 (r : Int)) ∧ r + x.k.size + x.v.size = left) ∧ Below w.heap.size w w' := by
  by_cases c0 : x.k.size ≤ left
  · have q0 : decide ((left : Int) - (x.k.size : Int) < 0) = false := decide_eq_false (by omega)
    have n0 : ¬ ((left : Int) - (x.k.size : Int) < 0) := by omega
    by_cases c1 : x.k.size + x.v.size ≤ left
    · have q1 : decide ((left : Int) - (x.k.size : Int) - (x.v.size : Int) < 0) = false := decide_eq_false (by omega)
      have n1 : ¬ ((left : Int) - (x.k.size : Int) - (x.v.size : Int) < 0) := by omega
      go_enter Try.func84, Try.ntmps84
      go_wp2
      go_ret
      exact ⟨.inr ⟨left - x.k.size - x.v.size, by show Ending.returned (.int .i64 ((left : Int) - (x.k.size : Int) - (x.v.size : Int))) = _; rw [show ((left - x.k.size - x.v.size : Nat) : Int) = (left : Int) - (x.k.size : Int) - (x.v.size : Int) by omega], by omega⟩, by go_grown⟩
    · have q1 : decide ((left : Int) - (x.k.size : Int) - (x.v.size : Int) < 0) = true := decide_eq_true (by omega)
      have n1 : (left : Int) - (x.k.size : Int) - (x.v.size : Int) < 0 := by omega
      go_enter Try.func84, Try.ntmps84
      go_wp2
      go_ret
      exact ⟨.inl rfl, by go_grown⟩
  · have q0 : decide ((left : Int) - (x.k.size : Int) < 0) = true := decide_eq_true (by omega)
    have n0 : (left : Int) - (x.k.size : Int) < 0 := by omega
    go_enter Try.func84, Try.ntmps84
    go_wp2
    go_ret
    exact ⟨.inl rfl, by go_grown⟩

set_option maxRecDepth 100000 in
set_option maxHeartbeats 400000 in
theorem toItemS_any (ao : Option Addr) (l : List Im) (ca : Nat) (w : World) (hl : l.length ≤ 1048576) (hA : RdG imC 3 w ao l) :
    Calls Try.prog 78 #[.slice ao l.length ca] w fun e w' => ∃ b c, e = .returned (.slice b l.length c) ∧ w'.ownsRow w.heap.size 65 3 (.slice b l.length c) l.length (rowG imC l) ∧ Below w.heap.size w w' := by
  obtain ⟨i0, hi, hz0, hz1, hz2⟩ := info_parts Try.infoIm
  have HA := hide1 hA
  clear hA
  go_enter Try.func78, Try.ntmps78
  go_wp2_with (at_make; (refine wpList_make_full _ rfl _ _ 63 rfl w.heap.size 65 i0 (.agg #[.string ⟨#[]⟩, .string ⟨#[]⟩, .int .i64 0]) 3 Try.underlying63 hi hz0 hz1 _ _ _ _ l.length rfl rfl rfl rfl (by rw [hz2]; omega) (by unfold maxLen; omega) (Nat.le_refl _) ?_; intro w0 hown0 hg0))
  rw [show (madeCells (.agg #[.string ⟨#[]⟩, .string ⟨#[]⟩, .int .i64 0] : Value).cells (l.length * 3)).toList = rowG imC (List.replicate l.length (⟨⟨#[]⟩, ⟨#[]⟩, 0⟩ : Im)) from madeG encIm (by decide) (⟨⟨#[]⟩, ⟨#[]⟩, 0⟩ : Im) l.length] at hown0
  have HO := hide1 hown0
  clear hown0
  go_loopw [4] (fun iv wr => ∃ i : Nat, i ≤ l.length ∧ iv = .int .i64 (i : Int) ∧ wr.ownsRow w.heap.size 65 3 (.slice (some ⟨w.heap.size, 0, none⟩) l.length l.length) l.length (rowG imC (l.take i ++ List.replicate (l.length - i) (⟨⟨#[]⟩, ⟨#[]⟩, 0⟩ : Im))) ∧ Below w.heap.size w wr) (fun iv _ => l.length - (intOf iv).toNat)
  case atStart => exact ⟨0, by omega, rfl, by simpa using HO.out, Below.grown (Below.refl _ _) hg0 (Nat.le_refl _) (by intro k hk; cases hk)⟩
  case round =>
    obtain ⟨i, hi, rfl, hown, hbel⟩ := hrel
    by_cases hlt : i < l.length
    · have k1 : (i : Int) < (l.length : Int) := by omega
      obtain ⟨b, o, rfl, hb, h1⟩ := HA.out i hlt
      have x0 : wr.cell? ⟨b, o + i * 3, none⟩ = some (.string l[i].k) := (hbel.cell (p := ⟨b, o + i * 3, none⟩) hb).trans (h1 0 (by omega))
      have x1 : wr.cell? ⟨b, o + i * 3 + 1, none⟩ = some (.string l[i].v) := (hbel.cell (p := ⟨b, o + i * 3 + 1, none⟩) hb).trans (h1 1 (by omega))
      have x2 : wr.cell? ⟨b, o + i * 3 + 2, none⟩ = some (.int .i64 l[i].n) := (hbel.cell (p := ⟨b, o + i * 3 + 2, none⟩) hb).trans (h1 2 (by omega))
      have cc := hide1 (fun w => toItem_any l[i] w)
      generalize hs : l[i] = s at *
      have HS := hide1 hs
      clear h1 hs
      have HO1 := hide1 hown
      clear hown
      go_wp2_with fail
      refine (cc.out _).mono ?_
      rintro e w2 ⟨rfl, hb2⟩
      have o2 := own_kept HO1.out hb2
      obtain ⟨u0, y0⟩ := own_some o2 (i * 3) (by omega)
      obtain ⟨u1, y1⟩ := own_some o2 (i * 3 + 1) (by omega)
      obtain ⟨u2, y2⟩ := own_some o2 (i * 3 + 2) (by omega)
      have f0 := o2.frozenAt (i * 3)
      have f1 := o2.frozenAt (i * 3 + 1)
      have f2 := o2.frozenAt (i * 3 + 2)
      have O2 := hide1 o2
      clear o2
      go_wp2
      go_roundw
      case rel =>
        refine ⟨i + 1, by omega, by go_num, ?_, below_putG (imC s) (i * 3) (hbel.trans (hb2.mono hbel.size)) (Nat.le_refl _)⟩
        rw [← fillG l (⟨⟨#[]⟩, ⟨#[]⟩, 0⟩ : Im) s i hlt HS.out, rowG_set imC 3 encIm.len _ _ _ (by simp; omega)]
        exact own_putG (imC s) (i * 3) O2.out
      case measure => simp [intOf]; omega
    · obtain rfl : i = l.length := by omega
      go_wp2
      go_ret
      exact ⟨_, _, rfl, by simpa using hown, hbel⟩

set_option maxRecDepth 100000 in
set_option maxHeartbeats 400000 in
theorem szItemS_any (ao : Option Addr) (l : List Im) (ca left0 : Nat) (w : World) (hl0 : left0 ≤ 1048576) (hl : l.length ≤ 9223372036854775807) (hA : RdG imC 3 w ao l) (hS : ∀ i (h : i < l.length), l[i].k.size ≤ 9223372036854775807 ∧ l[i].v.size ≤ 9223372036854775807) :
    Calls Try.prog 76 #[.slice ao l.length ca, .int .i64 (left0 : Int)] w fun e w' => (e = .returned (.int .i64 (-1)) ∨ ∃ r : Nat, e = .returned (.int .i64 (r : Int)) ∧ r ≤ left0 ∧ l.length ≤ left0 ∧ ∀ i (h : i < l.length), l[i].k.size ≤ 1048576 ∧ l[i].v.size ≤ 1048576) ∧ Below w.heap.size w w' := by
  by_cases c0 : l.length ≤ left0
  · have q0 : decide ((left0 : Int) - (l.length : Int) < 0) = false := by simp; omega
    have HA := hide1 hA
    have HS := hide1 hS
    clear hA hS
    go_enter Try.func76, Try.ntmps76
    go_wp2
    go_loopw [1, 5] (fun lv iv wr => ∃ i left : Nat, i ≤ l.length ∧ iv = .int .i64 (i : Int) ∧ lv = .int .i64 (left : Int) ∧ left ≤ left0 ∧ Hid (∀ j (h : j < l.length), j < i → l[j].k.size ≤ 1048576 ∧ l[j].v.size ≤ 1048576) ∧ Below w.heap.size w wr) (fun _ iv _ => l.length - (intOf iv).toNat)
    case atStart => exact ⟨0, left0 - l.length, by omega, rfl, by rw [show ((left0 - l.length : Nat) : Int) = (left0 : Int) - (l.length : Int) by omega], by omega, fun j _ h => by omega, Below.refl _ _⟩
    case round =>
      obtain ⟨i, left, hi, rfl, rfl, hle, hdone, hbel⟩ := hrel
      by_cases hlt : i < l.length
      · have k1 : (i : Int) < (l.length : Int) := by omega
        obtain ⟨b, o, rfl, hb, h1⟩ := HA.out i hlt
        have x0 : wr.cell? ⟨b, o + i * 3, none⟩ = some (.string l[i].k) := (hbel.cell (p := ⟨b, o + i * 3, none⟩) hb).trans (h1 0 (by omega))
        have x1 : wr.cell? ⟨b, o + i * 3 + 1, none⟩ = some (.string l[i].v) := (hbel.cell (p := ⟨b, o + i * 3 + 1, none⟩) hb).trans (h1 1 (by omega))
        have x2 : wr.cell? ⟨b, o + i * 3 + 2, none⟩ = some (.int .i64 l[i].n) := (hbel.cell (p := ⟨b, o + i * 3 + 2, none⟩) hb).trans (h1 2 (by omega))
        have m1 := HS.out i hlt
        have cc := hide1 (fun w => szItem_any l[i] left w m1 (by omega))
        generalize hs : l[i] = s at *
        have HSS := hide1 hs
        clear h1 hs
        go_wp2_with fail
        refine (cc.out _).mono ?_
        rintro e w2 ⟨hr, hb2⟩
        have B2 := hide1 (hbel.trans (hb2.mono hbel.size))
        rcases hr with rfl | ⟨r, rfl, hr⟩
        · go_wp2
          go_ret
          exact ⟨.inl rfl, B2.out⟩
        · have q : decide ((r : Int) < 0) = false := by simp
          have HR := hide1 hr
          have hr2 : r ≤ left0 := by omega
          clear hr m1
          go_wp2
          go_roundw
          case rel => exact ⟨i + 1, r, by omega, by go_num, rfl, hr2, (fun j h hj => by
            by_cases e : j < i
            · exact hdone.out j h e
            · obtain rfl : j = i := by omega
              have := HR.out
              rw [HSS.out]
              omega), B2.out⟩
          case measure => simp [intOf]; omega
      · go_wp2
        go_ret
        exact ⟨.inr ⟨left, rfl, hle, c0, fun j h => hdone.out j h (by omega)⟩, hbel⟩
  · have q0 : decide ((left0 : Int) - (l.length : Int) < 0) = true := by simp; omega
    clear hA hS
    go_enter Try.func76, Try.ntmps76
    go_wp2
    go_ret
    exact ⟨.inl rfl, Below.refl _ _⟩

set_option maxRecDepth 100000 in
set_option maxHeartbeats 400000 in
theorem eqItemS_same (a b : Option Addr) (l : List Im) (ca cb : Nat) (w : World) (hl : l.length ≤ 1048576) (ha : RdG imC 3 w a l) (hb : RdG imC 3 w b l) :
    Calls Try.prog 81 #[.slice a l.length ca, .slice b l.length cb] w fun e w' => e = .returned (.bool true) ∧ Below w.heap.size w w' := by
  have HA := hide1 ha
  have HB := hide1 hb
  clear ha hb
  have q0 : ((l.length : Int) != (l.length : Int)) = false := by simp
  go_enter Try.func81, Try.ntmps81
  go_wp2
  go_loopw [5] (fun iv wr => ∃ i : Nat, i ≤ l.length ∧ iv = .int .i64 (i : Int) ∧ Below w.heap.size w wr) (fun iv _ => l.length - (intOf iv).toNat)
  case atStart => exact ⟨0, by omega, rfl, Below.refl _ _⟩
  case round =>
    obtain ⟨i, hi, rfl, hbel⟩ := hrel
    by_cases hlt : i < l.length
    · have k1 : (i : Int) < (l.length : Int) := by omega
      obtain ⟨b1, o1, rfl, hg1, h1⟩ := HA.out i hlt
      obtain ⟨b2, o2, rfl, hg2, h2⟩ := HB.out i hlt
      have x0 : wr.cell? ⟨b1, o1 + i * 3, none⟩ = some (.string l[i].k) := (hbel.cell (p := ⟨b1, o1 + i * 3, none⟩) hg1).trans (h1 0 (by omega))
      have x1 : wr.cell? ⟨b1, o1 + i * 3 + 1, none⟩ = some (.string l[i].v) := (hbel.cell (p := ⟨b1, o1 + i * 3 + 1, none⟩) hg1).trans (h1 1 (by omega))
      have x2 : wr.cell? ⟨b1, o1 + i * 3 + 2, none⟩ = some (.int .i64 l[i].n) := (hbel.cell (p := ⟨b1, o1 + i * 3 + 2, none⟩) hg1).trans (h1 2 (by omega))
      have y0 : wr.cell? ⟨b2, o2 + i * 3, none⟩ = some (.string l[i].k) := (hbel.cell (p := ⟨b2, o2 + i * 3, none⟩) hg2).trans (h2 0 (by omega))
      have y1 : wr.cell? ⟨b2, o2 + i * 3 + 1, none⟩ = some (.string l[i].v) := (hbel.cell (p := ⟨b2, o2 + i * 3 + 1, none⟩) hg2).trans (h2 1 (by omega))
      have y2 : wr.cell? ⟨b2, o2 + i * 3 + 2, none⟩ = some (.int .i64 l[i].n) := (hbel.cell (p := ⟨b2, o2 + i * 3 + 2, none⟩) hg2).trans (h2 2 (by omega))
      have cc := hide1 (fun w => eqItem_same l[i] w)
      have hw1 : b1 < wr.heap.size := Nat.lt_of_lt_of_le hg1 hbel.size
      have hw2 : b2 < wr.heap.size := Nat.lt_of_lt_of_le hg2 hbel.size
      clear h1 h2
      generalize l[i] = s at *
      go_wp2
      go_region_held3 (fun w' => w'.cell? ⟨b1, o1 + i * 3, none⟩ = some (.string s.k) ∧ w'.cell? ⟨b1, o1 + i * 3 + 1, none⟩ = some (.string s.v) ∧ w'.cell? ⟨b1, o1 + i * 3 + 2, none⟩ = some (.int .i64 s.n) ∧ w'.cell? ⟨b2, o2 + i * 3, none⟩ = some (.string s.k) ∧ w'.cell? ⟨b2, o2 + i * 3 + 1, none⟩ = some (.string s.v) ∧ w'.cell? ⟨b2, o2 + i * 3 + 2, none⟩ = some (.int .i64 s.n)) (first | go_keep | exact ⟨x0, x1, x2, y0, y1, y2⟩ | exact ⟨(hb2.cell hw1).trans x0, (hb2.cell hw1).trans x1, (hb2.cell hw1).trans x2, (hb2.cell hw2).trans y0, (hb2.cell hw2).trans y1, (hb2.cell hw2).trans y2⟩) ((go_at_call 86; refine (cc.out _).mono ?_; rintro e w2 ⟨rfl, hb2⟩))
      go_wp2
      go_roundw
      case rel => exact ⟨i + 1, by omega, by go_num, hbel.trans ((Below.refl _ _).drew.trans (hb2.mono hbel.size))⟩
      case measure => simp [intOf]; omega
    · go_wp2
      go_ret
      exact ⟨rfl, hbel⟩

def wfItem (s : Im) : Prop := s.k.size ≤ maxLen ∧ s.v.size ≤ maxLen ∧ (-9223372036854775808 ≤ s.n ∧ s.n ≤ 9223372036854775807)
set_option maxRecDepth 100000 in
theorem open_itemE {H : Type} {enc : TypeId × Value → H} {w : World} {base fuel : Nat} {sp : Nat → Bool} {held : Bool} {cs : List Value} {x : DataW H × List MemPlace} (h : DataW.trod enc Try.prog w base sp held fuel 92 cs = some x) :
    ∃ s : Im, cs = imC s ∧ wfItem s := by
  obtain ⟨xs, n, _, _, hlen, hxl, hf⟩ := DataW.trod_struct Try.underlying92 h
  have hc : Try.prog.cellsOf 92 = 3 := by kernel_rfl
  rw [hc] at hlen
  match xs, hxl, cs, hlen with
  | [p0, p1, p2], _, [v0, v1, v2], _ =>
    have g0 := hf 0 _ rfl
    have g1 := hf 1 _ rfl
    have g2 := hf 2 _ rfl
    have ci : Try.prog.cellsOf 3 = 1 := by kernel_rfl
    have cst : Try.prog.cellsOf 9 = 1 := by kernel_rfl
    simp [ci, cst] at g0 g1 g2
    obtain ⟨n0, e0, _, w0⟩ := DataW.trod_string Try.underlying9 g0
    obtain ⟨n1, e1, _, w1⟩ := DataW.trod_string Try.underlying9 g1
    obtain ⟨n2, e2, _, w2⟩ := DataW.trod_int Try.underlying3 g2
    simp at e0 e1 e2
    subst e0 e1 e2
    exact ⟨⟨n0, n1, n2⟩, rfl, w0, w1, bounds_i64 w2⟩
instance : Inhabited Im := ⟨(⟨⟨#[]⟩, ⟨#[]⟩, 0⟩ : Im)⟩
set_option maxRecDepth 100000 in
theorem open_itemsE {H : Type} {enc : TypeId × Value → H} {w : World} {base fuel : Nat} {sp : Nat → Bool} {held : Bool} {cs : List Value} {x : DataW H × List MemPlace} (h : DataW.trod enc Try.prog w base sp held fuel 91 cs = some x) :
    ∃ (ao : Option Addr) (l : List Im) (ca : Nat), cs = [.slice ao l.length ca] ∧ RdG imC 3 w ao l ∧ l.length ≤ maxLen ∧ ∀ s ∈ l, wfItem s := by
  rcases open_slice Try.underlying91 h with ⟨rfl, _⟩ | ⟨a, len, cap, m, n, D, Pl, rfl, hb, hl, hm, hmm, _, hx⟩
  · exact ⟨none, [], 0, rfl, RdG.nil _ _, Nat.zero_le _, fun i hi => by simp at hi⟩
  have hlm : len ≤ m := by rw [hmm]; split <;> omega
  have hc : Try.prog.cellsOf 92 = 3 := by kernel_rfl
  refine open_rowG (P := wfItem) encIm (by decide) (.inr (Nat.le_trans hl hm)) hlm (fun i hi => ?_)
  obtain ⟨cs', h1, h2⟩ := hx i hi
  rw [hc] at h1
  obtain ⟨_, hlen, hcell⟩ := World.cells?_some h1
  obtain ⟨s, rfl, hw⟩ := open_itemE h2
  exact ⟨s, hw, fun j hj => hcell j (by omega)⟩
set_option maxRecDepth 100000 in
theorem open_items {H : Type} {enc : TypeId × Value → H} {w : World} {r : Reach} {b0 base : Nat} {sp : Nat → Bool} {held : Bool} {v : Value} {d : DataW H} {p : List MemPlace} (hv : Value.okWide Try.prog w r b0 91 v) (h : DataW.Trod enc Try.prog w base sp held 91 v d p) :
    ∃ (ao : Option Addr) (l : List Im) (ca : Nat), v = .slice ao l.length ca ∧ RdG imC 3 w ao l ∧ l.length ≤ maxLen ∧ ∀ s ∈ l, wfItem s := by
  obtain ⟨a0, len0, cap0, rfl⟩ := okWide_slice Try.underlying91 hv
  obtain ⟨n, h0⟩ := h
  obtain ⟨ao, l, ca, e0, hR, hl, hw⟩ := open_itemsE h0
  simp [Value.cells] at e0
  obtain ⟨rfl, rfl, rfl⟩ := e0
  exact ⟨_, l, _, rfl, hR, hl, hw⟩

end Go.Proofs.Ytcahaimefgkmiaa
namespace Go.Proofs.Ytcahaimefgkmiaa
open Go.ChangeShapes Go.WideShapes Go.ChangeAt Go.RowKit
set_option maxRecDepth 100000 in
theorem open_item {H : Type} {enc : TypeId × Value → H} {w : World} {r : Reach} {b0 base : Nat} {sp : Nat → Bool} {held : Bool} {v : Value} {d : DataW H} {p : List MemPlace} (hv : Value.okWide Try.prog w r b0 92 v) (h : DataW.Trod enc Try.prog w base sp held 92 v d p) :
    ∃ x : Im, v = .agg #[.string x.k, .string x.v, .int .i64 x.n] ∧ wfItem x := by
  obtain ⟨cs, rfl, hsz⟩ := okWide_struct Try.underlying92 hv
  obtain ⟨fuel, hf⟩ := h
  obtain ⟨s, hs, hw⟩ := open_itemE hf
  exact ⟨s, by obtain ⟨cl⟩ := cs; have e : cl = imC s := hs; rw [e]; rfl, hw⟩
end Go.Proofs.Ytcahaimefgkmiaa
