/- Members, plain: what they are, what they hear, begin, adopt. -/
import Derived.Test.YtpjgplohlchpoaaGreatDoorUAE
import Derived.Test.YtpjgplohlchpoaaGreatDoorUAG
import Derived.Test.YtpjgplohlchpoaaGreatDoorUAC
import Derived.Test.YtpjgplohlchpoaaGreatDoorUAB
import Derived.Deep.SlicePairs
import Derived.Lib.SmallJoins
import Derived.ProofKit
import Derived.OpenShut
import Derived.Deep.DeepCutAuto
namespace Go.Proofs.YtpjgplohlchpoaaGreatDoor
open Go.RowKit
set_option linter.unusedVariables false

instance : DecidableEq Im := fun a b => decidable_of_iff (a.k = b.k ∧ a.v = b.v ∧ a.n = b.n) ⟨fun h => by cases a; cases b; simp_all, fun h => by rw [h]; exact ⟨rfl, rfl, rfl⟩⟩
structure Tk where
  op : Int
  cl : Int
  nu : Int
  it : Im
  lf : List Int
structure Mb where
  id : Int
  ep : Int
  fe : Bool
  ba : Bool
  le : Bool
  se : Bool
  wa : List Int
  is : List Im
  cn : Int
  tk : Tk
structure Sd where
  cl : Int
  ep : Int
  nu : Int
  it : Im
def zeroTk : Tk := ⟨0, 0, 0, zeroIm, []⟩
def zeroMb : Mb := ⟨0, 0, false, false, false, false, [], [], 0, zeroTk⟩
def okIds (l : List Int) : Prop := (∀ x ∈ l, 1 ≤ x ∧ x ≤ 6) ∧ l.Pairwise (· < ·)
instance (l : List Int) : Decidable (okIds l) := by unfold okIds; infer_instance
def noTk (t : Tk) : Prop := t.op = 0 ∧ t.cl = 0 ∧ t.nu = 0 ∧ t.it = zeroIm ∧ t.lf = []
instance (t : Tk) : Decidable (noTk t) := by unfold noTk; infer_instance
def okTk (t : Tk) (se : Bool) : Prop := noTk t ∨ ((t.op = 1 ∨ t.op = 2) ∧ se = true ∧ (0 ≤ t.cl ∧ t.cl ≤ 1000) ∧ (1 ≤ t.nu ∧ t.nu ≤ 900))
instance (t : Tk) (se : Bool) : Decidable (okTk t se) := by unfold okTk; infer_instance
def okMb (m : Mb) : Prop := (1 ≤ m.id ∧ m.id ≤ 6) ∧ (1 ≤ m.ep ∧ m.ep ≤ 9) ∧ (m.se = true → m.ba = true ∧ m.le = true ∧ m.wa = []) ∧ (m.fe = true → m.ba = false ∧ m.le = false) ∧ okIds m.wa ∧ okIds m.tk.lf ∧ okIms m.is ∧ (0 ≤ m.cn ∧ m.cn ≤ 900) ∧ okTk m.tk m.se
instance (m : Mb) : Decidable (okMb m) := by unfold okMb; infer_instance
def vwA (vs : List (List Int)) (e : Int) : List Int := vs.getD (e - 1).toNat []
def newMb (id : Int) (vs : List (List Int)) : Mb × Bool := if okViews vs ∧ (1 ≤ id ∧ id ≤ 6) then (⟨id, 1, false, decide (id ∈ vwA vs 1), decide ((vwA vs 1).headD 0 = id), decide ((vwA vs 1).headD 0 = id), [], [], 0, zeroTk⟩, true) else (zeroMb, false)
def othV (v : List Int) (id : Int) : List Int := ([1, 2, 3, 4, 5, 6] : List Int).filter (fun x => decide (x ≠ id) && decide (x ∈ v))
def wthV (l : List Int) (x : Int) : List Int := l.filter (fun y => decide (y ≠ x))
/-- A member that leads has the state. -/
def hasM (m : Mb) (v : List Int) (is : List Im) : Mb × List Ms := ({ m with ba := true, is := is, wa := othV v m.id, se := decide (othV v m.id = []) }, (wthV v m.id).map (fun t => ⟨3, m.id, t, m.ep, 0, is⟩))
def adoR (m : Mb) (vs : List (List Int)) (e : Int) : Prop := okMb m ∧ okViews vs ∧ (2 ≤ e ∧ e ≤ vs.length) ∧ m.ep < e ∧ (vwA vs e).headD 0 = m.id
instance (m : Mb) (vs : List (List Int)) (e : Int) : Decidable (adoR m vs e) := by unfold adoR; infer_instance
def ledM (m : Mb) (e : Int) : Mb := ⟨m.id, e, false, false, true, false, [], m.is, 0, zeroTk⟩
def hadM (m : Mb) (vs : List (List Int)) (e : Int) : Prop := m.ba = true ∧ m.ep = e - 1 ∧ m.id ∈ vwA vs (e - 1)
instance (m : Mb) (vs : List (List Int)) (e : Int) : Decidable (hadM m vs e) := by unfold hadM; infer_instance
def adoM (m : Mb) (vs : List (List Int)) (e : Int) : Mb × List Ms := if hadM m vs e then hasM (ledM m e) (vwA vs e) m.is else (ledM m e, (wthV (vwA vs (e - 1)) m.id).map (fun v => ⟨1, m.id, v, e, 0, []⟩))
def adopt (m : Mb) (vs : List (List Int)) (e : Int) : Mb × List Ms × Bool := if adoR m vs e then ((adoM m vs e).1, (adoM m vs e).2, true) else (zeroMb, [], false)
def bareM (m : Mb) (e : Int) : Mb := ⟨m.id, e, false, false, false, false, [], m.is, 0, zeroTk⟩
def instM (m : Mb) (e : Int) (is : List Im) : Mb := ⟨m.id, e, false, true, false, false, [], is, 0, zeroTk⟩
def finM (m : Mb) : Mb × List Sd := if m.tk.op = 1 then ({ m with is := putI m.is m.tk.it, tk := zeroTk }, [⟨m.tk.cl, m.ep, m.tk.nu, m.tk.it⟩]) else ({ m with tk := zeroTk }, [⟨m.tk.cl, m.ep, m.tk.nu, imOf m.is m.tk.it.k⟩])
def repM (m : Mb) (x : Ms) (k : Int) : List Ms := [⟨k, m.id, x.f, x.e, x.n, []⟩]
def leftM (m : Mb) (f : Int) : Mb := { m with tk := { m.tk with lf := wthV m.tk.lf f } }
def doneM (m : Mb) (f : Int) : Mb := { m with wa := wthV m.wa f, se := m.ba && decide (wthV m.wa f = []) }
def opOf (k : Int) : Int := if k = 8 then 2 else 1
/-- A message of its own Epoch. -/
def ownM (m : Mb) (v : List Int) (x : Ms) : Mb × List Ms × List Sd :=
  if x.k = 2 then (if m.le = true ∧ m.ba = false then ((hasM m v x.is).1, (hasM m v x.is).2, []) else (m, [], []))
  else if x.k = 3 then (if m.id ∉ v ∨ v.headD 0 = m.id then (m, [], []) else if m.ba = true then (m, repM m x 4, []) else if m.fe = true then (m, [], []) else (instM m m.ep x.is, repM m x 4, []))
  else if x.k = 4 then (if m.le = true then (doneM m x.f, [], []) else (m, [], []))
  else if x.k = 5 then (if m.ba = true then ({ m with is := putI m.is (x.is.headD zeroIm) }, repM m x 6, []) else (m, [], []))
  else if x.k = 7 then (if m.ba = true then (m, repM m x 8, []) else (m, [], []))
  else if x.k = 6 ∨ x.k = 8 then (if m.tk.op = opOf x.k ∧ m.tk.nu = x.n then (if wthV m.tk.lf x.f = [] then ((finM (leftM m x.f)).1, [], (finM (leftM m x.f)).2) else (leftM m x.f, [], [])) else (m, [], []))
  else (m, [], [])
def heaR (m : Mb) (vs : List (List Int)) (x : Ms) : Prop := okMb m ∧ okViews vs ∧ okMs x ∧ x.o = m.id ∧ m.ep ≤ x.e ∧ x.e ≤ vs.length ∧ m.ep ≤ vs.length
instance (m : Mb) (vs : List (List Int)) (x : Ms) : Decidable (heaR m vs x) := by unfold heaR; infer_instance
def hearM (m : Mb) (vs : List (List Int)) (x : Ms) : Mb × List Ms × List Sd :=
  if heaR m vs x then
    (if x.e = m.ep then ownM m (vwA vs m.ep) x
    else if x.k = 1 ∧ x.e = m.ep + 1 ∧ m.ba = true ∧ m.id ∈ vwA vs m.ep then (bareM m x.e, [⟨2, m.id, x.f, x.e, 0, m.is⟩], [])
    else if x.k = 3 ∧ m.id ∈ vwA vs x.e ∧ (vwA vs x.e).headD 0 ≠ m.id then (instM m x.e x.is, repM m x 4, [])
    else (m, [], []))
  else (m, [], [])
def begR (m : Mb) (vs : List (List Int)) (op cl : Int) (key val : ByteArray) : Prop := okMb m ∧ okViews vs ∧ m.se = true ∧ m.tk.op = 0 ∧ m.cn < 900 ∧ (op = 1 ∨ op = 2) ∧ (0 ≤ cl ∧ cl ≤ 1000) ∧ (1 ≤ key.size ∧ key.size ≤ 12) ∧ val.size ≤ 20 ∧ (op = 2 → val = ⟨#[]⟩) ∧ m.ep ≤ vs.length ∧ (vwA vs m.ep).headD 0 = m.id
instance (m : Mb) (vs : List (List Int)) (op cl : Int) (key val : ByteArray) : Decidable (begR m vs op cl key val) := by unfold begR; infer_instance
def begI (m : Mb) (key val : ByteArray) : Im := ⟨key, val, 1000 * m.ep + (m.cn + 1)⟩
def begM (m : Mb) (vs : List (List Int)) (op cl : Int) (key val : ByteArray) : Mb := { m with cn := m.cn + 1, tk := ⟨op, cl, m.cn + 1, begI m key val, othV (vwA vs m.ep) m.id⟩ }
def askM (m : Mb) (vs : List (List Int)) (op : Int) (key val : ByteArray) : List Ms := (wthV (vwA vs m.ep) m.id).map (fun t => if op = 1 then ⟨5, m.id, t, m.ep, m.cn + 1, [begI m key val]⟩ else ⟨7, m.id, t, m.ep, m.cn + 1, []⟩)
def begB (m : Mb) (vs : List (List Int)) (op cl : Int) (key val : ByteArray) : Prop := begR m vs op cl key val ∧ (op = 1 → imOf (putI m.is (begI m key val)) key = begI m key val)
instance (m : Mb) (vs : List (List Int)) (op cl : Int) (key val : ByteArray) : Decidable (begB m vs op cl key val) := by unfold begB; infer_instance
def begin_ (m : Mb) (vs : List (List Int)) (op cl : Int) (key val : ByteArray) : Mb × List Ms × List Sd × Bool :=
  if begB m vs op cl key val then
    (if othV (vwA vs m.ep) m.id = [] then ((finM (begM m vs op cl key val)).1, [], (finM (begM m vs op cl key val)).2, true)
    else (begM m vs op cl key val, askM m vs op key val, [], true))
  else (zeroMb, [], [], false)
def fallM (m : Mb) : Mb := ⟨m.id, m.ep, true, false, false, false, [], [], 0, zeroTk⟩
end Go.Proofs.YtpjgplohlchpoaaGreatDoor
namespace Go.Proofs.YtpjgplohlchpoaaGreatDoor
open Go.ChangeShapes Go.WideShapes Go.ChangeAt Go.RowKit Go.Deep Go.Joins

set_option maxRecDepth 100000 in
theorem open_ints {H : Type} {enc : TypeId × Value → H} {w : World} {base fuel : Nat} {sp : Nat → Bool} {held : Bool} {cs : List Value} {x : DataW H × List MemPlace} (h : DataW.trod enc Tryz.prog w base sp held fuel 22 cs = some x) :
    ∃ (ao : Option Addr) (l : List Int) (ca : Nat), cs = [.slice ao l.length ca] ∧ RdZ w ao l ∧ l.length ≤ maxLen := by
  rcases open_slice Tryz.underlying22 h with ⟨rfl, _⟩ | ⟨a, len, cap, m, n, D, Pl, rfl, hb, hl, hm, hmm, _, hx⟩
  · exact ⟨none, [], 0, rfl, fun i hi => by simp at hi, Nat.zero_le _⟩
  have hlm : len ≤ m := by rw [hmm]; split <;> omega
  have hc : Tryz.prog.cellsOf 3 = 1 := by kernel_rfl
  have each : ∀ i, i < m → ∃ s : Int, w.cell? ((a.add (i * 1)).add 0) = some (.int .i64 s) := by
    intro i hi
    obtain ⟨cs', h1, h2⟩ := hx i hi
    rw [hc] at h1
    obtain ⟨_, hlen, hcell⟩ := World.cells?_some h1
    obtain ⟨s, e, _, _⟩ := DataW.trod_int Tryz.underlying3 h2
    refine ⟨s, ?_⟩
    rw [hcell 0 (by omega), e]
    rfl
  obtain ⟨S, hS⟩ := choose_lt each
  refine ⟨some a, (List.range len).map S, cap, by simp, ?_, by simp; omega⟩
  intro i hi
  have hi' : i < len := by simpa using hi
  have hci := hS i (by omega)
  obtain ⟨b, o, spot⟩ := a
  have hspot : spot = none := by
    have := hS 0 (by omega)
    simpa [Addr.add] using World.cell?_spot this
  subst hspot
  simp only [Addr.add_lit, Nat.mul_one, Nat.add_zero] at hci
  refine ⟨b, o, rfl, World.block_lt_of_cell? w _ hci, ?_⟩
  simp only [List.getElem_map, List.getElem_range]
  exact hci

set_option maxRecDepth 100000 in
theorem open_intsV {H : Type} {enc : TypeId × Value → H} {w : World} {r : Reach} {b0 base : Nat} {sp : Nat → Bool} {held : Bool} {v : Value} {d : DataW H} {p : List MemPlace} (hv : Value.okWide Tryz.prog w r b0 22 v) (h : DataW.Trod enc Tryz.prog w base sp held 22 v d p) :
    ∃ (ao : Option Addr) (l : List Int) (ca : Nat), v = .slice ao l.length ca ∧ RdZ w ao l ∧ l.length ≤ maxLen := by
  obtain ⟨a0, len0, cap0, rfl⟩ := okWide_slice Tryz.underlying22 hv
  obtain ⟨n, h0⟩ := h
  obtain ⟨ao, l, ca, e0, hR, hl⟩ := open_ints h0
  simp [Value.cells] at e0
  obtain ⟨rfl, rfl, rfl⟩ := e0
  exact ⟨_, l, _, rfl, hR, hl⟩

/-- A row of numbers that is the call's own, behind a bound. -/
def OwnK (w : World) (B : Nat) (ao : Option Addr) (c : Nat) (L : List Int) : Prop := w.ownsRow B 3 1 (.slice ao L.length c) L.length (iz L)
theorem OwnK.rd {w : World} {B c : Nat} {ao : Option Addr} {L : List Int} (h : OwnK w B ao c L) : RdZ w ao L := rdZ_of_own h
theorem OwnK.later {w w' : World} {B c : Nat} {ao : Option Addr} {L : List Int} (h : OwnK w B ao c L) (hb : Below w.heap.size w w') : OwnK w' B ao c L := own_kept h hb
theorem OwnK.base {w : World} {B B' c : Nat} {ao : Option Addr} {L : List Int} (h : OwnK w B ao c L) (hB : B' ≤ B) : OwnK w B' ao c L := own_base h hB
theorem OwnK.lt {w : World} {B c : Nat} {ao : Option Addr} {L : List Int} (h : OwnK w B ao c L) : ∀ g, (Value.slice ao L.length c).ownBlock = some g → B ≤ g ∧ g < w.heap.size := fun g e => World.ownsRow.lt h g e
theorem toIntS_own (ao : Option Addr) (l : List Int) (ca : Nat) (w : World) (hl : l.length ≤ 1048576) (hA : RdZ w ao l) :
    Calls Tryz.prog 27 #[.slice ao l.length ca] w fun e w' => ∃ b c, e = .returned (.slice b l.length c) ∧ OwnK w' w.heap.size b c l ∧ Below w.heap.size w w' := toIntS_any ao l ca w hl hA
theorem eqIntS_own (a b : Option Addr) (l : List Int) (ca cb : Nat) (w : World) (hl : l.length ≤ 1048576) (ha : RdZ w a l) (hb : RdZ w b l) :
    Calls Tryz.prog 34 #[.slice a l.length ca, .slice b l.length cb] w fun e w' => e = .returned (.bool true) ∧ Below w.heap.size w w' := by
  refine (eqIntS_any a b l l ca cb w hl ha hb).mono ?_
  rintro e w' ⟨x, rfl, hx, hb⟩
  rw [hx.2 rfl]
  exact ⟨rfl, hb⟩
theorem markIntS_own (ao : Option Addr) (c B : Nat) (l : List Int) (w : World) (hn : l.length ≤ 1048576) (hown : OwnK w B ao c l) :
    Calls Tryz.prog 38 #[.slice ao l.length c, .int .i64 1] w fun e w' => e = .returned (.int .i64 (1 + (l.length : Int))) ∧ RdZ w' ao (patZ 1 l.length) ∧ w.grownBy w' (Value.slice ao l.length c).ownBlock := by
  refine (markIntS_any ao c 1 B l w hn (by omega) hown).mono ?_
  rintro e w' ⟨rfl, h1, h2⟩
  rw [← patZ_length 1 l.length] at h1
  exact ⟨rfl, rdZ_of_own (by simpa [patZ_length] using h1), h2⟩
theorem heldIntS_own (ao : Option Addr) (n ca : Nat) (w : World) (hn : n ≤ 1048576) (hA : RdZ w ao (patZ 1 n)) :
    Calls Tryz.prog 41 #[.slice ao n ca, .int .i64 1] w fun e w' => e = .returned (.int .i64 (1 + (n : Int))) ∧ w' = w := heldIntS_any ao n ca 1 w hn (by omega) hA
end Go.Proofs.YtpjgplohlchpoaaGreatDoor
namespace Go.Proofs.YtpjgplohlchpoaaGreatDoor
open Go.RowKit
set_option linter.unusedVariables false

/-- Rows of numbers as rows of elements of one cell. -/
def zC (x : Int) : List Value := [.int .i64 x]
theorem encZ : EncK zC 1 := ⟨fun _ => rfl, fun x u hu => by simp only [zC, List.mem_cons, List.not_mem_nil, or_false] at hu; rcases hu with rfl; rfl⟩
theorem row_z (l : List Int) : rowG zC l = iz l := by
  induction l with
  | nil => rfl
  | cons a l ih => show zC a ++ rowG zC l = _; rw [ih]; rfl
theorem RdZ.g {w : World} {a : Option Addr} {l : List Int} (h : RdZ w a l) : RdG zC 1 w a l := fun i hi => by
  obtain ⟨b, o, h1, h2, h3⟩ := h i hi
  refine ⟨b, o, h1, h2, fun j hj => ?_⟩
  obtain rfl : j = 0 := by omega
  rw [Nat.mul_one, Nat.add_zero, h3]
  rfl
theorem RdG.z {w : World} {a : Option Addr} {l : List Int} (h : RdG zC 1 w a l) : RdZ w a l := fun i hi => by
  obtain ⟨b, o, h1, h2, h3⟩ := h i hi
  refine ⟨b, o, h1, h2, ?_⟩
  have := h3 0 (by omega)
  rw [Nat.mul_one, Nat.add_zero] at this
  exact this
theorem rowZ_k : RowK Tryz.prog 22 3 1 := rowK_mk Tryz.underlying22 Tryz.infoZ rfl (by decide) (by decide)
/-- Where the three rows of a member lie. -/
structure MA where
  wa : Option Addr
  wc : Nat
  ia : Option Addr
  ic : Nat
  la : Option Addr
  lc : Nat
def mbV (m : Mb) (A : MA) : Value := .agg #[.int .i64 m.id, .int .i64 m.ep, .bool m.fe, .bool m.ba, .bool m.le, .bool m.se, .slice A.wa m.wa.length A.wc, .slice A.ia m.is.length A.ic, .int .i64 m.cn, .int .i64 m.tk.op, .int .i64 m.tk.cl, .int .i64 m.tk.nu, .string m.tk.it.k, .string m.tk.it.v, .int .i64 m.tk.it.n, .slice A.la m.tk.lf.length A.lc]
structure RdMb (w : World) (m : Mb) (A : MA) : Prop where
  wr : RdZ w A.wa m.wa
  ir : RdG imC 3 w A.ia m.is
  lr : RdZ w A.la m.tk.lf
theorem RdMb.later {w w' : World} {m : Mb} {A : MA} (h : RdMb w m A) (hb : Below w.heap.size w w') : RdMb w' m A := ⟨h.wr.later hb, h.ir.later hb, h.lr.later hb⟩
/-- How much a member may hold. -/
structure SzMb (m : Mb) : Prop where
  wl : m.wa.length ≤ 1048576
  il : m.is.length ≤ 1048576
  ll : m.tk.lf.length ≤ 1048576
def noMA : MA := ⟨none, 0, none, 0, none, 0⟩
theorem RdMb.zero (w : World) : RdMb w zeroMb noMA := ⟨fun i hi => by simp [zeroMb] at hi, fun i hi => by simp [zeroMb] at hi, fun i hi => by simp [zeroMb, zeroTk] at hi⟩
/-- A message in a row, and where its items lie. -/
structure Mv where
  m : Ms
  a : Option Addr
  c : Nat
def mvC (x : Mv) : List Value := [.int .i64 x.m.k, .int .i64 x.m.f, .int .i64 x.m.o, .int .i64 x.m.e, .int .i64 x.m.n, .slice x.a x.m.is.length x.c]
theorem encMv : EncK mvC 6 := ⟨fun _ => rfl, fun x u hu => by simp only [mvC, List.mem_cons, List.not_mem_nil, or_false] at hu; rcases hu with rfl | rfl | rfl | rfl | rfl | rfl <;> rfl⟩
theorem Tryz.infoMv : (Tryz.prog.info? 61).map (fun i => (i.zero, i.size, i.bytes)) = some (some (.agg #[.int .i64 0, .int .i64 0, .int .i64 0, .int .i64 0, .int .i64 0, .slice none 0 0]), 6, 64) := by kernel_rfl
theorem rowMv : RowK Tryz.prog 39 61 6 := rowK_mk Tryz.underlying39 Tryz.infoMv rfl (by decide) (by decide)
structure RdMs (w : World) (a : Option Addr) (L : List Mv) : Prop where
  r : RdG mvC 6 w a L
  i : ∀ x ∈ L, RdG imC 3 w x.a x.m.is
theorem RdMs.later {w w' : World} {a : Option Addr} {L : List Mv} (h : RdMs w a L) (hb : Below w.heap.size w w') : RdMs w' a L := ⟨h.r.later hb, fun x hx => (h.i x hx).later hb⟩
theorem RdMs.nil (w : World) (a : Option Addr) : RdMs w a [] := ⟨RdG.nil _ _, fun x hx => by simp at hx⟩
/-- What is said, in a row. -/
def sdC (x : Sd) : List Value := [.int .i64 x.cl, .int .i64 x.ep, .int .i64 x.nu, .string x.it.k, .string x.it.v, .int .i64 x.it.n]
theorem encSd : EncK sdC 6 := ⟨fun _ => rfl, fun x u hu => by simp only [sdC, List.mem_cons, List.not_mem_nil, or_false] at hu; rcases hu with rfl | rfl | rfl | rfl | rfl | rfl <;> rfl⟩
theorem Tryz.infoSd : (Tryz.prog.info? 198).map (fun i => (i.zero, i.size, i.bytes)) = some (some (.agg #[.int .i64 0, .int .i64 0, .int .i64 0, .string ⟨#[]⟩, .string ⟨#[]⟩, .int .i64 0]), 6, 64) := by kernel_rfl
theorem rowSd : RowK Tryz.prog 71 198 6 := rowK_mk Tryz.underlying71 Tryz.infoSd rfl (by decide) (by decide)
theorem Tryz.infoMb : (Tryz.prog.info? 38).map (fun i => (i.zero, i.size, i.bytes)) = some (some (mbV zeroMb noMA), 16, 168) := by kernel_rfl
end Go.Proofs.YtpjgplohlchpoaaGreatDoor
namespace Go.Proofs.YtpjgplohlchpoaaGreatDoor
open Go.RowKit
set_option linter.unusedVariables false

theorem own_emptyZ (w : World) (B : Nat) (hB : B ≤ w.heap.size) : OwnK (w.alloc (.cells #[] 3)) B (some ⟨w.heap.size, 0, none⟩) 0 [] := by
  have h := own_none (k := 1) (enc := zC) (Blk.new w 3 #[]) hB
  exact h
theorem wth_next {l : List Int} {i : Nat} (hi : i < l.length) (x : Int) : wthV (l.take (i + 1)) x = wthV (l.take i) x ++ (if l[i] = x then [] else [l[i]]) := by
  unfold wthV
  rw [List.take_succ_eq_append_getElem hi, List.filter_append]
  congr 1
  by_cases c : l[i] = x <;> simp [c]
theorem wth_le (l : List Int) (x : Int) : (wthV l x).length ≤ l.length := List.length_filter_le _ _
theorem own_iz {w : World} {B n : Nat} {v : Value} {l : List Int} (h : w.ownsRow B 3 1 v n (iz l)) : ∃ b c, v = .slice b l.length c ∧ OwnK w B b c l ∧ n = l.length := by
  have hn : n = l.length := by have := h.1; rw [iz_length] at this; omega
  subst hn
  obtain ⟨b, c, rfl⟩ := form_of h
  exact ⟨b, c, rfl, h, rfl⟩
def othTo (v : List Int) (id : Int) (i : Nat) : List Int := ((List.range i).map (fun k : Nat => (k : Int) + 1)).filter (fun x => decide (x ≠ id) && decide (x ∈ v))
theorem oth_six (v : List Int) (id : Int) : othTo v id 6 = othV v id := rfl
theorem oth_le (v : List Int) (id : Int) (i : Nat) : (othTo v id i).length ≤ i := Nat.le_trans (List.length_filter_le _ _) (by simp)
theorem oth_to (v : List Int) (id : Int) (i : Nat) (h : i < 6) : othTo v id (i + 1) = othTo v id i ++ (if ((i : Int) + 1) ≠ id ∧ ((i : Int) + 1) ∈ v then [(i : Int) + 1] else []) := by
  unfold othTo
  rw [List.range_succ, List.map_append, List.filter_append]
  congr 1
  by_cases c : ((i : Int) + 1) ≠ id ∧ ((i : Int) + 1) ∈ v
  · rw [if_pos c]; simp [c.1, c.2]
  · rw [if_neg c]
    simp only [List.map_cons, List.map_nil]
    rw [List.filter_cons_of_neg (by simpa using c), List.filter_nil]
set_option maxRecDepth 100000 in
set_option maxHeartbeats 2000000 in
theorem specOthers_any (a : Option Addr) (l : List Int) (ca : Nat) (x : Int) (w : World) (hl : l.length ≤ 1000000) (hA : RdZ w a l) :
    Calls Tryz.prog 49 #[.slice a l.length ca, .int .i64 x] w fun e w' => ∃ b c, e = .returned (.slice b (othV l x).length c) ∧ OwnK w' w.heap.size b c (othV l x) ∧ Below w.heap.size w w' := by
  obtain ⟨i0, hi0, hz0, hz1, hz2⟩ := info_parts Tryz.infoZ
  have O0 := hide1 (own_emptyZ w w.heap.size (Nat.le_refl _))
  have B0 := hide1 ((Below.refl w.heap.size w).alloc (Nat.le_refl _) (.cells #[] 3))
  have CI := hide1 (fun (z : Int) w' (hb : Below w.heap.size w w') => specIn_any a l ca z w' (by omega) (hA.later hb))
  clear hA
  go_enter Tryz.func49, Tryz.ntmps49
  go_wp2
  generalize (w.alloc (.cells #[] 3)) = u at O0 B0 ⊢
  go_loopw [5, 6] (fun ov iv wr => ∃ (i : Nat) (b : Option Addr) (c : Nat), i ≤ 6 ∧ iv = .int .i64 ((i : Int) + 1) ∧ ov = .slice b (othTo l x i).length c ∧ Hid (OwnK wr w.heap.size b c (othTo l x i)) ∧ Hid (Below w.heap.size w wr)) (fun _ iv _ => 7 - (intOf iv).toNat)
  case atStart => exact ⟨0, _, _, Nat.zero_le _, rfl, rfl, O0, B0⟩
  case round =>
    obtain ⟨i, b, c, hi, rfl, rfl, HO, BB⟩ := hrel
    by_cases hlt : i < 6
    · have k1 : (i : Int) + 1 ≤ 6 := by omega
      have NX := hide1 (oth_to l x i hlt)
      have hle := oth_le l x i
      have CJ := hide1 (CI.out ((i : Int) + 1) wr BB.out)
      obtain ⟨y, hy⟩ : ∃ y, y = (i : Int) + 1 := ⟨_, rfl⟩
      have HY := hide1 hy
      rw [← hy] at k1 NX CJ ⊢
      have y7 : y ≤ 6 := k1
      have y0 : 0 ≤ y := by omega
      generalize othTo l x i = acc at *
      clear hy
      by_cases cy : y = x
      · rw [if_neg (fun h => h.1 cy), List.append_nil] at NX
        have q : (y != x) = false := by simp [cy]
        clear cy CJ
        go_wp2
        go_roundw
        case rel => exact ⟨i + 1, b, c, by omega, by have := HY.out; go_num, by rw [NX.out], by rw [NX.out]; exact HO, BB⟩
        case measure => have := HY.out; simp [intOf]; omega
      · have q : (y != x) = true := by simp [cy]
        by_cases cm : y ∈ l
        · rw [if_pos ⟨cy, cm⟩] at NX
          rw [decide_eq_true cm] at CJ
          have hown : wr.ownsRow w.heap.size 3 1 (.slice b acc.length c) acc.length (iz acc) := HO.out
          have hs2 : w.heap.size ≤ wr.heap.size := BB.out.size
          clear cy cm HO
          go_wp2_with fail
          refine CJ.out.mono ?_
          rintro e w5 ⟨rfl, rfl⟩
          go_wp2_with (at_builtin; (refine wpList_push1 rfl _ _ 22 rfl w.heap.size 3 i0 (.int .i64 0) 8 Tryz.underlying22 hi0 hz0 hz1 hz2 rfl (by decide) _ acc.length (iz acc) rfl hown (.int .i64 y) rfl rfl (by omega) hs2 ?_; intro v' w7 hown' hb'))
          go_roundw
          case rel =>
            have h8 : w7.ownsRow w.heap.size 3 1 v' (acc.length + 1) (iz (acc ++ [y])) := by rw [iz_append]; exact hown'
            obtain ⟨b', c', rfl, h9, _⟩ := own_iz h8
            exact ⟨i + 1, b', c', by omega, by have := HY.out; go_num, by rw [NX.out], by rw [NX.out]; exact hide1 h9, hide1 (BB.out.trans hb')⟩
          case measure => have := HY.out; simp [intOf]; omega
        · rw [if_neg (fun h => cm h.2), List.append_nil] at NX
          rw [decide_eq_false cm] at CJ
          clear cy cm
          go_wp2_with fail
          refine CJ.out.mono ?_
          rintro e w5 ⟨rfl, rfl⟩
          go_wp2
          go_roundw
          case rel => exact ⟨i + 1, b, c, by omega, by have := HY.out; go_num, by rw [NX.out], by rw [NX.out]; exact HO, BB⟩
          case measure => have := HY.out; simp [intOf]; omega
    · obtain rfl : i = 6 := by omega
      rw [oth_six] at HO ⊢
      go_wp2
      go_ret
      exact ⟨b, c, rfl, HO.out, BB.out⟩
end Go.Proofs.YtpjgplohlchpoaaGreatDoor
