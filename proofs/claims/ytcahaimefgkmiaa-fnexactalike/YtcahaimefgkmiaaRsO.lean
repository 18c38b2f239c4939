/- Rows of members, of messages, of views, and groups that came in. -/
import Derived.Test.YtcahaimefgkmiaaRsM
import Derived.Test.YtcahaimefgkmiaaRsX
import Derived.Test.YtcahaimefgkmiaaToCl
import Derived.ProofKit
import Derived.OpenShut
namespace Go.Proofs.Ytcahaimefgkmiaa
open Go.ChangeShapes Go.WideShapes Go.ChangeAt Go.RowKit Go.Deep Go.Joins
set_option linter.unusedVariables false

instance : Inhabited Mr := ⟨⟨zeroMb, noMA⟩⟩
instance : Inhabited Mv := ⟨⟨⟨0, 0, 0, 0, 0, []⟩, none, 0⟩⟩
/-- A group in memory: where its rows lie. -/
structure Gv where
  va : Option Addr
  vc : Nat
  M : List Vw
  ma : Option Addr
  mc : Nat
  L : List Mr
  fa : Option Addr
  fc : Nat
  N : List Mv
  ca : Option Addr
  cc : Nat
  C : List Cl
def grA (g : Gv) : Array Value := #[.slice g.va g.M.length g.vc, .slice g.ma g.L.length g.mc, .slice g.fa g.N.length g.fc, .slice g.ca g.C.length g.cc]
structure RdGp (w : World) (g : Gv) : Prop where
  v : RdVs w g.va g.M
  m : RdMrs w g.ma g.L
  f : RdMvs w g.fa g.N
  c : RdG clC 9 w g.ca g.C
theorem RdGp.later {w w' : World} {g : Gv} (h : RdGp w g) (hb : Below w.heap.size w w') : RdGp w' g := ⟨h.v.later hb, h.m.later hb, h.f.later hb, h.c.later hb⟩
structure SzGp (g : Gv) : Prop where
  vl : g.M.length ≤ maxLen
  vs : ∀ x ∈ g.M, x.l.length ≤ maxLen
  ml : g.L.length ≤ maxLen
  ms : ∀ x ∈ g.L, SMr x
  fl : g.N.length ≤ maxLen
  fs : ∀ x ∈ g.N, SMv x
  cl : g.C.length ≤ maxLen
  cs : ∀ x ∈ g.C, wfCall x
/-- How much a group may hold. -/
structure SmGp (g : Gv) : Prop where
  vl : g.M.length ≤ 1048576
  vs : ∀ x ∈ g.M, x.l.length ≤ 1048576
  ml : g.L.length ≤ 1048576
  ms : ∀ x ∈ g.L, ZMr x
  fl : g.N.length ≤ 1048576
  fs : ∀ x ∈ g.N, ZMv x
  cl : g.C.length ≤ 1048576
/-- The same group, wherever it lies. -/
structure SaGp (g h : Gv) : Prop where
  v : h.M.map (·.l) = g.M.map (·.l)
  m : h.L.map (·.m) = g.L.map (·.m)
  f : h.N.map (·.m) = g.N.map (·.m)
  c : h.C = g.C
set_option maxRecDepth 100000 in
theorem open_memberE {H : Type} {enc : TypeId × Value → H} {w : World} {base fuel : Nat} {sp : Nat → Bool} {held : Bool} {cs : List Value} {x : DataW H × List MemPlace} (h : DataW.trod enc Try.prog w base sp held fuel 96 cs = some x) :
    ∃ s : Mr, cs = mrC s ∧ RMr w s ∧ SMr s := by
  obtain ⟨xs, n, _, _, hlen, hxl, hf⟩ := DataW.trod_struct Try.underlying96 h
  have hc : Try.prog.cellsOf 96 = 16 := by kernel_rfl
  rw [hc] at hlen
  match xs, hxl, cs, hlen with
  | [q0, q1, q2, q3, q4, q5, q6, q7, q8, q9], _, [u0, u1, u2, u3, u4, u5, u6, u7, u8, u9, u10, u11, u12, u13, u14, u15], _ =>
    have g0 := hf 0 _ rfl
    have g1 := hf 1 _ rfl
    have g2 := hf 2 _ rfl
    have g3 := hf 3 _ rfl
    have g4 := hf 4 _ rfl
    have g5 := hf 5 _ rfl
    have g6 := hf 6 _ rfl
    have g7 := hf 7 _ rfl
    have g8 := hf 8 _ rfl
    have g9 := hf 9 _ rfl
    have ci : Try.prog.cellsOf 3 = 1 := by kernel_rfl
    have cb : Try.prog.cellsOf 4 = 1 := by kernel_rfl
    have c6 : Try.prog.cellsOf 62 = 1 := by kernel_rfl
    have c7 : Try.prog.cellsOf 91 = 1 := by kernel_rfl
    have c9 : Try.prog.cellsOf 94 = 7 := by kernel_rfl
    simp [ci, cb, c6, c7, c9] at g0 g1 g2 g3 g4 g5 g6 g7 g8 g9
    obtain ⟨n0, e0, _, w0⟩ := DataW.trod_int Try.underlying3 g0
    obtain ⟨n1, e1, _, w1⟩ := DataW.trod_int Try.underlying3 g1
    obtain ⟨f2, e2, _⟩ := DataW.trod_bool Try.underlying4 g2
    obtain ⟨f3, e3, _⟩ := DataW.trod_bool Try.underlying4 g3
    obtain ⟨f4, e4, _⟩ := DataW.trod_bool Try.underlying4 g4
    obtain ⟨f5, e5, _⟩ := DataW.trod_bool Try.underlying4 g5
    obtain ⟨a6, l6, k6, e6, r6, m6⟩ := open_ints g6
    obtain ⟨a7, l7, k7, e7, r7, m7, h7⟩ := open_itemsE g7
    obtain ⟨n8, e8, _, w8⟩ := DataW.trod_int Try.underlying3 g8
    obtain ⟨t9, a9, k9, e9, r9, m9, i9, o9, p9, q9⟩ := open_taskE g9
    simp at e0 e1 e2 e3 e4 e5 e6 e7 e8 e9
    obtain ⟨rfl, rfl, rfl, rfl, rfl, rfl, rfl⟩ := e9
    subst e0 e1 e2 e3 e4 e5 e6 e7 e8
    exact ⟨⟨⟨n0, n1, f2, f3, f4, f5, l6, l7, n8, t9⟩, ⟨a6, k6, a7, k7, a9, k9⟩⟩, rfl, ⟨r6, r7, r9⟩, ⟨⟨m6, m7, m9⟩, h7, i9⟩⟩
set_option maxRecDepth 100000 in
theorem open_msgE {H : Type} {enc : TypeId × Value → H} {w : World} {base fuel : Nat} {sp : Nat → Bool} {held : Bool} {cs : List Value} {x : DataW H × List MemPlace} (h : DataW.trod enc Try.prog w base sp held fuel 99 cs = some x) :
    ∃ s : Mv, cs = mvC s ∧ RMv w s ∧ SMv s := by
  obtain ⟨xs, n, _, _, hlen, hxl, hf⟩ := DataW.trod_struct Try.underlying99 h
  have hc : Try.prog.cellsOf 99 = 6 := by kernel_rfl
  rw [hc] at hlen
  match xs, hxl, cs, hlen with
  | [q0, q1, q2, q3, q4, q5], _, [u0, u1, u2, u3, u4, u5], _ =>
    have g0 := hf 0 _ rfl
    have g1 := hf 1 _ rfl
    have g2 := hf 2 _ rfl
    have g3 := hf 3 _ rfl
    have g4 := hf 4 _ rfl
    have g5 := hf 5 _ rfl
    have ci : Try.prog.cellsOf 3 = 1 := by kernel_rfl
    have c5 : Try.prog.cellsOf 91 = 1 := by kernel_rfl
    simp [ci, c5] at g0 g1 g2 g3 g4 g5
    obtain ⟨n0, e0, _, w0⟩ := DataW.trod_int Try.underlying3 g0
    obtain ⟨n1, e1, _, w1⟩ := DataW.trod_int Try.underlying3 g1
    obtain ⟨n2, e2, _, w2⟩ := DataW.trod_int Try.underlying3 g2
    obtain ⟨n3, e3, _, w3⟩ := DataW.trod_int Try.underlying3 g3
    obtain ⟨n4, e4, _, w4⟩ := DataW.trod_int Try.underlying3 g4
    obtain ⟨a5, l5, k5, e5, r5, m5, f5⟩ := open_itemsE g5
    simp at e0 e1 e2 e3 e4 e5
    subst e0 e1 e2 e3 e4 e5
    exact ⟨⟨⟨n0, n1, n2, n3, n4, l5⟩, a5, k5⟩, rfl, r5, ⟨m5, f5⟩⟩
set_option maxRecDepth 100000 in
theorem open_membersE {H : Type} {enc : TypeId × Value → H} {w : World} {base fuel : Nat} {sp : Nat → Bool} {held : Bool} {cs : List Value} {x : DataW H × List MemPlace} (h : DataW.trod enc Try.prog w base sp held fuel 37 cs = some x) :
    ∃ (ao : Option Addr) (l : List Mr) (ca : Nat), cs = [.slice ao l.length ca] ∧ RdMrs w ao l ∧ l.length ≤ maxLen ∧ ∀ s ∈ l, SMr s := by
  rcases open_slice Try.underlying37 h with ⟨rfl, _⟩ | ⟨a, len, cap, m, n, D, Pl, rfl, hb, hl, hm, hmm, _, hx⟩
  · exact ⟨none, [], 0, rfl, ⟨RdG.nil _ _, fun x hx => by simp at hx⟩, Nat.zero_le _, fun i hi => by simp at hi⟩
  have hlm : len ≤ m := by rw [hmm]; split <;> omega
  have hc : Try.prog.cellsOf 96 = 16 := by kernel_rfl
  obtain ⟨ao, l, ca, e1, h1, h2, h3⟩ := open_rowG (cap := cap) (P := fun s : Mr => RMr w s ∧ SMr s) encMr (by decide) (.inr (Nat.le_trans hl hm)) hlm (fun i hi => by
    obtain ⟨cs', h1, h2⟩ := hx i hi
    rw [hc] at h1
    obtain ⟨_, hlen, hcell⟩ := World.cells?_some h1
    obtain ⟨s, rfl, hw⟩ := open_memberE h2
    exact ⟨s, hw, fun j hj => hcell j (by omega)⟩)
  exact ⟨ao, l, ca, e1, ⟨h1, fun s hs => (h3 s hs).1⟩, h2, fun s hs => (h3 s hs).2⟩
set_option maxRecDepth 100000 in
theorem open_msgsE {H : Type} {enc : TypeId × Value → H} {w : World} {base fuel : Nat} {sp : Nat → Bool} {held : Bool} {cs : List Value} {x : DataW H × List MemPlace} (h : DataW.trod enc Try.prog w base sp held fuel 38 cs = some x) :
    ∃ (ao : Option Addr) (l : List Mv) (ca : Nat), cs = [.slice ao l.length ca] ∧ RdMvs w ao l ∧ l.length ≤ maxLen ∧ ∀ s ∈ l, SMv s := by
  rcases open_slice Try.underlying38 h with ⟨rfl, _⟩ | ⟨a, len, cap, m, n, D, Pl, rfl, hb, hl, hm, hmm, _, hx⟩
  · exact ⟨none, [], 0, rfl, ⟨RdG.nil _ _, fun x hx => by simp at hx⟩, Nat.zero_le _, fun i hi => by simp at hi⟩
  have hlm : len ≤ m := by rw [hmm]; split <;> omega
  have hc : Try.prog.cellsOf 99 = 6 := by kernel_rfl
  obtain ⟨ao, l, ca, e1, h1, h2, h3⟩ := open_rowG (cap := cap) (P := fun s : Mv => RMv w s ∧ SMv s) encMv (by decide) (.inr (Nat.le_trans hl hm)) hlm (fun i hi => by
    obtain ⟨cs', h1, h2⟩ := hx i hi
    rw [hc] at h1
    obtain ⟨_, hlen, hcell⟩ := World.cells?_some h1
    obtain ⟨s, rfl, hw⟩ := open_msgE h2
    exact ⟨s, hw, fun j hj => hcell j (by omega)⟩)
  exact ⟨ao, l, ca, e1, ⟨h1, fun s hs => (h3 s hs).1⟩, h2, fun s hs => (h3 s hs).2⟩
set_option maxRecDepth 100000 in
theorem open_viewsE {H : Type} {enc : TypeId × Value → H} {w : World} {base fuel : Nat} {sp : Nat → Bool} {held : Bool} {cs : List Value} {x : DataW H × List MemPlace} (h : DataW.trod enc Try.prog w base sp held fuel 36 cs = some x) :
    ∃ (ao : Option Addr) (L : List Vw) (ca : Nat), cs = [.slice ao L.length ca] ∧ RdVs w ao L ∧ L.length ≤ maxLen ∧ ∀ x ∈ L, x.l.length ≤ maxLen := by
  rcases open_slice Try.underlying36 h with ⟨rfl, _⟩ | ⟨a, len, cap, m, n, D, Pl, rfl, hb, hl, hm, hmm, _, hx⟩
  · exact ⟨none, [], 0, rfl, ⟨RdG.nil _ _, fun x hx => by simp at hx, fun x hx => by simp at hx⟩, Nat.zero_le _, fun x hx => by simp at hx⟩
  have hlm : len ≤ m := by rw [hmm]; split <;> omega
  have hc : Try.prog.cellsOf 62 = 1 := by kernel_rfl
  obtain ⟨ao, L, ca, e1, h1, h2, h3⟩ := open_rowG (cap := cap) (P := fun s : Vw => RdZ w s.a s.l ∧ s.l.length ≤ s.c ∧ s.l.length ≤ maxLen) encVw (by decide) (.inr (Nat.le_trans hl hm)) hlm (fun i hi => by
    obtain ⟨cs', h1, h2⟩ := hx i hi
    rw [hc] at h1
    obtain ⟨_, hlen, hcell⟩ := World.cells?_some h1
    obtain ⟨s, rfl, hw⟩ := open_intsC h2
    exact ⟨s, hw, fun j hj => hcell j (by omega)⟩)
  exact ⟨ao, L, ca, e1, ⟨h1, fun s hs => (h3 s hs).1, fun s hs => (h3 s hs).2.1⟩, h2, fun s hs => (h3 s hs).2.2⟩
set_option maxRecDepth 100000 in
/-- A group that came in. -/
theorem open_group {H : Type} {enc : TypeId × Value → H} {w : World} {r : Reach} {b0 base : Nat} {sp : Nat → Bool} {held : Bool} {v : Value} {d : DataW H} {p : List MemPlace} (hv : Value.okWide Try.prog w r b0 40 v) (h : DataW.Trod enc Try.prog w base sp held 40 v d p) :
    ∃ g : Gv, v = .agg (grA g) ∧ RdGp w g ∧ SzGp g := by
  obtain ⟨cs, rfl, hsz⟩ := okWide_struct Try.underlying40 hv
  have hc : Try.prog.cellsOf 40 = 4 := by kernel_rfl
  rw [hc] at hsz
  obtain ⟨fuel, hf0⟩ := h
  obtain ⟨xs, n, _, _, hlen, hxl, hf⟩ := DataW.trod_struct Try.underlying40 hf0
  obtain ⟨cl⟩ := cs
  match xs, hxl, cl, hsz with
  | [q0, q1, q2, q3], _, [u0, u1, u2, u3], _ =>
    have g0 := hf 0 _ rfl
    have g1 := hf 1 _ rfl
    have g2 := hf 2 _ rfl
    have g3 := hf 3 _ rfl
    have c0 : Try.prog.cellsOf 36 = 1 := by kernel_rfl
    have c1 : Try.prog.cellsOf 37 = 1 := by kernel_rfl
    have c2 : Try.prog.cellsOf 38 = 1 := by kernel_rfl
    have c3 : Try.prog.cellsOf 29 = 1 := by kernel_rfl
    simp [c0, c1, c2, c3, Value.cells] at g0 g1 g2 g3
    obtain ⟨va, M, vc, e0, r0, m0, s0⟩ := open_viewsE g0
    obtain ⟨ma, L, mc, e1, r1, m1, s1⟩ := open_membersE g1
    obtain ⟨fa, N, fc, e2, r2, m2, s2⟩ := open_msgsE g2
    obtain ⟨ca, C, cc, e3, r3, m3, s3⟩ := open_callsE g3
    simp at e0 e1 e2 e3
    subst e0 e1 e2 e3
    exact ⟨⟨va, vc, M, ma, mc, L, fa, fc, N, ca, cc, C⟩, rfl, ⟨r0, r1, r2, r3⟩, ⟨m0, s0, m1, s1, m2, s2, m3, s3⟩⟩
end Go.Proofs.Ytcahaimefgkmiaa
