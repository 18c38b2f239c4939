/- Decisions in memory: rows of voices, tries, notes, texts, numbers; a council in a variable. -/
import Derived.Test.YtgehdgmllilmgaaYB
import Derived.Test.YtgehdgmllilmgaaYV
import Derived.Test.YtgehdgmllilmgaaYR
namespace Go.Proofs.Ytgehdgmllilmgaa
open Go.RowKit
set_option linter.unusedVariables false

def voC (x : Vo) : List Value := [.int .i64 x.p, .int .i64 x.t, .string x.v]
def izE (x : Int) : List Value := [.int .i64 x]
def txE (x : ByteArray) : List Value := [.string x]
def hpC (e : Hp) : List Value := [.int .i64 e.k, .int .i64 e.i, .int .i64 e.a, .string e.v]
/-- A try in memory: where its promises and takers lie. -/
structure Tm where
  y : Ty
  pa : Option Addr
  pc : Nat
  ka : Option Addr
  kc : Nat
def tmC (t : Tm) : List Value := [.int .i64 t.y.i, .int .i64 t.y.b, .string t.y.v, .slice t.pa t.y.ps.length t.pc, .bool t.y.as, .slice t.ka t.y.tk.length t.kc, .bool t.y.ch]
theorem encV : EncK voC 3 := ⟨fun _ => rfl, fun x u hu => by simp only [voC, List.mem_cons, List.not_mem_nil, or_false] at hu; rcases hu with rfl | rfl | rfl <;> rfl⟩
theorem encN : EncK ntC 6 := ⟨fun _ => rfl, fun x u hu => by simp only [ntC, List.mem_cons, List.not_mem_nil, or_false] at hu; rcases hu with rfl | rfl | rfl | rfl | rfl | rfl <;> rfl⟩
theorem encT : EncK tmC 7 := ⟨fun _ => rfl, fun x u hu => by simp only [tmC, List.mem_cons, List.not_mem_nil, or_false] at hu; rcases hu with rfl | rfl | rfl | rfl | rfl | rfl | rfl <;> rfl⟩
theorem encZ : EncK izE 1 := ⟨fun _ => rfl, fun x u hu => by simp only [izE, List.mem_cons, List.not_mem_nil, or_false] at hu; rcases hu with rfl; rfl⟩
theorem encX : EncK txE 1 := ⟨fun _ => rfl, fun x u hu => by simp only [txE, List.mem_cons, List.not_mem_nil, or_false] at hu; rcases hu with rfl; rfl⟩
theorem encH : EncK hpC 4 := ⟨fun _ => rfl, fun x u hu => by simp only [hpC, List.mem_cons, List.not_mem_nil, or_false] at hu; rcases hu with rfl | rfl | rfl | rfl <;> rfl⟩
theorem Try.infoV : (Try.prog.info? 43).map (fun i => (i.zero, i.size, i.bytes)) = some (some (.agg #[.int .i64 0, .int .i64 0, .string ⟨#[]⟩]), 3, 32) := by kernel_rfl
theorem Try.infoN : (Try.prog.info? 111).map (fun i => (i.zero, i.size, i.bytes)) = some (some (.agg #[.int .i64 0, .int .i64 0, .int .i64 0, .int .i64 0, .int .i64 0, .string ⟨#[]⟩]), 6, 56) := by kernel_rfl
theorem Try.infoT : (Try.prog.info? 47).map (fun i => (i.zero, i.size, i.bytes)) = some (some (.agg #[.int .i64 0, .int .i64 0, .string ⟨#[]⟩, .slice none 0 0, .bool false, .slice none 0 0, .bool false]), 7, 96) := by kernel_rfl
theorem Try.infoZ : (Try.prog.info? 3).map (fun i => (i.zero, i.size, i.bytes)) = some (some (.int .i64 0), 1, 8) := by kernel_rfl
theorem Try.infoX : (Try.prog.info? 9).map (fun i => (i.zero, i.size, i.bytes)) = some (some (.string ⟨#[]⟩), 1, 16) := by kernel_rfl
theorem Try.infoH : (Try.prog.info? 40).map (fun i => (i.zero, i.size, i.bytes)) = some (some (.agg #[.int .i64 0, .int .i64 0, .int .i64 0, .string ⟨#[]⟩]), 4, 40) := by kernel_rfl
theorem rowK_of {P : Program} {t e : TypeId} {k b : Nat} {z : Value} (hs : P.underlying t = some (.slice e)) (h : (P.info? e).map (fun i => (i.zero, i.size, i.bytes)) = some (some z, k, b)) (hz : z.cells.size = k) (hb : b ≤ 128) (hk : 0 < k) : RowK P t e k := by
  refine ⟨hs, ?_, hk⟩
  cases hi : P.info? e with
  | none => rw [hi] at h; cases h
  | some i =>
    rw [hi] at h
    simp only [Option.map_some, Option.some.injEq, Prod.mk.injEq] at h
    exact ⟨i, z, b, rfl, h.1, h.2.1, h.2.2, hz, hb⟩
theorem rowV : RowK Try.prog 27 43 3 := rowK_of Try.underlying27 Try.infoV rfl (by decide) (by decide)
theorem rowN : RowK Try.prog 29 111 6 := rowK_of Try.underlying29 Try.infoN rfl (by decide) (by decide)
theorem rowT : RowK Try.prog 28 47 7 := rowK_of Try.underlying28 Try.infoT rfl (by decide) (by decide)
theorem rowZ : RowK Try.prog 33 3 1 := rowK_of Try.underlying33 Try.infoZ rfl (by decide) (by decide)
theorem rowX : RowK Try.prog 30 9 1 := rowK_of Try.underlying30 Try.infoX rfl (by decide) (by decide)
theorem rowH : RowK Try.prog 24 40 4 := rowK_of Try.underlying24 Try.infoH rfl (by decide) (by decide)

/-- A row does not lie in a block. -/
def NeA (lo : Nat → Prop) (B : Nat) (a : Option Addr) (n : Nat) : Prop := ∀ b o, a = some ⟨b, o, none⟩ → 0 < n → b ≠ B ∧ lo b
/-- All blocks from here on may be a row's. -/
def LoLe (lo : Nat → Prop) (m : Nat) : Prop := ∀ b, m ≤ b → lo b
theorem LoLe.trans {lo : Nat → Prop} {m n : Nat} (h : LoLe lo m) (hn : m ≤ n) : LoLe lo n := fun b hb => h b (Nat.le_trans hn hb)
theorem LoLe.all (m : Nat) : LoLe (fun _ => True) m := fun _ _ => trivial
theorem LoLe.of {m n : Nat} (h : m ≤ n) : LoLe (fun b => m ≤ b) n := fun b hb => Nat.le_trans h hb
section
variable {α : Type} {enc : α → List Value} {k : Nat} {lo : Nat → Prop}
theorem RdG.grown {w w' : World} {a : Option Addr} {l : List α} {B : Nat} (h : RdG enc k w a l) (hb : w.grownBy w' (some B)) (hn : NeA lo B a l.length) : RdG enc k w' a l := by
  intro i hi
  obtain ⟨b, o, ha, hg, hc⟩ := h i hi
  refine ⟨b, o, ha, Nat.lt_of_lt_of_le hg hb.size, fun j hj => ?_⟩
  rw [← hc j hj]
  have := hb.block b hg (fun e => (hn b o ha (by omega)).1 (by injection e))
  simp only [World.cell?, this]
theorem RdG.set {w : World} {a : Option Addr} {l : List α} {B : Nat} (h : RdG enc k w a l) (hn : NeA lo B a l.length) (j : Nat) (v : Value) : RdG enc k (w.setCell ⟨B, j, none⟩ v) a l := h.grown (gset (World.grownBy.refl _ _) j v) hn
theorem RdG.drew {w : World} {a : Option Addr} {l : List α} (h : RdG enc k w a l) : RdG enc k w.drew a l := h
/-- An own row that reads, apart from a block that was there. -/
theorem own_ne {w : World} {base n ca B m : Nat} {e : TypeId} {a : Option Addr} {xs : List Value} (h : w.ownsRow base e k (.slice a n ca) n xs) (hB : B < base) (hl : LoLe lo base) : NeA lo B a m := by
  rcases h.2 with ⟨hv, _⟩ | ⟨g, cap, cur, hv, hg, _⟩
  · injection hv with h1; subst h1; intro b o e; cases e
  · injection hv with h1
    subst h1
    intro b o e _
    injection e with e
    injection e with e1 e2
    exact ⟨by omega, hl b (by omega)⟩
theorem own_neE {w : World} {base n ca B m : Nat} {e : TypeId} {a : Option Addr} {xs : List Value} (h : w.ownsRow base e k (.slice a n ca) n xs) (hB : B < base ∨ w.heap.size ≤ B) (hl : LoLe lo base) : NeA lo B a m := by
  rcases h.2 with ⟨hv, _⟩ | ⟨g, cap, cur, hv, hg, hh, _⟩
  · injection hv with h1; subst h1; intro b o e; cases e
  · injection hv with h1
    subst h1
    have := (Array.getElem?_eq_some_iff.1 hh).1
    intro b o e _
    injection e with e
    injection e with e1 e2
    exact ⟨by omega, hl b (by omega)⟩
theorem own_le {w : World} {base n ca : Nat} {e : TypeId} {a : Option Addr} {xs : List Value} (h : w.ownsRow base e k (.slice a n ca) n xs) : n ≤ ca := by
  rcases h.2 with ⟨hv, h0⟩ | ⟨g, cap, cur, hv, _, _, hc, _⟩
  · omega
  · injection hv with h1 h2 h3
    omega
theorem own_form {w : World} {base n : Nat} {e : TypeId} {v : Value} {xs : List Value} (h : w.ownsRow base e k v n xs) : ∃ a ca, v = .slice a n ca := by
  rcases h.2 with ⟨rfl, h0⟩ | ⟨g, cap, cur, rfl, _⟩
  · exact ⟨none, 0, by rw [h0]⟩
  · exact ⟨_, _, rfl⟩
end
/-- Where a council's rows lie. -/
structure CA where
  va : Option Addr
  vc : Nat
  ta : Option Addr
  tc : Nat
  na : Option Addr
  nc : Nat
  ca : Option Addr
  cc : Nat
  L : List Tm
def cnC (A : CA) (c : Cn) : List Value := [.slice A.va c.vs.length A.vc, .slice A.ta c.ts.length A.tc, .slice A.na c.ns.length A.nc, .slice A.ca c.ch.length A.cc]
def TmR (lo : Nat → Prop) (w : World) (B : Nat) (t : Tm) : Prop := RdG ntC 6 w t.pa t.y.ps ∧ NeA lo B t.pa t.y.ps.length ∧ RdG izE 1 w t.ka t.y.tk ∧ NeA lo B t.ka t.y.tk.length
theorem TmR.grown {lo : Nat → Prop} {w w' : World} {B : Nat} {t : Tm} (h : TmR lo w B t) (hb : w.grownBy w' (some B)) : TmR lo w' B t := ⟨h.1.grown hb h.2.1, h.2.1, h.2.2.1.grown hb h.2.2.2, h.2.2.2⟩
/-- The rows of a council, apart from block B. -/
structure RdC12 (lo : Nat → Prop) (w : World) (B : Nat) (A : CA) (d : Cn) : Prop where
  v : RdG voC 3 w A.va d.vs
  vn : NeA lo B A.va d.vs.length
  e : A.L.map (·.y) = d.ts
  t : RdG tmC 7 w A.ta A.L
  tn : NeA lo B A.ta A.L.length
  r : ∀ t ∈ A.L, TmR lo w B t
  n : RdG ntC 6 w A.na d.ns
  nn : NeA lo B A.na d.ns.length
  nl : d.ns.length ≤ A.nc
  c : RdG txE 1 w A.ca d.ch
  cn : NeA lo B A.ca d.ch.length
theorem RdC12.grown {lo : Nat → Prop} {w w' : World} {B : Nat} {A : CA} {c : Cn} (h : RdC12 lo w B A c) (hb : w.grownBy w' (some B)) : RdC12 lo w' B A c :=
  ⟨h.v.grown hb h.vn, h.vn, h.e, h.t.grown hb h.tn, h.tn, fun t ht => (h.r t ht).grown hb, h.n.grown hb h.nn, h.nn, h.nl, h.c.grown hb h.cn, h.cn⟩
/-- A council in a variable. -/
structure VaC (lo : Nat → Prop) (w : World) (B : Nat) (A : CA) (c : Cn) : Prop where
  b : Blk w B 32 (cnC A c)
  lw : LoLe lo w.heap.size
  r : RdC12 lo w B A c
theorem VaC.len {lo : Nat → Prop} {w : World} {B : Nat} {A : CA} {c : Cn} (h : VaC lo w B A c) : A.L.length = c.ts.length := by rw [← h.r.e, List.length_map]
/-- A try of a council, as it is loaded. -/
theorem RdG.at {α : Type} {enc : α → List Value} {k : Nat} {w : World} {a : Option Addr} {l : List α} (h : RdG enc k w a l) (i : Nat) (hi : i < l.length) : ∃ b o, a = some ⟨b, o, none⟩ ∧ b < w.heap.size ∧ ∀ j, j < k → w.cell? ⟨b, o + i * k + j, none⟩ = (enc l[i])[j]? := h i hi
end Go.Proofs.Ytgehdgmllilmgaa
namespace Go.Proofs.Ytgehdgmllilmgaa
open Go.RowKit
set_option linter.unusedVariables false
variable {lo : Nat → Prop}

theorem Below.toG {w w' : World} {B : Nat} (h : Below w.heap.size w w') : w.grownBy w' (some B) := gnew h
section
variable {w w5 : World} {B base : Nat} {A : CA} {c : Cn} {b : Option Addr} {k : Nat}
theorem VaC.later (h : VaC lo w B A c) (hw : Below w.heap.size w w5) : VaC lo w5 B A c := ⟨h.b.below hw h.b.lt, h.lw.trans hw.size, h.r.grown (gnew hw)⟩
theorem VaC.drew (h : VaC lo w B A c) : VaC lo w.drew B A c := h.later (Below.refl _ _).drew
theorem VaC.putV {l : List Vo} (h : VaC lo w B A c) (hw : Below w.heap.size w w5) (ho : w5.ownsRow base 43 3 (.slice b l.length k) l.length (rowG voC l)) (hB : B < base) (hl : LoLe lo base) :
    VaC lo (w5.setCell ⟨B, 0, none⟩ (.slice b l.length k)) B { A with va := b, vc := k } { c with vs := l } := by
  have r := (h.later hw).r.grown (gset (World.grownBy.refl w5 (some B)) 0 (.slice b l.length k))
  exact ⟨(h.later hw).b.set 0 _, by rw [World.size_setCell]; exact (h.later hw).lw, ⟨(rdG_of_own encV.len ho rfl).set (own_ne ho hB hl) 0 _, own_ne ho hB hl, r.e, r.t, r.tn, r.r, r.n, r.nn, r.nl, r.c, r.cn⟩⟩
theorem VaC.putT {L : List Tm} (h : VaC lo w B A c) (hw : Below w.heap.size w w5) (ho : w5.ownsRow base 47 7 (.slice b L.length k) L.length (rowG tmC L)) (hB : B < base) (hl : LoLe lo base) (hL : ∀ t ∈ L, TmR lo w5 B t) :
    VaC lo (w5.setCell ⟨B, 1, none⟩ (.slice b L.length k)) B { A with ta := b, tc := k, L := L } { c with ts := L.map (·.y) } := by
  have r := (h.later hw).r.grown (gset (World.grownBy.refl w5 (some B)) 1 (.slice b L.length k))
  refine ⟨?_, by rw [World.size_setCell]; exact (h.later hw).lw, ⟨r.v, r.vn, rfl, (rdG_of_own encT.len ho rfl).set (own_ne ho hB hl) 1 _, own_ne ho hB hl, fun t ht => (hL t ht).grown (gset (World.grownBy.refl w5 (some B)) 1 _), r.n, r.nn, r.nl, r.c, r.cn⟩⟩
  have := (h.later hw).b.set 1 (.slice b L.length k)
  have e : (cnC A c).set 1 (.slice b L.length k) = cnC { A with ta := b, tc := k, L := L } { c with ts := L.map (·.y) } := by simp [cnC]
  rw [e] at this
  exact this
theorem VaC.putN {l : List Nt} (h : VaC lo w B A c) (hw : Below w.heap.size w w5) (ho : w5.ownsRow base 111 6 (.slice b l.length k) l.length (rowG ntC l)) (hB : B < base) (hl : LoLe lo base) :
    VaC lo (w5.setCell ⟨B, 2, none⟩ (.slice b l.length k)) B { A with na := b, nc := k } { c with ns := l } := by
  have r := (h.later hw).r.grown (gset (World.grownBy.refl w5 (some B)) 2 (.slice b l.length k))
  exact ⟨(h.later hw).b.set 2 _, by rw [World.size_setCell]; exact (h.later hw).lw, ⟨r.v, r.vn, r.e, r.t, r.tn, r.r, (rdG_of_own encN.len ho rfl).set (own_ne ho hB hl) 2 _, own_ne ho hB hl, own_le ho, r.c, r.cn⟩⟩
theorem VaC.putC {l : List ByteArray} (h : VaC lo w B A c) (hw : Below w.heap.size w w5) (ho : w5.ownsRow base 9 1 (.slice b l.length k) l.length (rowG txE l)) (hB : B < base) (hl : LoLe lo base) :
    VaC lo (w5.setCell ⟨B, 3, none⟩ (.slice b l.length k)) B { A with ca := b, cc := k } { c with ch := l } := by
  have r := (h.later hw).r.grown (gset (World.grownBy.refl w5 (some B)) 3 (.slice b l.length k))
  exact ⟨(h.later hw).b.set 3 _, by rw [World.size_setCell]; exact (h.later hw).lw, ⟨r.v, r.vn, r.e, r.t, r.tn, r.r, r.n, r.nn, r.nl, (rdG_of_own encX.len ho rfl).set (own_ne ho hB hl) 3 _, own_ne ho hB hl⟩⟩
theorem put_grown (hw : Below w.heap.size w w5) (j : Nat) (v : Value) : w.grownBy (w5.setCell ⟨B, j, none⟩ v) (some B) := gset (gnew hw) j v
end
end Go.Proofs.Ytgehdgmllilmgaa
