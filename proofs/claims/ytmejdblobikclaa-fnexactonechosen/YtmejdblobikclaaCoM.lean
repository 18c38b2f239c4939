/- Decisions in memory: rows of voices, tries, notes, texts, numbers; a council in a variable. -/
import Derived.Test.YtmejdblobikclaaCoP
import Derived.Test.YtmejdblobikclaaBaV
import Derived.Test.YtmejdblobikclaaRowH
import Derived.Test.YtmejdblobikclaaBaR
namespace Go.Proofs.Ytmejdblobikclaa
open Go.RowKit
set_option linter.unusedVariables false

def voC (x : Vo) : List Value := [.int .i64 x.p, .int .i64 x.t, .string x.v]
def izE (x : Int) : List Value := [.int .i64 x]
def txE (x : ByteArray) : List Value := [.string x]
def hpC (e : Hp) : List Value := [.int .i64 e.k, .int .i64 e.i, .int .i64 e.a, .string e.v]
/-- A try in memory: where its promises and takers lie. -/
structure Tm where
  y : Ty
  pa : Option Addr
  pc : Nat
  ka : Option Addr
  kc : Nat
def tmC (t : Tm) : List Value := [.int .i64 t.y.i, .int .i64 t.y.b, .string t.y.v, .slice t.pa t.y.ps.length t.pc, .bool t.y.as, .slice t.ka t.y.tk.length t.kc, .bool t.y.ch]
theorem encV : EncK voC 3 := ⟨fun _ => rfl, fun x u hu => by simp only [voC, List.mem_cons, List.not_mem_nil, or_false] at hu; rcases hu with rfl | rfl | rfl <;> rfl⟩
theorem encN : EncK ntC 6 := ⟨fun _ => rfl, fun x u hu => by simp only [ntC, List.mem_cons, List.not_mem_nil, or_false] at hu; rcases hu with rfl | rfl | rfl | rfl | rfl | rfl <;> rfl⟩
theorem encT : EncK tmC 7 := ⟨fun _ => rfl, fun x u hu => by simp only [tmC, List.mem_cons, List.not_mem_nil, or_false] at hu; rcases hu with rfl | rfl | rfl | rfl | rfl | rfl | rfl <;> rfl⟩
theorem encZ : EncK izE 1 := ⟨fun _ => rfl, fun x u hu => by simp only [izE, List.mem_cons, List.not_mem_nil, or_false] at hu; rcases hu with rfl; rfl⟩
theorem encX : EncK txE 1 := ⟨fun _ => rfl, fun x u hu => by simp only [txE, List.mem_cons, List.not_mem_nil, or_false] at hu; rcases hu with rfl; rfl⟩
theorem encH : EncK hpC 4 := ⟨fun _ => rfl, fun x u hu => by simp only [hpC, List.mem_cons, List.not_mem_nil, or_false] at hu; rcases hu with rfl | rfl | rfl | rfl <;> rfl⟩
theorem Try.infoV : (Try.prog.info? 43).map (fun i => (i.zero, i.size, i.bytes)) = some (some (.agg #[.int .i64 0, .int .i64 0, .string ⟨#[]⟩]), 3, 32) := by kernel_rfl
theorem Try.infoN : (Try.prog.info? 111).map (fun i => (i.zero, i.size, i.bytes)) = some (some (.agg #[.int .i64 0, .int .i64 0, .int .i64 0, .int .i64 0, .int .i64 0, .string ⟨#[]⟩]), 6, 56) := by kernel_rfl
theorem Try.infoT : (Try.prog.info? 47).map (fun i => (i.zero, i.size, i.bytes)) = some (some (.agg #[.int .i64 0, .int .i64 0, .string ⟨#[]⟩, .slice none 0 0, .bool false, .slice none 0 0, .bool false]), 7, 96) := by kernel_rfl
theorem Try.infoZ : (Try.prog.info? 3).map (fun i => (i.zero, i.size, i.bytes)) = some (some (.int .i64 0), 1, 8) := by kernel_rfl
theorem Try.infoX : (Try.prog.info? 9).map (fun i => (i.zero, i.size, i.bytes)) = some (some (.string ⟨#[]⟩), 1, 16) := by kernel_rfl
theorem Try.infoH : (Try.prog.info? 40).map (fun i => (i.zero, i.size, i.bytes)) = some (some (.agg #[.int .i64 0, .int .i64 0, .int .i64 0, .string ⟨#[]⟩]), 4, 40) := by kernel_rfl
theorem rowK_of {P : Program} {t e : TypeId} {k b : Nat} {z : Value} (hs : P.underlying t = some (.slice e)) (h : (P.info? e).map (fun i => (i.zero, i.size, i.bytes)) = some (some z, k, b)) (hz : z.cells.size = k) (hb : b ≤ 128) (hk : 0 < k) : RowK P t e k := by
  refine ⟨hs, ?_, hk⟩
  cases hi : P.info? e with
  | none => rw [hi] at h; cases h
  | some i =>
    rw [hi] at h
    simp only [Option.map_some, Option.some.injEq, Prod.mk.injEq] at h
    exact ⟨i, z, b, rfl, h.1, h.2.1, h.2.2, hz, hb⟩
theorem rowV : RowK Try.prog 27 43 3 := rowK_of Try.underlying27 Try.infoV rfl (by decide) (by decide)
theorem rowN : RowK Try.prog 29 111 6 := rowK_of Try.underlying29 Try.infoN rfl (by decide) (by decide)
theorem rowT : RowK Try.prog 28 47 7 := rowK_of Try.underlying28 Try.infoT rfl (by decide) (by decide)
theorem rowZ : RowK Try.prog 33 3 1 := rowK_of Try.underlying33 Try.infoZ rfl (by decide) (by decide)
theorem rowX : RowK Try.prog 30 9 1 := rowK_of Try.underlying30 Try.infoX rfl (by decide) (by decide)
theorem rowH : RowK Try.prog 24 40 4 := rowK_of Try.underlying24 Try.infoH rfl (by decide) (by decide)

/-- A row does not lie in a block. -/
def NeA (lo B : Nat) (a : Option Addr) : Prop := ∀ b o, a = some ⟨b, o, none⟩ → b ≠ B ∧ lo ≤ b
section
variable {α : Type} {enc : α → List Value} {k lo : Nat}
theorem RdG.grown {w w' : World} {a : Option Addr} {l : List α} {B : Nat} (h : RdG enc k w a l) (hb : w.grownBy w' (some B)) (hn : NeA lo B a) : RdG enc k w' a l := by
  intro i hi
  obtain ⟨b, o, ha, hg, hc⟩ := h i hi
  refine ⟨b, o, ha, Nat.lt_of_lt_of_le hg hb.size, fun j hj => ?_⟩
  rw [← hc j hj]
  have := hb.block b hg (fun e => (hn b o ha).1 (by injection e))
  simp only [World.cell?, this]
theorem RdG.set {w : World} {a : Option Addr} {l : List α} {B : Nat} (h : RdG enc k w a l) (hn : NeA lo B a) (j : Nat) (v : Value) : RdG enc k (w.setCell ⟨B, j, none⟩ v) a l := h.grown (gset (World.grownBy.refl _ _) j v) hn
theorem RdG.drew {w : World} {a : Option Addr} {l : List α} (h : RdG enc k w a l) : RdG enc k w.drew a l := h
/-- An own row that reads, apart from a block that was there. -/
theorem own_ne {w : World} {base n ca B : Nat} {e : TypeId} {a : Option Addr} {xs : List Value} (h : w.ownsRow base e k (.slice a n ca) n xs) (hB : B < base) (hl : lo ≤ base) : NeA lo B a := by
  rcases h.2 with ⟨hv, _⟩ | ⟨g, cap, cur, hv, hg, _⟩
  · injection hv with h1; subst h1; intro b o e; cases e
  · injection hv with h1
    subst h1
    intro b o e
    injection e with e
    injection e with e1 e2
    omega
theorem own_neE {w : World} {base n ca B : Nat} {e : TypeId} {a : Option Addr} {xs : List Value} (h : w.ownsRow base e k (.slice a n ca) n xs) (hB : B < base ∨ w.heap.size ≤ B) (hl : lo ≤ base) : NeA lo B a := by
  rcases h.2 with ⟨hv, _⟩ | ⟨g, cap, cur, hv, hg, hh, _⟩
  · injection hv with h1; subst h1; intro b o e; cases e
  · injection hv with h1
    subst h1
    have := (Array.getElem?_eq_some_iff.1 hh).1
    intro b o e
    injection e with e
    injection e with e1 e2
    omega
theorem own_le {w : World} {base n ca : Nat} {e : TypeId} {a : Option Addr} {xs : List Value} (h : w.ownsRow base e k (.slice a n ca) n xs) : n ≤ ca := by
  rcases h.2 with ⟨hv, h0⟩ | ⟨g, cap, cur, hv, _, _, hc, _⟩
  · omega
  · injection hv with h1 h2 h3
    omega
theorem own_form {w : World} {base n : Nat} {e : TypeId} {v : Value} {xs : List Value} (h : w.ownsRow base e k v n xs) : ∃ a ca, v = .slice a n ca := by
  rcases h.2 with ⟨rfl, h0⟩ | ⟨g, cap, cur, rfl, _⟩
  · exact ⟨none, 0, by rw [h0]⟩
  · exact ⟨_, _, rfl⟩
end
/-- Where a council's rows lie. -/
structure CA where
  va : Option Addr
  vc : Nat
  ta : Option Addr
  tc : Nat
  na : Option Addr
  nc : Nat
  ca : Option Addr
  cc : Nat
  L : List Tm
def cnC (A : CA) (c : Cn) : List Value := [.slice A.va c.vs.length A.vc, .slice A.ta c.ts.length A.tc, .slice A.na c.ns.length A.nc, .slice A.ca c.ch.length A.cc]
def TmR (lo : Nat) (w : World) (B : Nat) (t : Tm) : Prop := RdG ntC 6 w t.pa t.y.ps ∧ NeA lo B t.pa ∧ RdG izE 1 w t.ka t.y.tk ∧ NeA lo B t.ka
theorem TmR.grown {lo : Nat} {w w' : World} {B : Nat} {t : Tm} (h : TmR lo w B t) (hb : w.grownBy w' (some B)) : TmR lo w' B t := ⟨h.1.grown hb h.2.1, h.2.1, h.2.2.1.grown hb h.2.2.2, h.2.2.2⟩
/-- The rows of a council, apart from block B. -/
structure RdC12 (lo : Nat) (w : World) (B : Nat) (A : CA) (c : Cn) : Prop where
  v : RdG voC 3 w A.va c.vs
  vn : NeA lo B A.va
  e : A.L.map (·.y) = c.ts
  t : RdG tmC 7 w A.ta A.L
  tn : NeA lo B A.ta
  r : ∀ t ∈ A.L, TmR lo w B t
  n : RdG ntC 6 w A.na c.ns
  nn : NeA lo B A.na
  nl : c.ns.length ≤ A.nc
  c : RdG txE 1 w A.ca c.ch
  cn : NeA lo B A.ca
theorem RdC12.grown {lo : Nat} {w w' : World} {B : Nat} {A : CA} {c : Cn} (h : RdC12 lo w B A c) (hb : w.grownBy w' (some B)) : RdC12 lo w' B A c :=
  ⟨h.v.grown hb h.vn, h.vn, h.e, h.t.grown hb h.tn, h.tn, fun t ht => (h.r t ht).grown hb, h.n.grown hb h.nn, h.nn, h.nl, h.c.grown hb h.cn, h.cn⟩
/-- A council in a variable. -/
structure VaC (lo : Nat) (w : World) (B : Nat) (A : CA) (c : Cn) : Prop where
  b : Blk w B 32 (cnC A c)
  lw : lo ≤ w.heap.size
  r : RdC12 lo w B A c
theorem VaC.len {lo : Nat} {w : World} {B : Nat} {A : CA} {c : Cn} (h : VaC lo w B A c) : A.L.length = c.ts.length := by rw [← h.r.e, List.length_map]
/-- A try of a council, as it is loaded. -/
theorem RdG.at {α : Type} {enc : α → List Value} {k : Nat} {w : World} {a : Option Addr} {l : List α} (h : RdG enc k w a l) (i : Nat) (hi : i < l.length) : ∃ b o, a = some ⟨b, o, none⟩ ∧ b < w.heap.size ∧ ∀ j, j < k → w.cell? ⟨b, o + i * k + j, none⟩ = (enc l[i])[j]? := h i hi
end Go.Proofs.Ytmejdblobikclaa
