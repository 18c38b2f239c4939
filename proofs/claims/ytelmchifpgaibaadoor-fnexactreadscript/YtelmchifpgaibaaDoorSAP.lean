/- Members in the statements' words: copied, compared, sized, opened. -/
import Derived.Test.YtelmchifpgaibaaDoorSAL
import Derived.Test.YtelmchifpgaibaaDoorSAO
import Derived.Deep.DeepCutAuto
import Derived.Test.YtelmchifpgaibaaDoorSAG
import Derived.Test.YtelmchifpgaibaaDoorSAI
import Derived.Test.YtelmchifpgaibaaDoorSAB
import Derived.Deep.RegionHeld3
import Derived.Test.YtelmchifpgaibaaDoorSAM
import Derived.Laws.Rows
import Derived.Laws.Tables
import Derived.Test.YtelmchifpgaibaaDoorGrP
import Derived.Test.YtelmchifpgaibaaDoorSAN
import Derived.Test.YtelmchifpgaibaaDoorSAH
namespace Go.Proofs.YtelmchifpgaibaaDoor
open Go.ChangeShapes Go.WideShapes Go.ChangeAt Go.RowKit Go.Deep Go.Joins
set_option linter.unusedVariables false

/-- A variable, a result, a box: what the copying of a struct holds. -/
structure To3 (w wr : World) (tb tq : TypeId) (bx rs cs : List Value) : Prop where
  box : Blk wr w.heap.size tb bx
  res : Blk wr (w.heap.size + 1) tq rs
  out : Blk wr (w.heap.size + 1 + 1) tq cs
  bel : Below w.heap.size w wr
theorem To3.later {w wr w2 : World} {tb tq : TypeId} {bx rs cs : List Value} (h : To3 w wr tb tq bx rs cs) (hb : Below wr.heap.size wr w2) : To3 w w2 tb tq bx rs cs :=
  ⟨h.box.below hb h.box.lt, h.res.below hb h.res.lt, h.out.below hb h.out.lt, h.bel.trans (hb.mono h.bel.size)⟩
theorem To3.set {w wr : World} {tb tq : TypeId} {bx rs cs : List Value} (h : To3 w wr tb tq bx rs cs) (j : Nat) (u : Value) : To3 w (wr.setCell ⟨w.heap.size + 1 + 1, j, none⟩ u) tb tq bx rs (cs.set j u) :=
  ⟨h.box.far _ _ (by dsimp only; omega), h.res.far _ _ (by dsimp only; omega), h.out.set j u, h.bel.setCell (p := ⟨w.heap.size + 1 + 1, j, none⟩) (by dsimp only; omega) _⟩
theorem To3.size {w wr : World} {tb tq : TypeId} {bx rs cs : List Value} (h : To3 w wr tb tq bx rs cs) : w.heap.size + 1 + 1 + 1 ≤ wr.heap.size := h.out.lt
theorem own_farB (g : Nat) {w : World} {base n k : Nat} {e : TypeId} {v : Value} {xs : List Value} (h : w.ownsRow base e k v n xs) (hg : g < base) (j : Nat) (u : Value) : (w.setCell ⟨g, j, none⟩ u).ownsRow base e k v n xs := own_far h ⟨g, j, none⟩ u (fun q hq => by have := (h.lt q hq).1; dsimp only; omega)
/-- A member's three rows are its own, and apart. -/
structure OwnMb (w : World) (B : Nat) (m : Mb) (A : MA) : Prop where
  wo : w.ownsRow B 3 1 (.slice A.wa m.wa.length A.wc) m.wa.length (iz m.wa)
  io : w.ownsRow B 76 3 (.slice A.ia m.is.length A.ic) m.is.length (rowG imC m.is)
  lo : w.ownsRow B 3 1 (.slice A.la m.tk.lf.length A.lc) m.tk.lf.length (iz m.tk.lf)
  wi : ∀ g, (Value.slice A.wa m.wa.length A.wc).ownBlock = some g → (Value.slice A.ia m.is.length A.ic).ownBlock ≠ some g
  wl : ∀ g, (Value.slice A.wa m.wa.length A.wc).ownBlock = some g → (Value.slice A.la m.tk.lf.length A.lc).ownBlock ≠ some g
  il : ∀ g, (Value.slice A.ia m.is.length A.ic).ownBlock = some g → (Value.slice A.la m.tk.lf.length A.lc).ownBlock ≠ some g
theorem OwnMb.rd {w : World} {B : Nat} {m : Mb} {A : MA} (h : OwnMb w B m A) : RdMb w m A := ⟨rdZ_of_own h.wo, rdG_of_own encIm.1 h.io rfl, rdZ_of_own h.lo⟩
theorem OwnMb.later {w w' : World} {B : Nat} {m : Mb} {A : MA} (h : OwnMb w B m A) (hb : Below w.heap.size w w') : OwnMb w' B m A := ⟨own_kept h.wo hb, own_kept h.io hb, own_kept h.lo hb, h.wi, h.wl, h.il⟩
theorem OwnMb.base {w : World} {B B' : Nat} {m : Mb} {A : MA} (h : OwnMb w B m A) (hB : B' ≤ B) : OwnMb w B' m A := ⟨own_base h.wo hB, own_base h.io hB, own_base h.lo hB, h.wi, h.wl, h.il⟩
def inI (x : Int) : Prop := -9223372036854775808 ≤ x ∧ x ≤ 9223372036854775807
structure WfMb (m : Mb) : Prop where
  wl : m.wa.length ≤ maxLen
  il : m.is.length ≤ maxLen
  ll : m.tk.lf.length ≤ maxLen
  is : ∀ s ∈ m.is, wfItem s
  it : wfItem m.tk.it
  id : inI m.id
  ep : inI m.ep
  cn : inI m.cn
  op : inI m.tk.op
  cl : inI m.tk.cl
  nu : inI m.tk.nu
end Go.Proofs.YtelmchifpgaibaaDoor
namespace Go.Proofs.YtelmchifpgaibaaDoor
open Go.RowKit
set_option linter.unusedVariables false

section
variable {α : Type} {enc : α → List Value} {kk : Nat} (m : Nat → α) (s k : Nat)
/-- The elements that are marked from k on, s numbers each. -/
def patG (n : Nat) : List α := (List.range n).map (fun i => m (k + s * i))
theorem patG_length (n : Nat) : (patG m s k n).length = n := by simp [patG]
theorem patG_at (n i : Nat) (h : i < (patG m s k n).length) : (patG m s k n)[i] = m (k + s * i) := by simp [patG]
theorem patG_next (n : Nat) : patG m s k (n + 1) = patG m s k n ++ [m (k + s * n)] := by simp [patG, List.range_succ]
/-- A row whose first elements are marked. -/
def mkG (enc : α → List Value) (kk : Nat) (xs : List Value) (i : Nat) : List Value := rowG enc (patG m s k i) ++ xs.drop (i * kk)
theorem mkG_zero (xs : List Value) : mkG m s k enc kk xs 0 = xs := by simp [mkG, patG, rowG]
theorem mkG_length (E : EncK enc kk) (xs : List Value) (i : Nat) (h : i * kk ≤ xs.length) : (mkG m s k enc kk xs i).length = xs.length := by
  unfold mkG
  rw [List.length_append, rowG_length enc kk E.len, patG_length, List.length_drop]
  omega
theorem mkG_next (E : EncK enc kk) (xs : List Value) (i : Nat) (h : i * kk + kk ≤ xs.length) : setL (mkG m s k enc kk xs i) (i * kk) (enc (m (k + s * i))) = mkG m s k enc kk xs (i + 1) := by
  have hl : (rowG enc (patG m s k i)).length = i * kk := by rw [rowG_length enc kk E.len, patG_length]
  rw [setL_eq _ _ _ (by rw [mkG_length m s k E xs i (by omega), E.len]; omega), E.len]
  unfold mkG
  rw [List.take_left' hl, List.drop_append, List.drop_eq_nil_of_le (by omega), hl, List.nil_append, List.drop_drop, patG_next, rowG_join, show i * kk + (i * kk + kk - i * kk) = (i + 1) * kk by rw [Nat.add_mul]; omega]
  simp [rowG]
theorem mkG_all (E : EncK enc kk) (xs : List Value) (n : Nat) (h : xs.length = n * kk) : mkG m s k enc kk xs n = rowG enc (patG m s k n) := by
  unfold mkG
  rw [List.drop_eq_nil_of_le (by omega), List.append_nil]
end
end Go.Proofs.YtelmchifpgaibaaDoor
namespace Go.Proofs.YtelmchifpgaibaaDoor
open Go.RowKit
set_option linter.unusedVariables false

def mIm (q : Nat) : Im := ⟨mkT (q + 0), mkT (q + 1), (q : Int) + 1 + 1⟩
theorem mark_atItem (z : Int) (n : Nat) (w : World) (hz : z = (n : Int)) (hn : n ≤ 9223372036854775807) (h0 : 0 < n) : Calls Tryd.prog 22 #[.int .i64 z] w fun e w' => e = .returned (.string (mkT n)) ∧ Below w.heap.size w w' := by subst hz; exact markText_any n w hn h0

end Go.Proofs.YtelmchifpgaibaaDoor
namespace Go.Proofs.YtelmchifpgaibaaDoor
open Go.RowKit
set_option linter.unusedVariables false

/-- A member whose rows are marked from q on. -/
def mkMb (m : Mb) (q : Nat) : Mb := { m with wa := patZ q m.wa.length, is := patG mIm 3 (q + m.wa.length) m.is.length, tk := { m.tk with lf := patZ (q + m.wa.length + 3 * m.is.length) m.tk.lf.length } }
/-- A block that holds none of a member's rows. -/
def OffMb (m : Mb) (A : MA) (g : Nat) : Prop := (Value.slice A.wa m.wa.length A.wc).ownBlock ≠ some g ∧ (Value.slice A.ia m.is.length A.ic).ownBlock ≠ some g ∧ (Value.slice A.la m.tk.lf.length A.lc).ownBlock ≠ some g
theorem OwnMb.off {w : World} {B g : Nat} {m : Mb} {A : MA} (h : OwnMb w B m A) (hg : g < B ∨ w.heap.size ≤ g) : OffMb m A g := ⟨fun e => by have := h.wo.lt g e; omega, fun e => by have := h.io.lt g e; omega, fun e => by have := h.lo.lt g e; omega⟩
def mkN (m : Mb) (q : Nat) : Nat := q + m.wa.length + 3 * m.is.length + m.tk.lf.length
theorem own_blk {w : World} {B n k : Nat} {e : TypeId} {v : Value} {xs : List Value} (h : w.ownsRow B e k v n xs) : ∀ g, v.ownBlock = some g → B ≤ g := fun g hg => (h.lt g hg).1
/-- A member without rows, count or task. -/
def bareB (i e : Int) (f b l s : Bool) : Mb := ⟨i, e, f, b, l, s, [], [], 0, zeroTk⟩
theorem sz_bare (i e : Int) (f b l s : Bool) : SzMb (bareB i e f b l s) := ⟨by simp [bareB], by simp [bareB], by simp [bareB, zeroTk]⟩
theorem rd_bare (w : World) (i e : Int) (f b l s : Bool) : RdMb w (bareB i e f b l s) noMA := ⟨fun i hi => by simp [bareB] at hi, fun i hi => by simp [bareB] at hi, fun i hi => by simp [bareB, zeroTk] at hi⟩
theorem rd_bare2 (w : World) (i e : Int) (f b l s : Bool) (q : Nat) : RdMb w (mkMb (bareB i e f b l s) q) noMA := ⟨fun i hi => by simp [bareB, mkMb, patZ] at hi, fun i hi => by simp [bareB, mkMb, patG] at hi, fun i hi => by simp [bareB, zeroTk, mkMb, patZ] at hi⟩
theorem own_bare (w : World) (B : Nat) (i e : Int) (f b l s : Bool) : OwnMb w B (bareB i e f b l s) noMA := ⟨World.ownsRow_nil _ _ _ _, World.ownsRow_nil _ _ _ _, World.ownsRow_nil _ _ _ _, fun g h => by simp [noMA, Value.ownBlock] at h, fun g h => by simp [noMA, Value.ownBlock] at h, fun g h => by simp [noMA, Value.ownBlock] at h⟩
theorem off_bare (i e : Int) (f b l s : Bool) (g : Nat) : OffMb (bareB i e f b l s) noMA g := ⟨fun h => by simp [noMA, Value.ownBlock] at h, fun h => by simp [noMA, Value.ownBlock] at h, fun h => by simp [noMA, Value.ownBlock] at h⟩
end Go.Proofs.YtelmchifpgaibaaDoor
namespace Go.Proofs.YtelmchifpgaibaaDoor
open Go.RowKit
set_option linter.unusedVariables false

/-- A member's cells. -/
def mbA (m : Mb) (A : MA) : Array Value := #[.int .i64 m.id, .int .i64 m.ep, .bool m.fe, .bool m.ba, .bool m.le, .bool m.se, .slice A.wa m.wa.length A.wc, .slice A.ia m.is.length A.ic, .int .i64 m.cn, .int .i64 m.tk.op, .int .i64 m.tk.cl, .int .i64 m.tk.nu, .string m.tk.it.k, .string m.tk.it.v, .int .i64 m.tk.it.n, .slice A.la m.tk.lf.length A.lc]
def zMb : Array Value := #[.int .i64 0, .int .i64 0, .bool false, .bool false, .bool false, .bool false, .slice none 0 0, .slice none 0 0, .int .i64 0, .int .i64 0, .int .i64 0, .int .i64 0, .string ⟨#[]⟩, .string ⟨#[]⟩, .int .i64 0, .slice none 0 0]
theorem mbV_A (m : Mb) (A : MA) : mbV m A = .agg (mbA m A) := rfl
theorem oneMb (m : Mb) (A : MA) : (mbA m A).all (·.oneCell') = true := by simp [mbA, Value.oneCell']
theorem lenMb (m : Mb) (A : MA) : (mbA m A).size = 16 := rfl
end Go.Proofs.YtelmchifpgaibaaDoor
namespace Go.Proofs.YtelmchifpgaibaaDoor
open Go.RowKit
set_option linter.unusedVariables false

/-- A member in a row, and where its rows lie. -/
structure Mr where
  m : Mb
  a : MA
def mrC (x : Mr) : List Value := (mbA x.m x.a).toList
theorem encMr : EncK mrC 16 := ⟨fun _ => rfl, fun x u hu => by have h := oneMb x.m x.a; exact (Array.all_eq_true_iff_forall_mem.1 h) u (by simpa [mrC] using hu)⟩
theorem rowVw : RowK Tryd.prog 22 35 1 := rowK_mk Tryd.underlying22 Tryd.infoVw rfl (by decide) (by decide)
theorem RdG.gr {α : Type} {enc : α → List Value} {k : Nat} {w w' : World} {a : Option Addr} {l : List α} {r : Option Nat} (h : RdG enc k w a l) (hg : w.grownBy w' r) (hn : ∀ b o, a = some ⟨b, o, none⟩ → 0 < l.length → r ≠ some b) : RdG enc k w' a l := by
  intro i hi
  obtain ⟨b, o, ha, hl, hc⟩ := h i hi
  refine ⟨b, o, ha, Nat.lt_of_lt_of_le hl hg.size, fun j hj => ?_⟩
  rw [← hc j hj]
  exact World.cell?_of_block (hg.block b hl (fun e => hn b o ha (by omega) e.symm))
theorem RdZ.gr {w w' : World} {a : Option Addr} {l : List Int} {r : Option Nat} (h : RdZ w a l) (hg : w.grownBy w' r) (hn : ∀ b o, a = some ⟨b, o, none⟩ → 0 < l.length → r ≠ some b) : RdZ w' a l := (h.g.gr hg hn).z
theorem RdG.farX {α : Type} {enc : α → List Value} {k : Nat} {w : World} {a : Option Addr} {l : List α} (h : RdG enc k w a l) {g : Nat} (j : Nat) (u : Value) (hn : ∀ b o, a = some ⟨b, o, none⟩ → 0 < l.length → b ≠ g) : RdG enc k (w.setCell ⟨g, j, none⟩ u) a l := by
  intro i hi
  obtain ⟨b, o, ha, hg, hc⟩ := h i hi
  refine ⟨b, o, ha, by simpa using hg, fun q hq => ?_⟩
  rw [← hc q hq]
  exact World.cell?_of_block (Below.heap_setCell _ _ _ _ (hn b o ha (by omega)))
/-- A row that lies at lo or above (an empty one lies anywhere). -/
def LoA (lo : Nat) (a : Option Addr) (n : Nat) : Prop := ∀ q o, a = some ⟨q, o, none⟩ → 0 < n → lo ≤ q
theorem LoA.mono {lo lo' : Nat} {a : Option Addr} {n : Nat} (h : LoA lo a n) (hl : lo' ≤ lo) : LoA lo' a n := fun q o e hn => Nat.le_trans hl (h q o e hn)
theorem lo_of_own {w : World} {B n c k m : Nat} {e : TypeId} {b : Option Addr} {xs : List Value} (h : w.ownsRow B e k (.slice b n c) n xs) : LoA B b m := fun q o e hn => by subst e; exact (h.lt q rfl).1
/-- Views that lie at lo or above. -/
structure LoVs (lo : Nat) (b : Option Addr) (M : List Vw) : Prop where
  r : LoA lo b M.length
  v : ∀ x ∈ M, LoA lo x.a x.l.length
theorem LoVs.mono {lo lo' : Nat} {b : Option Addr} {M : List Vw} (h : LoVs lo b M) (hl : lo' ≤ lo) : LoVs lo' b M := ⟨h.r.mono hl, fun x hx => (h.v x hx).mono hl⟩
theorem RdVs.far {w : World} {b : Option Addr} {M : List Vw} {lo g : Nat} (h : RdVs w b M) (hl : LoVs lo b M) (hg : g < lo) (j : Nat) (u : Value) : RdVs (w.setCell ⟨g, j, none⟩ u) b M :=
  ⟨h.r.farX j u (fun q o e hn => by have := hl.r q o e hn; omega), fun x hx => ((h.v x hx).g.farX j u (fun q o e hn => by have := hl.v x hx q o e hn; omega)).z, h.c⟩
/-- A member whose rows lie at lo or above. -/
structure LoMb (lo : Nat) (m : Mb) (A : MA) : Prop where
  wr : LoA lo A.wa m.wa.length
  ir : LoA lo A.ia m.is.length
  lr : LoA lo A.la m.tk.lf.length
theorem LoMb.mono {lo lo' : Nat} {m : Mb} {A : MA} (h : LoMb lo m A) (hl : lo' ≤ lo) : LoMb lo' m A := ⟨h.wr.mono hl, h.ir.mono hl, h.lr.mono hl⟩
theorem LoA.none {lo n : Nat} : LoA lo none n := fun q o e _ => by cases e
theorem LoA.zero {lo : Nat} {a : Option Addr} : LoA lo a 0 := fun q o _ h => by omega
/-- Messages that lie at lo or above, with their items. -/
structure LoMs (lo : Nat) (b : Option Addr) (L : List Mv) : Prop where
  r : LoA lo b L.length
  i : ∀ x ∈ L, LoA lo x.a x.m.is.length
theorem LoMs.mono {lo lo' : Nat} {b : Option Addr} {L : List Mv} (h : LoMs lo b L) (hl : lo' ≤ lo) : LoMs lo' b L := ⟨h.r.mono hl, fun x hx => (h.i x hx).mono hl⟩
/-- A row that is read, lies at lo or above, and not where another row lies that may grow. -/
structure PrG {α : Type} (enc : α → List Value) (k lo : Nat) (w : World) (ob : Option Nat) (a : Option Addr) (l : List α) : Prop where
  r : RdG enc k w a l
  n : LoA lo a l.length
  d : ∀ q o, a = some ⟨q, o, none⟩ → 0 < l.length → ob ≠ some q
theorem RdG.lt0 {α : Type} {enc : α → List Value} {k : Nat} {w : World} {a : Option Addr} {l : List α} (h : RdG enc k w a l) {q o : Nat} (e : a = some ⟨q, o, none⟩) (hl : 0 < l.length) : q < w.heap.size := by
  obtain ⟨b, o', e', hb, _⟩ := h 0 hl
  rw [e] at e'
  injection e' with e'
  injection e' with e'
  omega
theorem PrG.later {α : Type} {enc : α → List Value} {k lo : Nat} {w w' : World} {ob : Option Nat} {a : Option Addr} {l : List α} (h : PrG enc k lo w ob a l) (hb : Below w.heap.size w w') : PrG enc k lo w' ob a l := ⟨h.r.later hb, h.n, h.d⟩
theorem PrG.app {α : Type} {enc : α → List Value} {k lo : Nat} {w w' : World} {ob ob' : Option Nat} {a : Option Addr} {l : List α} (h : PrG enc k lo w ob a l) (hg : w.grownBy w' ob) (hn : ∀ q, ob' = some q → ob = some q ∨ w.heap.size ≤ q) : PrG enc k lo w' ob' a l :=
  ⟨h.r.gr hg h.d, h.n, fun q o e hl e' => by
    rcases hn q e' with h1 | h1
    · exact h.d q o e hl h1
    · have := h.r.lt0 e hl; omega⟩
theorem own_blkEq {w : World} {B n k : Nat} {e : TypeId} {b : Option Addr} {c : Nat} {xs : List Value} (h : w.ownsRow B e k (.slice b n c) n xs) {r : Nat} (hr : (Value.slice b n c).ownBlock = some r) : ∃ x, b = some x ∧ x.block = r := by
  cases b with
  | none => simp [Value.ownBlock] at hr
  | some x => exact ⟨x, rfl, by simpa [Value.ownBlock] using hr⟩
theorem owns_emptyX (w : World) (e : TypeId) (k : Nat) : (w.alloc (.cells #[] e)).ownsRow w.heap.size e k (.slice (some ⟨w.heap.size, 0, none⟩) 0 0) 0 [] :=
  ⟨by simp, .inr ⟨w.heap.size, 0, #[], rfl, Nat.le_refl _, heap_alloc_new w _, Nat.le_refl _, Nat.zero_le _, by simp, by simp⟩⟩
end Go.Proofs.YtelmchifpgaibaaDoor
