/- Rows of members, and groups, in memory; rows of views. -/
import Derived.Test.YtcahaimefgkmiaaTB
import Derived.Test.YtcahaimefgkmiaaRowL
import Derived.Test.YtcahaimefgkmiaaTI
import Derived.Test.YtcahaimefgkmiaaToVs
import Derived.Test.YtcahaimefgkmiaaTE
namespace Go.Proofs.Ytcahaimefgkmiaa
open Go.RowKit
set_option linter.unusedVariables false

/-- A member in a row, and where its rows lie. -/
structure Mr where
  m : Mb
  a : MA
def mrC (x : Mr) : List Value := (mbA x.m x.a).toList
theorem encMr : EncK mrC 16 := ⟨fun _ => rfl, fun x u hu => by have h := oneMb x.m x.a; exact (Array.all_eq_true_iff_forall_mem.1 h) u (by simpa [mrC] using hu)⟩
theorem rowMr : RowK Try.prog 43 69 16 := rowK_mk Try.underlying43 Try.infoMb rfl (by decide) (by decide)
theorem rowVw : RowK Try.prog 36 62 1 := rowK_mk Try.underlying36 Try.infoVw rfl (by decide) (by decide)
theorem RdG.gr {α : Type} {enc : α → List Value} {k : Nat} {w w' : World} {a : Option Addr} {l : List α} {r : Option Nat} (h : RdG enc k w a l) (hg : w.grownBy w' r) (hn : ∀ b o, a = some ⟨b, o, none⟩ → 0 < l.length → r ≠ some b) : RdG enc k w' a l := by
  intro i hi
  obtain ⟨b, o, ha, hl, hc⟩ := h i hi
  refine ⟨b, o, ha, Nat.lt_of_lt_of_le hl hg.size, fun j hj => ?_⟩
  rw [← hc j hj]
  exact World.cell?_of_block (hg.block b hl (fun e => hn b o ha (by omega) e.symm))
theorem RdZ.gr {w w' : World} {a : Option Addr} {l : List Int} {r : Option Nat} (h : RdZ w a l) (hg : w.grownBy w' r) (hn : ∀ b o, a = some ⟨b, o, none⟩ → 0 < l.length → r ≠ some b) : RdZ w' a l := (h.g.gr hg hn).z
theorem RdG.farX {α : Type} {enc : α → List Value} {k : Nat} {w : World} {a : Option Addr} {l : List α} (h : RdG enc k w a l) {g : Nat} (j : Nat) (u : Value) (hn : ∀ b o, a = some ⟨b, o, none⟩ → 0 < l.length → b ≠ g) : RdG enc k (w.setCell ⟨g, j, none⟩ u) a l := by
  intro i hi
  obtain ⟨b, o, ha, hg, hc⟩ := h i hi
  refine ⟨b, o, ha, by simpa using hg, fun q hq => ?_⟩
  rw [← hc q hq]
  exact World.cell?_of_block (Below.heap_setCell _ _ _ _ (hn b o ha (by omega)))
/-- A row that lies at lo or above (an empty one lies anywhere). -/
def LoA (lo : Nat) (a : Option Addr) (n : Nat) : Prop := ∀ q o, a = some ⟨q, o, none⟩ → 0 < n → lo ≤ q
theorem LoA.mono {lo lo' : Nat} {a : Option Addr} {n : Nat} (h : LoA lo a n) (hl : lo' ≤ lo) : LoA lo' a n := fun q o e hn => Nat.le_trans hl (h q o e hn)
theorem lo_of_own {w : World} {B n c k m : Nat} {e : TypeId} {b : Option Addr} {xs : List Value} (h : w.ownsRow B e k (.slice b n c) n xs) : LoA B b m := fun q o e hn => by subst e; exact (h.lt q rfl).1
/-- Views that lie at lo or above. -/
structure LoVs (lo : Nat) (b : Option Addr) (M : List Vw) : Prop where
  r : LoA lo b M.length
  v : ∀ x ∈ M, LoA lo x.a x.l.length
theorem LoVs.mono {lo lo' : Nat} {b : Option Addr} {M : List Vw} (h : LoVs lo b M) (hl : lo' ≤ lo) : LoVs lo' b M := ⟨h.r.mono hl, fun x hx => (h.v x hx).mono hl⟩
theorem RdVs.far {w : World} {b : Option Addr} {M : List Vw} {lo g : Nat} (h : RdVs w b M) (hl : LoVs lo b M) (hg : g < lo) (j : Nat) (u : Value) : RdVs (w.setCell ⟨g, j, none⟩ u) b M :=
  ⟨h.r.farX j u (fun q o e hn => by have := hl.r q o e hn; omega), fun x hx => ((h.v x hx).g.farX j u (fun q o e hn => by have := hl.v x hx q o e hn; omega)).z, h.c⟩
/-- A member whose rows lie at lo or above. -/
structure LoMb (lo : Nat) (m : Mb) (A : MA) : Prop where
  wr : LoA lo A.wa m.wa.length
  ir : LoA lo A.ia m.is.length
  lr : LoA lo A.la m.tk.lf.length
theorem LoMb.mono {lo lo' : Nat} {m : Mb} {A : MA} (h : LoMb lo m A) (hl : lo' ≤ lo) : LoMb lo' m A := ⟨h.wr.mono hl, h.ir.mono hl, h.lr.mono hl⟩
theorem LoA.none {lo n : Nat} : LoA lo none n := fun q o e _ => by cases e
theorem LoA.zero {lo : Nat} {a : Option Addr} : LoA lo a 0 := fun q o _ h => by omega
/-- Messages that lie at lo or above, with their items. -/
structure LoMs (lo : Nat) (b : Option Addr) (L : List Mv) : Prop where
  r : LoA lo b L.length
  i : ∀ x ∈ L, LoA lo x.a x.m.is.length
theorem LoMs.mono {lo lo' : Nat} {b : Option Addr} {L : List Mv} (h : LoMs lo b L) (hl : lo' ≤ lo) : LoMs lo' b L := ⟨h.r.mono hl, fun x hx => (h.i x hx).mono hl⟩
/-- A row that is read, lies at lo or above, and not where another row lies that may grow. -/
structure PrG {α : Type} (enc : α → List Value) (k lo : Nat) (w : World) (ob : Option Nat) (a : Option Addr) (l : List α) : Prop where
  r : RdG enc k w a l
  n : LoA lo a l.length
  d : ∀ q o, a = some ⟨q, o, none⟩ → 0 < l.length → ob ≠ some q
theorem RdG.lt0 {α : Type} {enc : α → List Value} {k : Nat} {w : World} {a : Option Addr} {l : List α} (h : RdG enc k w a l) {q o : Nat} (e : a = some ⟨q, o, none⟩) (hl : 0 < l.length) : q < w.heap.size := by
  obtain ⟨b, o', e', hb, _⟩ := h 0 hl
  rw [e] at e'
  injection e' with e'
  injection e' with e'
  omega
theorem PrG.later {α : Type} {enc : α → List Value} {k lo : Nat} {w w' : World} {ob : Option Nat} {a : Option Addr} {l : List α} (h : PrG enc k lo w ob a l) (hb : Below w.heap.size w w') : PrG enc k lo w' ob a l := ⟨h.r.later hb, h.n, h.d⟩
theorem PrG.app {α : Type} {enc : α → List Value} {k lo : Nat} {w w' : World} {ob ob' : Option Nat} {a : Option Addr} {l : List α} (h : PrG enc k lo w ob a l) (hg : w.grownBy w' ob) (hn : ∀ q, ob' = some q → ob = some q ∨ w.heap.size ≤ q) : PrG enc k lo w' ob' a l :=
  ⟨h.r.gr hg h.d, h.n, fun q o e hl e' => by
    rcases hn q e' with h1 | h1
    · exact h.d q o e hl h1
    · have := h.r.lt0 e hl; omega⟩
theorem own_blkEq {w : World} {B n k : Nat} {e : TypeId} {b : Option Addr} {c : Nat} {xs : List Value} (h : w.ownsRow B e k (.slice b n c) n xs) {r : Nat} (hr : (Value.slice b n c).ownBlock = some r) : ∃ x, b = some x ∧ x.block = r := by
  cases b with
  | none => simp [Value.ownBlock] at hr
  | some x => exact ⟨x, rfl, by simpa [Value.ownBlock] using hr⟩
theorem owns_emptyX (w : World) (e : TypeId) (k : Nat) : (w.alloc (.cells #[] e)).ownsRow w.heap.size e k (.slice (some ⟨w.heap.size, 0, none⟩) 0 0) 0 [] :=
  ⟨by simp, .inr ⟨w.heap.size, 0, #[], rfl, Nat.le_refl _, heap_alloc_new w _, Nat.le_refl _, Nat.zero_le _, by simp, by simp⟩⟩
end Go.Proofs.Ytcahaimefgkmiaa
