/- Decisions in memory: a row of a council put anew. -/
import Derived.Test.YtmejdblobikclaaCoM
import Derived.Test.YtmejdblobikclaaRowI
namespace Go.Proofs.Ytmejdblobikclaa
open Go.RowKit
set_option linter.unusedVariables false
variable {lo : Nat}

theorem Below.toG {w w' : World} {B : Nat} (h : Below w.heap.size w w') : w.grownBy w' (some B) := gnew h
section
variable {w w5 : World} {B base : Nat} {A : CA} {c : Cn} {b : Option Addr} {k : Nat}
theorem VaC.later (h : VaC lo w B A c) (hw : Below w.heap.size w w5) : VaC lo w5 B A c := ⟨h.b.below hw h.b.lt, Nat.le_trans h.lw hw.size, h.r.grown (gnew hw)⟩
theorem VaC.drew (h : VaC lo w B A c) : VaC lo w.drew B A c := h.later (Below.refl _ _).drew
theorem VaC.putV {l : List Vo} (h : VaC lo w B A c) (hw : Below w.heap.size w w5) (ho : w5.ownsRow base 43 3 (.slice b l.length k) l.length (rowG voC l)) (hB : B < base) (hl : lo ≤ base) :
    VaC lo (w5.setCell ⟨B, 0, none⟩ (.slice b l.length k)) B { A with va := b, vc := k } { c with vs := l } := by
  have r := (h.later hw).r.grown (gset (World.grownBy.refl w5 (some B)) 0 (.slice b l.length k))
  exact ⟨(h.later hw).b.set 0 _, by rw [World.size_setCell]; exact (h.later hw).lw, ⟨(rdG_of_own encV.len ho rfl).set (own_ne ho hB hl) 0 _, own_ne ho hB hl, r.e, r.t, r.tn, r.r, r.n, r.nn, r.nl, r.c, r.cn⟩⟩
theorem VaC.putT {L : List Tm} (h : VaC lo w B A c) (hw : Below w.heap.size w w5) (ho : w5.ownsRow base 47 7 (.slice b L.length k) L.length (rowG tmC L)) (hB : B < base) (hl : lo ≤ base) (hL : ∀ t ∈ L, TmR lo w5 B t) :
    VaC lo (w5.setCell ⟨B, 1, none⟩ (.slice b L.length k)) B { A with ta := b, tc := k, L := L } { c with ts := L.map (·.y) } := by
  have r := (h.later hw).r.grown (gset (World.grownBy.refl w5 (some B)) 1 (.slice b L.length k))
  refine ⟨?_, by rw [World.size_setCell]; exact (h.later hw).lw, ⟨r.v, r.vn, rfl, (rdG_of_own encT.len ho rfl).set (own_ne ho hB hl) 1 _, own_ne ho hB hl, fun t ht => (hL t ht).grown (gset (World.grownBy.refl w5 (some B)) 1 _), r.n, r.nn, r.nl, r.c, r.cn⟩⟩
  have := (h.later hw).b.set 1 (.slice b L.length k)
  have e : (cnC A c).set 1 (.slice b L.length k) = cnC { A with ta := b, tc := k, L := L } { c with ts := L.map (·.y) } := by simp [cnC]
  rw [e] at this
  exact this
theorem VaC.putN {l : List Nt} (h : VaC lo w B A c) (hw : Below w.heap.size w w5) (ho : w5.ownsRow base 111 6 (.slice b l.length k) l.length (rowG ntC l)) (hB : B < base) (hl : lo ≤ base) :
    VaC lo (w5.setCell ⟨B, 2, none⟩ (.slice b l.length k)) B { A with na := b, nc := k } { c with ns := l } := by
  have r := (h.later hw).r.grown (gset (World.grownBy.refl w5 (some B)) 2 (.slice b l.length k))
  exact ⟨(h.later hw).b.set 2 _, by rw [World.size_setCell]; exact (h.later hw).lw, ⟨r.v, r.vn, r.e, r.t, r.tn, r.r, (rdG_of_own encN.len ho rfl).set (own_ne ho hB hl) 2 _, own_ne ho hB hl, own_le ho, r.c, r.cn⟩⟩
theorem VaC.putC {l : List ByteArray} (h : VaC lo w B A c) (hw : Below w.heap.size w w5) (ho : w5.ownsRow base 9 1 (.slice b l.length k) l.length (rowG txE l)) (hB : B < base) (hl : lo ≤ base) :
    VaC lo (w5.setCell ⟨B, 3, none⟩ (.slice b l.length k)) B { A with ca := b, cc := k } { c with ch := l } := by
  have r := (h.later hw).r.grown (gset (World.grownBy.refl w5 (some B)) 3 (.slice b l.length k))
  exact ⟨(h.later hw).b.set 3 _, by rw [World.size_setCell]; exact (h.later hw).lw, ⟨r.v, r.vn, r.e, r.t, r.tn, r.r, r.n, r.nn, r.nl, (rdG_of_own encX.len ho rfl).set (own_ne ho hB hl) 3 _, own_ne ho hB hl⟩⟩
theorem put_grown (hw : Below w.heap.size w w5) (j : Nat) (v : Value) : w.grownBy (w5.setCell ⟨B, j, none⟩ v) (some B) := gset (gnew hw) j v
end
end Go.Proofs.Ytmejdblobikclaa
