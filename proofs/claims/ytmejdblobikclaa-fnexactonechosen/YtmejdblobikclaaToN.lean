/- Rows of notes in the statements' words. -/
import Derived.Test.YtmejdblobikclaaRowO
import Derived.Test.YtmejdblobikclaaCoM
import Derived.Test.YtmejdblobikclaaBaV
import Derived.Deep.RegionHeld3
namespace Go.Proofs.Ytmejdblobikclaa
open Go.ChangeShapes Go.WideShapes Go.ChangeAt Go.RowKit Go.Deep Go.Joins
set_option linter.unusedVariables false

def wfNote (s : Nt) : Prop := (-9223372036854775808 ≤ s.k ∧ s.k ≤ 9223372036854775807) ∧ (-9223372036854775808 ≤ s.f ∧ s.f ≤ 9223372036854775807) ∧ (-9223372036854775808 ≤ s.o ∧ s.o ≤ 9223372036854775807) ∧ (-9223372036854775808 ≤ s.b ∧ s.b ≤ 9223372036854775807) ∧ (-9223372036854775808 ≤ s.t ∧ s.t ≤ 9223372036854775807) ∧ s.v.size ≤ maxLen
set_option maxRecDepth 100000 in
theorem open_noteE {H : Type} {enc : TypeId × Value → H} {w : World} {base fuel : Nat} {sp : Nat → Bool} {held : Bool} {cs : List Value} {x : DataW H × List MemPlace} (h : DataW.trod enc Try.prog w base sp held fuel 127 cs = some x) :
    ∃ s : Nt, cs = ntC s ∧ wfNote s := by
  obtain ⟨xs, n, _, _, hlen, hxl, hf⟩ := DataW.trod_struct Try.underlying127 h
  have hc : Try.prog.cellsOf 127 = 6 := by kernel_rfl
  rw [hc] at hlen
  match xs, hxl, cs, hlen with
  | [p0, p1, p2, p3, p4, p5], _, [v0, v1, v2, v3, v4, v5], _ =>
    have g0 := hf 0 _ rfl
    have g1 := hf 1 _ rfl
    have g2 := hf 2 _ rfl
    have g3 := hf 3 _ rfl
    have g4 := hf 4 _ rfl
    have g5 := hf 5 _ rfl
    have ci : Try.prog.cellsOf 3 = 1 := by kernel_rfl
    have cst : Try.prog.cellsOf 9 = 1 := by kernel_rfl
    simp [ci, cst] at g0 g1 g2 g3 g4 g5
    obtain ⟨n0, e0, _, w0⟩ := DataW.trod_int Try.underlying3 g0
    obtain ⟨n1, e1, _, w1⟩ := DataW.trod_int Try.underlying3 g1
    obtain ⟨n2, e2, _, w2⟩ := DataW.trod_int Try.underlying3 g2
    obtain ⟨n3, e3, _, w3⟩ := DataW.trod_int Try.underlying3 g3
    obtain ⟨n4, e4, _, w4⟩ := DataW.trod_int Try.underlying3 g4
    obtain ⟨s5, e5, _, w5⟩ := DataW.trod_string Try.underlying9 g5
    simp at e0 e1 e2 e3 e4 e5
    subst e0 e1 e2 e3 e4 e5
    exact ⟨⟨n0, n1, n2, n3, n4, s5⟩, rfl, bounds_i64 w0, bounds_i64 w1, bounds_i64 w2, bounds_i64 w3, bounds_i64 w4, w5⟩
instance : Inhabited Nt := ⟨(⟨0, 0, 0, 0, 0, ⟨#[]⟩⟩ : Nt)⟩
set_option maxRecDepth 100000 in
theorem open_notesE {H : Type} {enc : TypeId × Value → H} {w : World} {base fuel : Nat} {sp : Nat → Bool} {held : Bool} {cs : List Value} {x : DataW H × List MemPlace} (h : DataW.trod enc Try.prog w base sp held fuel 64 cs = some x) :
    ∃ (ao : Option Addr) (l : List Nt) (ca : Nat), cs = [.slice ao l.length ca] ∧ RdG ntC 6 w ao l ∧ l.length ≤ maxLen ∧ ∀ s ∈ l, wfNote s := by
  rcases open_slice Try.underlying64 h with ⟨rfl, _⟩ | ⟨a, len, cap, m, n, D, Pl, rfl, hb, hl, hm, hmm, _, hx⟩
  · exact ⟨none, [], 0, rfl, RdG.nil _ _, Nat.zero_le _, fun i hi => by simp at hi⟩
  have hlm : len ≤ m := by rw [hmm]; split <;> omega
  have hc : Try.prog.cellsOf 127 = 6 := by kernel_rfl
  refine open_rowG (P := wfNote) encN (by decide) (.inr (Nat.le_trans hl hm)) hlm (fun i hi => ?_)
  obtain ⟨cs', h1, h2⟩ := hx i hi
  rw [hc] at h1
  obtain ⟨_, hlen, hcell⟩ := World.cells?_some h1
  obtain ⟨s, rfl, hw⟩ := open_noteE h2
  exact ⟨s, hw, fun j hj => hcell j (by omega)⟩

end Go.Proofs.Ytmejdblobikclaa
