/- Rows of events in the statements' words. -/
import Derived.Test.YtmfpgnoeemjhiaaEvM
import Derived.Deep.RegionHeld3
import Derived.Deep.SlicePairs
import Derived.Lib.SmallJoins
import Derived.ProofKit
import Derived.OpenShut
namespace Go.Proofs.Ytmfpgnoeemjhiaa
open Go.ChangeShapes Go.WideShapes Go.ChangeAt Go.RowKit Go.Deep Go.Joins
set_option linter.unusedVariables false

set_option maxRecDepth 100000 in
theorem toEvent_any (x : Ev) (w : World) : Calls Try.prog 7 #[.agg #[.int .i64 x.k, .int .i64 x.n, .int .i64 x.pl, .int .i64 x.op, .string x.key, .string x.val]] w fun e w' => e = .returned (.agg #[.int .i64 x.k, .int .i64 x.n, .int .i64 x.pl, .int .i64 x.op, .string x.key, .string x.val]) ∧ Below w.heap.size w w' := by
  go_enter Try.func7, Try.ntmps7
  go_wp2
  go_returns
  exact ⟨rfl, by go_grown⟩

set_option maxRecDepth 100000 in
theorem szEvent_any (x : Ev) (left : Nat) (w : World) (hk : x.key.size ≤ 9223372036854775807 ∧ x.val.size ≤ 9223372036854775807) (hl : left ≤ 1048576) :
    Calls Try.prog 5 #[.agg #[.int .i64 x.k, .int .i64 x.n, .int .i64 x.pl, .int .i64 x.op, .string x.key, .string x.val], .int .i64 (left : Int)] w fun e w' => (e = .returned (.int .i64 (-1)) ∨ ∃ r : Nat, e = .returned (.int .i64 (r : Int)) ∧ r + x.key.size + x.val.size = left) ∧ Below w.heap.size w w' := by
  by_cases c0 : x.key.size ≤ left
  · have q0 : decide ((left : Int) - (x.key.size : Int) < 0) = false := decide_eq_false (by omega)
    have n0 : ¬ ((left : Int) - (x.key.size : Int) < 0) := by omega
    by_cases c1 : x.key.size + x.val.size ≤ left
    · have q1 : decide ((left : Int) - (x.key.size : Int) - (x.val.size : Int) < 0) = false := decide_eq_false (by omega)
      have n1 : ¬ ((left : Int) - (x.key.size : Int) - (x.val.size : Int) < 0) := by omega
      go_enter Try.func5, Try.ntmps5
      go_wp2
      go_ret
      exact ⟨.inr ⟨left - x.key.size - x.val.size, by show Ending.returned (.int .i64 ((left : Int) - (x.key.size : Int) - (x.val.size : Int))) = _; rw [show ((left - x.key.size - x.val.size : Nat) : Int) = (left : Int) - (x.key.size : Int) - (x.val.size : Int) by omega], by omega⟩, by go_grown⟩
    · have q1 : decide ((left : Int) - (x.key.size : Int) - (x.val.size : Int) < 0) = true := decide_eq_true (by omega)
      have n1 : (left : Int) - (x.key.size : Int) - (x.val.size : Int) < 0 := by omega
      go_enter Try.func5, Try.ntmps5
      go_wp2
      go_ret
      exact ⟨.inl rfl, by go_grown⟩
  · have q0 : decide ((left : Int) - (x.key.size : Int) < 0) = true := decide_eq_true (by omega)
    have n0 : (left : Int) - (x.key.size : Int) < 0 := by omega
    go_enter Try.func5, Try.ntmps5
    go_wp2
    go_ret
    exact ⟨.inl rfl, by go_grown⟩

def wfEvent (s : Ev) : Prop := (-9223372036854775808 ≤ s.k ∧ s.k ≤ 9223372036854775807) ∧ (-9223372036854775808 ≤ s.n ∧ s.n ≤ 9223372036854775807) ∧ (-9223372036854775808 ≤ s.pl ∧ s.pl ≤ 9223372036854775807) ∧ (-9223372036854775808 ≤ s.op ∧ s.op ≤ 9223372036854775807) ∧ s.key.size ≤ maxLen ∧ s.val.size ≤ maxLen
set_option maxRecDepth 100000 in
theorem open_eventE {H : Type} {enc : TypeId × Value → H} {w : World} {base fuel : Nat} {sp : Nat → Bool} {held : Bool} {cs : List Value} {x : DataW H × List MemPlace} (h : DataW.trod enc Try.prog w base sp held fuel 23 cs = some x) :
    ∃ s : Ev, cs = evC s ∧ wfEvent s := by
  obtain ⟨xs, n, _, _, hlen, hxl, hf⟩ := DataW.trod_struct Try.underlying23 h
  have hc : Try.prog.cellsOf 23 = 6 := by kernel_rfl
  rw [hc] at hlen
  match xs, hxl, cs, hlen with
  | [p0, p1, p2, p3, p4, p5], _, [v0, v1, v2, v3, v4, v5], _ =>
    have g0 := hf 0 _ rfl
    have g1 := hf 1 _ rfl
    have g2 := hf 2 _ rfl
    have g3 := hf 3 _ rfl
    have g4 := hf 4 _ rfl
    have g5 := hf 5 _ rfl
    have ci : Try.prog.cellsOf 3 = 1 := by kernel_rfl
    have cst : Try.prog.cellsOf 9 = 1 := by kernel_rfl
    simp [ci, cst] at g0 g1 g2 g3 g4 g5
    obtain ⟨n0, e0, _, w0⟩ := DataW.trod_int Try.underlying3 g0
    obtain ⟨n1, e1, _, w1⟩ := DataW.trod_int Try.underlying3 g1
    obtain ⟨n2, e2, _, w2⟩ := DataW.trod_int Try.underlying3 g2
    obtain ⟨n3, e3, _, w3⟩ := DataW.trod_int Try.underlying3 g3
    obtain ⟨n4, e4, _, w4⟩ := DataW.trod_string Try.underlying9 g4
    obtain ⟨n5, e5, _, w5⟩ := DataW.trod_string Try.underlying9 g5
    simp at e0 e1 e2 e3 e4 e5
    subst e0 e1 e2 e3 e4 e5
    exact ⟨⟨n0, n1, n2, n3, n4, n5⟩, rfl, bounds_i64 w0, bounds_i64 w1, bounds_i64 w2, bounds_i64 w3, w4, w5⟩
instance : Inhabited Ev := ⟨(⟨0, 0, 0, 0, ⟨#[]⟩, ⟨#[]⟩⟩ : Ev)⟩
end Go.Proofs.Ytmfpgnoeemjhiaa
