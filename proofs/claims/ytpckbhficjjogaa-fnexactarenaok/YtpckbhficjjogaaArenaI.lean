/- What comes in as a place, opened. -/
import Derived.Test.YtpckbhficjjogaaXB
import Derived.Deep.SlicePairs
import Derived.Lib.SmallJoins
import Derived.ProofKit
import Derived.OpenShut
namespace Go.Proofs.Ytpckbhficjjogaa
open Go.ChangeShapes Go.WideShapes Go.ChangeAt Go.RowKit Go.Deep Go.Joins

instance : Inhabited Sl := ⟨zS⟩
/-- A slot whose numbers are ints and whose texts are texts. -/
def wfS (s : Sl) : Prop := (-9223372036854775808 ≤ s.gen ∧ s.gen ≤ 9223372036854775807) ∧ (-9223372036854775808 ≤ s.next ∧ s.next ≤ 9223372036854775807) ∧ s.key.size ≤ maxLen ∧ s.val.size ≤ maxLen

set_option maxRecDepth 100000 in
theorem open_slot {H : Type} {enc : TypeId × Value → H} {w : World} {base fuel : Nat} {sp : Nat → Bool} {held : Bool} {cs : List Value} {x : DataW H × List MemPlace} (h : DataW.trod enc Try.prog w base sp held fuel 93 cs = some x) :
    ∃ s : Sl, cs = slC s ∧ wfS s := by
  obtain ⟨xs, n, _, _, hlen, hxl, hf⟩ := DataW.trod_struct Try.underlying93 h
  have hc : Try.prog.cellsOf 93 = 5 := by kernel_rfl
  rw [hc] at hlen
  match xs, hxl, cs, hlen with
  | [q0, q1, q2, q3, q4], _, [v0, v1, v2, v3, v4], _ =>
    have g0 := hf 0 _ rfl
    have g1 := hf 1 _ rfl
    have g2 := hf 2 _ rfl
    have g3 := hf 3 _ rfl
    have g4 := hf 4 _ rfl
    have ci : Try.prog.cellsOf 3 = 1 := by kernel_rfl
    have cb : Try.prog.cellsOf 4 = 1 := by kernel_rfl
    have cst : Try.prog.cellsOf 9 = 1 := by kernel_rfl
    simp [ci, cb, cst] at g0 g1 g2 g3 g4
    obtain ⟨n0, e0, _, w0⟩ := DataW.trod_int Try.underlying3 g0
    obtain ⟨b1, e1, _⟩ := DataW.trod_bool Try.underlying4 g1
    obtain ⟨s2, e2, _, w2⟩ := DataW.trod_string Try.underlying9 g2
    obtain ⟨s3, e3, _, w3⟩ := DataW.trod_string Try.underlying9 g3
    obtain ⟨n4, e4, _, w4⟩ := DataW.trod_int Try.underlying3 g4
    simp at e0 e1 e2 e3 e4
    subst e0 e1 e2 e3 e4
    exact ⟨⟨n0, b1, s2, s3, n4⟩, rfl, bounds_i64 w0, bounds_i64 w4, w2, w3⟩

set_option maxRecDepth 100000 in
theorem open_slots {H : Type} {enc : TypeId × Value → H} {w : World} {base fuel : Nat} {sp : Nat → Bool} {held : Bool} {cs : List Value} {x : DataW H × List MemPlace} (h : DataW.trod enc Try.prog w base sp held fuel 45 cs = some x) :
    ∃ (ao : Option Addr) (l : List Sl) (ca : Nat), cs = [.slice ao l.length ca] ∧ RdI w ao l ∧ l.length ≤ maxLen ∧ ∀ i (h : i < l.length), wfS l[i] := by
  rcases open_slice Try.underlying45 h with ⟨rfl, _⟩ | ⟨a, len, cap, m, n, D, Pl, rfl, hb, hl, hm, hmm, _, hx⟩
  · exact ⟨none, [], 0, rfl, fun i hi => by simp at hi, Nat.zero_le _, fun i hi => by simp at hi⟩
  have hlm : len ≤ m := by rw [hmm]; split <;> omega
  have hc : Try.prog.cellsOf 93 = 5 := by kernel_rfl
  have each : ∀ i, i < m → ∃ s : Sl, wfS s ∧ ∀ j, j < 5 → w.cell? ((a.add (i * 5)).add j) = (slC s)[j]? := by
    intro i hi
    obtain ⟨cs', h1, h2⟩ := hx i hi
    rw [hc] at h1
    obtain ⟨_, hlen, hcell⟩ := World.cells?_some h1
    obtain ⟨s, rfl, hw⟩ := open_slot h2
    exact ⟨s, hw, fun j hj => hcell j (by omega)⟩
  obtain ⟨S, hS⟩ := choose_lt each
  refine ⟨some a, (List.range len).map S, cap, by simp, ?_, by simp; omega, ?_⟩
  · intro i hi
    have hi' : i < len := by simpa using hi
    have hc5 := (hS i (by omega)).2
    obtain ⟨b, o, spot⟩ := a
    have hspot : spot = none := by
      have := (hS 0 (by omega)).2 0 (by omega)
      simpa [Addr.add, slC] using World.cell?_spot this
    subst hspot
    simp only [Addr.add_lit] at hc5
    have hlt : b < w.heap.size := World.block_lt_of_cell? w _ (hc5 0 (by omega))
    refine ⟨b, o, rfl, hlt, ?_⟩
    simp only [List.getElem_map, List.getElem_range]
    exact ⟨by simpa [slC] using hc5 0 (by omega), by simpa [slC] using hc5 1 (by omega), by simpa [slC] using hc5 2 (by omega), by simpa [slC] using hc5 3 (by omega), by simpa [slC] using hc5 4 (by omega)⟩
  · intro i hi
    have hi' : i < len := by simpa using hi
    simp only [List.getElem_map, List.getElem_range]
    exact (hS i (by omega)).1

set_option maxRecDepth 100000 in
theorem open_arena {H : Type} {enc : TypeId × Value → H} {w : World} {r : Reach} {b0 base : Nat} {sp : Nat → Bool} {held : Bool} {v : Value} {d : DataW H} {p : List MemPlace} (hv : Value.okWide Try.prog w r b0 47 v) (h : DataW.Trod enc Try.prog w base sp held 47 v d p) :
    ∃ (ao : Option Addr) (l : List Sl) (ca : Nat) (f : Int), v = arV ao l.length ca f ∧ RdI w ao l ∧ l.length ≤ maxLen ∧ (∀ i (h : i < l.length), wfS l[i]) ∧ -9223372036854775808 ≤ f ∧ f ≤ 9223372036854775807 := by
  obtain ⟨v0, v1, y0, y1, n, rfl, _, _, h0, h1⟩ := open_agg2 Try.underlying47 (by kernel_rfl) (by kernel_rfl) hv h
  obtain ⟨ao, l, ca, e0, hR, hl, hw⟩ := open_slots h0
  obtain ⟨f, e1, _, wf⟩ := DataW.trod_int Try.underlying3 h1
  simp at e0 e1
  subst e0 e1
  exact ⟨ao, l, ca, f, rfl, hR, hl, hw, bounds_i64 wf⟩

theorem eqArena_same (a b : Option Addr) (l : List Sl) (ca cb : Nat) (f : Int) (w : World) (hl : l.length ≤ 1048576) (ha : RdA w a l) (hb : RdA w b l) :
    Calls Try.prog 24 #[arV a l.length ca f, arV b l.length cb f] w fun e w' => e = .returned (.bool true) ∧ Below w.heap.size w w' := by
  refine (eqArena_any a b l l ca cb f f w hl ha hb).mono ?_
  rintro e w' ⟨x, rfl, hx, hb⟩
  obtain rfl : x = true := hx.2 ⟨rfl, rfl⟩
  exact ⟨rfl, hb⟩
end Go.Proofs.Ytpckbhficjjogaa
