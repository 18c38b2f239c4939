/- Rows of items in the statements' words. -/
import Derived.Test.YtmfpgnoeemjhiaaImM
import Derived.Deep.RegionHeld3
import Derived.Deep.SlicePairs
import Derived.Lib.SmallJoins
import Derived.ProofKit
import Derived.OpenShut
namespace Go.Proofs.Ytmfpgnoeemjhiaa
open Go.ChangeShapes Go.WideShapes Go.ChangeAt Go.RowKit Go.Deep Go.Joins
set_option linter.unusedVariables false

set_option maxRecDepth 100000 in
theorem eqItem_same (x : Im) (w : World) : Calls Try.prog 59 #[.agg #[.string x.k, .string x.v, .int .i64 x.n], .agg #[.string x.k, .string x.v, .int .i64 x.n]] w fun e w' => e = .returned (.bool true) ∧ Below w.heap.size w w' := by
  have q2 : (x.n != x.n) = false := by simp
  obtain ⟨t0, r0⟩ := tx_eq x.k
  obtain ⟨t1, r1⟩ := tx_eq x.v
  obtain ⟨k, v, n⟩ := x
  dsimp only at *
  go_enter Try.func59, Try.ntmps59
  go_wp2
  go_ret
  exact ⟨rfl, by go_grown⟩

set_option maxRecDepth 100000 in
set_option maxHeartbeats 400000 in
theorem eqItemS_same (a b : Option Addr) (l : List Im) (ca cb : Nat) (w : World) (hl : l.length ≤ 1048576) (ha : RdG imC 3 w a l) (hb : RdG imC 3 w b l) :
    Calls Try.prog 57 #[.slice a l.length ca, .slice b l.length cb] w fun e w' => e = .returned (.bool true) ∧ Below w.heap.size w w' := by
  have HA := hide1 ha
  have HB := hide1 hb
  clear ha hb
  have q0 : ((l.length : Int) != (l.length : Int)) = false := by simp
  go_enter Try.func57, Try.ntmps57
  go_wp2
  go_loopw [5] (fun iv wr => ∃ i : Nat, i ≤ l.length ∧ iv = .int .i64 (i : Int) ∧ Below w.heap.size w wr) (fun iv _ => l.length - (intOf iv).toNat)
  case atStart => exact ⟨0, by omega, rfl, Below.refl _ _⟩
  case round =>
    obtain ⟨i, hi, rfl, hbel⟩ := hrel
    by_cases hlt : i < l.length
    · have k1 : (i : Int) < (l.length : Int) := by omega
      obtain ⟨b1, o1, rfl, hg1, h1⟩ := HA.out i hlt
      obtain ⟨b2, o2, rfl, hg2, h2⟩ := HB.out i hlt
      have x0 : wr.cell? ⟨b1, o1 + i * 3, none⟩ = some (.string l[i].k) := (hbel.cell (p := ⟨b1, o1 + i * 3, none⟩) hg1).trans (h1 0 (by omega))
      have x1 : wr.cell? ⟨b1, o1 + i * 3 + 1, none⟩ = some (.string l[i].v) := (hbel.cell (p := ⟨b1, o1 + i * 3 + 1, none⟩) hg1).trans (h1 1 (by omega))
      have x2 : wr.cell? ⟨b1, o1 + i * 3 + 2, none⟩ = some (.int .i64 l[i].n) := (hbel.cell (p := ⟨b1, o1 + i * 3 + 2, none⟩) hg1).trans (h1 2 (by omega))
      have y0 : wr.cell? ⟨b2, o2 + i * 3, none⟩ = some (.string l[i].k) := (hbel.cell (p := ⟨b2, o2 + i * 3, none⟩) hg2).trans (h2 0 (by omega))
      have y1 : wr.cell? ⟨b2, o2 + i * 3 + 1, none⟩ = some (.string l[i].v) := (hbel.cell (p := ⟨b2, o2 + i * 3 + 1, none⟩) hg2).trans (h2 1 (by omega))
      have y2 : wr.cell? ⟨b2, o2 + i * 3 + 2, none⟩ = some (.int .i64 l[i].n) := (hbel.cell (p := ⟨b2, o2 + i * 3 + 2, none⟩) hg2).trans (h2 2 (by omega))
      have cc := hide1 (fun w => eqItem_same l[i] w)
      have hw1 : b1 < wr.heap.size := Nat.lt_of_lt_of_le hg1 hbel.size
      have hw2 : b2 < wr.heap.size := Nat.lt_of_lt_of_le hg2 hbel.size
      clear h1 h2
      generalize l[i] = s at *
      go_wp2
      go_region_held3 (fun w' => w'.cell? ⟨b1, o1 + i * 3, none⟩ = some (.string s.k) ∧ w'.cell? ⟨b1, o1 + i * 3 + 1, none⟩ = some (.string s.v) ∧ w'.cell? ⟨b1, o1 + i * 3 + 2, none⟩ = some (.int .i64 s.n) ∧ w'.cell? ⟨b2, o2 + i * 3, none⟩ = some (.string s.k) ∧ w'.cell? ⟨b2, o2 + i * 3 + 1, none⟩ = some (.string s.v) ∧ w'.cell? ⟨b2, o2 + i * 3 + 2, none⟩ = some (.int .i64 s.n)) (first | go_keep | exact ⟨x0, x1, x2, y0, y1, y2⟩ | exact ⟨(hb2.cell hw1).trans x0, (hb2.cell hw1).trans x1, (hb2.cell hw1).trans x2, (hb2.cell hw2).trans y0, (hb2.cell hw2).trans y1, (hb2.cell hw2).trans y2⟩) ((go_at_call 59; refine (cc.out _).mono ?_; rintro e w2 ⟨rfl, hb2⟩))
      go_wp2
      go_roundw
      case rel => exact ⟨i + 1, by omega, by go_num, hbel.trans ((Below.refl _ _).drew.trans (hb2.mono hbel.size))⟩
      case measure => simp [intOf]; omega
    · go_wp2
      go_ret
      exact ⟨rfl, hbel⟩

def wfItem (s : Im) : Prop := s.k.size ≤ maxLen ∧ s.v.size ≤ maxLen ∧ (-9223372036854775808 ≤ s.n ∧ s.n ≤ 9223372036854775807)
instance : Inhabited Im := ⟨(⟨⟨#[]⟩, ⟨#[]⟩, 0⟩ : Im)⟩
end Go.Proofs.Ytmfpgnoeemjhiaa
