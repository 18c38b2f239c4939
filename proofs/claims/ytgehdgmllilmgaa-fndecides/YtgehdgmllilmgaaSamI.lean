/- Rows of numbers that are the same, compared by the statements. -/
import Derived.Test.YtgehdgmllilmgaaYM
namespace Go.Proofs.Ytgehdgmllilmgaa
open Go.RowKit
set_option linter.unusedVariables false

set_option maxRecDepth 100000 in
set_option maxHeartbeats 400000 in
theorem sameI_same (a b : Option Addr) (l : List Int) (ca cb : Nat) (w : World) (hl : l.length ≤ 1048576) (ha : RdG izE 1 w a l) (hb : RdG izE 1 w b l) :
    Calls Try.prog 14 #[.slice a l.length ca, .slice b l.length cb] w fun e w' => e = .returned (.bool true) ∧ Below w.heap.size w w' := by
  have HA := hide1 ha
  have HB := hide1 hb
  have q0 : ((l.length : Int) != (l.length : Int)) = false := by simp
  clear ha hb
  go_enter Try.func14, Try.ntmps14
  go_wp2
  go_loopw [5] (fun iv wr => ∃ i : Nat, i ≤ l.length ∧ iv = .int .i64 (i : Int) ∧ Below w.heap.size w wr) (fun iv _ => l.length - (intOf iv).toNat)
  case atStart => exact ⟨0, by omega, rfl, Below.refl _ _⟩
  case round =>
    obtain ⟨i, hi, rfl, hbel⟩ := hrel
    by_cases hlt : i < l.length
    · obtain ⟨g, o, rfl, hg, h1⟩ := HA.out i hlt
      obtain ⟨g', o', rfl, hg', h2⟩ := HB.out i hlt
      have x0 : wr.cell? ⟨g, o + i, none⟩ = some (.int .i64 l[i]) := (hbel.cell (p := ⟨g, o + i, none⟩) hg).trans (by have := h1 0 (by omega); rwa [Nat.mul_one, Nat.add_zero] at this)
      have y0 : wr.cell? ⟨g', o' + i, none⟩ = some (.int .i64 l[i]) := (hbel.cell (p := ⟨g', o' + i, none⟩) hg').trans (by have := h2 0 (by omega); rwa [Nat.mul_one, Nat.add_zero] at this)
      clear h1 h2
      have k1 : (i : Int) < (l.length : Int) := by omega
      generalize l[i] = s at *
      have q1 : (s != s) = false := by simp
      go_wp2_with fail
      go_quiet (fail)
      go_wp2
      go_roundw
      case rel => exact ⟨i + 1, by omega, by go_num, below_drewN hbel _⟩
      case measure => simp [intOf]; omega
    · go_wp2
      go_ret
      exact ⟨rfl, hbel⟩
end Go.Proofs.Ytgehdgmllilmgaa
