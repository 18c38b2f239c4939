/- What the laws of jumps need. -/
import Derived.Test.YtejjheoimafeoaaJuA
import Derived.Test.YtejjheoimafeoaaDrawJ
import Derived.Test.YtejjheoimafeoaaDrawPl
namespace Go.Proofs.Ytejjheoimafeoaa
open Go.RowKit
set_option linter.unusedVariables false

theorem big9_no (a : Option Addr) (len cap : Nat) (w : World) (h : len ≤ 1048576) : Calls Try.prog 7 #[.slice a len cap] w fun e w' => e = .returned (.bool false) ∧ w = w' := by
  have q : decide ((1048576 : Int) < (len : Int)) = false := decide_eq_false (by omega)
  go_enter Try.func7, Try.ntmps7
  go_wp2
  go_ret
  exact ⟨rfl, rfl⟩
theorem big9_yes (a : Option Addr) (len cap : Nat) (w : World) (h : ¬ len ≤ 1048576) : Calls Try.prog 7 #[.slice a len cap] w fun e w' => e = .returned (.bool true) ∧ w = w' := by
  have q : decide ((1048576 : Int) < (len : Int)) = true := decide_eq_true (by omega)
  go_enter Try.func7, Try.ntmps7
  go_wp2
  go_ret
  exact ⟨rfl, rfl⟩

theorem Code.mono {B B' : Nat} {w : World} {a : Option Addr} {len : Nat} (h : Code B w a len) (hB : B ≤ B') : Code B' w a len :=
  ⟨h.le, fun j hj => by obtain ⟨b, o, v, h1, h2, h3, h4⟩ := h.cells j hj; exact ⟨b, o, v, h1, by omega, h3, h4⟩⟩
/-- Jump among m places. -/
theorem implJ_nat (z : Int) {m : Nat} (h1 : 1 ≤ m) (h2 : m ≤ 1000) (w : World) : Calls Try.prog 10 #[.int .i64 z, .int .i64 (m : Int)] w fun e w' => e = .returned (.int .i64 (plcJ m z : Int)) ∧ Below w.heap.size w w' := by
  have h := implJump_any z (m : Int) w
  rw [clampJ_nat h1 h2, plcJ_int h1 z] at h
  exact h
theorem specJ_nat (z : Int) {m : Nat} (h1 : 1 ≤ m) (h2 : m ≤ 1000) (w : World) : Calls Try.prog 11 #[.int .i64 z, .int .i64 (m : Int)] w fun e w' => e = .returned (.int .i64 (plcJ m z : Int)) ∧ w = w' := by
  have h := specJump_any z (m : Int) w
  rw [clampJ_nat h1 h2, plcJ_int h1 z] at h
  exact h
theorem plc_more {m : Nat} (h1 : 1 ≤ m) (z : Int) : plcJ (m + 1) z = plcJ m z ∨ plcJ (m + 1) z = m := by
  have h := jmp_more (numJ z) (n := m)
  rw [plcJ_int h1, plcJ_int (n := m + 1) (by omega)] at h
  omega
theorem plc_one (z : Int) : plcJ 1 z = 0 := by
  have := plcJ_lt (n := 1) (by omega) z
  omega
end Go.Proofs.Ytejjheoimafeoaa
