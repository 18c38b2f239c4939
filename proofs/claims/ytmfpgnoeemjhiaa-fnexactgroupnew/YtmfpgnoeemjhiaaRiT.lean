/- Rings, by the model: whether a number is in a row. -/
import Derived.Test.YtmfpgnoeemjhiaaRiS
import Derived.Test.YtmfpgnoeemjhiaaSk
namespace Go.Proofs.Ytmfpgnoeemjhiaa
open Go.RowKit
set_option linter.unusedVariables false

set_option maxRecDepth 100000 in
set_option maxHeartbeats 1000000 in
theorem specIn_any (ao : Option Addr) (L : List Int) (ca : Nat) (x : Int) (w : World) (hl : L.length ≤ 1048576) (hA : RdZ w ao L) :
    Calls Try.prog 45 #[.slice ao L.length ca, .int .i64 x] w fun e w' => e = .returned (.bool (decide (x ∈ L))) ∧ w = w' := by
  have HA := hide1 hA
  clear hA
  go_enter Try.func45, Try.ntmps45
  go_wp2
  go_loop [5] (fun iv => ∃ i : Nat, i ≤ L.length ∧ iv = .int .i64 (i : Int) ∧ Hid (∀ j (hj : j < i) (hl : j < L.length), L[j] ≠ x)) (fun iv => L.length - (intOf iv).toNat)
  case atStart => exact ⟨0, by omega, rfl, fun j hj _ => by omega⟩
  case round =>
    obtain ⟨i, hi, rfl, hn⟩ := hrel
    by_cases hlt : i < L.length
    · have k1 : (i : Int) < (L.length : Int) := by omega
      obtain ⟨b, o, rfl, hb, x1⟩ := HA.out i hlt
      by_cases c : L[i] = x
      · have HM := hide1 (show decide (x ∈ L) = true from decide_eq_true (c ▸ List.getElem_mem hlt))
        obtain ⟨z, hz, y1⟩ : ∃ z, (z == x) = true ∧ w.cell? ⟨b, o + i, none⟩ = some (.int .i64 z) := ⟨_, by simpa using c, x1⟩
        clear x1 c
        go_wp2
        go_ret
        exact ⟨by rw [HM.out]; rfl, rfl⟩
      · have HC := hide1 c
        obtain ⟨z, hz, y1⟩ : ∃ z, (z == x) = false ∧ w.cell? ⟨b, o + i, none⟩ = some (.int .i64 z) := ⟨_, by simpa using c, x1⟩
        clear x1 c
        go_wp2
        go_round
        case rel =>
          refine ⟨i + 1, by omega, by go_num, fun j hj hjl => ?_⟩
          by_cases e : j < i
          · exact hn.out j e hjl
          · obtain rfl : j = i := by omega
            exact HC.out
        case measure => simp [intOf]; omega
    · have HM := hide1 (show decide (x ∈ L) = false from decide_eq_false (fun h => by
        obtain ⟨j, hj, e⟩ := List.getElem_of_mem h
        exact hn.out j (by omega) hj e))
      go_wp2
      go_ret
      exact ⟨by rw [HM.out]; rfl, rfl⟩
end Go.Proofs.Ytmfpgnoeemjhiaa
