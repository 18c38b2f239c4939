/- Members: the program's nodesAscend, callFits, standFits, taskFits, MemberOk, Fall. -/
import Derived.Test.YtmfpgnoeemjhiaaMbS
import Derived.Test.YtmfpgnoeemjhiaaItI
import Derived.Deep.DeepCutAuto
namespace Go.Proofs.Ytmfpgnoeemjhiaa
open Go.RowKit
set_option linter.unusedVariables false

theorem implCall_any (n : Int) (w : World) : Calls Try.prog 42 #[.int .i64 n] w fun e w' => e = .returned (.bool (decide (0 ≤ n ∧ n ≤ 1000))) ∧ w' = w := by
  by_cases h1 : 0 ≤ n
  · by_cases h2 : n ≤ 1000
    · have RES := hide1 (show decide (0 ≤ n ∧ n ≤ 1000) = true by simp [h1, h2])
      have q2 : decide (n ≤ 1000) = true := by simp [h2]
      go_enter Try.func42, Try.ntmps42
      go_wp2
      go_ret
      exact ⟨by first | rfl | (rw [RES.out]; rfl) | (rw [RES.out]; simp_all; done) | (show Ending.returned (.bool false) = Ending.returned (.bool (decide (0 ≤ n) && decide (n ≤ 1000))); rw [decide_eq_false (show ¬ 0 ≤ n by omega)]; rfl), rfl⟩
    · have RES := hide1 (show decide (0 ≤ n ∧ n ≤ 1000) = false by simp [h2])
      have q2 : decide (n ≤ 1000) = false := by simp [h2]
      go_enter Try.func42, Try.ntmps42
      go_wp2
      go_ret
      exact ⟨by first | rfl | (rw [RES.out]; rfl) | (rw [RES.out]; simp_all; done) | (show Ending.returned (.bool false) = Ending.returned (.bool (decide (0 ≤ n) && decide (n ≤ 1000))); rw [decide_eq_false (show ¬ 0 ≤ n by omega)]; rfl), rfl⟩
  · have RES := hide1 (show decide (0 ≤ n ∧ n ≤ 1000) = false by simp [h1])
    go_enter Try.func42, Try.ntmps42
    go_wp2
    go_ret
    exact ⟨by first | rfl | (rw [RES.out]; rfl) | (rw [RES.out]; simp_all; done) | (show Ending.returned (.bool false) = Ending.returned (.bool (decide (0 ≤ n) && decide (n ≤ 1000))); rw [decide_eq_false (show ¬ 0 ≤ n by omega)]; rfl), rfl⟩
def stood (fe ba le se : Bool) (wa : List Int) : Prop := (se = true → ba = true ∧ le = true ∧ wa = []) ∧ (fe = true → ba = false ∧ le = false)
instance (fe ba le se : Bool) (wa : List Int) : Decidable (stood fe ba le se wa) := by unfold stood; infer_instance
def tasked (tk : Tk) (se : Bool) : Prop := noTk tk ∨ ((tk.op = 1 ∨ tk.op = 2) ∧ se = true ∧ (0 ≤ tk.cl ∧ tk.cl ≤ 1000) ∧ (1 ≤ tk.nu ∧ tk.nu ≤ 900) ∧ okIds tk.lf)
instance (tk : Tk) (se : Bool) : Decidable (tasked tk se) := by unfold tasked; infer_instance
theorem ok_mb {id ep cn : Int} {fe ba le se : Bool} {wa : List Int} {is : List Im} {tk : Tk} : okMb ⟨id, ep, fe, ba, le, se, wa, is, cn, tk⟩ ↔ ((1 ≤ id ∧ id ≤ 6) ∧ (1 ≤ ep ∧ ep ≤ 9) ∧ (0 ≤ cn ∧ cn ≤ 900)) ∧ stood fe ba le se wa ∧ okIds wa ∧ okIms is ∧ tasked tk se := by
  constructor
  · rintro ⟨h1, h2, h3, h4, h5, h6, h7, h8, h9⟩
    refine ⟨⟨h1, h2, h8⟩, ⟨h3, h4⟩, h5, h7, ?_⟩
    rcases h9 with h | ⟨a, b, c, d⟩
    · exact .inl h
    · exact .inr ⟨a, b, c, d, h6⟩
  · rintro ⟨⟨h1, h2, h8⟩, ⟨h3, h4⟩, h5, h7, h9⟩
    rcases h9 with h | ⟨a, b, c, d, e⟩
    · exact ⟨h1, h2, h3, h4, h5, by dsimp only; rw [h.2.2.2.2]; exact ⟨fun x hx => by simp at hx, List.Pairwise.nil⟩, h7, h8, .inl h⟩
    · exact ⟨h1, h2, h3, h4, h5, e, h7, h8, .inr ⟨a, b, c, d⟩⟩
end Go.Proofs.Ytmfpgnoeemjhiaa
