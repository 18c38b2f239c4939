/- The model's functions on items. -/
import Derived.Test.YtmfpgnoeemjhiaaImM
import Derived.Test.YtmfpgnoeemjhiaaQuA
import Derived.Test.YtmfpgnoeemjhiaaInv
import Derived.Deep.DeepCutAuto
namespace Go.Proofs.Ytmfpgnoeemjhiaa
open Go.RowKit
set_option linter.unusedVariables false

theorem in_yesI {x lo hi : Int} (h : lo ≤ x ∧ x ≤ hi) : (decide (lo ≤ x) && decide (x ≤ hi)) = true := by rw [Bool.and_eq_true, decide_eq_true_iff, decide_eq_true_iff]; exact h
theorem in_noI {x lo hi : Int} (h : ¬ (lo ≤ x ∧ x ≤ hi)) : (decide (lo ≤ x) && decide (x ≤ hi)) = false := by rw [Bool.and_eq_false_iff, decide_eq_false_iff_not, decide_eq_false_iff_not]; omega
theorem in_anyR (x lo hi : Int) (w : World) : Calls Try.prog 18 #[.int .i64 x, .int .i64 lo, .int .i64 hi] w fun e w' => e = .returned (.bool (decide (lo ≤ x) && decide (x ≤ hi))) ∧ w' = w := (in_any x lo hi w).mono (fun e w' h => ⟨h.1, h.2.symm⟩)
theorem okIms_no {l : List Im} {i : Nat} (hi : i < l.length) (h : ¬ okIm l[i]) : decide (okIms l) = false := decide_eq_false (fun e => h (e.1 _ (List.getElem_mem hi)))
theorem okIms_no2 {l : List Im} {i m : Nat} (hi : i < l.length) (hm : m < l.length) (e : m + 1 = i) (h : tLt l[m].k l[i].k = false) : decide (okIms l) = false := decide_eq_false (fun e2 => by
  have := (stepI_of e2.1 e2.2.1 l.length i hi hi).2 m hm e
  rw [h] at this
  cases this)
theorem okIms_end {l : List Im} (h : stepI l l.length) : decide ((l.length : Int) ≤ 12) = decide (okIms l) := by
  by_cases c : l.length ≤ 12
  · rw [decide_eq_true (show (l.length : Int) ≤ 12 by omega), decide_eq_true (show okIms l from ⟨stepI_all h, stepI_asc h, c⟩)]
  · rw [decide_eq_false (show ¬ (l.length : Int) ≤ 12 by omega), decide_eq_false (fun e : okIms l => c e.2.2)]
end Go.Proofs.Ytmfpgnoeemjhiaa
