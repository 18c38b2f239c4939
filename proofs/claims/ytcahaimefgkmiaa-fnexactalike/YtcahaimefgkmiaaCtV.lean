/- Whether a number is in a row: slices.Contains. -/
import Derived.Test.YtcahaimefgkmiaaTD
namespace Go.Proofs.Ytcahaimefgkmiaa
open Go.RowKit
set_option linter.unusedVariables false

set_option maxRecDepth 100000 in
set_option maxHeartbeats 1000000 in
theorem indexV_any (a : Option Addr) (ca : Nat) (l : List Int) (f : Int) (w : World) (hl : l.length ≤ 1048576) (hR : RdZ w a l) :
    Calls Try.prog 83 #[.slice a l.length ca, .int .i64 f] w fun e w' => (∃ z : Int, e = .returned (.int .i64 z) ∧ decide (0 ≤ z) = decide (f ∈ l) ∧ -1 ≤ z ∧ z ≤ 1048576) ∧ w' = w := by
  have HR := hide1 hR
  clear hR
  go_enter Try.func83, Try.ntmps83
  go_wp2
  go_loopw [8] (fun iv wr => ∃ i : Nat, i ≤ l.length ∧ iv = .int .i64 (i : Int) ∧ Hid (¬ f ∈ l.take i) ∧ wr = w) (fun iv _ => l.length - (intOf iv).toNat)
  case atStart => exact ⟨0, by omega, rfl, hide1 (by simp), rfl⟩
  case round =>
    obtain ⟨i, hi, rfl, ha, rfl⟩ := hrel
    by_cases hlt : i < l.length
    · have k1 : (i : Int) < (l.length : Int) := by omega
      have k0 : (0 : Int) ≤ (i : Int) := by omega
      obtain ⟨b, q, rfl, hb, x0⟩ := HR.out i hlt
      have HN := hide1 (show ¬ l[i] = f → ¬ f ∈ l.take (i + 1) from fun hne hm => by
        rw [List.take_succ_eq_append_getElem hlt, List.mem_append] at hm
        rcases hm with hm | hm
        · exact ha.out hm
        · exact hne (List.mem_singleton.1 hm).symm)
      have HT := hide1 (show l[i] = f → f ∈ l from fun hq => hq ▸ List.getElem_mem hlt)
      clear ha
      generalize l[i] = s at *
      by_cases cf : s = f
      · have HT2 := hide1 (decide_eq_true (HT.out cf))
        have q1 : (f == s) = true := by simp [cf]
        have q2 : (s == f) = true := by simp [cf]
        clear cf
        go_wp2
        go_ret
        exact ⟨⟨(i : Int), rfl, by rw [HT2.out]; simp, by omega, by omega⟩, rfl⟩
      · have HN2 := hide1 (HN.out cf)
        have q1 : (f == s) = false := by rw [beq_eq_false_iff_ne]; exact fun e => cf e.symm
        have q2 : (s == f) = false := by rw [beq_eq_false_iff_ne]; exact cf
        clear cf
        go_wp2
        go_roundw
        case rel => exact ⟨i + 1, by omega, by go_num, HN2, trivial⟩
        case measure => simp [intOf]; omega
    · obtain rfl : i = l.length := by omega
      have k1 : ¬ ((l.length : Int) < (l.length : Int)) := by omega
      have hz := ha.out
      rw [List.take_length] at hz
      have HZ := hide1 hz
      clear hz ha
      go_wp2
      go_ret
      exact ⟨⟨-1, rfl, by first | exact ⟨fun h => by omega, fun h => absurd h HZ.out⟩ | (rw [decide_eq_false HZ.out]; rfl), by omega, by omega⟩, rfl⟩
set_option maxRecDepth 100000 in
theorem containsV_any (a : Option Addr) (ca : Nat) (l : List Int) (f : Int) (w : World) (hl : l.length ≤ 1048576) (hR : RdZ w a l) :
    Calls Try.prog 72 #[.slice a l.length ca, .int .i64 f] w fun e w' => e = .returned (.bool (decide (f ∈ l))) ∧ w' = w := by
  have C := hide1 (indexV_any a ca l f w hl hR)
  clear hR
  go_enter Try.func72, Try.ntmps72
  go_wp2_with fail
  refine C.out.mono ?_
  rintro e w1 ⟨⟨z, rfl, hz, _, _⟩, rfl⟩
  have HZ := hide1 hz
  clear hz
  go_wp2
  go_ret
  exact ⟨by rw [← HZ.out]; rfl, rfl⟩
end Go.Proofs.Ytcahaimefgkmiaa
