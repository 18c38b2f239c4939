/- The model's functions on items. -/
import Derived.Test.YtgmiohmglffidaaImM
import Derived.Test.YtgmiohmglffidaaQuA
import Derived.Test.YtgmiohmglffidaaInv
import Derived.Deep.DeepCutAuto
namespace Go.Proofs.Ytgmiohmglffidaa
open Go.RowKit
set_option linter.unusedVariables false

theorem in_yesI {x lo hi : Int} (h : lo ≤ x ∧ x ≤ hi) : (decide (lo ≤ x) && decide (x ≤ hi)) = true := by rw [Bool.and_eq_true, decide_eq_true_iff, decide_eq_true_iff]; exact h
theorem in_noI {x lo hi : Int} (h : ¬ (lo ≤ x ∧ x ≤ hi)) : (decide (lo ≤ x) && decide (x ≤ hi)) = false := by rw [Bool.and_eq_false_iff, decide_eq_false_iff_not, decide_eq_false_iff_not]; omega
theorem in_anyR (x lo hi : Int) (w : World) : Calls Try.prog 23 #[.int .i64 x, .int .i64 lo, .int .i64 hi] w fun e w' => e = .returned (.bool (decide (lo ≤ x) && decide (x ≤ hi))) ∧ w' = w := (in_any x lo hi w).mono (fun e w' h => ⟨h.1, h.2.symm⟩)
theorem okIms_no {l : List Im} {i : Nat} (hi : i < l.length) (h : ¬ okIm l[i]) : decide (okIms l) = false := decide_eq_false (fun e => h (e.1 _ (List.getElem_mem hi)))
theorem okIms_no2 {l : List Im} {i m : Nat} (hi : i < l.length) (hm : m < l.length) (e : m + 1 = i) (h : tLt l[m].k l[i].k = false) : decide (okIms l) = false := decide_eq_false (fun e2 => by
  have := (stepI_of e2.1 e2.2.1 l.length i hi hi).2 m hm e
  rw [h] at this
  cases this)
theorem okIms_end {l : List Im} (h : stepI l l.length) : decide ((l.length : Int) ≤ 12) = decide (okIms l) := by
  by_cases c : l.length ≤ 12
  · rw [decide_eq_true (show (l.length : Int) ≤ 12 by omega), decide_eq_true (show okIms l from ⟨stepI_all h, stepI_asc h, c⟩)]
  · rw [decide_eq_false (show ¬ (l.length : Int) ≤ 12 by omega), decide_eq_false (fun e : okIms l => c e.2.2)]
set_option maxRecDepth 100000 in
set_option maxHeartbeats 8000000 in
theorem specItemsOk_any (a : Option Addr) (l : List Im) (ca : Nat) (w : World) (hl : l.length ≤ 4194304) (hA : RdG imC 3 w a l) :
    Calls Try.prog 41 #[.slice a l.length ca] w fun e w' => e = .returned (.bool (decide (okIms l))) ∧ Below w.heap.size w w' := by
  have HA := hide1 hA
  clear hA
  go_enter Try.func41, Try.ntmps41
  go_wp2
  go_loopw [3] (fun iv wr => ∃ i : Nat, i ≤ l.length ∧ iv = .int .i64 (i : Int) ∧ Hid (stepI l i) ∧ Hid (Below w.heap.size w wr)) (fun iv _ => l.length - (intOf iv).toNat)
  case atStart => exact ⟨0, Nat.zero_le _, rfl, hide1 (fun j _ h => by omega), hide1 (Below.refl _ _)⟩
  case round =>
    obtain ⟨i, hi, rfl, HS, BB⟩ := hrel
    by_cases hlt : i < l.length
    · have k1 : (i : Int) < (l.length : Int) := by omega
      obtain ⟨b, o, hab, hb, hc⟩ := HA.out i hlt
      have x0 : wr.cell? ⟨b, o + i * 3, none⟩ = some (.string l[i].k) := (BB.out.cell (p := ⟨b, o + i * 3, none⟩) hb).trans (hc 0 (by omega))
      have x1 : wr.cell? ⟨b, o + i * 3 + 1, none⟩ = some (.string l[i].v) := (BB.out.cell (p := ⟨b, o + i * 3 + 1, none⟩) hb).trans (hc 1 (by omega))
      have x2 : wr.cell? ⟨b, o + i * 3 + 2, none⟩ = some (.int .i64 l[i].n) := (BB.out.cell (p := ⟨b, o + i * 3 + 2, none⟩) hb).trans (hc 2 (by omega))
      have NO := hide1 (fun h => okIms_no hlt h)
      have YES := hide1 (fun h1 h2 => stepI_next HS.out hlt h1 h2)
      have PR := hide1 (fun m (hm : m < l.length) (e : m + 1 = i) => And.intro (fun h => okIms_no2 hlt hm e h) (show w.cell? ⟨b, o + m * 3, none⟩ = some (.string l[m].k) by obtain ⟨b', o', e', _, hc'⟩ := HA.out m hm; rw [hab] at e'; injection e' with e'; injection e' with e1 e2; subst e1; subst e2; exact hc' 0 (by omega)))
      unfold okIm at NO YES
      generalize l[i].k = ky at *
      generalize l[i].v = vy at *
      generalize l[i].n = ny at *
      subst hab
      have lb : b < wr.heap.size := Nat.lt_of_lt_of_le hb BB.out.size
      clear hc
      have FB := hide1 (And.intro (Blk.new wr 27 #[.string ky, .string vy, .int .i64 ny]) ((Below.refl wr.heap.size wr).alloc (Nat.le_refl _) (.cells #[.string ky, .string vy, .int .i64 ny] 27)))
      go_upto_region 5 with fail
      generalize (wr.alloc (.cells #[.string ky, .string vy, .int .i64 ny] 27)) = u at FB ⊢
      obtain ⟨X, hX⟩ : ∃ X, X = wr.heap.size := ⟨_, rfl⟩
      have KX := hide1 FB.out.1
      rw [← hX] at KX ⊢
      have BU := hide1 (BB.out.trans (FB.out.2.mono BB.out.size))
      have y0 : u.cell? ⟨X, 0, none⟩ = some (.string ky) := KX.out.cell 0
      have y1 : u.cell? ⟨X, 1, none⟩ = some (.string vy) := KX.out.cell 1
      have y2 : u.cell? ⟨X, 2, none⟩ = some (.int .i64 ny) := KX.out.cell 2
      have C1 := hide1 (fun w' => in_anyR (ky.size : Int) 1 12 w')
      have C2 := hide1 (fun w' => in_anyR ny 1 1000000000 w')
      clear x0 x1 x2 hX FB
      by_cases c1 : 1 ≤ ky.size ∧ ky.size ≤ 12
      · rw [in_yesI (show (1 : Int) ≤ (ky.size : Int) ∧ (ky.size : Int) ≤ 12 by omega)] at C1
        by_cases c2 : vy.size ≤ 20
        · have q2 : decide ((20 : Int) < (vy.size : Int)) = false := decide_eq_false (by omega)
          by_cases c3 : 1 ≤ ny ∧ ny ≤ 1000000000
          · rw [in_yesI c3] at C2
            by_cases c4 : 0 < i
            · have q4 : decide ((0 : Int) < (i : Int)) = true := decide_eq_true (by omega)
              obtain ⟨m, hm⟩ : ∃ m, m + 1 = i := ⟨i - 1, by omega⟩
              have hml : m < l.length := by omega
              obtain ⟨P1, P2⟩ := PR.out m hml hm
              have p0 : u.cell? ⟨b, o + m * 3, none⟩ = some (.string l[m].k) := (BU.out.cell (p := ⟨b, o + m * 3, none⟩) hb).trans P2
              have YS := hide1 (fun (h : tLt l[m].k ky = true) => YES.out ⟨c1, c2, c3⟩ (fun m' hm' e' => by have : m' = m := (by omega); subst this; exact h))
              have P1h := hide1 P1
              have hsub : IntKind.i64.wrap ((i : Int) - 1) = (m : Int) := by rw [show (i : Int) - 1 = (m : Int) by omega]; exact IntWalk.i64_in _ ⟨by omega, by omega⟩
              have hsub2 : (i : Int) - 1 = (m : Int) := by omega
              have hm0 : (m : Int) < (l.length : Int) := by omega
              generalize l[m].k = pk at *
              clear P1 P2 PR NO YES
              cases ct : tLt pk ky with
              | true =>
                have qt : Op.bytesLess pk.toList ky.toList = true := ct
                have CT := hide1 ct
                clear ct
                go_quiet ((go_at_call 23; first | (with_reducible exact Calls.quiet_of_same (C1.out _)) | (with_reducible exact Calls.quiet_of_same (C2.out _))))
                go_wp2
                go_roundw
                case rel => exact ⟨i + 1, by omega, by go_num, hide1 (YS.out CT.out), hide1 (below_drewN BU.out _)⟩
                case measure => simp [intOf]; omega
              | false =>
                have qt : Op.bytesLess pk.toList ky.toList = false := ct
                have RES := hide1 (P1h.out ct)
                clear ct P1h YS
                go_quiet ((go_at_call 23; first | (with_reducible exact Calls.quiet_of_same (C1.out _)) | (with_reducible exact Calls.quiet_of_same (C2.out _))))
                go_wp2
                go_ret
                exact ⟨by rw [RES.out]; rfl, below_drewN BU.out _⟩
            · have q4 : decide ((0 : Int) < (i : Int)) = false := decide_eq_false (by omega)
              have q5 : ¬ ((0 : Int) < (i : Int)) := by omega
              have YS := hide1 (YES.out ⟨c1, c2, c3⟩ (fun m' hm' e' => by omega))
              clear PR NO YES
              go_quiet ((go_at_call 23; first | (with_reducible exact Calls.quiet_of_same (C1.out _)) | (with_reducible exact Calls.quiet_of_same (C2.out _))))
              go_wp2
              go_roundw
              case rel => exact ⟨i + 1, by omega, by go_num, YS, hide1 (below_drewN BU.out _)⟩
              case measure => simp [intOf]; omega
          · rw [in_noI c3] at C2
            have RES := hide1 (NO.out (fun h => c3 h.2.2))
            clear PR NO YES
            go_quiet ((go_at_call 23; first | (with_reducible exact Calls.quiet_of_same (C1.out _)) | (with_reducible exact Calls.quiet_of_same (C2.out _))))
            go_wp2
            go_ret
            exact ⟨by rw [RES.out]; rfl, below_drewN BU.out _⟩
        · have q2 : decide ((20 : Int) < (vy.size : Int)) = true := decide_eq_true (by omega)
          have RES := hide1 (NO.out (fun h => c2 h.2.1))
          clear PR NO YES
          go_quiet ((go_at_call 23; first | (with_reducible exact Calls.quiet_of_same (C1.out _)) | (with_reducible exact Calls.quiet_of_same (C2.out _))))
          go_wp2
          go_ret
          exact ⟨by rw [RES.out]; rfl, below_drewN BU.out _⟩
      · rw [in_noI (show ¬ ((1 : Int) ≤ (ky.size : Int) ∧ (ky.size : Int) ≤ 12) by omega)] at C1
        have RES := hide1 (NO.out (fun h => c1 h.1))
        clear PR NO YES
        go_quiet ((go_at_call 23; first | (with_reducible exact Calls.quiet_of_same (C1.out _)) | (with_reducible exact Calls.quiet_of_same (C2.out _))))
        go_wp2
        go_ret
        exact ⟨by rw [RES.out]; rfl, below_drewN BU.out _⟩
    · obtain rfl : i = l.length := by omega
      have k1 : ¬ ((l.length : Int) < (l.length : Int)) := by omega
      go_wp2
      go_ret
      exact ⟨by rw [← okIms_end HS.out]; rfl, BB.out⟩
end Go.Proofs.Ytgmiohmglffidaa
