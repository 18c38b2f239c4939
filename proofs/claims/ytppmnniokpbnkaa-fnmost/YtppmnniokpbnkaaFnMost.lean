/- Most voices are more than half of them; what is drawn is answered as by the model. -/
import Derived.Test.YtppmnniokpbnkaaRows
import Derived.ProofKit
import Derived.OpenShut
import Derived.ShutString
import Derived.ChangeOld
import Derived.Test.YtppmnniokpbnkaaLawB
import Derived.Test.YtppmnniokpbnkaaBaI
namespace Go.Proofs.Ytppmnniokpbnkaa
open Go.ChangeShapes Go.WideShapes Go.ChangeAt Go.RowKit
open Go.ChangeMaps (open_string shut_string)
set_option linter.unusedVariables false

set_option maxRecDepth 100000 in
set_option maxHeartbeats 4000000 in
theorem walk_FnMost (a : Option Addr) (len cap : Nat) (w : World) (hr : RowB w a len) :
    Calls Try.prog 5 #[.slice a len cap] w fun e w' => e = .returned (.bool true) ∧ Below w.heap.size w w' := by
  by_cases hbig : len ≤ 1048576
  · have CB := hide1 (big11_no a len cap w hbig)
    have HC := hide1 (fun w' (hb : Below w.heap.size w w') => drawMost_any w' a len cap (codeB ((hr.code hbig).below hb (Nat.le_refl _)) hb.size))
    clear hr
    go_enter Try.func5, Try.ntmps5
    go_wp2_with fail
    refine CB.out.mono ?_
    rintro e w1 ⟨rfl, rfl⟩
    clear CB
    go_wp2
    go_loopw [3] (fun iv wr => ∃ i : Nat, 1 ≤ i ∧ i ≤ 6 ∧ iv = .int .i64 (i : Int) ∧ Below w.heap.size w wr) (fun iv _ => 6 - (intOf iv).toNat)
    case atStart => exact ⟨1, by omega, by omega, rfl, Below.refl _ _⟩
    case round =>
      obtain ⟨i, h1, h6, rfl, hbel⟩ := hrel
      by_cases h5 : i ≤ 5
      · have k1 : decide ((i : Int) ≤ 5) = true := by simp; omega
        obtain ⟨m, hm, hm1, hm2⟩ := most_few i h1 h5
        have CI := hide1 (implMost_any (i : Int) wr (by omega) (by omega))
        have CS := hide1 (fun w' => specMost_any (i : Int) w' (by omega))
        rw [hm] at CI CS
        have q1 : decide (2 * (m : Int) ≤ (i : Int)) = false := by simp; omega
        have q2 : decide ((i : Int) < (m : Int)) = false := by simp; omega
        have q3 : ((m : Int) != (m : Int)) = false := by simp
        clear hm
        go_wp2_with fail
        refine CI.out.mono ?_
        rintro e w2 ⟨rfl, hb2⟩
        have B2 := hide1 (hbel.trans (hb2.mono hbel.size))
        clear hb2 CI
        go_wp2_with fail
        refine (CS.out _).mono ?_
        rintro e w3 ⟨rfl, rfl⟩
        go_wp2
        go_roundw
        case rel => exact ⟨i + 1, by omega, by omega, by go_num, B2.out⟩
        case measure => simp [intOf]; omega
      · have k1 : decide ((i : Int) ≤ 5) = false := by simp; omega
        have CD := hide1 (HC.out wr hbel)
        go_wp2_with fail
        refine CD.out.mono ?_
        rintro e w2 ⟨n, rfl, hn, hb2⟩
        have B2 := hide1 (hbel.trans (hb2.mono hbel.size))
        have CI := hide1 (implMost_any n w2 hn.1 hn.2)
        have CS := hide1 (fun w' => specMost_any n w' hn.2)
        have C5 := hide1 (fun w' => implMost_any (-5) w' (by omega) (by omega))
        rw [show mostI (-5) = 0 from rfl] at C5
        generalize mostI n = j at *
        have q : (j == j) = true := by simp
        clear hb2 CD hn
        go_wp2_with fail
        refine CI.out.mono ?_
        rintro e w3 ⟨rfl, hb3⟩
        have B3 := hide1 (B2.out.trans (hb3.mono B2.out.size))
        clear hb3 CI B2
        go_wp2_with fail
        refine (CS.out _).mono ?_
        rintro e w4 ⟨rfl, rfl⟩
        go_wp2_with fail
        refine (C5.out _).mono ?_
        rintro e w4 ⟨rfl, hb4⟩
        have B4 := hide1 (B3.out.trans (hb4.mono B3.out.size))
        clear hb4 C5 B3
        go_wp2
        go_ret
        exact ⟨rfl, B4.out⟩
  · have CB := hide1 (big11_yes a len cap w hbig)
    clear hr
    go_enter Try.func5, Try.ntmps5
    go_wp2_with fail
    refine CB.out.mono ?_
    rintro e w1 ⟨rfl, rfl⟩
    go_wp2
    go_ret
    exact ⟨rfl, Below.refl _ _⟩

set_option maxRecDepth 100000 in
theorem lifted_FnMost (os : Os) (started : os.Started) (H : Type) (enc : TypeId × Value → H) :
    ReturnsInHanded {} Try.checked os 5 .any (Rows.fnMostSpec.pre6 enc Try.prog Try.f5 Rows.fnMostRow.domain false) (Rows.fnMostSpec.post enc Try.prog Try.f5 false true false false) := by
  refine returnsInHanded_of_change (C := Try.checked) (show ownKnob Try.prog.godebug = none by kernel_rfl) started (by kernel_rfl) Try.func5
    (ChangeSpec.witness6 (enc := enc) (C := Try.checked) false ⟨#[], #[.slice none 0 0], []⟩ 8 (by kernel_rfl) (by kernel_rfl) (by kernel_rfl) (by kernel_rfl)) ?_
  intro W base args ds gs before hval0 hW hcnd _
  have hval : ∀ (j : Nat) t v, Try.f5.params[j]? = some t → args[j]? = some v → Value.okWide Try.prog W .any base t v := hval0
  have hW' := hW
  obtain ⟨p, q, hA0, hV, rfl, hfz, hnd⟩ := hW
  have hA : DataW.TrodAll enc Try.prog W 0 (fun _ => true) true Try.f5.params.toList args.toList ds p := hA0
  rw [Try.params5] at hA hval
  obtain ⟨v0, d0, rfl, rfl, h0⟩ := trodAll_one hA
  obtain ⟨rfl, rfl⟩ := trodVars_none hV
  obtain ⟨a0, len0, cap0, rfl⟩ := okWide_slice Try.underlying22 (hval 0 22 v0 rfl rfl)
  have k0 := h0
  have lt0 : ∀ x ∈ p, x.block < W.heap.size := by obtain ⟨m, hm⟩ := k0; exact DataW.trod_lt m _ _ _ hm
  have r0 : RowB W a0 len0 := by
    obtain ⟨fuel, hf⟩ := h0
    rcases Go.ChangeShapes.open_ints Try.underlying22 Try.underlying5 (by kernel_rfl) hf with ⟨hcs, _⟩ | ⟨x, l, c, zs, hcs, _, hl, hm, hz, _, hcell, hwz⟩
    · simp [Value.cells] at hcs
      obtain ⟨rfl, rfl, rfl⟩ := hcs
      exact fun j hj => absurd hj (Nat.not_lt_zero _)
    · simp [Value.cells] at hcs
      obtain ⟨rfl, rfl, rfl⟩ := hcs
      exact rowB_of hl (by simpa using hz) hcell (fun n hn => bounds_u8 (hwz n hn))
  clear hA0 hval0
  refine (walk_FnMost a0 len0 cap0 W r0).mono fun e W' ⟨he, bel⟩ => ?_
  subst he
  exact ⟨_, rfl, _, _, _, [], _, [], hW', trodAll_mk1 (shut_bool Try.underlying4 _), trodAll_mk1 (Below.trod (show laidOutB Try.prog = true by kernel_rfl) (by kernel_rfl) (of_decide_eq_true (by kernel_rfl)) k0 bel lt0), rfl, bel.frame _, fun h => by cases h⟩

theorem proved_FnMost : Rows.FnMostSaid :=
  OpenClaim.holds_of_wide 5 Try.f5 rfl rfl rfl rfl rfl rfl rfl ⟨rfl, rfl, rfl, rfl, rfl⟩ rfl rfl rfl rfl rfl (by kernel_rfl) Try.func5 (by kernel_rfl)
    (of_decide_eq_true (by kernel_rfl)) (by unfold Func.isWrapper; first | (rw [if_pos (by decide +kernel)]; kernel_rfl) | (rw [if_neg (by decide +kernel)]; exact ⟨rfl, rfl⟩))
    (fun os started H enc _ => lifted_FnMost os started H enc)
#print axioms proved_FnMost
end Go.Proofs.Ytppmnniokpbnkaa
