/- PickValue answers as its model at every argument. -/
import Derived.Test.YtppmnniokpbnkaaRows
import Derived.ProofKit
import Derived.OpenShut
import Derived.ShutString
import Derived.ChangeOld
import Derived.Test.YtppmnniokpbnkaaBaO
import Derived.Test.YtppmnniokpbnkaaBaH
namespace Go.Proofs.Ytppmnniokpbnkaa
open Go.ChangeShapes Go.WideShapes Go.ChangeAt Go.RowKit
open Go.ChangeMaps (open_string shut_string)
set_option linter.unusedVariables false

set_option maxRecDepth 100000 in
set_option maxHeartbeats 4000000 in
theorem walk_FnExactPickValue (ao : Option Addr) (l : List Nt) (ca : Nat) (a1 : ByteArray) (w : World) (hR : RdN6 w ao l) (hl : l.length ≤ maxLen) (hw : ∀ i (h : i < l.length), wfN l[i]) (w1 : a1.size ≤ maxLen) :
    Calls Try.prog 8 #[.slice ao l.length ca, .string a1] w fun e w' => e = .returned (.bool true) ∧ Below w.heap.size w w' := by
  unfold maxLen at hl w1
  have CZ := hide1 (szNoteS_any ao l ca 1048576 w (Nat.le_refl _) (by omega) hR (fun i h => by have := (hw i h).2.2.2.2.2; unfold maxLen at this; omega))
  have HR := hide1 hR
  clear hR hl hw
  by_cases hs : a1.size ≤ 1048576
  · have q : decide (1048576 < (a1.size : Int)) = false := decide_eq_false (by omega)
    go_enter Try.func8, Try.ntmps8
    go_wp2_with fail
    refine CZ.out.mono ?_
    rintro e w1 ⟨hr, hb1⟩
    have B1 := hide1 hb1
    clear hb1 CZ
    rcases hr with rfl | ⟨r, rfl, _, hsm⟩
    · go_wp2
      go_ret
      exact ⟨rfl, B1.out⟩
    have hn : l.length ≤ 1048576 := hsm.1
    clear hsm
    have qr : decide ((r : Int) < 0) = false := by simp
    have T2 := hide1 (toNoteS_any ao l ca w1 hn (HR.out.later B1.out))
    go_wp2_with fail
    refine T2.out.mono ?_
    rintro e w2 ⟨b2, c2, rfl, ho2, hb2⟩
    have B2 := hide1 (B1.out.trans (hb2.mono B1.out.size))
    have L3 := hide1 (specPick_any b2 l c2 a1 w2 hn (rdN6_of_own ho2 rfl))
    clear ho2 hb2 T2
    go_wp2_with fail
    refine L3.out.mono ?_
    rintro e w3 ⟨rfl, hb3⟩
    have B3 := hide1 (B2.out.trans (hb3.mono B2.out.size))
    clear hb3 L3 B2 B1
    have T4 := hide1 (toNoteS_any ao l ca w3 hn (HR.out.later B3.out))
    go_wp2_with fail
    refine T4.out.mono ?_
    rintro e w4 ⟨b4, c4, rfl, ho4, hb4⟩
    have B4 := hide1 (B3.out.trans (hb4.mono B3.out.size))
    have R4 := hide1 (rdN6_of_own ho4 rfl)
    clear ho4 hb4 T4 B3
    have L5 := hide1 (implPick_any b4 l c4 a1 w4 hn R4.out)
    go_wp2_with fail
    refine L5.out.mono ?_
    rintro e w5 ⟨rfl, hb5⟩
    have B5 := hide1 (B4.out.trans (hb5.mono B4.out.size))
    have R5 := hide1 (R4.out.later hb5)
    clear hb5 L5 B4 R4
    generalize (pickS l a1).2 = v
    obtain ⟨qq, qe⟩ := tx_eq v
    have T6 := hide1 (toNoteS_any ao l ca w5 hn (HR.out.later B5.out))
    go_wp2_with fail
    refine T6.out.mono ?_
    rintro e w6 ⟨b6, c6, rfl, ho6, hb6⟩
    have B6 := hide1 (B5.out.trans (hb6.mono B5.out.size))
    have E7 := hide1 (eqNoteS_same b4 b6 l c4 c6 w6 hn (R5.out.later hb6) (rdN6_of_own ho6 rfl))
    clear ho6 hb6 T6 B5 R5
    go_wp2_with fail
    refine E7.out.mono ?_
    rintro e w7 ⟨rfl, hb7⟩
    have B7 := hide1 (B6.out.trans (hb7.mono B6.out.size))
    clear hb7 E7 B6
    go_wp2
    go_ret
    exact ⟨rfl, B7.out⟩
  · have q : decide (1048576 < (a1.size : Int)) = true := decide_eq_true (by omega)
    clear CZ HR
    go_enter Try.func8, Try.ntmps8
    go_wp2
    go_ret
    exact ⟨rfl, Below.refl _ _⟩

set_option maxRecDepth 100000 in
theorem lifted_FnExactPickValue (os : Os) (started : os.Started) (H : Type) (enc : TypeId × Value → H) :
    ReturnsInHanded {} Try.checked os 8 .any (Rows.fnExactPickValueSpec.pre6 enc Try.prog Try.f8 Rows.fnExactPickValueRow.domain false) (Rows.fnExactPickValueSpec.post enc Try.prog Try.f8 false true false false) := by
  refine returnsInHanded_of_change (C := Try.checked) (show ownKnob Try.prog.godebug = none by kernel_rfl) started (by kernel_rfl) Try.func8
    (ChangeSpec.witness6 (enc := enc) (C := Try.checked) false ⟨#[], #[.slice none 0 0, .string ByteArray.empty], []⟩ 8 (by kernel_rfl) (by kernel_rfl) (by kernel_rfl) (by kernel_rfl)) ?_
  intro W base args ds gs before hval0 hW hcnd _
  have hval : ∀ (j : Nat) t v, Try.f8.params[j]? = some t → args[j]? = some v → Value.okWide Try.prog W .any base t v := hval0
  have hW' := hW
  obtain ⟨p, q, hA0, hV, rfl, hfz, hnd⟩ := hW
  have hA : DataW.TrodAll enc Try.prog W 0 (fun _ => true) true Try.f8.params.toList args.toList ds p := hA0
  rw [Try.params8] at hA hval
  obtain ⟨v0, vs0, d0, ds0, p0, q0, hargs, rfl, rfl, h0, r0⟩ := trodAll_cons hA
  obtain ⟨v1, vs1, d1, ds1, p1, q1, rfl, rfl, rfl, h1, r1⟩ := trodAll_cons r0
  obtain ⟨rfl, rfl, rfl⟩ := trodAll_nil r1
  obtain rfl : args = #[v0, v1] := by cases args; simp_all
  obtain ⟨rfl, rfl⟩ := trodVars_none hV
  have k0 := h0
  have lt0 : ∀ x ∈ p0, x.block < W.heap.size := by obtain ⟨m, hm⟩ := k0; exact DataW.trod_lt m _ _ _ hm
  obtain ⟨ao0, l0, ca0, rfl, hR0, hl0, hw0⟩ := open_notes (hval 0 48 v0 rfl rfl) h0
  obtain ⟨a1, rfl, rfl, rfl, w1⟩ := open_string Try.underlying9 (hval 1 9 v1 rfl rfl) h1
  clear hA0 hval0
  try simp only [List.append_nil] at hW'
  refine (walk_FnExactPickValue ao0 l0 ca0 a1 W hR0 hl0 hw0 w1).mono fun e W' ⟨he, bel⟩ => ?_
  subst he
  exact ⟨_, rfl, _, _, _, [], _, [], hW', trodAll_mk1 (shut_bool Try.underlying4 _), (trodAll_cons_mk (Below.trod (show laidOutB Try.prog = true by kernel_rfl) (by kernel_rfl) (of_decide_eq_true (by kernel_rfl)) k0 bel lt0) (trodAll_cons_mk (shut_string Try.underlying9 w1) trodAll_mk0)), rfl, bel.frame _, fun h => by cases h⟩

theorem proved_FnExactPickValue : Rows.FnExactPickValueSaid :=
  OpenClaim.holds_of_wide 8 Try.f8 rfl rfl rfl rfl rfl rfl rfl ⟨rfl, rfl, rfl, rfl, rfl⟩ rfl rfl rfl rfl rfl (by kernel_rfl) Try.func8 (by kernel_rfl)
    (of_decide_eq_true (by kernel_rfl)) (by unfold Func.isWrapper; first | (rw [if_pos (by decide +kernel)]; kernel_rfl) | (rw [if_neg (by decide +kernel)]; exact ⟨rfl, rfl⟩))
    (fun os started H enc _ => lifted_FnExactPickValue os started H enc)
#print axioms proved_FnExactPickValue
end Go.Proofs.Ytppmnniokpbnkaa
