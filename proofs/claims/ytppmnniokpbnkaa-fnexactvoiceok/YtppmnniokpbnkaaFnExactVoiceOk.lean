/- VoiceOk answers as its model at every argument. -/
import Derived.Test.YtppmnniokpbnkaaRows
import Derived.ProofKit
import Derived.OpenShut
import Derived.ShutString
import Derived.ChangeOld
import Derived.Test.YtppmnniokpbnkaaBaO
import Derived.Test.YtppmnniokpbnkaaBaI
namespace Go.Proofs.Ytppmnniokpbnkaa
open Go.ChangeShapes Go.WideShapes Go.ChangeAt Go.RowKit
open Go.ChangeMaps (open_string shut_string)
set_option linter.unusedVariables false

set_option maxRecDepth 100000 in
set_option maxHeartbeats 4000000 in
theorem walk_FnExactVoiceOk (x : Vo) (w : World) (w0 : wfV x) :
    Calls Try.prog 6 #[voV x] w fun e w' => e = .returned (.bool true) ∧ Below w.heap.size w w' := by
  have CZ := hide1 (fun w' => szVoice_any x 1048576 w' (by have := w0.2.2; unfold maxLen at this; omega) (Nat.le_refl _))
  have CT := hide1 (fun w' => toVoice_any x w')
  have CS := hide1 (fun w' (h : x.v.size ≤ 1048576) => specVoice_any x w' h)
  have CI := hide1 (fun w' (h : x.v.size ≤ 1048576) => implVoice_any x w' h)
  clear w0
  have B0 := hide1 ((Below.refl w.heap.size w).alloc (Nat.le_refl _) (.cells #[.int .i64 x.p, .int .i64 x.t, .string x.v] 38))
  have N0 := hide1 (Blk.new w 38 #[.int .i64 x.p, .int .i64 x.t, .string x.v])
  unfold voV at *
  go_enter Try.func6, Try.ntmps6
  go_wp2_with fail
  refine (CZ.out _).mono ?_
  rintro e w1 ⟨hr, hb1⟩
  have N1 := hide1 (N0.out.below hb1 (by rw [World.size_alloc]; omega))
  have B1 := hide1 (B0.out.trans (hb1.mono B0.out.size))
  clear hb1 CZ N0 B0
  rcases hr with rfl | ⟨r, rfl, hrn⟩
  · go_wp2
    go_ret
    exact ⟨rfl, B1.out⟩
  have hs : x.v.size ≤ 1048576 := by omega
  clear hrn
  have qr : decide ((r : Int) < 0) = false := by simp
  have x0 := N1.out.cell 0
  have x1 := N1.out.cell 1
  have x2 := N1.out.cell 2
  simp at x0 x1 x2
  go_wp2_with fail
  refine (CT.out _).mono ?_
  rintro e w2 ⟨rfl, hb2⟩
  have N2 := hide1 (N1.out.below hb2 N1.out.lt)
  have B2 := hide1 (B1.out.trans (hb2.mono B1.out.size))
  clear hb2 N1 B1 x0 x1 x2
  go_wp2_with fail
  refine (CS.out _ hs).mono ?_
  rintro e w3 ⟨rfl, hb3⟩
  have N3 := hide1 (N2.out.below hb3 N2.out.lt)
  have B3 := hide1 (B2.out.trans (hb3.mono B2.out.size))
  clear hb3 N2 B2
  have x0 := N3.out.cell 0
  have x1 := N3.out.cell 1
  have x2 := N3.out.cell 2
  simp at x0 x1 x2
  go_wp2_with fail
  refine (CT.out _).mono ?_
  rintro e w4 ⟨rfl, hb4⟩
  have B4 := hide1 (B3.out.trans (hb4.mono B3.out.size))
  clear hb4 N3 B3 x0 x1 x2
  go_wp2_with fail
  refine (CI.out _ hs).mono ?_
  rintro e w5 ⟨rfl, hb5⟩
  have B5 := hide1 (B4.out.trans (hb5.mono B4.out.size))
  clear hb5 B4
  generalize decide (okVo x) = b
  have q : (b != b) = false := by cases b <;> rfl
  go_wp2
  go_ret
  exact ⟨rfl, B5.out⟩

set_option maxRecDepth 100000 in
theorem lifted_FnExactVoiceOk (os : Os) (started : os.Started) (H : Type) (enc : TypeId × Value → H) :
    ReturnsInHanded {} Try.checked os 6 .any (Rows.fnExactVoiceOkSpec.pre6 enc Try.prog Try.f6 Rows.fnExactVoiceOkRow.domain false) (Rows.fnExactVoiceOkSpec.post enc Try.prog Try.f6 false true false false) := by
  refine returnsInHanded_of_change (C := Try.checked) (show ownKnob Try.prog.godebug = none by kernel_rfl) started (by kernel_rfl) Try.func6
    (ChangeSpec.witness6 (enc := enc) (C := Try.checked) false ⟨#[], #[.agg #[.int .i64 0, .int .i64 0, .string ByteArray.empty]], []⟩ 8 (by kernel_rfl) (by kernel_rfl) (by kernel_rfl) (by kernel_rfl)) ?_
  intro W base args ds gs before hval0 hW hcnd _
  have hval : ∀ (j : Nat) t v, Try.f6.params[j]? = some t → args[j]? = some v → Value.okWide Try.prog W .any base t v := hval0
  have hW' := hW
  obtain ⟨p, q, hA0, hV, rfl, hfz, hnd⟩ := hW
  have hA : DataW.TrodAll enc Try.prog W 0 (fun _ => true) true Try.f6.params.toList args.toList ds p := hA0
  rw [Try.params6] at hA hval
  obtain ⟨v0, vs0, d0, ds0, p0, q0, hargs, rfl, rfl, h0, r0⟩ := trodAll_cons hA
  obtain ⟨rfl, rfl, rfl⟩ := trodAll_nil r0
  obtain rfl : args = #[v0] := by cases args; simp_all
  obtain ⟨rfl, rfl⟩ := trodVars_none hV
  have k0 := h0
  have lt0 : ∀ x ∈ p0, x.block < W.heap.size := by obtain ⟨m, hm⟩ := k0; exact DataW.trod_lt m _ _ _ hm
  obtain ⟨a0, rfl, w0⟩ := open_voice (hval 0 38 v0 rfl rfl) h0
  clear hA0 hval0
  try simp only [List.append_nil] at hW'
  refine (walk_FnExactVoiceOk a0 W w0).mono fun e W' ⟨he, bel⟩ => ?_
  subst he
  exact ⟨_, rfl, _, _, _, [], _, [], hW', trodAll_mk1 (shut_bool Try.underlying4 _), (trodAll_cons_mk (Below.trod (show laidOutB Try.prog = true by kernel_rfl) (by kernel_rfl) (of_decide_eq_true (by kernel_rfl)) k0 bel lt0) trodAll_mk0), rfl, bel.frame _, fun h => by cases h⟩

theorem proved_FnExactVoiceOk : Rows.FnExactVoiceOkSaid :=
  OpenClaim.holds_of_wide 6 Try.f6 rfl rfl rfl rfl rfl rfl rfl ⟨rfl, rfl, rfl, rfl, rfl⟩ rfl rfl rfl rfl rfl (by kernel_rfl) Try.func6 (by kernel_rfl)
    (of_decide_eq_true (by kernel_rfl)) (by unfold Func.isWrapper; first | (rw [if_pos (by decide +kernel)]; kernel_rfl) | (rw [if_neg (by decide +kernel)]; exact ⟨rfl, rfl⟩))
    (fun os started H enc _ => lifted_FnExactVoiceOk os started H enc)
#print axioms proved_FnExactVoiceOk
end Go.Proofs.Ytppmnniokpbnkaa
