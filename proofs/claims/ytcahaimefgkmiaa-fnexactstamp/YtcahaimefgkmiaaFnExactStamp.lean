/- Stamp answers as its model at every argument. -/
import Derived.Test.YtcahaimefgkmiaaRows
import Derived.ProofKit
import Derived.OpenShut
import Derived.ShutString
import Derived.ChangeOld
import Derived.Test.YtcahaimefgkmiaaClO
import Derived.Test.YtcahaimefgkmiaaStI
import Derived.Test.YtcahaimefgkmiaaRowA
namespace Go.Proofs.Ytcahaimefgkmiaa
open Go.ChangeShapes Go.WideShapes Go.ChangeAt Go.RowKit
open Go.ChangeMaps (open_string shut_string)
set_option linter.unusedVariables false

theorem sizeClL : (Try.prog.info? 23).map (·.size) = some 9 := by kernel_rfl
set_option maxRecDepth 100000 in
set_option maxHeartbeats 4000000 in
theorem walk_FnExactStamp (x : Cl) (w : World) (w0 : wfCall x) :
    Calls Try.prog 3 #[.agg #[.int .i64 x.op, .string x.key, .string x.val, .int .i64 x.wh, .int .i64 x.dn, .int .i64 x.vr, .int .i64 x.ep, .int .i64 x.nu, .string x.gt]] w fun e w' => e = .returned (.bool true) ∧ Below w.heap.size w w' := by
  have CZ : Hid (∀ w', Calls Try.prog 8 #[.agg (clA x), .int .i64 (1048576 : Nat)] w' fun e w'' => (e = .returned (.int .i64 (-1)) ∨ ∃ r : Nat, e = .returned (.int .i64 (r : Int)) ∧ r + x.key.size + x.val.size + x.gt.size = 1048576) ∧ Below w'.heap.size w' w'') := fun w' => szCall_any x 1048576 w' (by have h := w0; unfold wfCall maxLen at h; omega) (Nat.le_refl _)
  have CT : Hid (∀ w', Calls Try.prog 10 #[.agg (clA x)] w' fun e w'' => e = .returned (.agg (clA x)) ∧ Below w'.heap.size w' w'') := fun w' => toCall_any x w'
  have CS := hide1 (fun w' => specStamp_any x w')
  have CI := hide1 (fun w' => implStamp_any x w')
  clear w0
  show Calls Try.prog 3 #[.agg (clA x)] w _
  have B0 := hide1 ((Below.refl w.heap.size w).alloc (Nat.le_refl _) (.cells (clA x) 23))
  have N0 := hide1 (BlkA.new w 23 (clA x))
  go_enter Try.func3, Try.ntmps3
  go_wp2_with (refine wpList_load_row rfl 23 _ rfl w.heap.size rfl 23 (clA x) (0, 0) _ N0.out Try.underlying23 rfl sizeClL ?_)
  refine (CZ.out _).mono ?_
  rintro e w1 ⟨hr, hb1⟩
  have N1 := hide1 (N0.out.below hb1 (by rw [World.size_alloc]; omega))
  have B1 := hide1 (B0.out.trans (hb1.mono B0.out.size))
  clear hb1 CZ N0 B0
  rcases hr with rfl | ⟨r, rfl, hrn⟩
  · go_wp2
    go_ret
    exact ⟨rfl, B1.out⟩
  clear hrn
  have qr : decide ((r : Int) < 0) = false := by simp
  go_wp2_with (refine wpList_load_row rfl 23 _ rfl w.heap.size rfl 23 (clA x) (0, 0) _ N1.out Try.underlying23 rfl sizeClL ?_)
  refine (CT.out _).mono ?_
  rintro e w2 ⟨rfl, hb2⟩
  have N2 := hide1 (N1.out.below hb2 N1.out.lt)
  have B2 := hide1 (B1.out.trans (hb2.mono B1.out.size))
  clear hb2 N1 B1
  go_wp2_with fail
  refine (CS.out _).mono ?_
  rintro e w3 ⟨rfl, hb3⟩
  have N3 := hide1 (N2.out.below hb3 N2.out.lt)
  have B3 := hide1 (B2.out.trans (hb3.mono B2.out.size))
  clear hb3 N2 B2
  go_wp2_with (refine wpList_load_row rfl 23 _ rfl w.heap.size rfl 23 (clA x) (0, 0) _ N3.out Try.underlying23 rfl sizeClL ?_)
  refine (CT.out _).mono ?_
  rintro e w4 ⟨rfl, hb4⟩
  have N4 := hide1 (N3.out.below hb4 N3.out.lt)
  have B4 := hide1 (B3.out.trans (hb4.mono B3.out.size))
  clear hb4 N3 B3
  go_wp2_with fail
  refine (CI.out _).mono ?_
  rintro e w5 ⟨rfl, hb5⟩
  have N5 := hide1 (N4.out.below hb5 N4.out.lt)
  have B5 := hide1 (B4.out.trans (hb5.mono B4.out.size))
  clear hb5 N4 B4
  have q : (stp x != stp x) = false := by simp
  go_wp2
  go_ret
  exact ⟨rfl, B5.out⟩

set_option maxRecDepth 100000 in
theorem lifted_FnExactStamp (os : Os) (started : os.Started) (H : Type) (enc : TypeId × Value → H) :
    ReturnsInHanded {} Try.checked os 3 .any (Rows.fnExactStampSpec.pre6 enc Try.prog Try.f3 Rows.fnExactStampRow.domain false) (Rows.fnExactStampSpec.post enc Try.prog Try.f3 false true false false) := by
  refine returnsInHanded_of_change (C := Try.checked) (show ownKnob Try.prog.godebug = none by kernel_rfl) started (by kernel_rfl) Try.func3
    (ChangeSpec.witness6 (enc := enc) (C := Try.checked) false ⟨#[], #[.agg #[.int .i64 0, .string ByteArray.empty, .string ByteArray.empty, .int .i64 0, .int .i64 0, .int .i64 0, .int .i64 0, .int .i64 0, .string ByteArray.empty]], []⟩ 8 (by kernel_rfl) (by kernel_rfl) (by kernel_rfl) (by kernel_rfl)) ?_
  intro W base args ds gs before hval0 hW hcnd _
  have hval : ∀ (j : Nat) t v, Try.f3.params[j]? = some t → args[j]? = some v → Value.okWide Try.prog W .any base t v := hval0
  have hW' := hW
  obtain ⟨p, q, hA0, hV, rfl, hfz, hnd⟩ := hW
  have hA : DataW.TrodAll enc Try.prog W 0 (fun _ => true) true Try.f3.params.toList args.toList ds p := hA0
  rw [Try.params3] at hA hval
  obtain ⟨v0, vs0, d0, ds0, p0, q0, hargs, rfl, rfl, h0, r0⟩ := trodAll_cons hA
  obtain ⟨rfl, rfl, rfl⟩ := trodAll_nil r0
  obtain rfl : args = #[v0] := by cases args; simp_all
  obtain ⟨rfl, rfl⟩ := trodVars_none hV
  have k0 := h0
  have lt0 : ∀ x ∈ p0, x.block < W.heap.size := by obtain ⟨m, hm⟩ := k0; exact DataW.trod_lt m _ _ _ hm
  obtain ⟨a0, rfl, w0⟩ := open_call (hval 0 23 v0 rfl rfl) h0
  clear hA0 hval0
  try simp only [List.append_nil] at hW'
  refine (walk_FnExactStamp a0 W w0).mono fun e W' ⟨he, bel⟩ => ?_
  subst he
  exact ⟨_, rfl, _, _, _, [], _, [], hW', trodAll_mk1 (shut_bool Try.underlying4 _), (trodAll_cons_mk (Below.trod (show laidOutB Try.prog = true by kernel_rfl) (by kernel_rfl) (of_decide_eq_true (by kernel_rfl)) k0 bel lt0) trodAll_mk0), rfl, bel.frame _, fun h => by cases h⟩

theorem proved_FnExactStamp : Rows.FnExactStampSaid :=
  OpenClaim.holds_of_wide 3 Try.f3 rfl rfl rfl rfl rfl rfl rfl ⟨rfl, rfl, rfl, rfl, rfl⟩ rfl rfl rfl rfl rfl (by kernel_rfl) Try.func3 (by kernel_rfl)
    (of_decide_eq_true (by kernel_rfl)) (by unfold Func.isWrapper; first | (rw [if_pos (by decide +kernel)]; kernel_rfl) | (rw [if_neg (by decide +kernel)]; exact ⟨rfl, rfl⟩))
    (fun os started H enc _ => lifted_FnExactStamp os started H enc)
#print axioms proved_FnExactStamp
end Go.Proofs.Ytcahaimefgkmiaa
