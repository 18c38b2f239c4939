/- EventOk answers as its model at every argument. -/
import Derived.Test.YtmfpgnoeemjhiaaRows
import Derived.ProofKit
import Derived.OpenShut
import Derived.ShutString
import Derived.ChangeOld
import Derived.Test.YtmfpgnoeemjhiaaEvO
import Derived.Test.YtmfpgnoeemjhiaaEvS
import Derived.Test.YtmfpgnoeemjhiaaEvJ
namespace Go.Proofs.Ytmfpgnoeemjhiaa
open Go.ChangeShapes Go.WideShapes Go.ChangeAt Go.RowKit
open Go.ChangeMaps (open_string shut_string)
set_option linter.unusedVariables false

set_option maxRecDepth 100000 in
set_option maxHeartbeats 4000000 in
theorem walk_FnExactEventOk (x : Ev) (w : World) (w0 : wfEvent x) :
    Calls Try.prog 3 #[.agg #[.int .i64 x.k, .int .i64 x.n, .int .i64 x.pl, .int .i64 x.op, .string x.key, .string x.val]] w fun e w' => e = .returned (.bool true) ∧ Below w.heap.size w w' := by
  have CZ := hide1 (fun w' => szEvent_any x 1048576 w' (by have h1 := w0.2.2.2.2.1; have h2 := w0.2.2.2.2.2; unfold maxLen at h1 h2; omega) (Nat.le_refl _))
  have CT := hide1 (fun w' => toEvent_any x w')
  have CS := hide1 (fun w' => specEventOk_any x.k x.n x.pl x.op x.key x.val w')
  have CI := hide1 (fun w' => implEventOk_any x.k x.n x.pl x.op x.key x.val w')
  clear w0
  have B0 := hide1 ((Below.refl w.heap.size w).alloc (Nat.le_refl _) (.cells #[.int .i64 x.k, .int .i64 x.n, .int .i64 x.pl, .int .i64 x.op, .string x.key, .string x.val] 23))
  have N0 := hide1 (Blk.new w 23 #[.int .i64 x.k, .int .i64 x.n, .int .i64 x.pl, .int .i64 x.op, .string x.key, .string x.val])
  go_enter Try.func3, Try.ntmps3
  go_wp2_with fail
  refine (CZ.out _).mono ?_
  rintro e w1 ⟨hr, hb1⟩
  have N1 := hide1 (N0.out.below hb1 (by rw [World.size_alloc]; omega))
  have B1 := hide1 (B0.out.trans (hb1.mono B0.out.size))
  clear hb1 CZ N0 B0
  rcases hr with rfl | ⟨r, rfl, hrn⟩
  · go_wp2
    go_ret
    exact ⟨rfl, B1.out⟩
  clear hrn
  have qr : decide ((r : Int) < 0) = false := by simp
  have x0 : w1.cell? ⟨w.heap.size, 0, none⟩ = some (.int .i64 x.k) := N1.out.cell 0
  have x1 : w1.cell? ⟨w.heap.size, 1, none⟩ = some (.int .i64 x.n) := N1.out.cell 1
  have x2 : w1.cell? ⟨w.heap.size, 2, none⟩ = some (.int .i64 x.pl) := N1.out.cell 2
  have x3 : w1.cell? ⟨w.heap.size, 3, none⟩ = some (.int .i64 x.op) := N1.out.cell 3
  have x4 : w1.cell? ⟨w.heap.size, 4, none⟩ = some (.string x.key) := N1.out.cell 4
  have x5 : w1.cell? ⟨w.heap.size, 5, none⟩ = some (.string x.val) := N1.out.cell 5
  go_wp2_with fail
  refine (CT.out _).mono ?_
  rintro e w2 ⟨rfl, hb2⟩
  have N2 := hide1 (N1.out.below hb2 N1.out.lt)
  have B2 := hide1 (B1.out.trans (hb2.mono B1.out.size))
  clear hb2 N1 B1 x0 x1 x2 x3 x4 x5
  go_wp2_with fail
  refine (CS.out _).mono ?_
  rintro e w3 ⟨rfl, hb3⟩
  have N3 := hide1 (N2.out.below hb3 N2.out.lt)
  have B3 := hide1 (B2.out.trans (hb3.mono B2.out.size))
  clear hb3 N2 B2
  have x0 : w3.cell? ⟨w.heap.size, 0, none⟩ = some (.int .i64 x.k) := N3.out.cell 0
  have x1 : w3.cell? ⟨w.heap.size, 1, none⟩ = some (.int .i64 x.n) := N3.out.cell 1
  have x2 : w3.cell? ⟨w.heap.size, 2, none⟩ = some (.int .i64 x.pl) := N3.out.cell 2
  have x3 : w3.cell? ⟨w.heap.size, 3, none⟩ = some (.int .i64 x.op) := N3.out.cell 3
  have x4 : w3.cell? ⟨w.heap.size, 4, none⟩ = some (.string x.key) := N3.out.cell 4
  have x5 : w3.cell? ⟨w.heap.size, 5, none⟩ = some (.string x.val) := N3.out.cell 5
  go_wp2_with fail
  refine (CT.out _).mono ?_
  rintro e w4 ⟨rfl, hb4⟩
  have B4 := hide1 (B3.out.trans (hb4.mono B3.out.size))
  clear hb4 N3 B3 x0 x1 x2 x3 x4 x5
  go_wp2_with fail
  refine (CI.out _).mono ?_
  rintro e w5 ⟨rfl, hb5⟩
  have B5 := hide1 (B4.out.trans (hb5.mono B4.out.size))
  clear hb5 B4
  generalize decide (okEv ⟨x.k, x.n, x.pl, x.op, x.key, x.val⟩) = b
  have q : (b != b) = false := by cases b <;> rfl
  go_wp2
  go_ret
  exact ⟨rfl, B5.out⟩

set_option maxRecDepth 100000 in
theorem lifted_FnExactEventOk (os : Os) (started : os.Started) (H : Type) (enc : TypeId × Value → H) :
    ReturnsInHanded {} Try.checked os 3 .any (Rows.fnExactEventOkSpec.pre6 enc Try.prog Try.f3 Rows.fnExactEventOkRow.domain false) (Rows.fnExactEventOkSpec.post enc Try.prog Try.f3 false true false false) := by
  refine returnsInHanded_of_change (C := Try.checked) (show ownKnob Try.prog.godebug = none by kernel_rfl) started (by kernel_rfl) Try.func3
    (ChangeSpec.witness6 (enc := enc) (C := Try.checked) false ⟨#[], #[.agg #[.int .i64 0, .int .i64 0, .int .i64 0, .int .i64 0, .string ByteArray.empty, .string ByteArray.empty]], []⟩ 8 (by kernel_rfl) (by kernel_rfl) (by kernel_rfl) (by kernel_rfl)) ?_
  intro W base args ds gs before hval0 hW hcnd _
  have hval : ∀ (j : Nat) t v, Try.f3.params[j]? = some t → args[j]? = some v → Value.okWide Try.prog W .any base t v := hval0
  have hW' := hW
  obtain ⟨p, q, hA0, hV, rfl, hfz, hnd⟩ := hW
  have hA : DataW.TrodAll enc Try.prog W 0 (fun _ => true) true Try.f3.params.toList args.toList ds p := hA0
  rw [Try.params3] at hA hval
  obtain ⟨v0, vs0, d0, ds0, p0, q0, hargs, rfl, rfl, h0, r0⟩ := trodAll_cons hA
  obtain ⟨rfl, rfl, rfl⟩ := trodAll_nil r0
  obtain rfl : args = #[v0] := by cases args; simp_all
  obtain ⟨rfl, rfl⟩ := trodVars_none hV
  have k0 := h0
  have lt0 : ∀ x ∈ p0, x.block < W.heap.size := by obtain ⟨m, hm⟩ := k0; exact DataW.trod_lt m _ _ _ hm
  obtain ⟨a0, rfl, w0⟩ := open_event (hval 0 23 v0 rfl rfl) h0
  clear hA0 hval0
  try simp only [List.append_nil] at hW'
  refine (walk_FnExactEventOk a0 W w0).mono fun e W' ⟨he, bel⟩ => ?_
  subst he
  exact ⟨_, rfl, _, _, _, [], _, [], hW', trodAll_mk1 (shut_bool Try.underlying4 _), (trodAll_cons_mk (Below.trod (show laidOutB Try.prog = true by kernel_rfl) (by kernel_rfl) (of_decide_eq_true (by kernel_rfl)) k0 bel lt0) trodAll_mk0), rfl, bel.frame _, fun h => by cases h⟩

theorem proved_FnExactEventOk : Rows.FnExactEventOkSaid :=
  OpenClaim.holds_of_wide 3 Try.f3 rfl rfl rfl rfl rfl rfl rfl ⟨rfl, rfl, rfl, rfl, rfl⟩ rfl rfl rfl rfl rfl (by kernel_rfl) Try.func3 (by kernel_rfl)
    (of_decide_eq_true (by kernel_rfl)) (by unfold Func.isWrapper; first | (rw [if_pos (by decide +kernel)]; kernel_rfl) | (rw [if_neg (by decide +kernel)]; exact ⟨rfl, rfl⟩))
    (fun os started H enc _ => lifted_FnExactEventOk os started H enc)
#print axioms proved_FnExactEventOk
end Go.Proofs.Ytmfpgnoeemjhiaa
