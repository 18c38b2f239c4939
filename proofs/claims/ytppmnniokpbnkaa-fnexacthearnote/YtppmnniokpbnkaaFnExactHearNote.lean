/- HearNote answers as its model at every argument. -/
import Derived.Test.YtppmnniokpbnkaaRows
import Derived.ProofKit
import Derived.OpenShut
import Derived.ShutString
import Derived.ChangeOld
import Derived.Test.YtppmnniokpbnkaaBaO
import Derived.Test.YtppmnniokpbnkaaBaU
import Derived.Deep.DeepCutAuto
namespace Go.Proofs.Ytppmnniokpbnkaa
open Go.ChangeShapes Go.WideShapes Go.ChangeAt Go.RowKit
open Go.ChangeMaps (open_string shut_string)
set_option linter.unusedVariables false

set_option maxRecDepth 100000 in
set_option maxHeartbeats 4000000 in
theorem walk_FnExactHearNote (x : Vo) (m : Nt) (w : World) (w0 : wfV x) (w1 : wfN m) :
    Calls Try.prog 7 #[voV x, ntV m] w fun e w' => e = .returned (.bool true) ∧ Below w.heap.size w w' := by
  have CZ := hide1 (fun w' => szVoice_any x 1048576 w' (by have := w0.2.2; unfold maxLen at this; omega) (Nat.le_refl _))
  have CY := hide1 (fun w' r (hr : r ≤ 1048576) => szNote_any m r w' (by have := w1.2.2.2.2.2; unfold maxLen at this; omega) hr)
  have CT := hide1 (fun w' => toVoice_any x w')
  have CU := hide1 (fun w' => toNote_any m w')
  have CS := hide1 (fun w' (h : x.v.size ≤ 1048576) (h2 : m.v.size ≤ 1048576) => specHear_any x m w' h h2)
  have CI := hide1 (fun w' (h : x.v.size ≤ 1048576) (h2 : m.v.size ≤ 1048576) => implHear_any x m w' h h2)
  have CE := hide1 (fun w' => eqVoice_same (hearA x m).1 w')
  have CF := hide1 (fun w' => eqNote_same (hearA x m).2.1 w')
  clear w0 w1
  unfold HearE at CS CI
  generalize hearA x m = a at *
  obtain ⟨y, n, b⟩ := a
  dsimp only at *
  have F0 := hide1 (blkN2 w #[.int .i64 x.p, .int .i64 x.t, .string x.v] #[.int .i64 m.k, .int .i64 m.f, .int .i64 m.o, .int .i64 m.b, .int .i64 m.t, .string m.v] 38 42)
  unfold voV ntV at *
  go_enter Try.func7, Try.ntmps7
  go_wp2_with fail
  refine (CZ.out _).mono ?_
  rintro e w1 ⟨hr, hb1⟩
  have F1 := hide1 (And.intro (F0.out.1.below hb1 F0.out.1.lt) (And.intro (F0.out.2.1.below hb1 F0.out.2.1.lt) (F0.out.2.2.trans (hb1.mono F0.out.2.2.size))))
  clear hb1 CZ F0
  rcases hr with rfl | ⟨r, rfl, hrn⟩
  · go_wp2
    go_ret
    exact ⟨rfl, F1.out.2.2⟩
  have hs : x.v.size ≤ 1048576 := by omega
  have hr1 : r ≤ 1048576 := by omega
  clear hrn
  have qr : decide ((r : Int) < 0) = false := by simp
  have y0 := F1.out.2.1.cell 0
  have y1 := F1.out.2.1.cell 1
  have y2 := F1.out.2.1.cell 2
  have y3 := F1.out.2.1.cell 3
  have y4 := F1.out.2.1.cell 4
  have y5 := F1.out.2.1.cell 5
  simp at y0 y1 y2 y3 y4 y5
  go_wp2_with fail
  refine (CY.out _ r hr1).mono ?_
  rintro e w2 ⟨hq, hb2⟩
  have F2 := hide1 (And.intro (F1.out.1.below hb2 F1.out.1.lt) (And.intro (F1.out.2.1.below hb2 F1.out.2.1.lt) (F1.out.2.2.trans (hb2.mono F1.out.2.2.size))))
  clear hb2 CY F1 y0 y1 y2 y3 y4 y5
  rcases hq with rfl | ⟨r2, rfl, hrn⟩
  · go_wp2
    go_ret
    exact ⟨rfl, F2.out.2.2⟩
  have hs2 : m.v.size ≤ 1048576 := by omega
  clear hrn
  have qr2 : decide ((r2 : Int) < 0) = false := by simp
  have X0 := hide1 F2.out.1
  have X1 := hide1 F2.out.2.1
  have BX := hide1 F2.out.2.2
  clear F2
  go_upto_region 8 with fail
  go_cut [6, 7, 8] (fun bv nv rv wx => ∃ b1 b2 : Nat, bv = .pointer (some ⟨b1, 0, none⟩) ∧ nv = .pointer (some ⟨b2, 0, none⟩) ∧ rv = .bool b ∧ Hid (w2.heap.size ≤ b1 ∧ w2.heap.size ≤ b2) ∧ Hid (Blk wx b1 27 [.int .i64 y.p, .int .i64 y.t, .string y.v]) ∧ Hid (Blk wx b2 29 [.int .i64 n.k, .int .i64 n.f, .int .i64 n.o, .int .i64 n.b, .int .i64 n.t, .string n.v]) ∧ Hid (Below w2.heap.size w2 wx))
  case first =>
    refine regExH8 rfl X0.out.lt X1.out.lt (X0.out.cell 0) (X0.out.cell 1) (X0.out.cell 2) (X1.out.cell 0) (X1.out.cell 1) (X1.out.cell 2) (X1.out.cell 3) (X1.out.cell 4) (X1.out.cell 5) CT.out CU.out (fun w' => CS.out w' hs hs2) ?_
    intro b1 b2 w' g1 g2 g3 g4 g5 g6
    go_wp2_with fail
    go_meet
    exact ⟨b1, b2, rfl, rfl, rfl, hide1 ⟨g1, g2⟩, hide1 g4, hide1 g5, hide1 g6⟩
  case rest =>
  obtain ⟨b1, b2, rfl, rfl, rfl, hle, P1, P2, G1⟩ := hcut
  have Y0 := hide1 (X0.out.below G1.out X0.out.lt)
  have Y1 := hide1 (X1.out.below G1.out X1.out.lt)
  have BY := hide1 (BX.out.trans (G1.out.mono BX.out.size))
  clear X0 X1 BX G1 hle CS
  generalize wc = w3 at *
  go_upto_region 9 with fail
  go_cut [9, 10, 11] (fun bv nv rv wx => ∃ b1 b2 : Nat, bv = .pointer (some ⟨b1, 0, none⟩) ∧ nv = .pointer (some ⟨b2, 0, none⟩) ∧ rv = .bool b ∧ Hid (w3.heap.size ≤ b1 ∧ w3.heap.size ≤ b2) ∧ Hid (Blk wx b1 27 [.int .i64 y.p, .int .i64 y.t, .string y.v]) ∧ Hid (Blk wx b2 29 [.int .i64 n.k, .int .i64 n.f, .int .i64 n.o, .int .i64 n.b, .int .i64 n.t, .string n.v]) ∧ Hid (Below w3.heap.size w3 wx))
  case first =>
    refine regExH9 rfl Y0.out.lt Y1.out.lt (Y0.out.cell 0) (Y0.out.cell 1) (Y0.out.cell 2) (Y1.out.cell 0) (Y1.out.cell 1) (Y1.out.cell 2) (Y1.out.cell 3) (Y1.out.cell 4) (Y1.out.cell 5) CT.out CU.out (fun w' => CI.out w' hs hs2) ?_
    intro b1 b2 w' g1 g2 g3 g4 g5 g6
    go_wp2_with fail
    go_meet
    exact ⟨b1, b2, rfl, rfl, rfl, hide1 ⟨g1, g2⟩, hide1 g4, hide1 g5, hide1 g6⟩
  case rest =>
  obtain ⟨b3, b4, rfl, rfl, rfl, hle, P3, P4, G2⟩ := hcut
  have R1 := hide1 (P1.out.below G2.out P1.out.lt)
  have R2 := hide1 (P2.out.below G2.out P2.out.lt)
  have BZ := hide1 (BY.out.trans (G2.out.mono BY.out.size))
  clear Y0 Y1 BY G2 hle CI P1 P2 CT CU
  have a0 : wc.cell? ⟨b3, 0, none⟩ = some (.int .i64 y.p) := P3.out.cell 0
  have a1 : wc.cell? ⟨b3, 1, none⟩ = some (.int .i64 y.t) := P3.out.cell 1
  have a2 : wc.cell? ⟨b3, 2, none⟩ = some (.string y.v) := P3.out.cell 2
  have d0 : wc.cell? ⟨b1, 0, none⟩ = some (.int .i64 y.p) := R1.out.cell 0
  have d1 : wc.cell? ⟨b1, 1, none⟩ = some (.int .i64 y.t) := R1.out.cell 1
  have d2 : wc.cell? ⟨b1, 2, none⟩ = some (.string y.v) := R1.out.cell 2
  have f0 : wc.cell? ⟨b4, 0, none⟩ = some (.int .i64 n.k) := P4.out.cell 0
  have f1 : wc.cell? ⟨b4, 1, none⟩ = some (.int .i64 n.f) := P4.out.cell 1
  have f2 : wc.cell? ⟨b4, 2, none⟩ = some (.int .i64 n.o) := P4.out.cell 2
  have f3 : wc.cell? ⟨b4, 3, none⟩ = some (.int .i64 n.b) := P4.out.cell 3
  have f4 : wc.cell? ⟨b4, 4, none⟩ = some (.int .i64 n.t) := P4.out.cell 4
  have f5 : wc.cell? ⟨b4, 5, none⟩ = some (.string n.v) := P4.out.cell 5
  have h0 : wc.cell? ⟨b2, 0, none⟩ = some (.int .i64 n.k) := R2.out.cell 0
  have h1 : wc.cell? ⟨b2, 1, none⟩ = some (.int .i64 n.f) := R2.out.cell 1
  have h2 : wc.cell? ⟨b2, 2, none⟩ = some (.int .i64 n.o) := R2.out.cell 2
  have h3 : wc.cell? ⟨b2, 3, none⟩ = some (.int .i64 n.b) := R2.out.cell 3
  have h4 : wc.cell? ⟨b2, 4, none⟩ = some (.int .i64 n.t) := R2.out.cell 4
  have h5 : wc.cell? ⟨b2, 5, none⟩ = some (.string n.v) := R2.out.cell 5
  go_wp2_with fail
  refine (CE.out _).mono ?_
  rintro e w4 ⟨rfl, hb4⟩
  clear a0 a1 a2 d0 d1 d2 f0 f1 f2 f3 f4 f5 h0 h1 h2 h3 h4 h5
  have f0 : w4.cell? ⟨b4, 0, none⟩ = some (.int .i64 n.k) := (P4.out.below hb4 P4.out.lt).cell 0
  have f1 : w4.cell? ⟨b4, 1, none⟩ = some (.int .i64 n.f) := (P4.out.below hb4 P4.out.lt).cell 1
  have f2 : w4.cell? ⟨b4, 2, none⟩ = some (.int .i64 n.o) := (P4.out.below hb4 P4.out.lt).cell 2
  have f3 : w4.cell? ⟨b4, 3, none⟩ = some (.int .i64 n.b) := (P4.out.below hb4 P4.out.lt).cell 3
  have f4 : w4.cell? ⟨b4, 4, none⟩ = some (.int .i64 n.t) := (P4.out.below hb4 P4.out.lt).cell 4
  have f5 : w4.cell? ⟨b4, 5, none⟩ = some (.string n.v) := (P4.out.below hb4 P4.out.lt).cell 5
  have h0 : w4.cell? ⟨b2, 0, none⟩ = some (.int .i64 n.k) := (R2.out.below hb4 R2.out.lt).cell 0
  have h1 : w4.cell? ⟨b2, 1, none⟩ = some (.int .i64 n.f) := (R2.out.below hb4 R2.out.lt).cell 1
  have h2 : w4.cell? ⟨b2, 2, none⟩ = some (.int .i64 n.o) := (R2.out.below hb4 R2.out.lt).cell 2
  have h3 : w4.cell? ⟨b2, 3, none⟩ = some (.int .i64 n.b) := (R2.out.below hb4 R2.out.lt).cell 3
  have h4 : w4.cell? ⟨b2, 4, none⟩ = some (.int .i64 n.t) := (R2.out.below hb4 R2.out.lt).cell 4
  have h5 : w4.cell? ⟨b2, 5, none⟩ = some (.string n.v) := (R2.out.below hb4 R2.out.lt).cell 5
  have B4 := hide1 (BZ.out.trans (hb4.mono BZ.out.size))
  clear hb4
  go_wp2_with fail
  refine (CF.out _).mono ?_
  rintro e w5 ⟨rfl, hb5⟩
  have B5 := hide1 (B4.out.trans (hb5.mono B4.out.size))
  clear hb5 f0 f1 f2 f3 f4 f5 h0 h1 h2 h3 h4 h5
  have qb : (b != b) = false := by simp
  go_wp2
  go_ret
  exact ⟨rfl, B5.out⟩

set_option maxRecDepth 100000 in
theorem lifted_FnExactHearNote (os : Os) (started : os.Started) (H : Type) (enc : TypeId × Value → H) :
    ReturnsInHanded {} Try.checked os 7 .any (Rows.fnExactHearNoteSpec.pre6 enc Try.prog Try.f7 Rows.fnExactHearNoteRow.domain false) (Rows.fnExactHearNoteSpec.post enc Try.prog Try.f7 false true false false) := by
  refine returnsInHanded_of_change (C := Try.checked) (show ownKnob Try.prog.godebug = none by kernel_rfl) started (by kernel_rfl) Try.func7
    (ChangeSpec.witness6 (enc := enc) (C := Try.checked) false ⟨#[], #[.agg #[.int .i64 0, .int .i64 0, .string ByteArray.empty], .agg #[.int .i64 0, .int .i64 0, .int .i64 0, .int .i64 0, .int .i64 0, .string ByteArray.empty]], []⟩ 8 (by kernel_rfl) (by kernel_rfl) (by kernel_rfl) (by kernel_rfl)) ?_
  intro W base args ds gs before hval0 hW hcnd _
  have hval : ∀ (j : Nat) t v, Try.f7.params[j]? = some t → args[j]? = some v → Value.okWide Try.prog W .any base t v := hval0
  have hW' := hW
  obtain ⟨p, q, hA0, hV, rfl, hfz, hnd⟩ := hW
  have hA : DataW.TrodAll enc Try.prog W 0 (fun _ => true) true Try.f7.params.toList args.toList ds p := hA0
  rw [Try.params7] at hA hval
  obtain ⟨v0, vs0, d0, ds0, p0, q0, hargs, rfl, rfl, h0, r0⟩ := trodAll_cons hA
  obtain ⟨v1, vs1, d1, ds1, p1, q1, rfl, rfl, rfl, h1, r1⟩ := trodAll_cons r0
  obtain ⟨rfl, rfl, rfl⟩ := trodAll_nil r1
  obtain rfl : args = #[v0, v1] := by cases args; simp_all
  obtain ⟨rfl, rfl⟩ := trodVars_none hV
  have k0 := h0
  have lt0 : ∀ x ∈ p0, x.block < W.heap.size := by obtain ⟨m, hm⟩ := k0; exact DataW.trod_lt m _ _ _ hm
  obtain ⟨a0, rfl, w0⟩ := open_voice (hval 0 38 v0 rfl rfl) h0
  have k1 := h1
  have lt1 : ∀ x ∈ p1, x.block < W.heap.size := by obtain ⟨m, hm⟩ := k1; exact DataW.trod_lt m _ _ _ hm
  obtain ⟨a1, rfl, w1⟩ := open_note (hval 1 42 v1 rfl rfl) h1
  clear hA0 hval0
  try simp only [List.append_nil] at hW'
  refine (walk_FnExactHearNote a0 a1 W w0 w1).mono fun e W' ⟨he, bel⟩ => ?_
  subst he
  exact ⟨_, rfl, _, _, _, [], _, [], hW', trodAll_mk1 (shut_bool Try.underlying4 _), (trodAll_cons_mk (Below.trod (show laidOutB Try.prog = true by kernel_rfl) (by kernel_rfl) (of_decide_eq_true (by kernel_rfl)) k0 bel lt0) (trodAll_cons_mk (Below.trod (show laidOutB Try.prog = true by kernel_rfl) (by kernel_rfl) (of_decide_eq_true (by kernel_rfl)) k1 bel lt1) trodAll_mk0)), rfl, bel.frame _, fun h => by cases h⟩

theorem proved_FnExactHearNote : Rows.FnExactHearNoteSaid :=
  OpenClaim.holds_of_wide 7 Try.f7 rfl rfl rfl rfl rfl rfl rfl ⟨rfl, rfl, rfl, rfl, rfl⟩ rfl rfl rfl rfl rfl (by kernel_rfl) Try.func7 (by kernel_rfl)
    (of_decide_eq_true (by kernel_rfl)) (by unfold Func.isWrapper; first | (rw [if_pos (by decide +kernel)]; kernel_rfl) | (rw [if_neg (by decide +kernel)]; exact ⟨rfl, rfl⟩))
    (fun os started H enc _ => lifted_FnExactHearNote os started H enc)
#print axioms proved_FnExactHearNote
end Go.Proofs.Ytppmnniokpbnkaa
