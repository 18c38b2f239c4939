/- ReadMsg answers as its model at every argument, and its answer is its own memory, the program's table of half bytes being as its text lays it (the card ties it to the text of a pruned copy of the project). -/
import Derived.Test.YtbkhhkknhbddeaaDoorCards
import Derived.Test.YtbkhhkknhbddeaaDoorTie
import Derived.ProofKit
import Derived.LaidMore
import Derived.OpenShut
import Derived.ShutString
import Derived.ChangeOld
import Derived.Stop.Joined
import Derived.Stop.LaidErr
import Derived.SevenTiedAt
import Derived.OpenVars
import Derived.ChangeVars
import Derived.Test.YtbkhhkknhbddeaaDoorX13
import Derived.Test.YtbkhhkknhbddeaaDoorRdO
namespace Go.Proofs.YtbkhhkknhbddeaaDoor
open Go.ChangeShapes Go.WideShapes Go.ChangeAt Go.RowKit
open Go.ChangeMaps (open_string shut_string)
set_option linter.unusedVariables false

theorem of_laid_FnExactReadMsg {W : World} (h : laidMetH Tryd.prog Rows.fnExactReadMsgRow.laid W) : Tabs W := by
  rw [MakeChecks.laidMetH_plain _ _ _ (by kernel_rfl)] at h
  exact Lib.tabIs_of_head gTabs (by kernel_rfl) Tryd.underlying111 Tryd.underlying75 (by kernel_rfl) (by kernel_rfl) h

theorem rdM_len (s : ByteArray) : ((rdM s).getD zeroMs).is.length ≤ 12 := by
  cases e : rdM s with
  | none => exact Nat.zero_le _
  | some m =>
    unfold rdM at e
    split at e
    · exact (readP_back e).1.2.2.2.2.2.1.2.2
    · cases e
set_option maxRecDepth 100000 in
set_option maxHeartbeats 4000000 in
theorem walk_FnExactReadMsg (a0 : ByteArray) (w0 : a0.size ≤ maxLen) (w : World) (ht : Tabs w) :
    Calls Tryd.prog 5 #[.string a0] w fun e w' => e = .returned (.bool true) ∧ Below w.heap.size w w' := by
  unfold maxLen at w0
  by_cases hs : a0.size ≤ 1048576
  · have hs' : ¬ ((1048576 : Int) < (a0.size : Int)) := by omega
    have CS := hide1 (fun v => specReadMsg_any a0 v hs)
    have CI := hide1 (fun v hv => implReadMsg_any a0 v hs hv)
    have hl12 := rdM_len a0
    have HT := hide1 ht
    clear ht
    unfold msA at CS CI
    generalize (rdM a0).getD zeroMs = M at CS CI hl12
    generalize (rdM a0).isSome = g at CS CI
    obtain ⟨k, f, o, e, n, l⟩ := M
    dsimp only at CS CI hl12
    have qg : (g != g) = false := by cases g <;> rfl
    have qg2 : (g == g) = true := by cases g <;> rfl
    go_enter Tryd.func5, Tryd.ntmps5
    go_wp2_with fail
    refine (CS.out w).mono ?_
    rintro e9 w1 ⟨⟨sa, sc, rfl, hoS⟩, hb1⟩
    have E1 := hide1 hb1
    have S1 := hide1 (rdG_of_own encIm.len hoS rfl)
    clear hb1 hoS
    have FB := hide1 (And.intro (Blk.new w1 26 #[.int .i64 k, .int .i64 f, .int .i64 o, .int .i64 e, .int .i64 n, .slice sa l.length sc]) ((Below.refl w1.heap.size w1).alloc (Nat.le_refl _) (.cells #[.int .i64 k, .int .i64 f, .int .i64 o, .int .i64 e, .int .i64 n, .slice sa l.length sc] 26)))
    go_upto_region 4 with fail
    generalize (w1.alloc (.cells #[.int .i64 k, .int .i64 f, .int .i64 o, .int .i64 e, .int .i64 n, .slice sa l.length sc] 26)) = u1 at FB ⊢
    obtain ⟨G1, hG1⟩ : ∃ G, G = w1.heap.size := ⟨_, rfl⟩
    have KA := hide1 FB.out.1
    rw [← hG1] at KA ⊢
    have D := hide1 FB.out.2
    clear FB
    have E2 := hide1 (E1.out.trans (D.out.mono E1.out.size))
    have S2 := hide1 (S1.out.later D.out)
    clear D E1 S1 hG1
    go_wp2_with fail
    refine (CI.out u1 (HT.out.later E2.out)).mono ?_
    rintro e9 w2 ⟨⟨ga, gc, rfl, hoG⟩, hb⟩
    have E3 := hide1 (E2.out.trans (hb.mono E2.out.size))
    have S3 := hide1 (S2.out.later hb)
    have KA3 := hide1 (KA.out.below hb KA.out.lt)
    have lS : ∀ b o, sa = some ⟨b, o, none⟩ → 0 < l.length → b < u1.heap.size := fun b o h1 h2 => S2.out.ltI h1 h2
    have LS := hide1 lS
    have lG1 : G1 < u1.heap.size := KA.out.lt
    have l1w : w.heap.size ≤ u1.heap.size := E2.out.size
    have O3 := hide1 hoG
    have NEG := hide1 (show ∀ g, (Value.slice ga l.length gc).ownBlock = some g → u1.heap.size ≤ g from fun g hg => (hoG.lt g hg).1)
    have NEH := hide1 (show ∀ g, (Value.slice ga l.length gc).ownBlock = some g → g < w2.heap.size from fun g hg => (hoG.lt g hg).2)
    have l12 : u1.heap.size ≤ w2.heap.size := hb.size
    clear hb hoG E2 S2 KA lS
    have FB := hide1 (And.intro (Blk.new w2 26 #[.int .i64 k, .int .i64 f, .int .i64 o, .int .i64 e, .int .i64 n, .slice ga l.length gc]) ((Below.refl w2.heap.size w2).alloc (Nat.le_refl _) (.cells #[.int .i64 k, .int .i64 f, .int .i64 o, .int .i64 e, .int .i64 n, .slice ga l.length gc] 26)))
    go_upto_region 5 with fail
    generalize (w2.alloc (.cells #[.int .i64 k, .int .i64 f, .int .i64 o, .int .i64 e, .int .i64 n, .slice ga l.length gc] 26)) = u2 at FB ⊢
    obtain ⟨G2, hG2⟩ : ∃ G, G = w2.heap.size := ⟨_, rfl⟩
    have KB := hide1 FB.out.1
    rw [← hG2] at KB ⊢
    have D := hide1 FB.out.2
    clear FB
    have E4 := hide1 (E3.out.trans (D.out.mono E3.out.size))
    have S4 := hide1 (S3.out.later D.out)
    have KA4 := hide1 (KA3.out.below D.out KA3.out.lt)
    have O4 := hide1 (own_kept O3.out D.out)
    have hG12 : G1 ≠ G2 := by omega
    have lG2 : u1.heap.size ≤ G2 := by omega
    have NE2 := hide1 (show ∀ g, (Value.slice ga l.length gc).ownBlock = some g → g ≠ G2 from fun g hg => by have := NEH.out g hg; omega)
    clear D E3 S3 KA3 O3 hG2
    have x0 : u2.cell? ⟨G2, 0, none⟩ = some (.int .i64 k) := KB.out.cell 0
    have x1 : u2.cell? ⟨G2, 1, none⟩ = some (.int .i64 f) := KB.out.cell 1
    have x2 : u2.cell? ⟨G2, 2, none⟩ = some (.int .i64 o) := KB.out.cell 2
    have x3 : u2.cell? ⟨G2, 3, none⟩ = some (.int .i64 e) := KB.out.cell 3
    have x4 : u2.cell? ⟨G2, 4, none⟩ = some (.int .i64 n) := KB.out.cell 4
    have x5 : u2.cell? ⟨G2, 5, none⟩ = some (.slice ga l.length gc) := KB.out.cell 5
    have y0 : u2.cell? ⟨G1, 0, none⟩ = some (.int .i64 k) := KA4.out.cell 0
    have y1 : u2.cell? ⟨G1, 1, none⟩ = some (.int .i64 f) := KA4.out.cell 1
    have y2 : u2.cell? ⟨G1, 2, none⟩ = some (.int .i64 o) := KA4.out.cell 2
    have y3 : u2.cell? ⟨G1, 3, none⟩ = some (.int .i64 e) := KA4.out.cell 3
    have y4 : u2.cell? ⟨G1, 4, none⟩ = some (.int .i64 n) := KA4.out.cell 4
    have y5 : u2.cell? ⟨G1, 5, none⟩ = some (.slice sa l.length sc) := KA4.out.cell 5
    go_wp2_with fail
    refine (eqMsg_same k f o e n l ga sa gc sc u2 (by omega) (rdG_of_own encIm.len O4.out rfl) S4.out).mono ?_
    rintro e9 w3 ⟨rfl, hb⟩
    clear x0 x1 x2 x3 x4 x5 y0 y1 y2 y3 y4 y5
    have E5 := hide1 (E4.out.trans (hb.mono E4.out.size))
    have S5 := hide1 (S4.out.later hb)
    have KA5 := hide1 (KA4.out.below hb KA4.out.lt)
    have KB5 := hide1 (KB.out.below hb KB.out.lt)
    have O5 := hide1 (own_kept O4.out hb)
    clear hb E4 S4 KA4 KB O4
    have x0 : w3.cell? ⟨G2, 0, none⟩ = some (.int .i64 k) := KB5.out.cell 0
    have x1 : w3.cell? ⟨G2, 1, none⟩ = some (.int .i64 f) := KB5.out.cell 1
    have x2 : w3.cell? ⟨G2, 2, none⟩ = some (.int .i64 o) := KB5.out.cell 2
    have x3 : w3.cell? ⟨G2, 3, none⟩ = some (.int .i64 e) := KB5.out.cell 3
    have x4 : w3.cell? ⟨G2, 4, none⟩ = some (.int .i64 n) := KB5.out.cell 4
    have x5 : w3.cell? ⟨G2, 5, none⟩ = some (.slice ga l.length gc) := KB5.out.cell 5
    go_wp2_with fail
    refine (markMsg_any k f o e n ga l.length gc 1 _ u1.heap.size w3 (by omega) (by omega) (by omega) O5.out).mono ?_
    rintro e9 w4 ⟨rfl, hoP, hg⟩
    clear x0 x1 x2 x3 x4 x5
    have hb4 : Below u1.heap.size w3 w4 := gbelow hg (fun g hg => NEG.out g hg) (by have := KB5.out.lt; omega)
    have E6 := hide1 (E5.out.trans (hb4.mono l1w))
    have S6 := hide1 (S5.out.laterI hb4 LS.out)
    have KA6 := hide1 (KA5.out.below hb4 lG1)
    have KB6 := hide1 (gblk hg KB5.out (fun e => NE2.out G2 e rfl))
    have O6 := hide1 hoP
    clear hg hoP hb4 E5 S5 KA5 KB5 O5
    have x0 : w4.cell? ⟨G2, 0, none⟩ = some (.int .i64 k) := KB6.out.cell 0
    have x1 : w4.cell? ⟨G2, 1, none⟩ = some (.int .i64 f) := KB6.out.cell 1
    have x2 : w4.cell? ⟨G2, 2, none⟩ = some (.int .i64 o) := KB6.out.cell 2
    have x3 : w4.cell? ⟨G2, 3, none⟩ = some (.int .i64 e) := KB6.out.cell 3
    have x4 : w4.cell? ⟨G2, 4, none⟩ = some (.int .i64 n) := KB6.out.cell 4
    have x5 : w4.cell? ⟨G2, 5, none⟩ = some (.slice ga l.length gc) := KB6.out.cell 5
    go_wp2_with fail
    refine (heldMsg_any k f o e n ga l.length gc 1 w4 (by omega) (by omega) (by omega) (rdG_of_own encIm.len O6.out (by rw [patG_length]))).mono ?_
    rintro e9 w5 ⟨rfl, hb⟩
    clear x0 x1 x2 x3 x4 x5
    have E7 := hide1 (E6.out.trans (hb.mono E6.out.size))
    have S7 := hide1 (S6.out.later hb)
    have KA7 := hide1 (KA6.out.below hb KA6.out.lt)
    have KB7 := hide1 (KB6.out.below hb KB6.out.lt)
    have O7 := hide1 (own_kept O6.out hb)
    clear hb E6 S6 KA6 KB6 O6
    go_wp2_with fail
    refine (CI.out w5 (HT.out.later E7.out)).mono ?_
    rintro e9 w6 ⟨⟨ha, hc, rfl, hoH⟩, hb⟩
    have E8 := hide1 (E7.out.trans (hb.mono E7.out.size))
    have S8 := hide1 (S7.out.later hb)
    have KA8 := hide1 (KA7.out.below hb KA7.out.lt)
    have KB8 := hide1 (KB7.out.below hb KB7.out.lt)
    have O8 := hide1 (own_kept O7.out hb)
    have H8 := hide1 (rdG_of_own encIm.len hoH rfl)
    clear hb hoH E7 S7 KA7 KB7 O7
    have FB := hide1 (And.intro (Blk.new w6 26 #[.int .i64 k, .int .i64 f, .int .i64 o, .int .i64 e, .int .i64 n, .slice ha l.length hc]) ((Below.refl w6.heap.size w6).alloc (Nat.le_refl _) (.cells #[.int .i64 k, .int .i64 f, .int .i64 o, .int .i64 e, .int .i64 n, .slice ha l.length hc] 26)))
    go_upto_region 16 with fail
    generalize (w6.alloc (.cells #[.int .i64 k, .int .i64 f, .int .i64 o, .int .i64 e, .int .i64 n, .slice ha l.length hc] 26)) = u6 at FB ⊢
    obtain ⟨G3, hG3⟩ : ∃ G, G = w6.heap.size := ⟨_, rfl⟩
    have KC := hide1 FB.out.1
    rw [← hG3] at KC ⊢
    have D := hide1 FB.out.2
    clear FB
    have E9 := hide1 (E8.out.trans (D.out.mono E8.out.size))
    have S9 := hide1 (S8.out.later D.out)
    have KA9 := hide1 (KA8.out.below D.out KA8.out.lt)
    have KB9 := hide1 (KB8.out.below D.out KB8.out.lt)
    have O9 := hide1 (own_kept O8.out D.out)
    have H9 := hide1 (H8.out.later D.out)
    clear D E8 S8 KA8 KB8 O8 H8 hG3
    have x0 : u6.cell? ⟨G3, 0, none⟩ = some (.int .i64 k) := KC.out.cell 0
    have x1 : u6.cell? ⟨G3, 1, none⟩ = some (.int .i64 f) := KC.out.cell 1
    have x2 : u6.cell? ⟨G3, 2, none⟩ = some (.int .i64 o) := KC.out.cell 2
    have x3 : u6.cell? ⟨G3, 3, none⟩ = some (.int .i64 e) := KC.out.cell 3
    have x4 : u6.cell? ⟨G3, 4, none⟩ = some (.int .i64 n) := KC.out.cell 4
    have x5 : u6.cell? ⟨G3, 5, none⟩ = some (.slice ha l.length hc) := KC.out.cell 5
    have y0 : u6.cell? ⟨G1, 0, none⟩ = some (.int .i64 k) := KA9.out.cell 0
    have y1 : u6.cell? ⟨G1, 1, none⟩ = some (.int .i64 f) := KA9.out.cell 1
    have y2 : u6.cell? ⟨G1, 2, none⟩ = some (.int .i64 o) := KA9.out.cell 2
    have y3 : u6.cell? ⟨G1, 3, none⟩ = some (.int .i64 e) := KA9.out.cell 3
    have y4 : u6.cell? ⟨G1, 4, none⟩ = some (.int .i64 n) := KA9.out.cell 4
    have y5 : u6.cell? ⟨G1, 5, none⟩ = some (.slice sa l.length sc) := KA9.out.cell 5
    go_wp2_with fail
    refine (eqMsg_same k f o e n l ha sa hc sc u6 (by omega) H9.out S9.out).mono ?_
    rintro e9 w7 ⟨rfl, hb⟩
    clear x0 x1 x2 x3 x4 x5 y0 y1 y2 y3 y4 y5
    have E10 := hide1 (E9.out.trans (hb.mono E9.out.size))
    have KB10 := hide1 (KB9.out.below hb KB9.out.lt)
    have O10 := hide1 (own_kept O9.out hb)
    clear hb E9 S9 KA9 KB9 O9 H9 KC
    have x0 : w7.cell? ⟨G2, 0, none⟩ = some (.int .i64 k) := KB10.out.cell 0
    have x1 : w7.cell? ⟨G2, 1, none⟩ = some (.int .i64 f) := KB10.out.cell 1
    have x2 : w7.cell? ⟨G2, 2, none⟩ = some (.int .i64 o) := KB10.out.cell 2
    have x3 : w7.cell? ⟨G2, 3, none⟩ = some (.int .i64 e) := KB10.out.cell 3
    have x4 : w7.cell? ⟨G2, 4, none⟩ = some (.int .i64 n) := KB10.out.cell 4
    have x5 : w7.cell? ⟨G2, 5, none⟩ = some (.slice ga l.length gc) := KB10.out.cell 5
    go_wp2_with fail
    refine (heldMsg_any k f o e n ga l.length gc 1 w7 (by omega) (by omega) (by omega) (rdG_of_own encIm.len O10.out (by rw [patG_length]))).mono ?_
    rintro e9 w8 ⟨rfl, hb⟩
    clear x0 x1 x2 x3 x4 x5
    have E11 := hide1 (E10.out.trans (hb.mono E10.out.size))
    clear hb E10
    go_wp2
    go_ret
    exact ⟨rfl, E11.out⟩
  · have hs' : decide ((1048576 : Int) < (a0.size : Int)) = true := by simp; omega
    go_enter Tryd.func5, Tryd.ntmps5
    go_wp2
    go_ret
    exact ⟨rfl, Below.refl _ _⟩

theorem door_met_FnExactReadMsg (os : Os) (args : Array Value) : laidMetH Tryd.prog Rows.fnExactReadMsgRow.laid ((World.doorLaid Tryd.prog 14 os).forCall (fun _ _ => 0) ⟨#[], args, []⟩).memory :=
  laidMetH_of_parts3 (fuel := 8) (laidMet_of_run' 8 (by kernel_rfl) (by kernel_rfl)) (by kernel_rfl) (by kernel_rfl)

set_option maxRecDepth 100000 in
theorem lifted_FnExactReadMsg (os : Os) (started : os.Started) (H : Type) (enc : TypeId × Value → H) :
    ReturnsInHanded {} Tryd.checked os 5 .any (fun w args => (Rows.fnExactReadMsgSpec.pre enc Tryd.prog Tryd.f5 [] false w args ∧ laidMetH Tryd.prog Rows.fnExactReadMsgRow.laid w) ∧ sizedMet enc Tryd.prog Tryd.f5 (OpenSpec.ofChange Rows.fnExactReadMsgSpec) false w args)
      (Rows.fnExactReadMsgSpec.post enc Tryd.prog Tryd.f5 false true false false) := by
  refine returnsInHanded_of_change_and (C := Tryd.checked) (X := fun w _ => laidMetH Tryd.prog Rows.fnExactReadMsgRow.laid w) (fun _ _ _ hh h => h.of_heap hh) (show ownKnob Tryd.prog.godebug = none by kernel_rfl) started (by kernel_rfl) Tryd.func5
    (ChangeSpec.witness_shaped (enc := enc) (C := Tryd.checked) (os := os) (X := fun w _ => laidMetH Tryd.prog Rows.fnExactReadMsgRow.laid w) false (World.doorLaid Tryd.prog 14 os) #[.string ByteArray.empty] 8 rfl (World.shaped_of_RefB (by kernel_rfl) (by kernel_rfl)) (by kernel_rfl) (by kernel_rfl) (by kernel_rfl) (door_met_FnExactReadMsg os _)) ?_
  intro W base args ds gs before hval0 hW _ _ hL _
  have hval : ∀ (j : Nat) t v, Tryd.f5.params[j]? = some t → args[j]? = some v → Value.okWide Tryd.prog W .any base t v := hval0
  have hW' := hW
  obtain ⟨p, q, hA0, hV, rfl, hfz, hnd⟩ := hW
  have hA : DataW.TrodAll enc Tryd.prog W 0 (fun _ => true) true Tryd.f5.params.toList args.toList ds p := hA0
  rw [Tryd.params5] at hA hval
  obtain ⟨v0, vs0, d0, ds0, p0, q0, hargs, rfl, rfl, h0, r0⟩ := trodAll_cons hA
  obtain ⟨rfl, rfl, rfl⟩ := trodAll_nil r0
  obtain rfl : args = #[v0] := by cases args; simp_all
  obtain ⟨_, _, _, _, gd, _, rfl, _⟩ := trodVars_one hV
  obtain ⟨a0, rfl, rfl, rfl, w0⟩ := open_string Tryd.underlying9 (hval 0 9 v0 rfl rfl) h0
  have hX := of_laid_FnExactReadMsg hL
  clear hA0 hval0 hL
  try simp only [List.append_nil] at hW'
  refine (walk_FnExactReadMsg a0 w0 W hX).mono fun e W' ⟨he, bel⟩ => ?_
  subst he
  exact ⟨_, rfl, _, _, _, [], _, q, hW', trodAll_mk1 (shut_bool Tryd.underlying4 _), (trodAll_cons_mk (shut_string Tryd.underlying9 w0) trodAll_mk0), bel.trodVars (show laidOutB Tryd.prog = true by kernel_rfl) (by kernel_rfl) hV, bel.frame _, fun h => by cases h⟩

theorem row_FnExactReadMsg : Rows.FnExactReadMsgSaid :=
  OpenClaim.holds_of_wide 5 Tryd.f5 rfl rfl rfl rfl rfl rfl rfl ⟨rfl, rfl, rfl, rfl, rfl⟩ rfl rfl rfl rfl rfl (by kernel_rfl) Tryd.func5 (by kernel_rfl)
    (of_decide_eq_true (by kernel_rfl)) (by unfold Func.isWrapper; first | (rw [if_pos (by decide +kernel)]; kernel_rfl) | (rw [if_neg (by decide +kernel)]; exact ⟨rfl, rfl⟩))
    (fun os started H enc _ => lifted_FnExactReadMsg os started H enc)

theorem proved_FnExactReadMsg : Rows.FnExactReadMsgCardSaid :=
  Claim7.holds_tied_plain_at .later [] Rows.fnExactReadMsgCard.laidKinds true Rows.fnExactReadMsgCard.stood.harness false
    row_FnExactReadMsg (fun _ h => by cases h) (by kernel_rfl) (fun _ h => by cases h) fnExactReadMsg_row_tie rfl ⟨rfl, rfl⟩ (by kernel_rfl) rfl
    (fun f fn hf hfn => by
      obtain rfl : f = 5 := Option.some.inj ((show Tryd.prog.funcNamed Tryd.f5.name = some 5 by kernel_rfl).symm.trans hf) |>.symm
      obtain rfl : fn = Tryd.f5 := (Option.some.inj (Tryd.func5.symm.trans hfn)).symm
      exact ⟨by kernel_rfl, fun j t ht => by
        rw [Tryd.params5] at ht
        have hm : t ∈ ([9] : List TypeId) := by simpa using Array.mem_of_getElem? ht
        have hall : (([9] : List TypeId).all fun u => !Tryd.prog.wantsStandIn u) = true := by kernel_rfl
        exact (show Tryd.prog.wantsStandIn t = false by simpa using List.all_eq_true.1 hall t hm)⟩)
    (by kernel_rfl)
#print axioms proved_FnExactReadMsg
end Go.Proofs.YtbkhhkknhbddeaaDoor
