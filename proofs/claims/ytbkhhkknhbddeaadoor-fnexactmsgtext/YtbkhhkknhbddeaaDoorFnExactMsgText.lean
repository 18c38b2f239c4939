/- MsgText answers as its model at every argument, the program's table of half bytes being as its text lays it (the card ties it to the text of a pruned copy of the project). -/
import Derived.Test.YtbkhhkknhbddeaaDoorCards
import Derived.Test.YtbkhhkknhbddeaaDoorTie
import Derived.ProofKit
import Derived.LaidMore
import Derived.OpenShut
import Derived.ShutString
import Derived.ChangeOld
import Derived.Stop.Joined
import Derived.Stop.LaidErr
import Derived.SevenTiedAt
import Derived.OpenVars
import Derived.ChangeVars
import Derived.Test.YtbkhhkknhbddeaaDoorToM
import Derived.Test.YtbkhhkknhbddeaaDoorMsU
import Derived.Test.YtbkhhkknhbddeaaDoorMtI
namespace Go.Proofs.YtbkhhkknhbddeaaDoor
open Go.ChangeShapes Go.WideShapes Go.ChangeAt Go.RowKit
open Go.ChangeMaps (open_string shut_string)
set_option linter.unusedVariables false

theorem of_laid_FnExactMsgText {W : World} (h : laidMetH Tryd.prog Rows.fnExactMsgTextRow.laid W) : Tabs W := by
  rw [MakeChecks.laidMetH_plain _ _ _ (by kernel_rfl)] at h
  exact Lib.tabIs_of_head gTabs (by kernel_rfl) Tryd.underlying111 Tryd.underlying75 (by kernel_rfl) (by kernel_rfl) h

theorem msg_form (m : Ms) : ∃ (z : ByteArray) (b : Bool), msgV m = .tuple #[.string z, .bool b] := by
  unfold msgV; split <;> exact ⟨_, _, rfl⟩

set_option maxRecDepth 100000 in
set_option maxHeartbeats 4000000 in
theorem walk_FnExactMsgText (k f o e9 n : Int) (l : List Im) (ao : Option Addr) (ca : Nat) (w : World) (hR : RdG imC 3 w ao l) (hl : l.length ≤ maxLen) (hw : ∀ s ∈ l, wfItem s) (ht : Tabs w) :
    Calls Tryd.prog 4 #[.agg #[.int .i64 k, .int .i64 f, .int .i64 o, .int .i64 e9, .int .i64 n, .slice ao l.length ca]] w fun e w' => e = .returned (.bool true) ∧ Below w.heap.size w w' := by
  have hl9 : l.length ≤ 9223372036854775807 := by unfold maxLen at hl; omega
  have HR := hide1 hR
  have HT := hide1 ht
  have CZ := hide1 (fun W (hb : Below w.heap.size w W) => szMsg_any k f o e9 n l ao ca 1048576 W (Nat.le_refl _) hl9 (HR.out.later hb) (fun i h => by have h1 := hw _ (List.getElem_mem h); obtain ⟨h2, h3, _⟩ := h1; unfold maxLen at h2 h3; omega))
  clear hR hw hl hl9 ht
  go_enter Tryd.func4, Tryd.ntmps4
  have E_0 := hide1 (Below.refl w.heap.size w)
  have FB := hide1 (And.intro (Blk.new w 39 #[.int .i64 k, .int .i64 f, .int .i64 o, .int .i64 e9, .int .i64 n, .slice ao l.length ca]) ((Below.refl w.heap.size w).alloc (Nat.le_refl _) (.cells #[.int .i64 k, .int .i64 f, .int .i64 o, .int .i64 e9, .int .i64 n, .slice ao l.length ca] 39)))
  go_upto_region 1 with fail
  generalize (w.alloc (.cells #[.int .i64 k, .int .i64 f, .int .i64 o, .int .i64 e9, .int .i64 n, .slice ao l.length ca] 39)) = u0 at FB ⊢
  obtain ⟨G0, hG0⟩ : ∃ G, G = w.heap.size := ⟨_, rfl⟩
  have KB := hide1 FB.out.1
  rw [← hG0] at KB ⊢
  have E_1 := hide1 (E_0.out.trans ((FB.out.2).mono E_0.out.size))
  clear E_0
  have B0_1 := hide1 (KB.out)
  clear KB FB hG0
  have B0c0 : u0.cell? ⟨G0, 0, none⟩ = some (.int .i64 k) := B0_1.out.cell 0
  have B0c1 : u0.cell? ⟨G0, 1, none⟩ = some (.int .i64 f) := B0_1.out.cell 1
  have B0c2 : u0.cell? ⟨G0, 2, none⟩ = some (.int .i64 o) := B0_1.out.cell 2
  have B0c3 : u0.cell? ⟨G0, 3, none⟩ = some (.int .i64 e9) := B0_1.out.cell 3
  have B0c4 : u0.cell? ⟨G0, 4, none⟩ = some (.int .i64 n) := B0_1.out.cell 4
  have B0c5 : u0.cell? ⟨G0, 5, none⟩ = some (.slice ao l.length ca) := B0_1.out.cell 5
  go_wp2_with fail
  refine (CZ.out u0 E_1.out).mono ?_
  rintro e wz ⟨hz, hbz⟩
  clear CZ
  clear B0c0 B0c1 B0c2 B0c3 B0c4 B0c5
  have E_2 := hide1 (E_1.out.trans ((hbz).mono E_1.out.size))
  have B0_2 := hide1 (B0_1.out.below (hbz) B0_1.out.lt)
  clear E_1 B0_1
  clear hbz
  rcases hz with rfl | ⟨r, rfl, hr1, hr2, hr3⟩
  · go_wp2
    go_ret
    exact ⟨rfl, E_2.out⟩
  · have qr : ¬ ((r : Int) < 0) := by omega
    have qr2 : decide ((r : Int) < 0) = false := decide_eq_false qr
    have HZ := hide1 (show ∀ x ∈ l, x.k.size ≤ 1048576 ∧ x.v.size ≤ 1048576 from fun e he => by obtain ⟨j, hj, rfl⟩ := List.getElem_of_mem he; exact hr3 j hj)
    have CT := hide1 (fun W (hb : Below w.heap.size w W) => toMsg_any k f o e9 n l ao ca W hr2 (HR.out.later hb))
    have CS := hide1 (fun W (b : Option Addr) (cb : Nat) (h : RdG imC 3 W b l) => specMsgText_any k f o e9 n l b cb W hr2 h)
    have CI := hide1 (fun W (b : Option Addr) (cb : Nat) (h : RdG imC 3 W b l) (hT : Tabs W) => implMsgText_any k f o e9 n l b cb W hr2 HZ.out h hT)
    clear hr3
    obtain ⟨S9, g, hv9⟩ := msg_form ⟨k, f, o, e9, n, l⟩
    rw [hv9] at CS CI
    clear hv9
    have qg : (g != g) = false := by cases g <;> rfl
    have qs : (S9.toList == S9.toList) = true := by simp
    have qs2 : (S9.toList != S9.toList) = false := by simp
    have B0c0 : wz.cell? ⟨G0, 0, none⟩ = some (.int .i64 k) := B0_2.out.cell 0
    have B0c1 : wz.cell? ⟨G0, 1, none⟩ = some (.int .i64 f) := B0_2.out.cell 1
    have B0c2 : wz.cell? ⟨G0, 2, none⟩ = some (.int .i64 o) := B0_2.out.cell 2
    have B0c3 : wz.cell? ⟨G0, 3, none⟩ = some (.int .i64 e9) := B0_2.out.cell 3
    have B0c4 : wz.cell? ⟨G0, 4, none⟩ = some (.int .i64 n) := B0_2.out.cell 4
    have B0c5 : wz.cell? ⟨G0, 5, none⟩ = some (.slice ao l.length ca) := B0_2.out.cell 5
    go_wp2_with fail
    refine (CT.out wz E_2.out).mono ?_
    rintro e w1 ⟨⟨Tb, Tc, rfl, hO⟩, hb⟩
    clear B0c0 B0c1 B0c2 B0c3 B0c4 B0c5
    have E_3 := hide1 (E_2.out.trans ((hb).mono E_2.out.size))
    have B0_3 := hide1 (B0_2.out.below (hb) B0_2.out.lt)
    clear E_2 B0_2
    have T_3 := hide1 (hO)
    clear hb hO
    go_wp2_with fail
    refine (CS.out w1 Tb Tc (rdG_of_own encIm.len T_3.out rfl)).mono ?_
    rintro e w2 ⟨rfl, hb⟩
    have E_4 := hide1 (E_3.out.trans ((hb).mono E_3.out.size))
    have B0_4 := hide1 (B0_3.out.below (hb) B0_3.out.lt)
    have T_4 := hide1 (own_kept T_3.out (hb))
    clear E_3 B0_3 T_3
    clear hb
    have B0c0 : w2.cell? ⟨G0, 0, none⟩ = some (.int .i64 k) := B0_4.out.cell 0
    have B0c1 : w2.cell? ⟨G0, 1, none⟩ = some (.int .i64 f) := B0_4.out.cell 1
    have B0c2 : w2.cell? ⟨G0, 2, none⟩ = some (.int .i64 o) := B0_4.out.cell 2
    have B0c3 : w2.cell? ⟨G0, 3, none⟩ = some (.int .i64 e9) := B0_4.out.cell 3
    have B0c4 : w2.cell? ⟨G0, 4, none⟩ = some (.int .i64 n) := B0_4.out.cell 4
    have B0c5 : w2.cell? ⟨G0, 5, none⟩ = some (.slice ao l.length ca) := B0_4.out.cell 5
    go_wp2_with fail
    refine (CT.out w2 E_4.out).mono ?_
    rintro e w3 ⟨⟨Xb, Xc, rfl, hO⟩, hb⟩
    clear B0c0 B0c1 B0c2 B0c3 B0c4 B0c5
    have E_5 := hide1 (E_4.out.trans ((hb).mono E_4.out.size))
    have B0_5 := hide1 (B0_4.out.below (hb) B0_4.out.lt)
    have T_5 := hide1 (own_kept T_4.out (hb))
    clear E_4 B0_4 T_4
    have X_5 := hide1 (hO)
    clear hb hO
    have FB := hide1 (And.intro (Blk.new w3 26 #[.int .i64 k, .int .i64 f, .int .i64 o, .int .i64 e9, .int .i64 n, .slice Xb l.length Xc]) ((Below.refl w3.heap.size w3).alloc (Nat.le_refl _) (.cells #[.int .i64 k, .int .i64 f, .int .i64 o, .int .i64 e9, .int .i64 n, .slice Xb l.length Xc] 26)))
    go_upto_region 7 with fail
    generalize (w3.alloc (.cells #[.int .i64 k, .int .i64 f, .int .i64 o, .int .i64 e9, .int .i64 n, .slice Xb l.length Xc] 26)) = u3 at FB ⊢
    obtain ⟨G1, hG1⟩ : ∃ G, G = w3.heap.size := ⟨_, rfl⟩
    have KB := hide1 FB.out.1
    rw [← hG1] at KB ⊢
    have E_6 := hide1 (E_5.out.trans ((FB.out.2).mono E_5.out.size))
    have B0_6 := hide1 (B0_5.out.below (FB.out.2) B0_5.out.lt)
    have T_6 := hide1 (own_kept T_5.out (FB.out.2))
    have X_6 := hide1 (own_kept X_5.out (FB.out.2))
    clear E_5 B0_5 T_5 X_5
    have B1_6 := hide1 (KB.out)
    clear KB FB hG1
    have B1c0 : u3.cell? ⟨G1, 0, none⟩ = some (.int .i64 k) := B1_6.out.cell 0
    have B1c1 : u3.cell? ⟨G1, 1, none⟩ = some (.int .i64 f) := B1_6.out.cell 1
    have B1c2 : u3.cell? ⟨G1, 2, none⟩ = some (.int .i64 o) := B1_6.out.cell 2
    have B1c3 : u3.cell? ⟨G1, 3, none⟩ = some (.int .i64 e9) := B1_6.out.cell 3
    have B1c4 : u3.cell? ⟨G1, 4, none⟩ = some (.int .i64 n) := B1_6.out.cell 4
    have B1c5 : u3.cell? ⟨G1, 5, none⟩ = some (.slice Xb l.length Xc) := B1_6.out.cell 5
    go_wp2_with fail
    refine (CI.out u3 Xb Xc (rdG_of_own encIm.len X_6.out rfl) (HT.out.later E_6.out)).mono ?_
    rintro e w4 ⟨rfl, hb⟩
    clear B1c0 B1c1 B1c2 B1c3 B1c4 B1c5
    have E_7 := hide1 (E_6.out.trans ((hb).mono E_6.out.size))
    have B0_7 := hide1 (B0_6.out.below (hb) B0_6.out.lt)
    have T_7 := hide1 (own_kept T_6.out (hb))
    have X_7 := hide1 (own_kept X_6.out (hb))
    have B1_7 := hide1 (B1_6.out.below (hb) B1_6.out.lt)
    clear E_6 B0_6 T_6 X_6 B1_6
    clear hb
    have RX := hide1 (rdG_of_own encIm.len X_7.out rfl)
    have CT4 := hide1 (fun w' (hb : Below w4.heap.size w4 w') => toMsg_any k f o e9 n l ao ca w' hr2 (HR.out.later (E_7.out.trans (hb.mono E_7.out.size))))
    have B1c0 : w4.cell? ⟨G1, 0, none⟩ = some (.int .i64 k) := B1_7.out.cell 0
    have B1c1 : w4.cell? ⟨G1, 1, none⟩ = some (.int .i64 f) := B1_7.out.cell 1
    have B1c2 : w4.cell? ⟨G1, 2, none⟩ = some (.int .i64 o) := B1_7.out.cell 2
    have B1c3 : w4.cell? ⟨G1, 3, none⟩ = some (.int .i64 e9) := B1_7.out.cell 3
    have B1c4 : w4.cell? ⟨G1, 4, none⟩ = some (.int .i64 n) := B1_7.out.cell 4
    have B1c5 : w4.cell? ⟨G1, 5, none⟩ = some (.slice Xb l.length Xc) := B1_7.out.cell 5
    have B0c0 : w4.cell? ⟨G0, 0, none⟩ = some (.int .i64 k) := B0_7.out.cell 0
    have B0c1 : w4.cell? ⟨G0, 1, none⟩ = some (.int .i64 f) := B0_7.out.cell 1
    have B0c2 : w4.cell? ⟨G0, 2, none⟩ = some (.int .i64 o) := B0_7.out.cell 2
    have B0c3 : w4.cell? ⟨G0, 3, none⟩ = some (.int .i64 e9) := B0_7.out.cell 3
    have B0c4 : w4.cell? ⟨G0, 4, none⟩ = some (.int .i64 n) := B0_7.out.cell 4
    have B0c5 : w4.cell? ⟨G0, 5, none⟩ = some (.slice ao l.length ca) := B0_7.out.cell 5
    have ZS := hide1 (fun w' (D : Below w4.heap.size w4 w') => (show w'.cell? ⟨G1, 0, none⟩ = some (.int .i64 k) ∧ w'.cell? ⟨G1, 1, none⟩ = some (.int .i64 f) ∧ w'.cell? ⟨G1, 2, none⟩ = some (.int .i64 o) ∧ w'.cell? ⟨G1, 3, none⟩ = some (.int .i64 e9) ∧ w'.cell? ⟨G1, 4, none⟩ = some (.int .i64 n) ∧ w'.cell? ⟨G1, 5, none⟩ = some (.slice Xb l.length Xc) ∧ w'.cell? ⟨G0, 0, none⟩ = some (.int .i64 k) ∧ w'.cell? ⟨G0, 1, none⟩ = some (.int .i64 f) ∧ w'.cell? ⟨G0, 2, none⟩ = some (.int .i64 o) ∧ w'.cell? ⟨G0, 3, none⟩ = some (.int .i64 e9) ∧ w'.cell? ⟨G0, 4, none⟩ = some (.int .i64 n) ∧ w'.cell? ⟨G0, 5, none⟩ = some (.slice ao l.length ca) from ⟨(D.cell B1_7.out.lt).trans B1c0, (D.cell B1_7.out.lt).trans B1c1, (D.cell B1_7.out.lt).trans B1c2, (D.cell B1_7.out.lt).trans B1c3, (D.cell B1_7.out.lt).trans B1c4, (D.cell B1_7.out.lt).trans B1c5, (D.cell B0_7.out.lt).trans B0c0, (D.cell B0_7.out.lt).trans B0c1, (D.cell B0_7.out.lt).trans B0c2, (D.cell B0_7.out.lt).trans B0c3, (D.cell B0_7.out.lt).trans B0c4, (D.cell B0_7.out.lt).trans B0c5⟩))
    go_wp2
    go_region_held3 (fun w' => w'.cell? ⟨G1, 0, none⟩ = some (.int .i64 k) ∧ w'.cell? ⟨G1, 1, none⟩ = some (.int .i64 f) ∧ w'.cell? ⟨G1, 2, none⟩ = some (.int .i64 o) ∧ w'.cell? ⟨G1, 3, none⟩ = some (.int .i64 e9) ∧ w'.cell? ⟨G1, 4, none⟩ = some (.int .i64 n) ∧ w'.cell? ⟨G1, 5, none⟩ = some (.slice Xb l.length Xc) ∧ w'.cell? ⟨G0, 0, none⟩ = some (.int .i64 k) ∧ w'.cell? ⟨G0, 1, none⟩ = some (.int .i64 f) ∧ w'.cell? ⟨G0, 2, none⟩ = some (.int .i64 o) ∧ w'.cell? ⟨G0, 3, none⟩ = some (.int .i64 e9) ∧ w'.cell? ⟨G0, 4, none⟩ = some (.int .i64 n) ∧ w'.cell? ⟨G0, 5, none⟩ = some (.slice ao l.length ca)) (first | go_keep | exact ZS.out _ D8.out | exact ZS.out _ D7.out) ((first | (go_at_call 19; refine (CE.out _ (by go_grown)).mono ?_; rintro e w8 ⟨rfl, hb8⟩; have D8 : Hid (Below w4.heap.size w4 w8) := (D7.out.trans (show Below w4.heap.size w7 _ by go_grown)).trans (hb8.mono (by have := D7.out.size; go_size)); clear hb8) | (go_at_call 18; refine (CT4.out _ (by go_grown)).mono ?_; rintro e w7 ⟨⟨b7, c7, rfl, ho7⟩, hb7⟩; have D7 : Hid (Below w4.heap.size w4 w7) := (show Below w4.heap.size w4 _ by go_grown).trans hb7; have CE := hide1 (fun w' (hb : Below w7.heap.size w7 w') => eqMsg_same k f o e9 n l Xb b7 Xc c7 w' hr2 (RX.out.later (D7.out.trans (hb.mono D7.out.size))) ((rdG_of_own encIm.len ho7 rfl).later hb)); clear ho7)))
    clear B1c0 B1c1 B1c2 B1c3 B1c4 B1c5 B0c0 B0c1 B0c2 B0c3 B0c4 B0c5
    clear ZS CT4 CE D7 hb7 RX
    have E_8 := hide1 (E_7.out.trans ((D8.out).mono E_7.out.size))
    have B0_8 := hide1 (B0_7.out.below (D8.out) B0_7.out.lt)
    have T_8 := hide1 (own_kept T_7.out (D8.out))
    have X_8 := hide1 (own_kept X_7.out (D8.out))
    have B1_8 := hide1 (B1_7.out.below (D8.out) B1_7.out.lt)
    clear E_7 B0_7 T_7 X_7 B1_7
    clear D8
    go_wp2
    go_ret
    exact ⟨rfl, E_8.out⟩

theorem door_met_FnExactMsgText (os : Os) (args : Array Value) : laidMetH Tryd.prog Rows.fnExactMsgTextRow.laid ((World.doorLaid Tryd.prog 14 os).forCall (fun _ _ => 0) ⟨#[], args, []⟩).memory :=
  laidMetH_of_parts3 (fuel := 8) (laidMet_of_run' 8 (by kernel_rfl) (by kernel_rfl)) (by kernel_rfl) (by kernel_rfl)

set_option maxRecDepth 100000 in
theorem lifted_FnExactMsgText (os : Os) (started : os.Started) (H : Type) (enc : TypeId × Value → H) :
    ReturnsInHanded {} Tryd.checked os 4 .any (fun w args => (Rows.fnExactMsgTextSpec.pre enc Tryd.prog Tryd.f4 [] false w args ∧ laidMetH Tryd.prog Rows.fnExactMsgTextRow.laid w) ∧ sizedMet enc Tryd.prog Tryd.f4 (OpenSpec.ofChange Rows.fnExactMsgTextSpec) false w args)
      (Rows.fnExactMsgTextSpec.post enc Tryd.prog Tryd.f4 false true false false) := by
  refine returnsInHanded_of_change_and (C := Tryd.checked) (X := fun w _ => laidMetH Tryd.prog Rows.fnExactMsgTextRow.laid w) (fun _ _ _ hh h => h.of_heap hh) (show ownKnob Tryd.prog.godebug = none by kernel_rfl) started (by kernel_rfl) Tryd.func4
    (ChangeSpec.witness_shaped (enc := enc) (C := Tryd.checked) (os := os) (X := fun w _ => laidMetH Tryd.prog Rows.fnExactMsgTextRow.laid w) false (World.doorLaid Tryd.prog 14 os) #[.agg #[.int .i64 0, .int .i64 0, .int .i64 0, .int .i64 0, .int .i64 0, .slice none 0 0]] 8 rfl (World.shaped_of_RefB (by kernel_rfl) (by kernel_rfl)) (by kernel_rfl) (by kernel_rfl) (by kernel_rfl) (door_met_FnExactMsgText os _)) ?_
  intro W base args ds gs before hval0 hW _ _ hL _
  have hval : ∀ (j : Nat) t v, Tryd.f4.params[j]? = some t → args[j]? = some v → Value.okWide Tryd.prog W .any base t v := hval0
  have hW' := hW
  obtain ⟨p, q, hA0, hV, rfl, hfz, hnd⟩ := hW
  have hA : DataW.TrodAll enc Tryd.prog W 0 (fun _ => true) true Tryd.f4.params.toList args.toList ds p := hA0
  rw [Tryd.params4] at hA hval
  obtain ⟨v0, vs0, d0, ds0, p0, q0, hargs, rfl, rfl, h0, r0⟩ := trodAll_cons hA
  obtain ⟨rfl, rfl, rfl⟩ := trodAll_nil r0
  obtain rfl : args = #[v0] := by cases args; simp_all
  obtain ⟨_, _, _, _, gd, _, rfl, _⟩ := trodVars_one hV
  have k0 := h0
  have lt0 : ∀ x ∈ p0, x.block < W.heap.size := by obtain ⟨m, hm⟩ := k0; exact DataW.trod_lt m _ _ _ hm
  obtain ⟨x0, f0, o0, e0, n0, l0, ao0, ca0, rfl, hR0, hl0, hw0, _⟩ := open_msg (hval 0 39 v0 rfl rfl) h0
  have hX := of_laid_FnExactMsgText hL
  clear hA0 hval0 hL
  try simp only [List.append_nil] at hW'
  refine (walk_FnExactMsgText x0 f0 o0 e0 n0 l0 ao0 ca0 W hR0 hl0 hw0 hX).mono fun e W' ⟨he, bel⟩ => ?_
  subst he
  exact ⟨_, rfl, _, _, _, [], _, q, hW', trodAll_mk1 (shut_bool Tryd.underlying4 _), (trodAll_cons_mk (Below.trod (show laidOutB Tryd.prog = true by kernel_rfl) (by kernel_rfl) (of_decide_eq_true (by kernel_rfl)) k0 bel lt0) trodAll_mk0), bel.trodVars (show laidOutB Tryd.prog = true by kernel_rfl) (by kernel_rfl) hV, bel.frame _, fun h => by cases h⟩

theorem row_FnExactMsgText : Rows.FnExactMsgTextSaid :=
  OpenClaim.holds_of_wide 4 Tryd.f4 rfl rfl rfl rfl rfl rfl rfl ⟨rfl, rfl, rfl, rfl, rfl⟩ rfl rfl rfl rfl rfl (by kernel_rfl) Tryd.func4 (by kernel_rfl)
    (of_decide_eq_true (by kernel_rfl)) (by unfold Func.isWrapper; first | (rw [if_pos (by decide +kernel)]; kernel_rfl) | (rw [if_neg (by decide +kernel)]; exact ⟨rfl, rfl⟩))
    (fun os started H enc _ => lifted_FnExactMsgText os started H enc)

theorem proved_FnExactMsgText : Rows.FnExactMsgTextCardSaid :=
  Claim7.holds_tied_plain_at .later [] Rows.fnExactMsgTextCard.laidKinds true Rows.fnExactMsgTextCard.stood.harness false
    row_FnExactMsgText (fun _ h => by cases h) (by kernel_rfl) (fun _ h => by cases h) fnExactMsgText_row_tie rfl ⟨rfl, rfl⟩ (by kernel_rfl) rfl
    (fun f fn hf hfn => by
      obtain rfl : f = 4 := Option.some.inj ((show Tryd.prog.funcNamed Tryd.f4.name = some 4 by kernel_rfl).symm.trans hf) |>.symm
      obtain rfl : fn = Tryd.f4 := (Option.some.inj (Tryd.func4.symm.trans hfn)).symm
      exact ⟨by kernel_rfl, fun j t ht => by
        rw [Tryd.params4] at ht
        have hm : t ∈ ([39] : List TypeId) := by simpa using Array.mem_of_getElem? ht
        have hall : (([39] : List TypeId).all fun u => !Tryd.prog.wantsStandIn u) = true := by kernel_rfl
        exact (show Tryd.prog.wantsStandIn t = false by simpa using List.all_eq_true.1 hall t hm)⟩)
    (by kernel_rfl)
#print axioms proved_FnExactMsgText
end Go.Proofs.YtbkhhkknhbddeaaDoor
