/- SeenKey answers as its model at every argument, the program's table of bits being as its text lays it (the card ties it to the text of a pruned copy of the project). -/
import Derived.Test.YtocoligcbgcanaaDoorCards
import Derived.Test.YtocoligcbgcanaaDoorTie
import Derived.ProofKit
import Derived.LaidMore
import Derived.OpenShut
import Derived.ShutString
import Derived.ChangeOld
import Derived.Stop.Joined
import Derived.Stop.LaidErr
import Derived.SevenTiedAt
import Derived.OpenVars
import Derived.ChangeVars
import Derived.Test.YtocoligcbgcanaaDoorDrE
namespace Go.Proofs.YtocoligcbgcanaaDoor
open Go.ChangeShapes Go.WideShapes Go.ChangeAt Go.RowKit
open Go.ChangeMaps (open_string shut_string)
set_option linter.unusedVariables false

theorem of_laid_FnExactSeenKey {W : World} (h : laidMetH Tryd.prog Rows.fnExactSeenKeyRow.laid W) : TabD W := by
  rw [MakeChecks.laidMetH_plain _ _ _ (by kernel_rfl)] at h
  exact Lib.tabIs_of_head gTabD (by kernel_rfl) Tryd.underlying48 Tryd.underlying3 (by kernel_rfl) (by kernel_rfl) h

set_option maxRecDepth 100000 in
set_option maxHeartbeats 1000000 in
theorem walk_FnExactSeenKey (d : Int) (a1 : ByteArray) (w1 : a1.size ≤ maxLen) (w : World) (ht : TabD w) :
    Calls Tryd.prog 4 #[.agg #[.int .i64 d], .string a1] w fun e w' => e = .returned (.bool true) ∧ Below w.heap.size w w' := by
  unfold maxLen at w1
  have K0 := hide1 (Blk.new w 31 #[.int .i64 d])
  have B0 := hide1 ((Below.refl w.heap.size w).alloc (Nat.le_refl _) (.cells #[.int .i64 d] 31))
  by_cases hs : a1.size ≤ 1048576
  · have q : decide (1048576 < (a1.size : Int)) = false := decide_eq_false (by omega)
    have CT := hide1 (fun w' => toDoor_any d w')
    have CS := hide1 (fun w' => specSeen_any d a1 hs w')
    have CI := hide1 (fun w' h => implSeen_any d a1 hs w' h)
    have HT := hide1 ht
    clear ht
    generalize seenD d a1 = x at *
    have e2 : (x != x) = false := by simp
    go_enter Tryd.func4, Tryd.ntmps4
    go_wp2_with fail
    generalize (w.alloc (.cells #[.int .i64 d] 31)) = w0 at K0 B0 ⊢
    refine (CT.out _).mono ?_
    rintro e w1 ⟨rfl, hb1⟩
    have K1 := hide1 (K0.out.below hb1 K0.out.lt)
    have B1 := hide1 (B0.out.trans (hb1.mono B0.out.size))
    clear hb1
    go_wp2_with fail
    refine (CS.out _).mono ?_
    rintro e w2 ⟨rfl, hb2⟩
    have K2 := hide1 (K1.out.below hb2 K1.out.lt)
    have B2 := hide1 (B1.out.trans (hb2.mono B1.out.size))
    have x2 : w2.cell? ⟨w.heap.size, 0, none⟩ = some (.int .i64 d) := K2.out.cell 0
    have l2 := K2.out.lt
    clear hb2
    go_wp2_with fail
    refine (CT.out _).mono ?_
    rintro e w3 ⟨rfl, hb3⟩
    have B3 := hide1 (B2.out.trans (hb3.mono B2.out.size))
    clear hb3 x2
    go_wp2_with fail
    refine (CI.out _ (HT.out.later B3.out)).mono ?_
    rintro e w4 ⟨rfl, hb4⟩
    have B4 := hide1 (B3.out.trans (hb4.mono B3.out.size))
    clear hb4
    go_wp2
    go_ret
    exact ⟨rfl, B4.out⟩
  · have q : decide (1048576 < (a1.size : Int)) = true := decide_eq_true (by omega)
    go_enter Tryd.func4, Tryd.ntmps4
    go_wp2
    go_ret
    exact ⟨rfl, B0.out⟩

theorem door_met_FnExactSeenKey (os : Os) (args : Array Value) : laidMetH Tryd.prog Rows.fnExactSeenKeyRow.laid ((World.doorLaid Tryd.prog 14 os).forCall (fun _ _ => 0) ⟨#[], args, []⟩).memory :=
  laidMetH_of_parts3 (fuel := 8) (laidMet_of_run' 8 (by kernel_rfl) (by kernel_rfl)) (by kernel_rfl) (by kernel_rfl)

set_option maxRecDepth 100000 in
theorem lifted_FnExactSeenKey (os : Os) (started : os.Started) (H : Type) (enc : TypeId × Value → H) :
    ReturnsInHanded {} Tryd.checked os 4 .any (fun w args => (Rows.fnExactSeenKeySpec.pre enc Tryd.prog Tryd.f4 [] false w args ∧ laidMetH Tryd.prog Rows.fnExactSeenKeyRow.laid w) ∧ sizedMet enc Tryd.prog Tryd.f4 (OpenSpec.ofChange Rows.fnExactSeenKeySpec) false w args)
      (Rows.fnExactSeenKeySpec.post enc Tryd.prog Tryd.f4 false true false false) := by
  refine returnsInHanded_of_change_and (C := Tryd.checked) (X := fun w _ => laidMetH Tryd.prog Rows.fnExactSeenKeyRow.laid w) (fun _ _ _ hh h => h.of_heap hh) (show ownKnob Tryd.prog.godebug = none by kernel_rfl) started (by kernel_rfl) Tryd.func4
    (ChangeSpec.witness_shaped (enc := enc) (C := Tryd.checked) (os := os) (X := fun w _ => laidMetH Tryd.prog Rows.fnExactSeenKeyRow.laid w) false (World.doorLaid Tryd.prog 14 os) #[.agg #[.int .i64 0], .string ByteArray.empty] 8 rfl (World.shaped_of_RefB (by kernel_rfl) (by kernel_rfl)) (by kernel_rfl) (by kernel_rfl) (by kernel_rfl) (door_met_FnExactSeenKey os _)) ?_
  intro W base args ds gs before hval0 hW _ _ hL _
  have hval : ∀ (j : Nat) t v, Tryd.f4.params[j]? = some t → args[j]? = some v → Value.okWide Tryd.prog W .any base t v := hval0
  have hW' := hW
  obtain ⟨p, q, hA0, hV, rfl, hfz, hnd⟩ := hW
  have hA : DataW.TrodAll enc Tryd.prog W 0 (fun _ => true) true Tryd.f4.params.toList args.toList ds p := hA0
  rw [Tryd.params4] at hA hval
  obtain ⟨v0, vs0, d0, ds0, p0, q0, hargs, rfl, rfl, h0, r0⟩ := trodAll_cons hA
  obtain ⟨v1, vs1, d1, ds1, p1, q1, rfl, rfl, rfl, h1, r1⟩ := trodAll_cons r0
  obtain ⟨rfl, rfl, rfl⟩ := trodAll_nil r1
  obtain rfl : args = #[v0, v1] := by cases args; simp_all
  obtain ⟨_, _, _, _, gd, _, rfl, _⟩ := trodVars_one hV
  have k0 := h0
  have lt0 : ∀ x ∈ p0, x.block < W.heap.size := by obtain ⟨m, hm⟩ := k0; exact DataW.trod_lt m _ _ _ hm
  obtain ⟨a0, rfl⟩ := open_door (hval 0 31 v0 rfl rfl) h0
  obtain ⟨a1, rfl, rfl, rfl, w1⟩ := open_string Tryd.underlying9 (hval 1 9 v1 rfl rfl) h1
  have hX := of_laid_FnExactSeenKey hL
  clear hA0 hval0 hL
  simp only [List.append_nil] at hW'
  refine (walk_FnExactSeenKey a0 a1 w1 W hX).mono fun e W' ⟨he, bel⟩ => ?_
  subst he
  exact ⟨_, rfl, _, _, _, [], _, q, hW', trodAll_mk1 (shut_bool Tryd.underlying4 _), (trodAll_cons_mk (Below.trod (show laidOutB Tryd.prog = true by kernel_rfl) (by kernel_rfl) (of_decide_eq_true (by kernel_rfl)) k0 bel lt0) (trodAll_cons_mk (shut_string Tryd.underlying9 w1) trodAll_mk0)), bel.trodVars (show laidOutB Tryd.prog = true by kernel_rfl) (by kernel_rfl) hV, bel.frame _, fun h => by cases h⟩

theorem row_FnExactSeenKey : Rows.FnExactSeenKeySaid :=
  OpenClaim.holds_of_wide 4 Tryd.f4 rfl rfl rfl rfl rfl rfl rfl ⟨rfl, rfl, rfl, rfl, rfl⟩ rfl rfl rfl rfl rfl (by kernel_rfl) Tryd.func4 (by kernel_rfl)
    (of_decide_eq_true (by kernel_rfl)) (by unfold Func.isWrapper; first | (rw [if_pos (by decide +kernel)]; kernel_rfl) | (rw [if_neg (by decide +kernel)]; exact ⟨rfl, rfl⟩))
    (fun os started H enc _ => lifted_FnExactSeenKey os started H enc)

theorem proved_FnExactSeenKey : Rows.FnExactSeenKeyCardSaid :=
  Claim7.holds_tied_plain_at .later [] Rows.fnExactSeenKeyCard.laidKinds true Rows.fnExactSeenKeyCard.stood.harness false
    row_FnExactSeenKey (fun _ h => by cases h) (by kernel_rfl) (fun _ h => by cases h) fnExactSeenKey_row_tie rfl ⟨rfl, rfl⟩ (by kernel_rfl) rfl
    (fun f fn hf hfn => by
      obtain rfl : f = 4 := Option.some.inj ((show Tryd.prog.funcNamed Tryd.f4.name = some 4 by kernel_rfl).symm.trans hf) |>.symm
      obtain rfl : fn = Tryd.f4 := (Option.some.inj (Tryd.func4.symm.trans hfn)).symm
      exact ⟨by kernel_rfl, fun j t ht => by
        rw [Tryd.params4] at ht
        have hm : t ∈ ([31, 9] : List TypeId) := by simpa using Array.mem_of_getElem? ht
        have hall : (([31, 9] : List TypeId).all fun u => !Tryd.prog.wantsStandIn u) = true := by kernel_rfl
        exact (show Tryd.prog.wantsStandIn t = false by simpa using List.all_eq_true.1 hall t hm)⟩)
    (by kernel_rfl)
#print axioms proved_FnExactSeenKey
end Go.Proofs.YtocoligcbgcanaaDoor
