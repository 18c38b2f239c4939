/- RingOk answers as its model at every argument, the library's three tables being as the program's text lays them (the card ties them to the text of a pruned copy of the project). -/
import Derived.Test.YtdgpencendphbaaDoorCards
import Derived.Test.YtdgpencendphbaaDoorTie
import Derived.ProofKit
import Derived.LaidMore
import Derived.OpenShut
import Derived.ShutString
import Derived.ChangeOld
import Derived.Stop.Joined
import Derived.Stop.LaidErr
import Derived.SevenTiedAt
import Derived.Test.YtdgpencendphbaaDoorRiF
namespace Go.Proofs.YtdgpencendphbaaDoor
open Go.ChangeShapes Go.WideShapes Go.ChangeAt Go.RowKit
open Go.ChangeMaps (open_string shut_string)
set_option linter.unusedVariables false

theorem of_laid_FnExactRingOk {W : World} (h : laidMetH Tryd.prog Rows.fnExactRingOkRow.laid W) : Tens W := by
  rw [MakeChecks.laidMetH_plain _ _ _ (by kernel_rfl)] at h
  exact Lib.tabIs_of_head gTens (by kernel_rfl) Tryd.underlying134 Tryd.underlying106 (by kernel_rfl) (by kernel_rfl) (laidMet.tail (laidMet.tail h))

set_option maxRecDepth 100000 in
set_option maxHeartbeats 8000000 in
theorem walk_FnExactRingOk (ao : Option Addr) (l : List Sp) (ca : Nat) (w : World) (hR : RdO w ao l) (hl : l.length ≤ maxLen ∧ ∀ i (h : i < l.length), (Lit.int .i64 l[i].2).wf = true) (ht : Tens w) :
    Calls Tryd.prog 7 #[riV ao l.length ca] w fun e w' => e = .returned (.bool true) ∧ Below w.heap.size w w' := by
  have B0 := fun (w : World) o => (Below.refl w.heap.size w).alloc (Nat.le_refl _) o
  have CZ := hide1 (fun w' => szRing_any ao l.length ca 1048576 w' hl.1 (Nat.le_refl _))
  have HR := hide1 hR
  unfold riV at CZ ⊢
  have HW : Hid (WfN l) := hl.2
  have hp := ht.pos
  have HT := hide1 ht
  clear hR hl ht
  go_enter Tryd.func7, Tryd.ntmps7
  go_wp2_with fail
  refine (CZ.out _).mono ?_
  rintro e w1 ⟨hr, hb1⟩
  have V1 := hide1 (VarR.box hb1)
  have B1 := hide1 (boxR_below hb1)
  clear hb1 CZ
  rcases hr with rfl | ⟨r, rfl, hrn⟩
  · go_wp2
    go_ret
    exact ⟨rfl, B1.out⟩
  have hn : l.length ≤ 1048576 := by omega
  clear hrn
  have qr : decide ((r : Int) < 0) = false := by simp
  obtain ⟨hs1, x0⟩ := V1.out.cells
  have T2 := hide1 (toRing_own ao l ca w1 hn (HR.out.later B1.out))
  go_wp2_with fail
  refine T2.out.mono ?_
  rintro e w2 ⟨b2, c2, rfl, ho2, hb2⟩
  have RD2 := hide1 ho2.rd
  have B2 := hide1 (B1.out.trans (hb2.mono B1.out.size))
  have V2 := hide1 (V1.out.later hb2)
  clear ho2 hb2 T2 x0 V1
  have L3 := hide1 (specRingOk_any b2 l c2 w2 hn RD2.out)
  unfold riV at L3
  go_wp2_with fail
  refine L3.out.mono ?_
  rintro e w3 ⟨x3, rfl, hx3, hb3⟩
  have HX3 := hide1 hx3
  clear hx3
  have B3 := hide1 (B2.out.trans (hb3.mono B2.out.size))
  have V3 := hide1 (V2.out.later hb3)
  have I3 := hide1 (HR.out.later B3.out)
  clear hb3 L3 RD2 V2
  obtain ⟨hs3, x0⟩ := V3.out.cells
  have T4 := hide1 (toRing_own ao l ca w3 hn I3.out)
  go_wp2_with fail
  refine T4.out.mono ?_
  rintro e w4 ⟨b4, c4, rfl, ho4, hb4⟩
  have O4 := hide1 ho4
  have V4 := hide1 (V3.out.later hb4)
  have I4 := hide1 (I3.out.later hb4)
  have B4 := hide1 (B3.out.trans (hb4.mono B3.out.size))
  clear ho4 hb4 T4 x0 V3 I3
  have L5 := hide1 (fun o1 => implRingOk_any b4 l c4 (w4.alloc o1) hn (O4.out.rd.later (B0 w4 o1)) HW.out (HT.out.below (B4.out.trans ((B0 w4 o1).mono B4.out.size)) hp))
  unfold riV at L5
  go_wp2_with fail
  refine (L5.out _).mono ?_
  rintro e w5 ⟨x5, rfl, hx5, hb5⟩
  obtain rfl : x3 = x5 := by
    have h1 := HX3.out
    cases x3 <;> cases x5 <;> simp_all
  clear hx5
  have V5 := hide1 (VarR.box hb5)
  have B45 := hide1 (boxR_below hb5)
  have S5 := hide1 (V4.out.later B45.out)
  have I5 := hide1 (I4.out.later B45.out)
  have X5 := hide1 (O4.out.rd.later B45.out)
  have B5 := hide1 (B4.out.trans (B45.out.mono B4.out.size))
  clear hb5 L5 V4 I4
  have qq : (x3 != x3) = false := by simp
  have SV := hide1 S5.out
  have SR := hide1 I5.out
  have SX := hide1 V5.out
  have RX := hide1 X5.out
  have CT := hide1 (fun w' (hb : Below w5.heap.size w5 w') => toRing_own ao l ca w' hn (SR.out.later hb))
  obtain ⟨mX, z0⟩ := SX.out.cells
  obtain ⟨mS, x0⟩ := SV.out.cells
  have ZX := hide1 (And.intro z0 x0)
  go_wp2
  go_region_held3 (fun w' => w'.cell? ⟨w4.heap.size, 0, none⟩ = some (.slice b4 l.length c4) ∧ w'.cell? ⟨w.heap.size, 0, none⟩ = some (.slice ao l.length ca)) (first | go_keep | exact ⟨(D8.out.cell mX).trans ZX.out.1, (D8.out.cell mS).trans ZX.out.2⟩ | exact ⟨(D7.out.cell mX).trans ZX.out.1, (D7.out.cell mS).trans ZX.out.2⟩) ((first | (go_at_call 24; refine (CE.out _ (by go_grown)).mono ?_; rintro e w8 ⟨rfl, hb8⟩; have D8 : Hid (Below w5.heap.size w5 w8) := (D7.out.trans (show Below w5.heap.size w7 _ by go_grown)).trans (hb8.mono (by have := D7.out.size; go_size)); clear hb8) | (go_at_call 31; refine (CT.out _ (by go_grown)).mono ?_; rintro e w7 ⟨b7, c7, rfl, ho7, hb7⟩; have D7 : Hid (Below w5.heap.size w5 w7) := (show Below w5.heap.size w5 _ by go_grown).trans hb7; have CE := hide1 (fun w' (hb : Below w7.heap.size w7 w') => eqRing_own b4 b7 l c4 c7 w' hn (RX.out.later (D7.out.trans (hb.mono D7.out.size))) (ho7.rd.later hb)); clear ho7)))
  clear z0 x0 ZX CT CE D7 hb7 mX mS SX SR
  have B8 := hide1 (B5.out.trans (D8.out.mono B5.out.size))
  go_wp2
  go_ret
  exact ⟨rfl, B8.out⟩

theorem door_met_FnExactRingOk (os : Os) (args : Array Value) : laidMetH Tryd.prog Rows.fnExactRingOkRow.laid ((World.doorLaid Tryd.prog 24 os).forCall (fun _ _ => 0) ⟨#[], args, []⟩).memory :=
  laidMetH_of_parts3 (fuel := 8) (laidMet_of_run' 8 (by kernel_rfl) (by kernel_rfl)) (by kernel_rfl) (by kernel_rfl)

set_option maxRecDepth 100000 in
theorem lifted_FnExactRingOk (os : Os) (started : os.Started) (H : Type) (enc : TypeId × Value → H) :
    ReturnsInHanded {} Tryd.checked os 7 .any (fun w args => (Rows.fnExactRingOkSpec.pre enc Tryd.prog Tryd.f7 [] false w args ∧ laidMetH Tryd.prog Rows.fnExactRingOkRow.laid w) ∧ sizedMet enc Tryd.prog Tryd.f7 (OpenSpec.ofChange Rows.fnExactRingOkSpec) false w args)
      (Rows.fnExactRingOkSpec.post enc Tryd.prog Tryd.f7 false true false false) := by
  refine returnsInHanded_of_change_and (C := Tryd.checked) (X := fun w _ => laidMetH Tryd.prog Rows.fnExactRingOkRow.laid w) (fun _ _ _ hh h => h.of_heap hh) (show ownKnob Tryd.prog.godebug = none by kernel_rfl) started (by kernel_rfl) Tryd.func7
    (ChangeSpec.witness_shaped (enc := enc) (C := Tryd.checked) (os := os) (X := fun w _ => laidMetH Tryd.prog Rows.fnExactRingOkRow.laid w) false (World.doorLaid Tryd.prog 24 os) #[.agg #[.slice none 0 0]] 8 rfl (World.shaped_of_RefB (by kernel_rfl) (by kernel_rfl)) (by kernel_rfl) (by kernel_rfl) (by kernel_rfl) (door_met_FnExactRingOk os _)) ?_
  intro W base args ds gs before hval0 hW _ _ hL _
  have hval : ∀ (j : Nat) t v, Tryd.f7.params[j]? = some t → args[j]? = some v → Value.okWide Tryd.prog W .any base t v := hval0
  have hW' := hW
  obtain ⟨p, q, hA0, hV, rfl, hfz, hnd⟩ := hW
  have hA : DataW.TrodAll enc Tryd.prog W 0 (fun _ => true) true Tryd.f7.params.toList args.toList ds p := hA0
  rw [Tryd.params7] at hA hval
  obtain ⟨v0, vs0, d0, ds0, p0, q0, hargs, rfl, rfl, h0, r0⟩ := trodAll_cons hA
  obtain ⟨rfl, rfl, rfl⟩ := trodAll_nil r0
  obtain rfl : args = #[v0] := by cases args; simp_all
  obtain ⟨rfl, rfl⟩ := trodVars_none hV
  have k0 := h0
  have lt0 : ∀ x ∈ p0, x.block < W.heap.size := by obtain ⟨m, hm⟩ := k0; exact DataW.trod_lt m _ _ _ hm
  obtain ⟨ao0, l0, ca0, rfl, hR0, hl0⟩ := open_ringW (hval 0 49 v0 rfl rfl) h0
  have hX := of_laid_FnExactRingOk hL
  clear hA0 hval0 hL
  try simp only [List.append_nil] at hW'
  refine (walk_FnExactRingOk ao0 l0 ca0 W hR0 hl0 hX).mono fun e W' ⟨he, bel⟩ => ?_
  subst he
  exact ⟨_, rfl, _, _, _, [], _, [], hW', trodAll_mk1 (shut_bool Tryd.underlying4 _), (trodAll_cons_mk (Below.trod (show laidOutB Tryd.prog = true by kernel_rfl) (by kernel_rfl) (of_decide_eq_true (by kernel_rfl)) k0 bel lt0) trodAll_mk0), rfl, bel.frame _, fun h => by cases h⟩

theorem row_FnExactRingOk : Rows.FnExactRingOkSaid :=
  OpenClaim.holds_of_wide 7 Tryd.f7 rfl rfl rfl rfl rfl rfl rfl ⟨rfl, rfl, rfl, rfl, rfl⟩ rfl rfl rfl rfl rfl (by kernel_rfl) Tryd.func7 (by kernel_rfl)
    (of_decide_eq_true (by kernel_rfl)) (by unfold Func.isWrapper; first | (rw [if_pos (by decide +kernel)]; kernel_rfl) | (rw [if_neg (by decide +kernel)]; exact ⟨rfl, rfl⟩))
    (fun os started H enc _ => lifted_FnExactRingOk os started H enc)

theorem proved_FnExactRingOk : Rows.FnExactRingOkCardSaid :=
  Claim7.holds_tied_plain_at .later [] Rows.fnExactRingOkCard.laidKinds true Rows.fnExactRingOkCard.stood.harness false
    row_FnExactRingOk (fun _ h => by cases h) (by kernel_rfl) (fun _ h => by cases h) fnExactRingOk_row_tie rfl ⟨rfl, rfl⟩ (by kernel_rfl) rfl
    (fun f fn hf hfn => by
      obtain rfl : f = 7 := Option.some.inj ((show Tryd.prog.funcNamed Tryd.f7.name = some 7 by kernel_rfl).symm.trans hf) |>.symm
      obtain rfl : fn = Tryd.f7 := (Option.some.inj (Tryd.func7.symm.trans hfn)).symm
      exact ⟨by kernel_rfl, fun j t ht => by
        rw [Tryd.params7] at ht
        have hm : t ∈ ([49] : List TypeId) := by simpa using Array.mem_of_getElem? ht
        have hall : (([49] : List TypeId).all fun u => !Tryd.prog.wantsStandIn u) = true := by kernel_rfl
        exact (show Tryd.prog.wantsStandIn t = false by simpa using List.all_eq_true.1 hall t hm)⟩)
    (by kernel_rfl)
#print axioms proved_FnExactRingOk
end Go.Proofs.YtdgpencendphbaaDoor
