/- MemberOk answers as its model at every argument. -/
import Derived.Test.YtgmiohmglffidaaRows
import Derived.ProofKit
import Derived.OpenShut
import Derived.ShutString
import Derived.ChangeOld
import Derived.Test.YtgmiohmglffidaaToMb
import Derived.Test.YtgmiohmglffidaaMbS
import Derived.Test.YtgmiohmglffidaaMbI
import Derived.Test.YtgmiohmglffidaaRowL
namespace Go.Proofs.Ytgmiohmglffidaa
open Go.ChangeShapes Go.WideShapes Go.ChangeAt Go.RowKit
open Go.ChangeMaps (open_string shut_string)
set_option linter.unusedVariables false
set_option maxRecDepth 100000 in
set_option maxHeartbeats 4000000 in
theorem walk_FnExactMemberOk (m : Mb) (A : MA) (w : World) (hR : RdMb w m A) (hw : WfMb m) :
    Calls Try.prog 4 #[mbV m A] w fun e w' => e = .returned (.bool true) ∧ Below w.heap.size w w' := by
  have HR := hide1 hR
  have mx : maxLen ≤ 9223372036854775807 := by unfold maxLen; omega
  have CZ := hide1 (fun W (hb : Below w.heap.size w W) => (show Calls Try.prog 15 #[.agg (mbA m A), .int .i64 1048576] W _ from szMember_any m A 1048576 W (Nat.le_refl _) (Nat.le_trans hw.wl mx) (Nat.le_trans hw.il mx) (Nat.le_trans hw.ll mx) ⟨Nat.le_trans hw.it.1 mx, Nat.le_trans hw.it.2.1 mx⟩ (HR.out.later hb) (fun i h => by have h1 := hw.is _ (List.getElem_mem h); exact ⟨Nat.le_trans h1.1 mx, Nat.le_trans h1.2.1 mx⟩)))
  clear hR hw mx
  rw [mbV_A]
  go_enter Try.func4, Try.ntmps4
  have E_0 := hide1 (Below.refl w.heap.size w)
  have FB := hide1 (And.intro (BlkA.new w 44 (mbA m A)) ((Below.refl w.heap.size w).alloc (Nat.le_refl _) (.cells (mbA m A) 44)))
  go_upto_region 1 with fail
  generalize (w.alloc (.cells (mbA m A) 44)) = u0 at FB ⊢
  obtain ⟨G0, hG0⟩ : ∃ G, G = w.heap.size := ⟨_, rfl⟩
  have KB := hide1 FB.out.1
  rw [← hG0] at KB ⊢
  have zG0 : w.heap.size ≤ G0 := by omega
  have E_1 := hide1 (E_0.out.trans ((FB.out.2).mono E_0.out.size))
  clear E_0
  have B0_1 := hide1 (KB.out)
  clear KB FB hG0
  go_wp2_with (refine wpList_load_row rfl 44 _ rfl G0 rfl 44 (mbA m A) (0, 0) _ B0_1.out Try.underlying44 rfl sizeMbL ?_)
  refine (CZ.out u0 E_1.out).mono ?_
  rintro e wz ⟨hz, hbz⟩
  clear CZ
  have E_2 := hide1 (E_1.out.trans ((hbz).mono E_1.out.size))
  have B0_2 := hide1 (B0_1.out.below (hbz) B0_1.out.lt)
  clear E_1 B0_1
  clear hbz
  rcases hz with rfl | ⟨r, rfl, hr1, hr2, hr3, hr4, hr5⟩
  · go_wp2
    go_ret
    exact ⟨rfl, E_2.out⟩
  · have qr : ¬ ((r : Int) < 0) := by omega
    have qr2 : decide ((r : Int) < 0) = false := decide_eq_false qr
    have HZ := hide1 (show ∀ x ∈ m.is, x.k.size ≤ 1048576 ∧ x.v.size ≤ 1048576 from fun e he => by obtain ⟨j, hj, rfl⟩ := List.getElem_of_mem he; exact hr3 j hj)
    have SZ := hide1 hr2
    have CT := hide1 (fun W (hb : Below w.heap.size w W) => toMb_A m A W SZ.out (HR.out.later hb))
    clear hr3 hr2 hr4 hr5
    have CS := hide1 (fun W (b : MA) (h : RdMb W m b) => specMemberOk_any m b W SZ.out h)
    have CI := hide1 (fun W (b : MA) (h : RdMb W m b) => implMemberOk_any m b W SZ.out HZ.out h)
    simp only [mbV_A] at CS CI
    generalize decide (okMb m) = g at *
    have qg : (g != g) = false := by cases g <;> rfl
    go_wp2_with (refine wpList_load_row rfl 44 _ rfl G0 rfl 44 (mbA m A) (0, 0) _ B0_2.out Try.underlying44 rfl sizeMbL ?_)
    refine (CT.out wz E_2.out).mono ?_
    rintro e w1 ⟨T, rfl, hO, hb⟩
    have sT : wz.heap.size ≤ w1.heap.size := hb.size
    have E_3 := hide1 (E_2.out.trans ((hb).mono E_2.out.size))
    have B0_3 := hide1 (B0_2.out.below (hb) B0_2.out.lt)
    clear E_2 B0_2
    have OT_3 := hide1 (hO)
    clear hb hO
    go_wp2_with fail
    refine (CS.out w1 T OT_3.out.rd).mono ?_
    rintro e w2 ⟨rfl, hb⟩
    have E_4 := hide1 (E_3.out.trans ((hb).mono E_3.out.size))
    have B0_4 := hide1 (B0_3.out.below (hb) B0_3.out.lt)
    have OT_4 := hide1 (OT_3.out.later (hb))
    clear E_3 B0_3 OT_3
    clear hb
    go_wp2_with (refine wpList_load_row rfl 44 _ rfl G0 rfl 44 (mbA m A) (0, 0) _ B0_4.out Try.underlying44 rfl sizeMbL ?_)
    refine (CT.out w2 E_4.out).mono ?_
    rintro e w3 ⟨X, rfl, hO, hb⟩
    have sX : w2.heap.size ≤ w3.heap.size := hb.size
    have E_5 := hide1 (E_4.out.trans ((hb).mono E_4.out.size))
    have B0_5 := hide1 (B0_4.out.below (hb) B0_4.out.lt)
    have OT_5 := hide1 (OT_4.out.later (hb))
    clear E_4 B0_4 OT_4
    have OX_5 := hide1 (hO)
    clear hb hO
    have FB := hide1 (And.intro (BlkA.new w3 31 (mbA m X)) ((Below.refl w3.heap.size w3).alloc (Nat.le_refl _) (.cells (mbA m X) 31)))
    go_upto_region 7 with (refine wpList_store_row rfl 31 _ _ rfl w3.heap.size (mbA m X) rfl rfl 31 _ (heap_alloc_last _ _) sizeMb rfl (oneMb m X) ?_; rw [World.setRow_alloc_new])
    generalize (w3.alloc (.cells (mbA m X) 31)) = u3 at FB ⊢
    obtain ⟨G1, hG1⟩ : ∃ G, G = w3.heap.size := ⟨_, rfl⟩
    have KB := hide1 FB.out.1
    rw [← hG1] at KB ⊢
    have zG1 : w3.heap.size ≤ G1 := by omega
    have E_6 := hide1 (E_5.out.trans ((FB.out.2).mono E_5.out.size))
    have B0_6 := hide1 (B0_5.out.below (FB.out.2) B0_5.out.lt)
    have OT_6 := hide1 (OT_5.out.later (FB.out.2))
    have OX_6 := hide1 (OX_5.out.later (FB.out.2))
    clear E_5 B0_5 OT_5 OX_5
    have B1_6 := hide1 (KB.out)
    clear KB FB hG1
    go_wp2_with (refine wpList_load_row rfl 31 _ rfl G1 rfl 31 (mbA m X) (0, 0) _ B1_6.out Try.underlying31 rfl sizeMb ?_)
    refine (CI.out u3 X OX_6.out.rd).mono ?_
    rintro e w4 ⟨rfl, hb⟩
    have E_7 := hide1 (E_6.out.trans ((hb).mono E_6.out.size))
    have B0_7 := hide1 (B0_6.out.below (hb) B0_6.out.lt)
    have OT_7 := hide1 (OT_6.out.later (hb))
    have OX_7 := hide1 (OX_6.out.later (hb))
    have B1_7 := hide1 (B1_6.out.below (hb) B1_6.out.lt)
    clear E_6 B0_6 OT_6 OX_6 B1_6
    clear hb
    have RX := hide1 OX_7.out.rd
    have CT4 := hide1 (fun w' (hb : Below w4.heap.size w4 w') => toMb_A m A w' SZ.out (HR.out.later (E_7.out.trans (hb.mono E_7.out.size))))
    have ZS := hide1 (fun w' (D : Below w4.heap.size w4 w') => (show (Instr.loadAt 31 (.pointer (some ⟨G1, 0, none⟩))).run Try.prog w' = .ok (.agg (mbA m X)) w' ∧ (Instr.loadAt 44 (.pointer (some ⟨G0, 0, none⟩))).run Try.prog w' = .ok (.agg (mbA m A)) w' from ⟨(B1_7.out.below D B1_7.out.lt).load Try.underlying31 rfl sizeMb, (B0_7.out.below D B0_7.out.lt).load Try.underlying44 rfl sizeMbL⟩))
    go_wp2
    refine wp_region_held_drew (S := fun w' => (Instr.loadAt 31 (.pointer (some ⟨G1, 0, none⟩))).run Try.prog w' = .ok (.agg (mbA m X)) w' ∧ (Instr.loadAt 44 (.pointer (some ⟨G0, 0, none⟩))).run Try.prog w' = .ok (.agg (mbA m A)) w') rfl (ZS.out _ (by go_grown)) (fun hS0 => ?_)
    refine wpAnyH_take (i := 0) (oi := _) (v := .agg (mbA m X)) rfl (by kernel_rfl) (by kernel_rfl) (by kernel_rfl) (fun _ _ _ h => h) (yieldsIf_loadA (by rfl) 31 (.tmp 5) rfl G1 rfl (mbA m X) (fun w h => h.1)) hS0 ?_
    refine wpAnyH_take (i := 1) (oi := _) (v := .agg (mbA m A)) rfl (by kernel_rfl) (by kernel_rfl) (by kernel_rfl) (fun _ _ _ h => h) (yieldsIf_loadA (by rfl) 44 (.tmp 1) rfl G0 rfl (mbA m A) (fun w h => h.2)) hS0 ?_
    refine wpAnyH_ready (rs := [2]) (by kernel_rfl) (by simp) (AllReadyH.cons rfl (fun K hK => ?_) AllReadyH.nil)
    go_simp
    go_at_call 17
    refine (CT4.out _ (by go_grown)).mono ?_
    rintro e w7 ⟨Y7, rfl, ho7, hb7⟩
    have D7 : Hid (Below w4.heap.size w4 w7) := (show Below w4.heap.size w4 _ by go_grown).trans hb7
    have CE := hide1 (eqMb_A m X Y7 w7 SZ.out (RX.out.later D7.out) ho7.rd)
    clear ho7
    go_simp
    refine hK.out _ _ (ZS.out _ D7.out) (fun hS7 => ?_)
    clear hK K
    refine wpAnyH_ready (rs := [3]) (by kernel_rfl) (by simp) (AllReadyH.cons rfl (fun K hK => ?_) AllReadyH.nil)
    go_simp
    go_at_call 10
    refine CE.out.mono ?_
    rintro e w8 ⟨rfl, hb8⟩
    have D8 : Hid (Below w4.heap.size w4 w8) := D7.out.trans (hb8.mono D7.out.size)
    clear hb8
    go_simp
    refine hK.out _ _ (ZS.out _ D8.out) (fun hS8 => ?_)
    clear hK K
    refine wpAnyH_ready (rs := [4]) (by kernel_rfl) (by simp) (AllReadyH.cons rfl (fun K hK => ?_) AllReadyH.nil)
    go_simp
    refine hK.out _ _ (ZS.out _ D8.out) (fun hS9 => ?_)
    clear hK K hS0 hS7 hS8 hS9
    refine wpAnyH_done (by kernel_rfl) ?_ _
    clear ZS CT4 CE D7 hb7 RX
    have E_8 := hide1 (E_7.out.trans ((D8.out).mono E_7.out.size))
    have B0_8 := hide1 (B0_7.out.below (D8.out) B0_7.out.lt)
    have OT_8 := hide1 (OT_7.out.later (D8.out))
    have OX_8 := hide1 (OX_7.out.later (D8.out))
    have B1_8 := hide1 (B1_7.out.below (D8.out) B1_7.out.lt)
    clear E_7 B0_7 OT_7 OX_7 B1_7
    clear D8
    go_wp2
    go_ret
    exact ⟨rfl, E_8.out⟩

set_option maxRecDepth 100000 in
theorem lifted_FnExactMemberOk (os : Os) (started : os.Started) (H : Type) (enc : TypeId × Value → H) :
    ReturnsInHanded {} Try.checked os 4 .any (Rows.fnExactMemberOkSpec.pre6 enc Try.prog Try.f4 Rows.fnExactMemberOkRow.domain false) (Rows.fnExactMemberOkSpec.post enc Try.prog Try.f4 false true false false) := by
  refine returnsInHanded_of_change (C := Try.checked) (show ownKnob Try.prog.godebug = none by kernel_rfl) started (by kernel_rfl) Try.func4
    (ChangeSpec.witness6 (enc := enc) (C := Try.checked) false ⟨#[], #[.agg #[.int .i64 0, .int .i64 0, .bool false, .bool false, .bool false, .bool false, .slice none 0 0, .slice none 0 0, .int .i64 0, .int .i64 0, .int .i64 0, .int .i64 0, .string ByteArray.empty, .string ByteArray.empty, .int .i64 0, .slice none 0 0]], []⟩ 8 (by kernel_rfl) (by kernel_rfl) (by kernel_rfl) (by kernel_rfl)) ?_
  intro W base args ds gs before hval0 hW hcnd _
  have hval : ∀ (j : Nat) t v, Try.f4.params[j]? = some t → args[j]? = some v → Value.okWide Try.prog W .any base t v := hval0
  have hW' := hW
  obtain ⟨p, q, hA0, hV, rfl, hfz, hnd⟩ := hW
  have hA : DataW.TrodAll enc Try.prog W 0 (fun _ => true) true Try.f4.params.toList args.toList ds p := hA0
  rw [Try.params4] at hA hval
  obtain ⟨v0, vs0, d0, ds0, p0, q0, hargs, rfl, rfl, h0, r0⟩ := trodAll_cons hA
  obtain ⟨rfl, rfl, rfl⟩ := trodAll_nil r0
  obtain rfl : args = #[v0] := by cases args; simp_all
  obtain ⟨rfl, rfl⟩ := trodVars_none hV
  have k0 := h0
  have lt0 : ∀ x ∈ p0, x.block < W.heap.size := by obtain ⟨m, hm⟩ := k0; exact DataW.trod_lt m _ _ _ hm
  obtain ⟨mb0, A0, rfl, hR0, hW0⟩ := open_member (hval 0 44 v0 rfl rfl) h0
  clear hA0 hval0
  try simp only [List.append_nil] at hW'
  refine (walk_FnExactMemberOk mb0 A0 W hR0 hW0).mono fun e W' ⟨he, bel⟩ => ?_
  subst he
  exact ⟨_, rfl, _, _, _, [], _, [], hW', trodAll_mk1 (shut_bool Try.underlying4 _), (trodAll_cons_mk (Below.trod (show laidOutB Try.prog = true by kernel_rfl) (by kernel_rfl) (of_decide_eq_true (by kernel_rfl)) k0 bel lt0) trodAll_mk0), rfl, bel.frame _, fun h => by cases h⟩

theorem proved_FnExactMemberOk : Rows.FnExactMemberOkSaid :=
  OpenClaim.holds_of_wide 4 Try.f4 rfl rfl rfl rfl rfl rfl rfl ⟨rfl, rfl, rfl, rfl, rfl⟩ rfl rfl rfl rfl rfl (by kernel_rfl) Try.func4 (by kernel_rfl)
    (of_decide_eq_true (by kernel_rfl)) (by unfold Func.isWrapper; first | (rw [if_pos (by decide +kernel)]; kernel_rfl) | (rw [if_neg (by decide +kernel)]; exact ⟨rfl, rfl⟩))
    (fun os started H enc _ => lifted_FnExactMemberOk os started H enc)
#print axioms proved_FnExactMemberOk
end Go.Proofs.Ytgmiohmglffidaa
