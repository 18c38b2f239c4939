/- A key that is pushed into a drawn queue is the first one; what is left out is the last one, when it is full: whatever is drawn. -/
import Derived.Test.YtaafofgfeaodhaaRows
import Derived.ProofKit
import Derived.OpenShut
import Derived.ShutString
import Derived.ChangeOld
import Derived.Test.YtaafofgfeaodhaaLawQu
namespace Go.Proofs.Ytaafofgfeaodhaa
open Go.ChangeShapes Go.WideShapes Go.ChangeAt Go.RowKit
open Go.ChangeMaps (open_string shut_string)
set_option linter.unusedVariables false

set_option maxRecDepth 100000 in
set_option maxHeartbeats 8000000 in
theorem walk_FnPushes (a : Option Addr) (len cap : Nat) (w : World) (hr : RowB w a len) :
    Calls Try.prog 4 #[.slice a len cap] w fun e w' => e = .returned (.bool true) ∧ Below w.heap.size w w' := by
  by_cases hbig : len ≤ 1048576
  rotate_left
  · have CB := hide1 (big7_yes a len cap w hbig)
    clear hr
    go_enter Try.func4, Try.ntmps4
    go_wp2_with fail
    refine CB.out.mono ?_
    rintro e w1 ⟨rfl, rfl⟩
    go_wp2
    go_ret
    exact ⟨rfl, Below.refl _ _⟩
  have CB := hide1 (big7_no a len cap w hbig)
  have CD := hide1 (drawRQ_any w a len cap (hr.code hbig))
  clear hr
  go_enter Try.func4, Try.ntmps4
  go_wp2_with fail
  refine CB.out.mono ?_
  rintro e w1 ⟨rfl, rfl⟩
  go_wp2_with fail
  refine CD.out.mono ?_
  rintro e w1 ⟨l, m, ao, ca, ky, rfl, hok, hpos, hky, ho, hb1⟩
  have F1 : Hid (OneQ (w1.alloc (.cells #[.int .i64 m, .slice ao l.length ca] 26)) w1.heap.size ao l ca m ∧ Below w.heap.size w (w1.alloc (.cells #[.int .i64 m, .slice ao l.length ca] 26))) := ⟨OneQ.box ho, hb1.alloc hb1.size _⟩
  have HOK := hide1 hok
  have HPOS := hide1 hpos
  have HKY := hide1 hky
  have hsm := hok.small
  clear hok ho hb1 CB CD hpos hky
  go_upto_region 4 with fail
  generalize (w1.alloc (.cells #[.int .i64 m, .slice ao l.length ca] 26)) = w2 at F1 ⊢
  generalize w1.heap.size = A at F1 ⊢
  have K2 := hide1 F1.out.1
  have B2 := hide1 F1.out.2
  clear F1
  obtain ⟨hA2, v0, v1⟩ := K2.out.cells
  by_cases hin : ky ∈ l
  · have hh := (hasQ_iff l ky).2 hin
    have CT := hide1 (implPush_own ao l ca m ky w2 (by omega) K2.out.cap.1 K2.out.cap.2 K2.out.rd (pshR_no (fun h => h.2.2.1 hin)))
    go_wp2_with fail
    refine CT.out.mono ?_
    rintro e w3 ⟨pt, ct, rfl, ho3, hb3⟩
    have F4 : Hid (OneQ (w3.alloc (.cells #[.int .i64 0, .slice pt 0 ct] 26)) w3.heap.size pt [] ct 0 ∧ OneQ (w3.alloc (.cells #[.int .i64 0, .slice pt 0 ct] 26)) A ao l ca m ∧ Below w.heap.size w (w3.alloc (.cells #[.int .i64 0, .slice pt 0 ct] 26))) := ⟨OneQ.box (l := []) ho3, (K2.out.later hb3).later ((Below.refl _ _).alloc (Nat.le_refl _) _), (B2.out.trans (hb3.mono B2.out.size)).alloc (Nat.le_trans B2.out.size hb3.size) _⟩
    clear ho3 hb3 CT v0 v1 hA2 K2 B2
    rw [List.length_nil]
    go_upto_region 5 with fail
    generalize (w3.alloc (.cells #[.int .i64 0, .slice pt 0 ct] 26)) = w4 at F4 ⊢
    generalize w3.heap.size = T at F4 ⊢
    obtain ⟨mA, v0, v1⟩ := F4.out.2.1.cells
    obtain ⟨mT, t0, t1⟩ := F4.out.1.cells
    rw [List.length_nil] at t1
    have B4 := hide1 F4.out.2.2
    have C9 := lawHasQ_any ao l ca ky w4 (by omega) F4.out.2.1.rd
    rw [hh] at C9
    have C9 := hide1 C9
    go_wp2_with fail
    refine C9.out.mono ?_
    rintro e w9 ⟨rfl, hw⟩
    have hw2 := hw.symm
    clear hw
    subst hw2
    go_wp2
    go_ret
    exact ⟨rfl, B4.out⟩
  · have hh := hasQ_not hin
    have HP := hide1 (show PshQ l m ky from ⟨HOK.out, HKY.out, hin, by have := HPOS.out; omega⟩)
    have HPK := hide1 HP.out.ok
    obtain ⟨mn, hmn⟩ : ∃ mn : Nat, m = (mn : Int) := ⟨m.toNat, by have := HOK.out.1; omega⟩
    have hmb : mn ≤ 24 := by have := HOK.out.2.1; omega
    have hll : l.length ≤ mn := by have := HOK.out.2.2.1; omega
    have hmp : 1 ≤ mn := by have := HPOS.out; omega
    have RT := pshR_yes HP.out
    rw [show m.toNat = mn by omega] at RT HPK
    obtain ⟨TK, hTK⟩ : ∃ TK, (ky :: l).take mn = TK := ⟨_, rfl⟩
    obtain ⟨lf, hlf⟩ : ∃ lf, (ky :: l).getD mn ⟨#[]⟩ = lf := ⟨_, rfl⟩
    rw [hTK, hlf] at RT
    rw [hTK] at HPK
    have htl : TK.length ≤ 25 := by rw [← hTK, List.length_take]; omega
    have CT := hide1 (implPush_own ao l ca m ky w2 (by omega) K2.out.cap.1 K2.out.cap.2 K2.out.rd RT)
    have HTK := hide1 hTK
    have HLF := hide1 hlf
    clear RT hTK hlf hin
    subst hmn
    go_wp2_with fail
    refine CT.out.mono ?_
    rintro e w3 ⟨pt, ct, rfl, ho3, hb3⟩
    have F4 : Hid (OneQ (w3.alloc (.cells #[.int .i64 (mn : Int), .slice pt TK.length ct] 26)) w3.heap.size pt TK ct (mn : Int) ∧ OneQ (w3.alloc (.cells #[.int .i64 (mn : Int), .slice pt TK.length ct] 26)) A ao l ca (mn : Int) ∧ Below w.heap.size w (w3.alloc (.cells #[.int .i64 (mn : Int), .slice pt TK.length ct] 26))) := ⟨OneQ.box ho3, (K2.out.later hb3).later ((Below.refl _ _).alloc (Nat.le_refl _) _), (B2.out.trans (hb3.mono B2.out.size)).alloc (Nat.le_trans B2.out.size hb3.size) _⟩
    clear ho3 hb3 CT v0 v1 hA2 K2 B2
    go_upto_region 5 with fail
    generalize (w3.alloc (.cells #[.int .i64 (mn : Int), .slice pt TK.length ct] 26)) = w4 at F4 ⊢
    generalize w3.heap.size = T at F4 ⊢
    have KA := hide1 F4.out.2.1
    have KT := hide1 F4.out.1
    have B4 := hide1 F4.out.2.2
    clear F4
    obtain ⟨mA, a0, a1⟩ := KA.out.cells
    obtain ⟨mT, t0, t1⟩ := KT.out.cells
    have C9 := lawHasQ_any ao l ca ky w4 (by omega) KA.out.rd
    rw [hh] at C9
    have C9 := hide1 C9
    have ZX := hide1 (And.intro a0 (And.intro a1 (And.intro t0 t1)))
    by_cases cm : l.length < mn
    · have HTL := hide1 (show [ky] ++ l = TK by rw [← HTK.out, List.take_of_length_le (by rw [List.length_cons]; omega)]; rfl)
      have e2 : lf = ⟨#[]⟩ := by rw [← HLF.out, List.getD_eq_getElem?_getD, List.getElem?_eq_none (by rw [List.length_cons]; omega)]; rfl
      subst e2
      have k1 : (l.length : Int) < (mn : Int) := by omega
      have CAP := hide1 (fun (ops : Array Oper) (o : Oper) (a : Act) (w' : World) (K : Act → World → Prop) (Q : Exit → Act → World → Prop) (E : Prop) hgd s x ho v hs hown c hx hA hb h => step_appC (ops := ops) (o := o) (a := a) (w := w') (K := K) (Q := Q) (E := E) hgd s x 24 ho Try.underlying24 w4.heap.size v 1 [ky] hs hown ao l.length c l hx rfl hA (by omega) hb h)
      rw [HTL.out] at CAP
      go_wp2_with fail
      refine C9.out.mono ?_
      rintro e w9 ⟨rfl, hw⟩
      have hw2 := hw.symm
      clear hw
      subst hw2
      go_wp2_with fail
      go_region_held3 (fun w' => w'.cell? ⟨A, 0, none⟩ = some (.int .i64 (mn : Int)) ∧ w'.cell? ⟨A, 1, none⟩ = some (.slice ao l.length ca) ∧ w'.cell? ⟨T, 0, none⟩ = some (.int .i64 (mn : Int)) ∧ w'.cell? ⟨T, 1, none⟩ = some (.slice pt TK.length ct)) (first | go_keep | exact ⟨(D24.out.cell mA).trans ZX.out.1, (D24.out.cell mA).trans ZX.out.2.1, (D24.out.cell mT).trans ZX.out.2.2.1, (D24.out.cell mT).trans ZX.out.2.2.2⟩ | exact ⟨(D23.out.cell mA).trans ZX.out.1, (D23.out.cell mA).trans ZX.out.2.1, (D23.out.cell mT).trans ZX.out.2.2.1, (D23.out.cell mT).trans ZX.out.2.2.2⟩) ((first | (go_at_call 18; refine (CS1.out _ (by go_grown)).mono ?_; rintro e w24 ⟨rfl, hb24⟩; have D24 : Hid (Below w4.heap.size w4 w24) := (D23.out.trans (show Below w4.heap.size w23 _ by go_grown)).trans (hb24.mono (by have := D23.out.size; go_size)); clear hb24) | (refine CAP.out _ _ _ _ _ _ _ (by first | rfl | assumption | simp [Region.wanted, yielded]) (.tmp 51) (.tmp 53) rfl _ rfl (by first | exact litQ ky (Nat.le_refl _) | exact litQ_drew ky (Nat.le_refl _)) ca rfl (KA.out.rd.later (by go_grown)) (by go_size) ?_; intro b23 c23 w23 ho23 hb23; have D23 : Hid (Below w4.heap.size w4 w23) := (show Below w4.heap.size w4 _ by go_grown).trans hb23; have CS1 := hide1 (fun w' (hb : Below w23.heap.size w23 w') => sameYes pt b23 TK TK.length ct c23 w' rfl (by omega) (KT.out.rd.later (D23.out.trans (hb.mono D23.out.size))) (ho23.rd.later hb)); clear ho23 hb23)))
      all_goals
        have B26 := hide1 (B4.out.trans (D24.out.mono B4.out.size))
        go_wp2
        go_ret
        exact ⟨rfl, by first | exact B26.out | exact below_drewN B26.out _ | exact B26.out.drew⟩
    · obtain ⟨n1, hn1⟩ : ∃ n1, l.length = n1 + 1 := ⟨l.length - 1, by omega⟩
      have hmn1 : mn = n1 + 1 := by omega
      have hi : n1 < l.length := by omega
      have HTL := hide1 (show [ky] ++ l.take n1 = TK by rw [← HTK.out, hmn1]; rfl)
      have HL1 := hide1 (show l[n1] = lf by rw [← HLF.out, hmn1, List.getD_eq_getElem?_getD, List.getElem?_cons_succ, List.getElem?_eq_getElem hi]; rfl)
      obtain ⟨b, o, hao, hb, hc1⟩ := KA.out.rd n1 hi
      rw [HL1.out] at hc1
      have HTN := hide1 (show (l.take n1).length = n1 by rw [List.length_take]; omega)
      have hcap := KA.out.cap
      subst hao
      have ZC := hide1 hc1
      have k0 : ¬ (l.length : Int) < (mn : Int) := by omega
      have k0' : ¬ l.length < mn := cm
      have k1 : IntKind.i64.wrap ((l.length : Int) - 1) = (n1 : Int) := by rw [show ((l.length : Int) - 1) = (n1 : Int) by omega]; exact IntWalk.i64_in _ ⟨by omega, by omega⟩
      have k2 : (n1 : Int) < (l.length : Int) := by omega
      have k3 : (n1 : Int) ≤ (ca : Int) := by omega
      have k4 : (0 : Int) ≤ (n1 : Int) := by omega
      have k5 : (lf.toList == lf.toList) = true := by simp
      have CAP := hide1 (fun (ops : Array Oper) (o' : Oper) (a : Act) (w' : World) (K : Act → World → Prop) (Q : Exit → Act → World → Prop) (E : Prop) hgd s x ho v hs hown c hx hA hb h => step_appC (ops := ops) (o := o') (a := a) (w := w') (K := K) (Q := Q) (E := E) hgd s x 24 ho Try.underlying24 w4.heap.size v 1 [ky] hs hown (some ⟨b, o, none⟩) n1 c (l.take n1) hx HTN.out hA (by omega) hb h)
      rw [HTL.out] at CAP
      have CQP := hide1 (fun w' (hb : Below w4.heap.size w4 w') => KT.out.ok HPK.out hb)
      clear hn1 hmn1 hc1 cm HL1 hi
      go_wp2_with fail
      refine C9.out.mono ?_
      rintro e w9 ⟨rfl, hw⟩
      have hw2 := hw.symm
      clear hw
      subst hw2
      go_wp2_with fail
      have hc1 := ZC.out
      go_region_held3 (fun w' => w'.cell? ⟨A, 0, none⟩ = some (.int .i64 (mn : Int)) ∧ w'.cell? ⟨A, 1, none⟩ = some (.slice (some ⟨b, o, none⟩) l.length ca) ∧ w'.cell? ⟨T, 0, none⟩ = some (.int .i64 (mn : Int)) ∧ w'.cell? ⟨T, 1, none⟩ = some (.slice pt TK.length ct) ∧ w'.cell? ⟨b, o + n1, none⟩ = some (.string lf)) (first | go_keep | exact ⟨(D25.out.cell mA).trans ZX.out.1, (D25.out.cell mA).trans ZX.out.2.1, (D25.out.cell mT).trans ZX.out.2.2.1, (D25.out.cell mT).trans ZX.out.2.2.2, (D25.out.cell hb).trans ZC.out⟩ | exact ⟨(D24.out.cell mA).trans ZX.out.1, (D24.out.cell mA).trans ZX.out.2.1, (D24.out.cell mT).trans ZX.out.2.2.1, (D24.out.cell mT).trans ZX.out.2.2.2, (D24.out.cell hb).trans ZC.out⟩ | exact ⟨(D23.out.cell mA).trans ZX.out.1, (D23.out.cell mA).trans ZX.out.2.1, (D23.out.cell mT).trans ZX.out.2.2.1, (D23.out.cell mT).trans ZX.out.2.2.2, (D23.out.cell hb).trans ZC.out⟩) ((first | (go_at_call 15; refine (CQP.out _ (D24.out.trans (show Below w4.heap.size w24 _ by go_grown))).mono ?_; rintro e w25 ⟨rfl, hb25⟩; have D25 : Hid (Below w4.heap.size w4 w25) := (D24.out.trans (show Below w4.heap.size w24 _ by go_grown)).trans (hb25.mono (by have := D24.out.size; go_size)); clear hb25) | (go_at_call 18; refine (CS1.out _ (by go_grown)).mono ?_; rintro e w24 ⟨rfl, hb24⟩; have D24 : Hid (Below w4.heap.size w4 w24) := (D23.out.trans (show Below w4.heap.size w23 _ by go_grown)).trans (hb24.mono (by have := D23.out.size; go_size)); clear hb24) | (refine CAP.out _ _ _ _ _ _ _ (by first | rfl | assumption | simp [Region.wanted, yielded]) (.tmp 71) (.tmp 78) rfl _ rfl (by first | exact litQ ky (Nat.le_refl _) | exact litQ_drew ky (Nat.le_refl _)) _ rfl ((KA.out.rd.take n1).later (by go_grown)) (by go_size) ?_; intro b23 c23 w23 ho23 hb23; have D23 : Hid (Below w4.heap.size w4 w23) := (show Below w4.heap.size w4 _ by go_grown).trans hb23; have CS1 := hide1 (fun w' (hb : Below w23.heap.size w23 w') => sameYes pt b23 TK TK.length ct c23 w' rfl (by omega) (KT.out.rd.later (D23.out.trans (hb.mono D23.out.size))) (ho23.rd.later hb)); clear ho23 hb23)))
      all_goals
        have B26 := hide1 (B4.out.trans (D25.out.mono B4.out.size))
        go_wp2
        go_ret
        exact ⟨rfl, by first | exact B26.out | exact below_drewN B26.out _ | exact B26.out.drew⟩

set_option maxRecDepth 100000 in
theorem lifted_FnPushes (os : Os) (started : os.Started) (H : Type) (enc : TypeId × Value → H) :
    ReturnsInHanded {} Try.checked os 4 .any (Rows.fnPushesSpec.pre6 enc Try.prog Try.f4 Rows.fnPushesRow.domain false) (Rows.fnPushesSpec.post enc Try.prog Try.f4 false true false false) := by
  refine returnsInHanded_of_change (C := Try.checked) (show ownKnob Try.prog.godebug = none by kernel_rfl) started (by kernel_rfl) Try.func4
    (ChangeSpec.witness6 (enc := enc) (C := Try.checked) false ⟨#[], #[.slice none 0 0], []⟩ 8 (by kernel_rfl) (by kernel_rfl) (by kernel_rfl) (by kernel_rfl)) ?_
  intro W base args ds gs before hval0 hW hcnd _
  have hval : ∀ (j : Nat) t v, Try.f4.params[j]? = some t → args[j]? = some v → Value.okWide Try.prog W .any base t v := hval0
  have hW' := hW
  obtain ⟨p, q, hA0, hV, rfl, hfz, hnd⟩ := hW
  have hA : DataW.TrodAll enc Try.prog W 0 (fun _ => true) true Try.f4.params.toList args.toList ds p := hA0
  rw [Try.params4] at hA hval
  obtain ⟨v0, d0, rfl, rfl, h0⟩ := trodAll_one hA
  obtain ⟨rfl, rfl⟩ := trodVars_none hV
  obtain ⟨a0, len0, cap0, rfl⟩ := okWide_slice Try.underlying22 (hval 0 22 v0 rfl rfl)
  have k0 := h0
  have lt0 : ∀ x ∈ p, x.block < W.heap.size := by obtain ⟨m, hm⟩ := k0; exact DataW.trod_lt m _ _ _ hm
  have r0 : RowB W a0 len0 := by
    obtain ⟨fuel, hf⟩ := h0
    rcases open_ints Try.underlying22 Try.underlying5 (by kernel_rfl) hf with ⟨hcs, _⟩ | ⟨x, l, c, zs, hcs, _, hl, hm, hz, _, hcell, hwz⟩
    · simp [Value.cells] at hcs
      obtain ⟨rfl, rfl, rfl⟩ := hcs
      exact fun j hj => absurd hj (Nat.not_lt_zero _)
    · simp [Value.cells] at hcs
      obtain ⟨rfl, rfl, rfl⟩ := hcs
      exact rowB_of hl (by simpa using hz) hcell (fun n hn => bounds_u8 (hwz n hn))
  clear hA0 hval0
  refine (walk_FnPushes a0 len0 cap0 W r0).mono fun e W' ⟨he, bel⟩ => ?_
  subst he
  exact ⟨_, rfl, _, _, _, [], _, [], hW', trodAll_mk1 (shut_bool Try.underlying4 _), trodAll_mk1 (Below.trod (show laidOutB Try.prog = true by kernel_rfl) (by kernel_rfl) (of_decide_eq_true (by kernel_rfl)) k0 bel lt0), rfl, bel.frame _, fun h => by cases h⟩

theorem proved_FnPushes : Rows.FnPushesSaid :=
  OpenClaim.holds_of_wide 4 Try.f4 rfl rfl rfl rfl rfl rfl rfl ⟨rfl, rfl, rfl, rfl, rfl⟩ rfl rfl rfl rfl rfl (by kernel_rfl) Try.func4 (by kernel_rfl)
    (of_decide_eq_true (by kernel_rfl)) (by unfold Func.isWrapper; first | (rw [if_pos (by decide +kernel)]; kernel_rfl) | (rw [if_neg (by decide +kernel)]; exact ⟨rfl, rfl⟩))
    (fun os started H enc _ => lifted_FnPushes os started H enc)
#print axioms proved_FnPushes
end Go.Proofs.Ytaafofgfeaodhaa
