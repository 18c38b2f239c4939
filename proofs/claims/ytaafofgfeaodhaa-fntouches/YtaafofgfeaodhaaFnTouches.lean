/- A key that is touched in a drawn queue is the first one, the others stay in order; one that is dropped is gone: whatever is drawn. -/
import Derived.Test.YtaafofgfeaodhaaRows
import Derived.ProofKit
import Derived.OpenShut
import Derived.ShutString
import Derived.ChangeOld
import Derived.Test.YtaafofgfeaodhaaLawQu
namespace Go.Proofs.Ytaafofgfeaodhaa
open Go.ChangeShapes Go.WideShapes Go.ChangeAt Go.RowKit
open Go.ChangeMaps (open_string shut_string)
set_option linter.unusedVariables false

set_option maxRecDepth 100000 in
set_option maxHeartbeats 8000000 in
theorem walk_FnTouches (a : Option Addr) (len cap : Nat) (w : World) (hr : RowB w a len) :
    Calls Try.prog 3 #[.slice a len cap] w fun e w' => e = .returned (.bool true) ∧ Below w.heap.size w w' := by
  by_cases hbig : len ≤ 1048576
  rotate_left
  · have CB := hide1 (big7_yes a len cap w hbig)
    clear hr
    go_enter Try.func3, Try.ntmps3
    go_wp2_with fail
    refine CB.out.mono ?_
    rintro e w1 ⟨rfl, rfl⟩
    go_wp2
    go_ret
    exact ⟨rfl, Below.refl _ _⟩
  have CB := hide1 (big7_no a len cap w hbig)
  have CD := hide1 (drawRQ_any w a len cap (hr.code hbig))
  clear hr
  go_enter Try.func3, Try.ntmps3
  go_wp2_with fail
  refine CB.out.mono ?_
  rintro e w1 ⟨rfl, rfl⟩
  go_wp2_with fail
  refine CD.out.mono ?_
  rintro e w1 ⟨l, m, ao, ca, ky, rfl, hok, hpos, hky, ho, hb1⟩
  have F1 : Hid (OneQ (w1.alloc (.cells #[.int .i64 m, .slice ao l.length ca] 26)) w1.heap.size ao l ca m ∧ Below w.heap.size w (w1.alloc (.cells #[.int .i64 m, .slice ao l.length ca] 26))) := ⟨OneQ.box ho, hb1.alloc hb1.size _⟩
  have HOK := hide1 hok
  have HPOS := hide1 hpos
  have HKY := hide1 hky
  have hsm := hok.small
  clear hok ho hb1 CB CD hpos hky
  go_upto_region 4 with fail
  generalize (w1.alloc (.cells #[.int .i64 m, .slice ao l.length ca] 26)) = w2 at F1 ⊢
  generalize w1.heap.size = A at F1 ⊢
  have K2 := hide1 F1.out.1
  have B2 := hide1 F1.out.2
  clear F1
  obtain ⟨hA2, v0, v1⟩ := K2.out.cells
  by_cases hin : ky ∈ l
  · have hh := (hasQ_iff l ky).2 hin
    have HT := hide1 (HOK.out.touch hin)
    have HD := hide1 (HOK.out.drop (k := ky))
    have HNI := hide1 (hasQ_not (l := wthQ l ky) (k := ky) (fun h => ((wthQ_mem l ky ky).1 h).2 rfl))
    have hwl := wthQ_length l ky
    obtain ⟨WT, hWT⟩ : ∃ WT, wthQ l ky = WT := ⟨_, rfl⟩
    have RT := touR_yes HOK.out hin
    have RD := drpR_yes HOK.out hin
    rw [hWT] at HT HD HNI hwl RT RD
    obtain ⟨KW, hKW⟩ : ∃ KW, ky :: WT = KW := ⟨_, rfl⟩
    have hkl : KW.length ≤ 25 := by rw [← hKW, List.length_cons]; omega
    have HKW := hide1 (show [ky] ++ WT = KW from hKW)
    rw [hKW] at HT RT
    have HWT := hide1 hWT
    clear hKW hWT hin
    have CT := hide1 (implTouch_own ao l ca m ky w2 (by omega) K2.out.cap.1 K2.out.cap.2 K2.out.rd RT)
    clear RT
    go_wp2_with fail
    refine CT.out.mono ?_
    rintro e w3 ⟨pt, ct, rfl, ho3, hb3⟩
    have F4 : Hid (OneQ (w3.alloc (.cells #[.int .i64 m, .slice pt KW.length ct] 26)) w3.heap.size pt KW ct m ∧ OneQ (w3.alloc (.cells #[.int .i64 m, .slice pt KW.length ct] 26)) A ao l ca m ∧ Below w.heap.size w (w3.alloc (.cells #[.int .i64 m, .slice pt KW.length ct] 26))) := ⟨OneQ.box ho3, (K2.out.later hb3).later ((Below.refl _ _).alloc (Nat.le_refl _) _), (B2.out.trans (hb3.mono B2.out.size)).alloc (Nat.le_trans B2.out.size hb3.size) _⟩
    clear ho3 hb3 CT v0 v1 hA2 K2 B2
    go_upto_region 5 with fail
    generalize (w3.alloc (.cells #[.int .i64 m, .slice pt KW.length ct] 26)) = w4 at F4 ⊢
    generalize w3.heap.size = T at F4 ⊢
    obtain ⟨mA, v0, v1⟩ := F4.out.2.1.cells
    have CD := hide1 (implDrop_own ao l ca m ky w4 (by omega) F4.out.2.1.cap.1 F4.out.2.1.cap.2 F4.out.2.1.rd RD)
    clear RD
    go_wp2_with fail
    refine CD.out.mono ?_
    rintro e w5 ⟨pd, cd, rfl, ho5, hb5⟩
    have F6 : Hid (OneQ (w5.alloc (.cells #[.int .i64 m, .slice pd WT.length cd] 26)) w5.heap.size pd WT cd m ∧ OneQ (w5.alloc (.cells #[.int .i64 m, .slice pd WT.length cd] 26)) T pt KW ct m ∧ OneQ (w5.alloc (.cells #[.int .i64 m, .slice pd WT.length cd] 26)) A ao l ca m ∧ Below w.heap.size w (w5.alloc (.cells #[.int .i64 m, .slice pd WT.length cd] 26))) := ⟨OneQ.box ho5, (F4.out.1.later hb5).later ((Below.refl _ _).alloc (Nat.le_refl _) _), (F4.out.2.1.later hb5).later ((Below.refl _ _).alloc (Nat.le_refl _) _), (F4.out.2.2.trans (hb5.mono F4.out.2.2.size)).alloc (Nat.le_trans F4.out.2.2.size hb5.size) _⟩
    clear ho5 hb5 CD v0 v1 mA F4
    go_upto_region 6 with fail
    generalize (w5.alloc (.cells #[.int .i64 m, .slice pd WT.length cd] 26)) = w6 at F6 ⊢
    generalize w5.heap.size = D at F6 ⊢
    obtain ⟨KD, KT, KA, B6⟩ := F6.out
    have KD := hide1 KD
    have KT := hide1 KT
    have KA := hide1 KA
    have B6 := hide1 B6
    clear F6
    obtain ⟨mA, v0, v1⟩ := KA.out.cells
    have C7 := hide1 (KA.out.hasI ky (by omega) (Below.refl _ _))
    rw [hh] at C7
    go_wp2_with fail
    refine C7.out.mono ?_
    rintro e w7 ⟨rfl, hb7⟩
    have KD7 := hide1 (KD.out.later hb7)
    have KT7 := hide1 (KT.out.later hb7)
    have KA7 := hide1 (KA.out.later hb7)
    have B7 := hide1 (B6.out.trans (hb7.mono B6.out.size))
    clear hb7 KD KT KA B6 C7 v0 v1 mA hh
    obtain ⟨mA, v0, v1⟩ := KA7.out.cells
    have C8 := hide1 (KA7.out.ok HOK.out (Below.refl _ _))
    go_wp2_with fail
    refine C8.out.mono ?_
    rintro e w8 ⟨rfl, hb8⟩
    have KD8 := hide1 (KD7.out.later hb8)
    have KT8 := hide1 (KT7.out.later hb8)
    have KA8 := hide1 (KA7.out.later hb8)
    have B8 := hide1 (B7.out.trans (hb8.mono B7.out.size))
    clear hb8 KD7 KT7 KA7 B7 C8 v0 v1 mA
    obtain ⟨mA, v0, v1⟩ := KA8.out.cells
    have C9 := lawWthQ_any ao l ca ky w8 (by omega) KA8.out.rd
    rw [HWT.out] at C9
    have C9 := hide1 C9
    go_wp2_with fail
    refine C9.out.mono ?_
    rintro e w9 ⟨pr, cr, rfl, ho9, hb9⟩
    have KD9 := hide1 (KD8.out.later hb9)
    have KT9 := hide1 (KT8.out.later hb9)
    have KA9 := hide1 (KA8.out.later hb9)
    have B9 := hide1 (B8.out.trans (hb9.mono B8.out.size))
    have RR := hide1 ho9.rd
    clear ho9 hb9 KD8 KT8 KA8 B8 C9 v0 v1 mA
    obtain ⟨mA, a0, a1⟩ := KA9.out.cells
    obtain ⟨mT, t0, t1⟩ := KT9.out.cells
    obtain ⟨mD, d0, d1⟩ := KD9.out.cells
    have ZX := hide1 (And.intro a0 (And.intro a1 (And.intro t0 (And.intro t1 (And.intro d0 d1)))))
    have CQT := hide1 (fun w' (hb : Below w9.heap.size w9 w') => KT9.out.ok HT.out hb)
    have CQD := hide1 (fun w' (hb : Below w9.heap.size w9 w') => KD9.out.ok HD.out hb)
    have CHD := hide1 (fun w' (hb : Below w9.heap.size w9 w') => KD9.out.hasI ky (by omega) hb)
    rw [HNI.out] at CHD
    have CS2 := hide1 (fun w' (hb : Below w9.heap.size w9 w') => sameYes pd pr WT WT.length cd cr w' rfl (by omega) (KD9.out.rd.later hb) (RR.out.later hb))
    have CAP := hide1 (fun (ops : Array Oper) (o : Oper) (a : Act) (w' : World) (K : Act → World → Prop) (Q : Exit → Act → World → Prop) (E : Prop) hgd s x ho v hs hown bo c hx hA hb h => step_appC (ops := ops) (o := o) (a := a) (w := w') (K := K) (Q := Q) (E := E) hgd s x 24 ho Try.underlying24 w9.heap.size v 1 [ky] hs hown bo WT.length c WT hx rfl hA (by omega) hb h)
    rw [HKW.out] at CAP
    have qm : (m == m) = true := by simp
    go_wp2_with fail
    go_region_held3 (fun w' => w'.cell? ⟨A, 0, none⟩ = some (.int .i64 m) ∧ w'.cell? ⟨A, 1, none⟩ = some (.slice ao l.length ca) ∧ w'.cell? ⟨T, 0, none⟩ = some (.int .i64 m) ∧ w'.cell? ⟨T, 1, none⟩ = some (.slice pt KW.length ct) ∧ w'.cell? ⟨D, 0, none⟩ = some (.int .i64 m) ∧ w'.cell? ⟨D, 1, none⟩ = some (.slice pd WT.length cd)) (first | go_keep | exact ⟨(D26.out.cell mA).trans ZX.out.1, (D26.out.cell mA).trans ZX.out.2.1, (D26.out.cell mT).trans ZX.out.2.2.1, (D26.out.cell mT).trans ZX.out.2.2.2.1, (D26.out.cell mD).trans ZX.out.2.2.2.2.1, (D26.out.cell mD).trans ZX.out.2.2.2.2.2⟩ | exact ⟨(D25.out.cell mA).trans ZX.out.1, (D25.out.cell mA).trans ZX.out.2.1, (D25.out.cell mT).trans ZX.out.2.2.1, (D25.out.cell mT).trans ZX.out.2.2.2.1, (D25.out.cell mD).trans ZX.out.2.2.2.2.1, (D25.out.cell mD).trans ZX.out.2.2.2.2.2⟩ | exact ⟨(D24.out.cell mA).trans ZX.out.1, (D24.out.cell mA).trans ZX.out.2.1, (D24.out.cell mT).trans ZX.out.2.2.1, (D24.out.cell mT).trans ZX.out.2.2.2.1, (D24.out.cell mD).trans ZX.out.2.2.2.2.1, (D24.out.cell mD).trans ZX.out.2.2.2.2.2⟩ | exact ⟨(D23.out.cell mA).trans ZX.out.1, (D23.out.cell mA).trans ZX.out.2.1, (D23.out.cell mT).trans ZX.out.2.2.1, (D23.out.cell mT).trans ZX.out.2.2.2.1, (D23.out.cell mD).trans ZX.out.2.2.2.2.1, (D23.out.cell mD).trans ZX.out.2.2.2.2.2⟩ | exact ⟨(D22.out.cell mA).trans ZX.out.1, (D22.out.cell mA).trans ZX.out.2.1, (D22.out.cell mT).trans ZX.out.2.2.1, (D22.out.cell mT).trans ZX.out.2.2.2.1, (D22.out.cell mD).trans ZX.out.2.2.2.2.1, (D22.out.cell mD).trans ZX.out.2.2.2.2.2⟩ | exact ⟨(D21.out.cell mA).trans ZX.out.1, (D21.out.cell mA).trans ZX.out.2.1, (D21.out.cell mT).trans ZX.out.2.2.1, (D21.out.cell mT).trans ZX.out.2.2.2.1, (D21.out.cell mD).trans ZX.out.2.2.2.2.1, (D21.out.cell mD).trans ZX.out.2.2.2.2.2⟩) ((first | (go_at_call 14; refine (CHD.out _ (D25.out.trans (show Below w9.heap.size w25 _ by go_grown))).mono ?_; rintro e w26 ⟨rfl, hb26⟩; have D26 : Hid (Below w9.heap.size w9 w26) := (D25.out.trans (show Below w9.heap.size w25 _ by go_grown)).trans (hb26.mono (by have := D25.out.size; go_size)); clear hb26) | (go_at_call 18; refine (CS2.out _ (D24.out.trans (show Below w9.heap.size w24 _ by go_grown))).mono ?_; rintro e w25 ⟨rfl, hb25⟩; have D25 : Hid (Below w9.heap.size w9 w25) := (D24.out.trans (show Below w9.heap.size w24 _ by go_grown)).trans (hb25.mono (by have := D24.out.size; go_size)); clear hb25) | (go_at_call 18; refine (CS1.out _ (by go_grown)).mono ?_; rintro e w24 ⟨rfl, hb24⟩; have D24 : Hid (Below w9.heap.size w9 w24) := (D23.out.trans (show Below w9.heap.size w23 _ by go_grown)).trans (hb24.mono (by have := D23.out.size; go_size)); clear hb24) | (refine CAP.out _ _ _ _ _ _ _ (by first | rfl | assumption | simp [Region.wanted, yielded]) (.tmp 71) (.tmp 72) rfl _ rfl (by first | exact litQ ky D22.out.size | exact litQ_drew ky D22.out.size) pr cr rfl (RR.out.later (D22.out.trans (show Below w9.heap.size w22 _ by have := D22.out.size; first | exact (Below.refl _ _).alloc this _ | exact (Below.refl _ _).drew.alloc this _))) (by have := D22.out.size; go_size) ?_; intro b23 c23 w23 ho23 hb23; have D23 : Hid (Below w9.heap.size w9 w23) := (D22.out.trans (show Below w9.heap.size w22 _ by have := D22.out.size; first | exact (Below.refl _ _).alloc this _ | exact (Below.refl _ _).drew.alloc this _)).trans hb23; have CS1 := hide1 (fun w' (hb : Below w23.heap.size w23 w') => sameYes pt b23 KW KW.length ct c23 w' rfl (by omega) (KT9.out.rd.later (D23.out.trans (hb.mono D23.out.size))) (ho23.rd.later hb)); clear ho23 hb23) | (go_at_call 15; refine (CQD.out _ (D21.out.trans (show Below w9.heap.size w21 _ by go_grown))).mono ?_; rintro e w22 ⟨rfl, hb22⟩; have D22 : Hid (Below w9.heap.size w9 w22) := (D21.out.trans (show Below w9.heap.size w21 _ by go_grown)).trans (hb22.mono (by have := D21.out.size; go_size)); clear hb22) | (go_at_call 15; refine (CQT.out _ (by go_grown)).mono ?_; rintro e w21 ⟨rfl, hb21⟩; have D21 : Hid (Below w9.heap.size w9 w21) := (show Below w9.heap.size w9 _ by go_grown).trans (hb21.mono (by go_size)); clear hb21)))
    all_goals
      have B26 := hide1 (B9.out.trans (D26.out.mono B9.out.size))
      go_wp2
      go_ret
      exact ⟨rfl, by first | exact B26.out | exact below_drewN B26.out _ | exact B26.out.drew⟩
  · have hh := hasQ_not hin
    have CT := hide1 (implTouch_own ao l ca m ky w2 (by omega) K2.out.cap.1 K2.out.cap.2 K2.out.rd (touR_no (fun h => hin h.2)))
    go_wp2_with fail
    refine CT.out.mono ?_
    rintro e w3 ⟨pt, ct, rfl, ho3, hb3⟩
    have F4 : Hid (OneQ (w3.alloc (.cells #[.int .i64 0, .slice pt 0 ct] 26)) w3.heap.size pt [] ct 0 ∧ OneQ (w3.alloc (.cells #[.int .i64 0, .slice pt 0 ct] 26)) A ao l ca m ∧ Below w.heap.size w (w3.alloc (.cells #[.int .i64 0, .slice pt 0 ct] 26))) := ⟨OneQ.box (l := []) ho3, (K2.out.later hb3).later ((Below.refl _ _).alloc (Nat.le_refl _) _), (B2.out.trans (hb3.mono B2.out.size)).alloc (Nat.le_trans B2.out.size hb3.size) _⟩
    clear ho3 hb3 CT v0 v1 hA2 K2 B2
    rw [List.length_nil]
    go_upto_region 5 with fail
    generalize (w3.alloc (.cells #[.int .i64 0, .slice pt 0 ct] 26)) = w4 at F4 ⊢
    generalize w3.heap.size = T at F4 ⊢
    obtain ⟨mA, v0, v1⟩ := F4.out.2.1.cells
    have CD := hide1 (implDrop_own ao l ca m ky w4 (by omega) F4.out.2.1.cap.1 F4.out.2.1.cap.2 F4.out.2.1.rd (drpR_no (fun h => hin h.2)))
    go_wp2_with fail
    refine CD.out.mono ?_
    rintro e w5 ⟨pd, cd, rfl, ho5, hb5⟩
    have F6 : Hid (OneQ (w5.alloc (.cells #[.int .i64 0, .slice pd 0 cd] 26)) T pt [] ct 0 ∧ OneQ (w5.alloc (.cells #[.int .i64 0, .slice pd 0 cd] 26)) A ao l ca m ∧ Below w.heap.size w (w5.alloc (.cells #[.int .i64 0, .slice pd 0 cd] 26))) := ⟨(F4.out.1.later hb5).later ((Below.refl _ _).alloc (Nat.le_refl _) _), (F4.out.2.1.later hb5).later ((Below.refl _ _).alloc (Nat.le_refl _) _), (F4.out.2.2.trans (hb5.mono F4.out.2.2.size)).alloc (Nat.le_trans F4.out.2.2.size hb5.size) _⟩
    clear ho5 hb5 CD v0 v1 mA F4
    rw [List.length_nil]
    go_upto_region 6 with fail
    generalize (w5.alloc (.cells #[.int .i64 0, .slice pd 0 cd] 26)) = w6 at F6 ⊢
    obtain ⟨KT, KA, B6⟩ := F6.out
    have KT := hide1 KT
    have KA := hide1 KA
    have B6 := hide1 B6
    clear F6
    obtain ⟨mA, v0, v1⟩ := KA.out.cells
    have C7 := hide1 (KA.out.hasI ky (by omega) (Below.refl _ _))
    rw [hh] at C7
    go_wp2_with fail
    refine C7.out.mono ?_
    rintro e w7 ⟨rfl, hb7⟩
    have KT7 := hide1 (KT.out.later hb7)
    have KA7 := hide1 (KA.out.later hb7)
    have B7 := hide1 (B6.out.trans (hb7.mono B6.out.size))
    clear hb7 KT KA B6 C7 v0 v1 mA
    obtain ⟨mA, v0, v1⟩ := KA7.out.cells
    have C8 := hide1 (KA7.out.ok HOK.out (Below.refl _ _))
    go_wp2_with fail
    refine C8.out.mono ?_
    rintro e w8 ⟨rfl, hb8⟩
    have KT8 := hide1 (KT7.out.later hb8)
    have KA8 := hide1 (KA7.out.later hb8)
    have B8 := hide1 (B7.out.trans (hb8.mono B7.out.size))
    clear hb8 KT7 KA7 B7 C8 v0 v1 mA
    obtain ⟨mA, v0, v1⟩ := KA8.out.cells
    obtain ⟨mT, t0, t1⟩ := KT8.out.cells
    have C9 := lawHasQ_any ao l ca ky w8 (by omega) KA8.out.rd
    rw [hh] at C9
    have C9 := hide1 C9
    go_wp2_with fail
    refine C9.out.mono ?_
    rintro e w9 ⟨rfl, hw⟩
    have hw2 := hw.symm
    clear hw
    subst hw2
    rw [List.length_nil] at t1
    go_wp2
    go_ret
    exact ⟨rfl, B8.out⟩

set_option maxRecDepth 100000 in
theorem lifted_FnTouches (os : Os) (started : os.Started) (H : Type) (enc : TypeId × Value → H) :
    ReturnsInHanded {} Try.checked os 3 .any (Rows.fnTouchesSpec.pre6 enc Try.prog Try.f3 Rows.fnTouchesRow.domain false) (Rows.fnTouchesSpec.post enc Try.prog Try.f3 false true false false) := by
  refine returnsInHanded_of_change (C := Try.checked) (show ownKnob Try.prog.godebug = none by kernel_rfl) started (by kernel_rfl) Try.func3
    (ChangeSpec.witness6 (enc := enc) (C := Try.checked) false ⟨#[], #[.slice none 0 0], []⟩ 8 (by kernel_rfl) (by kernel_rfl) (by kernel_rfl) (by kernel_rfl)) ?_
  intro W base args ds gs before hval0 hW hcnd _
  have hval : ∀ (j : Nat) t v, Try.f3.params[j]? = some t → args[j]? = some v → Value.okWide Try.prog W .any base t v := hval0
  have hW' := hW
  obtain ⟨p, q, hA0, hV, rfl, hfz, hnd⟩ := hW
  have hA : DataW.TrodAll enc Try.prog W 0 (fun _ => true) true Try.f3.params.toList args.toList ds p := hA0
  rw [Try.params3] at hA hval
  obtain ⟨v0, d0, rfl, rfl, h0⟩ := trodAll_one hA
  obtain ⟨rfl, rfl⟩ := trodVars_none hV
  obtain ⟨a0, len0, cap0, rfl⟩ := okWide_slice Try.underlying22 (hval 0 22 v0 rfl rfl)
  have k0 := h0
  have lt0 : ∀ x ∈ p, x.block < W.heap.size := by obtain ⟨m, hm⟩ := k0; exact DataW.trod_lt m _ _ _ hm
  have r0 : RowB W a0 len0 := by
    obtain ⟨fuel, hf⟩ := h0
    rcases open_ints Try.underlying22 Try.underlying5 (by kernel_rfl) hf with ⟨hcs, _⟩ | ⟨x, l, c, zs, hcs, _, hl, hm, hz, _, hcell, hwz⟩
    · simp [Value.cells] at hcs
      obtain ⟨rfl, rfl, rfl⟩ := hcs
      exact fun j hj => absurd hj (Nat.not_lt_zero _)
    · simp [Value.cells] at hcs
      obtain ⟨rfl, rfl, rfl⟩ := hcs
      exact rowB_of hl (by simpa using hz) hcell (fun n hn => bounds_u8 (hwz n hn))
  clear hA0 hval0
  refine (walk_FnTouches a0 len0 cap0 W r0).mono fun e W' ⟨he, bel⟩ => ?_
  subst he
  exact ⟨_, rfl, _, _, _, [], _, [], hW', trodAll_mk1 (shut_bool Try.underlying4 _), trodAll_mk1 (Below.trod (show laidOutB Try.prog = true by kernel_rfl) (by kernel_rfl) (of_decide_eq_true (by kernel_rfl)) k0 bel lt0), rfl, bel.frame _, fun h => by cases h⟩

theorem proved_FnTouches : Rows.FnTouchesSaid :=
  OpenClaim.holds_of_wide 3 Try.f3 rfl rfl rfl rfl rfl rfl rfl ⟨rfl, rfl, rfl, rfl, rfl⟩ rfl rfl rfl rfl rfl (by kernel_rfl) Try.func3 (by kernel_rfl)
    (of_decide_eq_true (by kernel_rfl)) (by unfold Func.isWrapper; first | (rw [if_pos (by decide +kernel)]; kernel_rfl) | (rw [if_neg (by decide +kernel)]; exact ⟨rfl, rfl⟩))
    (fun os started H enc _ => lifted_FnTouches os started H enc)
#print axioms proved_FnTouches
end Go.Proofs.Ytaafofgfeaodhaa
