/- New near entries are right, and take as many as they have slots: whatever number is drawn. -/
import Derived.Test.YtenmpciimocggaaGreatRows
import Derived.ProofKit
import Derived.OpenShut
import Derived.ShutString
import Derived.ChangeOld
import Derived.Test.YtenmpciimocggaaGreatDrawNw
import Derived.Test.YtenmpciimocggaaGreatNeNW
import Derived.Test.YtenmpciimocggaaGreatNeI4
namespace Go.Proofs.YtenmpciimocggaaGreat
open Go.ChangeShapes Go.WideShapes Go.ChangeAt Go.RowKit
open Go.ChangeMaps (open_string shut_string)
set_option linter.unusedVariables false

set_option maxRecDepth 100000 in
set_option maxHeartbeats 4000000 in
theorem walk_FnNearNew (a : Option Addr) (len cap : Nat) (w : World) (hr : RowB w a len) :
    Calls Tryz.prog 3 #[.slice a len cap] w fun e w' => e = .returned (.bool true) ∧ Below w.heap.size w w' := by
  have B0 := fun (w : World) o => (Below.refl w.heap.size w).alloc (Nat.le_refl _) o
  by_cases hbig : len ≤ 1048576
  · have CB := hide1 (big4_no a len cap w hbig)
    have CD := hide1 (drawNW_any w a len cap (hr.code hbig))
    clear hr
    go_enter Tryz.func3, Tryz.ntmps3
    go_wp2_with fail
    refine CB.out.mono ?_
    rintro e w1 ⟨rfl, rfl⟩
    go_wp2_with fail
    refine CD.out.mono ?_
    rintro e w1 ⟨n, rfl, hn, hb1⟩
    have B1 := hide1 hb1
    clear hb1 CB CD
    have C2 := hide1 (implNewN_any n w1)
    have C3 := hide1 (fun w' => specNewN_any n w')
    unfold neV at C2 C3
    go_wp2_with fail
    refine C2.out.mono ?_
    rintro e w2 ⟨A, rfl, ho2, hb2⟩
    have B2 := hide1 (B1.out.trans (hb2.mono B1.out.size))
    have O2 := hide1 ho2
    clear hb2 ho2 C2 B1
    by_cases h2 : 2 ≤ n ∧ n ≤ 24
    · obtain ⟨m, rfl⟩ : ∃ m : Nat, n = (m : Int) := ⟨n.toNat, by omega⟩
      have m2 : 2 ≤ m := by omega
      have m24 : m ≤ 24 := by omega
      have HI := hide1 (InN.new m2 m24)
      have HS := hide1 (most_sum m2)
      rw [newQ, okNew, if_pos h2, decide_eq_true h2, Int.toNat_natCast] at *
      have L0 := hide1 (show (newN m).sl.length = m ∧ (newN m).wm = (mostW m : Int) ∧ (newN m).tm = (mostT m : Int) ∧ (newN m).sm = (mostS m : Int) ∧ keysN (newN m) = [] from ⟨newL_length m m, rfl, rfl, rfl, rfl⟩)
      generalize newN m = N at *
      go_wp2_with fail
      refine (C3.out _).mono ?_
      rintro e w3 ⟨P, rfl, ho3, hb3⟩
      obtain ⟨v3, b23, _⟩ := nbox_new hb3
      have V3 := hide1 v3
      have O3 := hide1 (O2.out.later b23)
      have B3 := hide1 (B2.out.trans (b23.mono B2.out.size))
      clear v3 b23 hb3 ho3 C3 O2 B2
      obtain ⟨_, v0, v1, v2, v3, v4, v5, v6, v7, v8, v9, v10, v11, v12, v13⟩ := nbox V3.out
      have E4 := hide1 (fun o1 => nearOkI HI.out (O3.out.rd.later (B0 w3 o1)) O3.out.caps)
      unfold neV at E4
      go_wp2_with fail
      refine (E4.out _).mono ?_
      rintro e w4 ⟨rfl, hb4⟩
      obtain ⟨_, b34, _⟩ := nbox_new hb4
      have V4 := hide1 (V3.out.below b34 V3.out.lt)
      have O4 := hide1 (O3.out.later b34)
      have B4 := hide1 (B3.out.trans (b34.mono B3.out.size))
      clear b34 hb4 E4 O3 B3 V3 v0 v1 v2 v3 v4 v5 v6 v7 v8 v9 v10 v11 v12 v13
      obtain ⟨_, v0, v1, v2, v3, v4, v5, v6, v7, v8, v9, v10, v11, v12, v13⟩ := nbox V4.out
      have C5 := hide1 (sizeI HI.out O4.out.rd O4.out.caps)
      rw [L0.out.2.2.2.2] at C5
      unfold neV at C5
      go_wp2_with fail
      refine C5.out.mono ?_
      rintro e w5 ⟨rfl, hb5⟩
      have V5 := hide1 (V4.out.below hb5 V4.out.lt)
      have B5 := hide1 (B4.out.trans (hb5.mono B4.out.size))
      clear hb5 C5 O4 B4 V4 v0 v1 v2 v3 v4 v5 v6 v7 v8 v9 v10 v11 v12 v13
      have x0 : w5.cell? ⟨w2.heap.size, 0, none⟩ = some (.slice A.a N.sl.length A.ac) := V5.out.cell 0
      have x5 : w5.cell? ⟨w2.heap.size, 5, none⟩ = some (.int .i64 N.wm) := V5.out.cell 5
      have x7 : w5.cell? ⟨w2.heap.size, 7, none⟩ = some (.int .i64 N.tm) := V5.out.cell 7
      have x9 : w5.cell? ⟨w2.heap.size, 9, none⟩ = some (.int .i64 N.sm) := V5.out.cell 9
      obtain ⟨e0, e1, e2, e3, _⟩ := L0.out
      rw [e0] at x0
      rw [e1] at x5
      rw [e2] at x7
      rw [e3] at x9
      have HT := HS.out
      generalize mostW m = mw at *
      generalize mostT m = mt at *
      generalize mostS m = ms at *
      have q1 : ((m : Int) == (m : Int)) = true := by simp
      have a1 : (mw : Int) ≤ 24 := by omega
      have a2 : (mt : Int) ≤ 24 := by omega
      have a3 : (ms : Int) ≤ 24 := by omega
      have q2 : ((mw : Int) + (mt : Int) + (ms : Int) == (m : Int)) = true := beq_iff_eq.2 (by omega)
      clear e0 e1 e2 e3 L0 HI HS HT
      go_wp2
      go_ret
      exact ⟨rfl, B5.out⟩
    · rw [newQ, okNew, if_neg h2, decide_eq_false h2] at *
      go_wp2_with fail
      refine (C3.out _).mono ?_
      rintro e w3 ⟨P, rfl, ho3, hb3⟩
      obtain ⟨v3, b23, _⟩ := nbox_new hb3
      have V3 := hide1 v3
      have B3 := hide1 (B2.out.trans (b23.mono B2.out.size))
      clear v3 b23 hb3 ho3 C3 O2 B2
      have x0 : w3.cell? ⟨w2.heap.size, 0, none⟩ = some (.slice A.a 0 A.ac) := V3.out.cell 0
      have hlt : w2.heap.size < w3.heap.size := V3.out.lt
      clear V3 h2 hn
      go_wp2
      go_ret
      exact ⟨rfl, B3.out.trans ((Below.refl _ _).alloc (Nat.le_refl _) _ |>.mono B3.out.size)⟩
  · have CB := hide1 (big4_yes a len cap w hbig)
    clear hr
    go_enter Tryz.func3, Tryz.ntmps3
    go_wp2_with fail
    refine CB.out.mono ?_
    rintro e w1 ⟨rfl, rfl⟩
    go_wp2
    go_ret
    exact ⟨rfl, Below.refl _ _⟩

set_option maxRecDepth 100000 in
theorem lifted_FnNearNew (os : Os) (started : os.Started) (H : Type) (enc : TypeId × Value → H) :
    ReturnsInHanded {} Tryz.checked os 3 .any (Rows.fnNearNewSpec.pre6 enc Tryz.prog Tryz.f3 Rows.fnNearNewRow.domain false) (Rows.fnNearNewSpec.post enc Tryz.prog Tryz.f3 false true false false) := by
  refine returnsInHanded_of_change (C := Tryz.checked) (show ownKnob Tryz.prog.godebug = none by kernel_rfl) started (by kernel_rfl) Tryz.func3
    (ChangeSpec.witness6 (enc := enc) (C := Tryz.checked) false ⟨#[], #[.slice none 0 0], []⟩ 8 (by kernel_rfl) (by kernel_rfl) (by kernel_rfl) (by kernel_rfl)) ?_
  intro W base args ds gs before hval0 hW hcnd _
  have hval : ∀ (j : Nat) t v, Tryz.f3.params[j]? = some t → args[j]? = some v → Value.okWide Tryz.prog W .any base t v := hval0
  have hW' := hW
  obtain ⟨p, q, hA0, hV, rfl, hfz, hnd⟩ := hW
  have hA : DataW.TrodAll enc Tryz.prog W 0 (fun _ => true) true Tryz.f3.params.toList args.toList ds p := hA0
  rw [Tryz.params3] at hA hval
  obtain ⟨v0, d0, rfl, rfl, h0⟩ := trodAll_one hA
  obtain ⟨rfl, rfl⟩ := trodVars_none hV
  obtain ⟨a0, len0, cap0, rfl⟩ := okWide_slice Tryz.underlying22 (hval 0 22 v0 rfl rfl)
  have k0 := h0
  have lt0 : ∀ x ∈ p, x.block < W.heap.size := by obtain ⟨m, hm⟩ := k0; exact DataW.trod_lt m _ _ _ hm
  have r0 : RowB W a0 len0 := by
    obtain ⟨fuel, hf⟩ := h0
    rcases Go.ChangeShapes.open_ints Tryz.underlying22 Tryz.underlying5 (by kernel_rfl) hf with ⟨hcs, _⟩ | ⟨x, l, c, zs, hcs, _, hl, hm, hz, _, hcell, hwz⟩
    · simp [Value.cells] at hcs
      obtain ⟨rfl, rfl, rfl⟩ := hcs
      exact fun j hj => absurd hj (Nat.not_lt_zero _)
    · simp [Value.cells] at hcs
      obtain ⟨rfl, rfl, rfl⟩ := hcs
      exact rowB_of hl (by simpa using hz) hcell (fun n hn => bounds_u8 (hwz n hn))
  clear hA0 hval0
  refine (walk_FnNearNew a0 len0 cap0 W r0).mono fun e W' ⟨he, bel⟩ => ?_
  subst he
  exact ⟨_, rfl, _, _, _, [], _, [], hW', trodAll_mk1 (shut_bool Tryz.underlying4 _), trodAll_mk1 (Below.trod (show laidOutB Tryz.prog = true by kernel_rfl) (by kernel_rfl) (of_decide_eq_true (by kernel_rfl)) k0 bel lt0), rfl, bel.frame _, fun h => by cases h⟩

theorem proved_FnNearNew : Rows.FnNearNewSaid :=
  OpenClaim.holds_of_wide 3 Tryz.f3 rfl rfl rfl rfl rfl rfl rfl ⟨rfl, rfl, rfl, rfl, rfl⟩ rfl rfl rfl rfl rfl (by kernel_rfl) Tryz.func3 (by kernel_rfl)
    (of_decide_eq_true (by kernel_rfl)) (by unfold Func.isWrapper; first | (rw [if_pos (by decide +kernel)]; kernel_rfl) | (rw [if_neg (by decide +kernel)]; exact ⟨rfl, rfl⟩))
    (fun os started H enc _ => lifted_FnNearNew os started H enc)
#print axioms proved_FnNearNew
end Go.Proofs.YtenmpciimocggaaGreat
