/- ItemOf answers as its model at every argument. -/
import Derived.Test.YtbkhhkknhbddeaaRows
import Derived.ProofKit
import Derived.OpenShut
import Derived.ShutString
import Derived.ChangeOld
import Derived.Test.YtbkhhkknhbddeaaToI
import Derived.Test.YtbkhhkknhbddeaaImT
import Derived.Test.YtbkhhkknhbddeaaImI
namespace Go.Proofs.Ytbkhhkknhbddeaa
open Go.ChangeShapes Go.WideShapes Go.ChangeAt Go.RowKit
open Go.ChangeMaps (open_string shut_string)
set_option linter.unusedVariables false
set_option maxRecDepth 100000 in
set_option maxHeartbeats 4000000 in
theorem walk_FnExactItemOf (ao : Option Addr) (l : List Im) (ca : Nat) (a1 : ByteArray) (w : World) (hR : RdG imC 3 w ao l) (hl : l.length ≤ maxLen) (hw : ∀ s ∈ l, wfItem s) (w1 : a1.size ≤ maxLen) :
    Calls Try.prog 7 #[.slice ao l.length ca, .string a1] w fun e w' => e = .returned (.bool true) ∧ Below w.heap.size w w' := by
  have hl9 : l.length ≤ 9223372036854775807 := by unfold maxLen at hl; omega
  have CZ := hide1 (szItemS_any ao l ca 1048576 w (Nat.le_refl _) hl9 hR (fun i h => by have h1 := hw _ (List.getElem_mem h); obtain ⟨h2, h3, _⟩ := h1; unfold maxLen at h2 h3; omega))
  have HR := hide1 hR
  clear hR hw hl hl9
  by_cases hk : a1.size ≤ 1048576
  · have qk : decide ((1048576 : Int) < (a1.size : Int)) = false := decide_eq_false (by omega)
    have CZ2 := CZ
    clear CZ
    have CZ := CZ2
    clear CZ2 w1
    go_enter Try.func7, Try.ntmps7
    go_wp2_with fail
    refine CZ.out.mono ?_
    rintro e wz ⟨hz, hbz⟩
    clear CZ
    rcases hz with rfl | ⟨r, rfl, hr1, hr2, hr3⟩
    · go_wp2
      go_ret
      exact ⟨rfl, hbz⟩
    · have qr : ¬ ((r : Int) < 0) := by omega
      have qr2 : decide ((r : Int) < 0) = false := decide_eq_false qr
      have HZ := hide1 (show ∀ x ∈ l, x.k.size ≤ 1048576 ∧ x.v.size ≤ 1048576 from fun e he => by obtain ⟨j, hj, rfl⟩ := List.getElem_of_mem he; exact hr3 j hj)
      have CT := hide1 (fun W (hb : Below w.heap.size w W) => toItemS_any ao l ca W hr2 (HR.out.later hb))
      clear hr3
      have E_0 := hide1 (hbz)
      clear hbz
      have CS := hide1 (fun W (b : Option Addr) (cb : Nat) (h : RdG imC 3 W b l) => specItemOf_any b l cb a1 W hr2 h)
      have CI := hide1 (fun W (b : Option Addr) (cb : Nat) (h : RdG imC 3 W b l) => implItemOf_any b l cb a1 W hr2 HZ.out hk h)
      generalize imOf l a1 = g at *
      go_wp2_with fail
      refine (CT.out wz E_0.out).mono ?_
      rintro e w2 ⟨tb, tc, rfl, hO, hb⟩
      have E_1 := hide1 (E_0.out.trans ((hb).mono E_0.out.size))
      clear E_0
      have T_1 := hide1 (hO)
      clear hb hO
      go_wp2_with fail
      refine (CS.out w2 tb tc (rdG_of_own encIm.len T_1.out rfl)).mono ?_
      rintro e w3 ⟨rfl, hb⟩
      have E_2 := hide1 (E_1.out.trans ((hb).mono E_1.out.size))
      have T_2 := hide1 (own_kept T_1.out (hb))
      clear E_1 T_1
      clear hb
      have FB := hide1 (And.intro (Blk.new w3 26 #[.string g.k, .string g.v, .int .i64 g.n]) ((Below.refl w3.heap.size w3).alloc (Nat.le_refl _) (.cells #[.string g.k, .string g.v, .int .i64 g.n] 26)))
      go_upto_region 8 with fail
      generalize (w3.alloc (.cells #[.string g.k, .string g.v, .int .i64 g.n] 26)) = u3 at FB ⊢
      obtain ⟨G1, hG1⟩ : ∃ G, G = w3.heap.size := ⟨_, rfl⟩
      have KB := hide1 FB.out.1
      rw [← hG1] at KB ⊢
      have E_3 := hide1 (E_2.out.trans ((FB.out.2).mono E_2.out.size))
      have T_3 := hide1 (own_kept T_2.out (FB.out.2))
      clear E_2 T_2
      have B1_3 := hide1 (KB.out)
      clear KB FB hG1
      go_wp2_with fail
      refine (CT.out u3 E_3.out).mono ?_
      rintro e w4 ⟨xb, xc, rfl, hO, hb⟩
      have E_4 := hide1 (E_3.out.trans ((hb).mono E_3.out.size))
      have T_4 := hide1 (own_kept T_3.out (hb))
      have B1_4 := hide1 (B1_3.out.below (hb) B1_3.out.lt)
      clear E_3 T_3 B1_3
      have X_4 := hide1 (hO)
      clear hb hO
      go_wp2_with fail
      refine (CI.out w4 xb xc (rdG_of_own encIm.len X_4.out rfl)).mono ?_
      rintro e w5 ⟨rfl, hb⟩
      have E_5 := hide1 (E_4.out.trans ((hb).mono E_4.out.size))
      have T_5 := hide1 (own_kept T_4.out (hb))
      have B1_5 := hide1 (B1_4.out.below (hb) B1_4.out.lt)
      have X_5 := hide1 (own_kept X_4.out (hb))
      clear E_4 T_4 B1_4 X_4
      clear hb
      have FB := hide1 (And.intro (Blk.new w5 26 #[.string g.k, .string g.v, .int .i64 g.n]) ((Below.refl w5.heap.size w5).alloc (Nat.le_refl _) (.cells #[.string g.k, .string g.v, .int .i64 g.n] 26)))
      go_upto_region 10 with fail
      generalize (w5.alloc (.cells #[.string g.k, .string g.v, .int .i64 g.n] 26)) = u5 at FB ⊢
      obtain ⟨G2, hG2⟩ : ∃ G, G = w5.heap.size := ⟨_, rfl⟩
      have KB := hide1 FB.out.1
      rw [← hG2] at KB ⊢
      have E_6 := hide1 (E_5.out.trans ((FB.out.2).mono E_5.out.size))
      have T_6 := hide1 (own_kept T_5.out (FB.out.2))
      have B1_6 := hide1 (B1_5.out.below (FB.out.2) B1_5.out.lt)
      have X_6 := hide1 (own_kept X_5.out (FB.out.2))
      clear E_5 T_5 B1_5 X_5
      have B2_6 := hide1 (KB.out)
      clear KB FB hG2
      have B1c0 : u5.cell? ⟨G1, 0, none⟩ = some (.string g.k) := B1_6.out.cell 0
      have B1c1 : u5.cell? ⟨G1, 1, none⟩ = some (.string g.v) := B1_6.out.cell 1
      have B1c2 : u5.cell? ⟨G1, 2, none⟩ = some (.int .i64 g.n) := B1_6.out.cell 2
      have B2c0 : u5.cell? ⟨G2, 0, none⟩ = some (.string g.k) := B2_6.out.cell 0
      have B2c1 : u5.cell? ⟨G2, 1, none⟩ = some (.string g.v) := B2_6.out.cell 1
      have B2c2 : u5.cell? ⟨G2, 2, none⟩ = some (.int .i64 g.n) := B2_6.out.cell 2
      go_wp2_with fail
      refine (eqItem_same g u5).mono ?_
      rintro e w6 ⟨rfl, hb⟩
      clear B1c0 B1c1 B1c2 B2c0 B2c1 B2c2
      have E_7 := hide1 (E_6.out.trans ((hb).mono E_6.out.size))
      have T_7 := hide1 (own_kept T_6.out (hb))
      have B1_7 := hide1 (B1_6.out.below (hb) B1_6.out.lt)
      have X_7 := hide1 (own_kept X_6.out (hb))
      have B2_7 := hide1 (B2_6.out.below (hb) B2_6.out.lt)
      clear E_6 T_6 B1_6 X_6 B2_6
      clear hb
      go_wp2_with fail
      refine (CT.out w6 E_7.out).mono ?_
      rintro e w7 ⟨yb, yc, rfl, hO, hb⟩
      have E_8 := hide1 (E_7.out.trans ((hb).mono E_7.out.size))
      have T_8 := hide1 (own_kept T_7.out (hb))
      have B1_8 := hide1 (B1_7.out.below (hb) B1_7.out.lt)
      have X_8 := hide1 (own_kept X_7.out (hb))
      have B2_8 := hide1 (B2_7.out.below (hb) B2_7.out.lt)
      clear E_7 T_7 B1_7 X_7 B2_7
      have Y_8 := hide1 (hO)
      clear hb hO
      go_wp2_with fail
      refine (eqItemS_same xb yb l xc yc w7 hr2 (rdG_of_own encIm.len X_8.out rfl) (rdG_of_own encIm.len Y_8.out rfl)).mono ?_
      rintro e w8 ⟨rfl, hb⟩
      have E_9 := hide1 (E_8.out.trans ((hb).mono E_8.out.size))
      have T_9 := hide1 (own_kept T_8.out (hb))
      have B1_9 := hide1 (B1_8.out.below (hb) B1_8.out.lt)
      have X_9 := hide1 (own_kept X_8.out (hb))
      have B2_9 := hide1 (B2_8.out.below (hb) B2_8.out.lt)
      have Y_9 := hide1 (own_kept Y_8.out (hb))
      clear E_8 T_8 B1_8 X_8 B2_8 Y_8
      clear hb
      go_wp2
      go_ret
      exact ⟨rfl, E_9.out⟩
  · have qk : decide ((1048576 : Int) < (a1.size : Int)) = true := decide_eq_true (by omega)
    clear CZ
    go_enter Try.func7, Try.ntmps7
    go_wp2
    go_ret
    exact ⟨rfl, Below.refl _ _⟩

set_option maxRecDepth 100000 in
theorem lifted_FnExactItemOf (os : Os) (started : os.Started) (H : Type) (enc : TypeId × Value → H) :
    ReturnsInHanded {} Try.checked os 7 .any (Rows.fnExactItemOfSpec.pre6 enc Try.prog Try.f7 Rows.fnExactItemOfRow.domain false) (Rows.fnExactItemOfSpec.post enc Try.prog Try.f7 false true false false) := by
  refine returnsInHanded_of_change (C := Try.checked) (show ownKnob Try.prog.godebug = none by kernel_rfl) started (by kernel_rfl) Try.func7
    (ChangeSpec.witness6 (enc := enc) (C := Try.checked) false ⟨#[], #[.slice none 0 0, .string ByteArray.empty], []⟩ 8 (by kernel_rfl) (by kernel_rfl) (by kernel_rfl) (by kernel_rfl)) ?_
  intro W base args ds gs before hval0 hW hcnd _
  have hval : ∀ (j : Nat) t v, Try.f7.params[j]? = some t → args[j]? = some v → Value.okWide Try.prog W .any base t v := hval0
  have hW' := hW
  obtain ⟨p, q, hA0, hV, rfl, hfz, hnd⟩ := hW
  have hA : DataW.TrodAll enc Try.prog W 0 (fun _ => true) true Try.f7.params.toList args.toList ds p := hA0
  rw [Try.params7] at hA hval
  obtain ⟨v0, vs0, d0, ds0, p0, q0, hargs, rfl, rfl, h0, r0⟩ := trodAll_cons hA
  obtain ⟨v1, vs1, d1, ds1, p1, q1, rfl, rfl, rfl, h1, r1⟩ := trodAll_cons r0
  obtain ⟨rfl, rfl, rfl⟩ := trodAll_nil r1
  obtain rfl : args = #[v0, v1] := by cases args; simp_all
  obtain ⟨rfl, rfl⟩ := trodVars_none hV
  have k0 := h0
  have lt0 : ∀ x ∈ p0, x.block < W.heap.size := by obtain ⟨m, hm⟩ := k0; exact DataW.trod_lt m _ _ _ hm
  obtain ⟨ao0, l0, ca0, rfl, hR0, hl0, hw0⟩ := open_items (hval 0 38 v0 rfl rfl) h0
  obtain ⟨a1, rfl, rfl, rfl, w1⟩ := open_string Try.underlying9 (hval 1 9 v1 rfl rfl) h1
  clear hA0 hval0
  try simp only [List.append_nil] at hW'
  refine (walk_FnExactItemOf ao0 l0 ca0 a1 W hR0 hl0 hw0 w1).mono fun e W' ⟨he, bel⟩ => ?_
  subst he
  exact ⟨_, rfl, _, _, _, [], _, [], hW', trodAll_mk1 (shut_bool Try.underlying4 _), (trodAll_cons_mk (Below.trod (show laidOutB Try.prog = true by kernel_rfl) (by kernel_rfl) (of_decide_eq_true (by kernel_rfl)) k0 bel lt0) (trodAll_cons_mk (shut_string Try.underlying9 w1) trodAll_mk0)), rfl, bel.frame _, fun h => by cases h⟩

theorem proved_FnExactItemOf : Rows.FnExactItemOfSaid :=
  OpenClaim.holds_of_wide 7 Try.f7 rfl rfl rfl rfl rfl rfl rfl ⟨rfl, rfl, rfl, rfl, rfl⟩ rfl rfl rfl rfl rfl (by kernel_rfl) Try.func7 (by kernel_rfl)
    (of_decide_eq_true (by kernel_rfl)) (by unfold Func.isWrapper; first | (rw [if_pos (by decide +kernel)]; kernel_rfl) | (rw [if_neg (by decide +kernel)]; exact ⟨rfl, rfl⟩))
    (fun os started H enc _ => lifted_FnExactItemOf os started H enc)
#print axioms proved_FnExactItemOf
end Go.Proofs.Ytbkhhkknhbddeaa
