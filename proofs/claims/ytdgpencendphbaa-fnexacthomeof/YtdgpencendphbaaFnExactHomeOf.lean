/- HomeOf answers as its model at every argument. -/
import Derived.Test.YtdgpencendphbaaRows
import Derived.ProofKit
import Derived.OpenShut
import Derived.ShutString
import Derived.ChangeOld
import Derived.Test.YtdgpencendphbaaRiB
import Derived.Test.YtdgpencendphbaaRiH
namespace Go.Proofs.Ytdgpencendphbaa
open Go.ChangeShapes Go.WideShapes Go.ChangeAt Go.RowKit
open Go.ChangeMaps (open_string shut_string)
set_option linter.unusedVariables false

set_option maxRecDepth 100000 in
set_option maxHeartbeats 8000000 in
theorem walk_FnExactHomeOf (ao : Option Addr) (l : List Sp) (ca : Nat) (a1 : ByteArray) (w : World) (hR : RdO w ao l) (hl : l.length ≤ maxLen) (w1 : a1.size ≤ maxLen) :
    Calls Try.prog 3 #[riV ao l.length ca, .string a1] w fun e w' => e = .returned (.bool true) ∧ Below w.heap.size w w' := by
  have B0 := fun (w : World) o => (Below.refl w.heap.size w).alloc (Nat.le_refl _) o
  have CZ := hide1 (fun w' => szRing_any ao l.length ca 1048576 w' hl (Nat.le_refl _))
  have HR := hide1 hR
  unfold riV at CZ ⊢
  clear hR hl
  unfold maxLen at w1
  by_cases hs : a1.size ≤ 1048576
  · have q : decide (1048576 < (a1.size : Int)) = false := decide_eq_false (by omega)
    go_enter Try.func3, Try.ntmps3
    go_wp2_with fail
    refine (CZ.out _).mono ?_
    rintro e w1 ⟨hr, hb1⟩
    have V1 := hide1 (VarR.box hb1)
    have B1 := hide1 (boxR_below hb1)
    clear hb1 CZ
    rcases hr with rfl | ⟨r, rfl, hrn⟩
    · go_wp2
      go_ret
      exact ⟨rfl, B1.out⟩
    have hn : l.length ≤ 1048576 := by omega
    clear hrn
    have qr : decide ((r : Int) < 0) = false := by simp
    obtain ⟨hs1, x0⟩ := V1.out.cells
    have T2 := hide1 (toRing_own ao l ca w1 hn (HR.out.later B1.out))
    go_wp2_with fail
    refine T2.out.mono ?_
    rintro e w2 ⟨b2, c2, rfl, ho2, hb2⟩
    have RD2 := hide1 ho2.rd
    have B2 := hide1 (B1.out.trans (hb2.mono B1.out.size))
    have V2 := hide1 (V1.out.later hb2)
    clear ho2 hb2 T2 x0 V1
    have L3 := hide1 (specHome_any b2 l c2 a1 w2 hn hs RD2.out)
    unfold riV at L3
    go_wp2_with fail
    refine L3.out.mono ?_
    rintro e w3 ⟨rfl, hb3⟩
    have B3 := hide1 (B2.out.trans (hb3.mono B2.out.size))
    have V3 := hide1 (V2.out.later hb3)
    have I3 := hide1 (HR.out.later B3.out)
    clear hb3 L3 RD2 V2
    obtain ⟨hs3, x0⟩ := V3.out.cells
    have T4 := hide1 (toRing_own ao l ca w3 hn I3.out)
    go_wp2_with fail
    refine T4.out.mono ?_
    rintro e w4 ⟨b4, c4, rfl, ho4, hb4⟩
    have O4 := hide1 ho4
    have V4 := hide1 (V3.out.later hb4)
    have I4 := hide1 (I3.out.later hb4)
    have B4 := hide1 (B3.out.trans (hb4.mono B3.out.size))
    clear ho4 hb4 T4 x0 V3 I3
    have L5 := hide1 (fun o1 => implHome_any b4 l c4 a1 (w4.alloc o1) hn hs (O4.out.rd.later (B0 w4 o1)))
    unfold riV at L5
    go_wp2_with fail
    refine (L5.out _).mono ?_
    rintro e w5 ⟨rfl, hb5⟩
    have V5 := hide1 (VarR.box hb5)
    have B45 := hide1 (boxR_below hb5)
    have S5 := hide1 (V4.out.later B45.out)
    have I5 := hide1 (I4.out.later B45.out)
    have X5 := hide1 (O4.out.rd.later B45.out)
    have B5 := hide1 (B4.out.trans (B45.out.mono B4.out.size))
    clear hb5 L5 V4 I4
    have qq : (homeS l (hashN a1 0 : Int) != homeS l (hashN a1 0 : Int)) = false := by simp
    have SV := hide1 S5.out
    have SR := hide1 I5.out
    have SX := hide1 V5.out
    have RX := hide1 X5.out
    have CT := hide1 (fun w' (hb : Below w5.heap.size w5 w') => toRing_own ao l ca w' hn (SR.out.later hb))
    obtain ⟨mX, z0⟩ := SX.out.cells
    obtain ⟨mS, x0⟩ := SV.out.cells
    have ZX := hide1 (And.intro z0 x0)
    go_wp2
    go_region_held3 (fun w' => w'.cell? ⟨w4.heap.size, 0, none⟩ = some (.slice b4 l.length c4) ∧ w'.cell? ⟨w.heap.size, 0, none⟩ = some (.slice ao l.length ca)) (first | go_keep | exact ⟨(D8.out.cell mX).trans ZX.out.1, (D8.out.cell mS).trans ZX.out.2⟩ | exact ⟨(D7.out.cell mX).trans ZX.out.1, (D7.out.cell mS).trans ZX.out.2⟩) ((first | (go_at_call 10; refine (CE.out _ (by go_grown)).mono ?_; rintro e w8 ⟨rfl, hb8⟩; have D8 : Hid (Below w5.heap.size w5 w8) := (D7.out.trans (show Below w5.heap.size w7 _ by go_grown)).trans (hb8.mono (by have := D7.out.size; go_size)); clear hb8) | (go_at_call 8; refine (CT.out _ (by go_grown)).mono ?_; rintro e w7 ⟨b7, c7, rfl, ho7, hb7⟩; have D7 : Hid (Below w5.heap.size w5 w7) := (show Below w5.heap.size w5 _ by go_grown).trans hb7; have CE := hide1 (fun w' (hb : Below w7.heap.size w7 w') => eqRing_own b4 b7 l c4 c7 w' hn (RX.out.later (D7.out.trans (hb.mono D7.out.size))) (ho7.rd.later hb)); clear ho7)))
    clear z0 x0 ZX CT CE D7 hb7 mX mS SX SR
    have B8 := hide1 (B5.out.trans (D8.out.mono B5.out.size))
    go_wp2
    go_ret
    exact ⟨rfl, B8.out⟩
  · have q : decide (1048576 < (a1.size : Int)) = true := decide_eq_true (by omega)
    have HB := hide1 (B0 w (.cells #[.slice ao l.length ca] 24))
    clear CZ
    go_enter Try.func3, Try.ntmps3
    go_wp2
    go_ret
    exact ⟨rfl, by first | exact HB.out | exact Below.refl _ _⟩

set_option maxRecDepth 100000 in
theorem lifted_FnExactHomeOf (os : Os) (started : os.Started) (H : Type) (enc : TypeId × Value → H) :
    ReturnsInHanded {} Try.checked os 3 .any (Rows.fnExactHomeOfSpec.pre6 enc Try.prog Try.f3 Rows.fnExactHomeOfRow.domain false) (Rows.fnExactHomeOfSpec.post enc Try.prog Try.f3 false true false false) := by
  refine returnsInHanded_of_change (C := Try.checked) (show ownKnob Try.prog.godebug = none by kernel_rfl) started (by kernel_rfl) Try.func3
    (ChangeSpec.witness6 (enc := enc) (C := Try.checked) false ⟨#[], #[.agg #[.slice none 0 0], .string ByteArray.empty], []⟩ 8 (by kernel_rfl) (by kernel_rfl) (by kernel_rfl) (by kernel_rfl)) ?_
  intro W base args ds gs before hval0 hW hcnd _
  have hval : ∀ (j : Nat) t v, Try.f3.params[j]? = some t → args[j]? = some v → Value.okWide Try.prog W .any base t v := hval0
  have hW' := hW
  obtain ⟨p, q, hA0, hV, rfl, hfz, hnd⟩ := hW
  have hA : DataW.TrodAll enc Try.prog W 0 (fun _ => true) true Try.f3.params.toList args.toList ds p := hA0
  rw [Try.params3] at hA hval
  obtain ⟨v0, vs0, d0, ds0, p0, q0, hargs, rfl, rfl, h0, r0⟩ := trodAll_cons hA
  obtain ⟨v1, vs1, d1, ds1, p1, q1, rfl, rfl, rfl, h1, r1⟩ := trodAll_cons r0
  obtain ⟨rfl, rfl, rfl⟩ := trodAll_nil r1
  obtain rfl : args = #[v0, v1] := by cases args; simp_all
  obtain ⟨rfl, rfl⟩ := trodVars_none hV
  have k0 := h0
  have lt0 : ∀ x ∈ p0, x.block < W.heap.size := by obtain ⟨m, hm⟩ := k0; exact DataW.trod_lt m _ _ _ hm
  obtain ⟨ao0, l0, ca0, rfl, hR0, hl0⟩ := open_ring (hval 0 24 v0 rfl rfl) h0
  obtain ⟨a1, rfl, rfl, rfl, w1⟩ := open_string Try.underlying9 (hval 1 9 v1 rfl rfl) h1
  clear hA0 hval0
  try simp only [List.append_nil] at hW'
  refine (walk_FnExactHomeOf ao0 l0 ca0 a1 W hR0 hl0 w1).mono fun e W' ⟨he, bel⟩ => ?_
  subst he
  exact ⟨_, rfl, _, _, _, [], _, [], hW', trodAll_mk1 (shut_bool Try.underlying4 _), (trodAll_cons_mk (Below.trod (show laidOutB Try.prog = true by kernel_rfl) (by kernel_rfl) (of_decide_eq_true (by kernel_rfl)) k0 bel lt0) (trodAll_cons_mk (shut_string Try.underlying9 w1) trodAll_mk0)), rfl, bel.frame _, fun h => by cases h⟩

theorem proved_FnExactHomeOf : Rows.FnExactHomeOfSaid :=
  OpenClaim.holds_of_wide 3 Try.f3 rfl rfl rfl rfl rfl rfl rfl ⟨rfl, rfl, rfl, rfl, rfl⟩ rfl rfl rfl rfl rfl (by kernel_rfl) Try.func3 (by kernel_rfl)
    (of_decide_eq_true (by kernel_rfl)) (by unfold Func.isWrapper; first | (rw [if_pos (by decide +kernel)]; kernel_rfl) | (rw [if_neg (by decide +kernel)]; exact ⟨rfl, rfl⟩))
    (fun os started H enc _ => lifted_FnExactHomeOf os started H enc)
#print axioms proved_FnExactHomeOf
end Go.Proofs.Ytdgpencendphbaa
