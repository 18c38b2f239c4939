/- PartsOf answers as its model at every argument; its answer owns its memory, behind another call too; no condition. -/
import Derived.Test.YtaojedapobdckaaRows
import Derived.ProofKit
import Derived.OpenShut
import Derived.ShutString
import Derived.ChangeOld
import Derived.Test.YtaojedapobdckaaParts
namespace Go.Proofs.Ytaojedapobdckaa
open Go.ChangeShapes Go.WideShapes Go.ChangeAt Go.RowKit
open Go.ChangeMaps (open_string shut_string)
set_option linter.unusedVariables false

theorem hide1 {p : Prop} (h : p) : Hid p := h
theorem rds_of_own {w : World} {base n ca : Nat} {e : TypeId} {ao : Option Addr} {xs : List Value} {f : Nat → ByteArray} (h : w.ownsRow base e 1 (.slice ao n ca) n xs) (hf : ∀ j, j < n → xs[j]? = some (.string (f j))) : RdS w ao n f := by
  intro j hj
  rcases h.2 with ⟨hv, h0⟩ | ⟨g, cap, cur, hv, _, hh, _⟩
  · omega
  · have hg : (Value.slice ao n ca).ownBlock = some g := by rw [hv]; rfl
    simp only [Value.slice.injEq] at hv
    refine ⟨g, hv.1, (Array.getElem?_eq_some_iff.1 hh).1, ?_⟩
    have := h.cells hg j _ (hf j hj)
    rw [Addr.add_lit, Nat.zero_add] at this
    exact this
theorem sc_at (l : List ByteArray) : ∀ j, j < l.length → (sc l)[j]? = some (.string (l.getD j ⟨#[]⟩)) := by
  intro j hj
  simp [sc, hj]

set_option maxHeartbeats 800000 in
theorem walk_FnExactPartsOf (a0 : ByteArray) (w0 : a0.size ≤ maxLen) (w : World) :
    Calls Try.prog 9 #[.string a0] w fun e w' => e = .returned (.bool true) ∧ Below w.heap.size w w' := by
  unfold maxLen at w0
  by_cases hs : a0.size ≤ 1048576
  · obtain ⟨b, hb⟩ : ∃ b, b = partsB a0 := ⟨_, rfl⟩
    obtain ⟨L, hL⟩ : ∃ L, L = partsL a0 := ⟨_, rfl⟩
    have hle : L.length ≤ 10 := by rw [hL]; exact partsL_le a0
    have c0 := fun w => specParts_any a0 w hs
    have c1 := fun w => implParts_any a0 w hs
    rw [← hb, ← hL] at c0 c1
    clear hb hL
    have C0 := hide1 (c0)
    have C1 := hide1 (c1)
    clear c0 c1
    obtain ⟨n, hn⟩ : ∃ n, n = L.length := ⟨_, rfl⟩
    have hf := sc_at L
    have hxl : (sc L).length = n := by rw [hn]; simp [sc]
    rw [← hn] at hle hf C0 C1
    have HF := hide1 (hf)
    have HX := hide1 (hxl)
    clear hn hf hxl
    have e1 : (b != b) = false := by simp
    have e2 : ((1 + (n : Int)) != (1 + (n : Int))) = false := by simp
    go_enter Try.func9, Try.ntmps9
    go_wp2_with fail
    refine (C0.out _).mono ?_
    rintro e W1 ⟨v1, rfl, own1, bel1⟩
    obtain ⟨ao1, ca1, rfl⟩ := own_slice own1
    have R1 := rds_of_own own1 HF.out
    have B1 := hide1 (bel1)
    have S1 := bel1.size
    clear own1 bel1
    have R1' := hide1 (R1)
    clear R1
    go_wp2_with fail
    refine (C1.out _).mono ?_
    rintro e W2 ⟨v2, rfl, own2, bel2⟩
    obtain ⟨ao2, ca2, rfl⟩ := own_slice own2
    have R2 := hide1 (rds_of_own own2 HF.out)
    have R12 := hide1 (R1'.out.below bel2 (Nat.le_refl _))
    have O2 := hide1 (own2)
    have B2 := hide1 (bel2)
    have S2 := bel2.size
    clear own2 bel2
    go_wp2_with fail
    refine (eqS_same ao2 ao1 n ca2 ca1 _ W2 (by omega) R2.out R12.out).mono ?_
    rintro e W3 ⟨rfl, bel3, heap3⟩
    have O3 : Hid (W3.ownsRow W1.heap.size 9 1 (.slice ao2 n ca2) n (sc L)) := own_below O2.out bel3
    have B3 := hide1 (bel3)
    have S3 := bel3.size
    clear bel3 heap3
    go_wp2_with fail
    refine (markS_any (.slice ao2 n ca2) n 1 (sc L) W1.heap.size W3 (by omega) (by omega) (by omega) O3.out (by omega)).mono ?_
    rintro e W4 ⟨rfl, own4, bel4⟩
    have R4 : Hid (RdS W4 ao2 n (fun j => mkT (1 + j))) := rds_of_own own4 (fun j hj => mkRow_at 1 (sc L) n (by rw [HX.out]; exact Nat.le_refl _) j hj)
    have B4 := hide1 (bel4)
    have S4 := bel4.size
    clear own4 bel4
    go_wp2_with fail
    refine (heldS_any ao2 n ca2 1 W4 (by omega) (by omega) (by omega) R4.out).mono ?_
    rintro e W5 ⟨rfl, bel5⟩
    have B5 := hide1 (bel5)
    have S5 := bel5.size
    clear bel5
    go_wp2_with fail
    refine (C1.out _).mono ?_
    rintro e W6 ⟨v3, rfl, own6, bel6⟩
    obtain ⟨ao3, ca3, rfl⟩ := own_slice own6
    have R6 := hide1 (rds_of_own own6 HF.out)
    have B16 : Hid (Below W1.heap.size W1 W6) := (((B2.out.trans (B3.out.mono S2)).trans B4.out).trans (B5.out.mono (by omega))).trans (bel6.mono (by omega))
    have R16 := hide1 (R1'.out.below B16.out (Nat.le_refl _))
    have R46 := hide1 ((R4.out.below B5.out (Nat.le_refl _)).below bel6 (Nat.le_refl _))
    have S6 := bel6.size
    clear own6 bel6
    go_wp2_with fail
    refine (eqS_same ao3 ao1 n ca3 ca1 _ W6 (by omega) R6.out R16.out).mono ?_
    rintro e W7 ⟨rfl, bel7, heap7⟩
    have R47 := hide1 (R46.out.below bel7 (Nat.le_refl _))
    have B7 := hide1 (bel7)
    have S7 := bel7.size
    clear bel7 heap7
    go_wp2_with fail
    refine (heldS_any ao2 n ca2 1 W7 (by omega) (by omega) (by omega) R47.out).mono ?_
    rintro e W8 ⟨rfl, bel8⟩
    have B8 := hide1 (bel8)
    clear bel8
    go_wp2
    go_ret
    exact ⟨rfl, ((B1.out.trans (B16.out.mono S1)).trans (B7.out.mono (by omega))).trans (B8.out.mono (by omega))⟩
  · have hs' : decide ((1048576 : Int) < (a0.size : Int)) = true := by simp; omega
    go_enter Try.func9, Try.ntmps9
    go_wp2
    go_ret
    exact ⟨rfl, Below.refl _ _⟩

set_option maxRecDepth 100000 in
theorem lifted_FnExactPartsOf (os : Os) (started : os.Started) (H : Type) (enc : TypeId × Value → H) :
    ReturnsInHanded {} Try.checked os 9 .any (Rows.fnExactPartsOfSpec.pre6 enc Try.prog Try.f9 Rows.fnExactPartsOfRow.domain false) (Rows.fnExactPartsOfSpec.post enc Try.prog Try.f9 false true false false) := by
  refine returnsInHanded_of_change (C := Try.checked) (show ownKnob Try.prog.godebug = none by kernel_rfl) started (by kernel_rfl) Try.func9
    (ChangeSpec.witness6 (enc := enc) (C := Try.checked) false ⟨#[], #[.string ByteArray.empty], []⟩ 8 (by kernel_rfl) (by kernel_rfl) (by kernel_rfl) (by kernel_rfl)) ?_
  intro W base args ds gs before hval0 hW hcnd _
  have hval : ∀ (j : Nat) t v, Try.f9.params[j]? = some t → args[j]? = some v → Value.okWide Try.prog W .any base t v := hval0
  have hW' := hW
  obtain ⟨p, q, hA0, hV, rfl, hfz, hnd⟩ := hW
  have hA : DataW.TrodAll enc Try.prog W 0 (fun _ => true) true Try.f9.params.toList args.toList ds p := hA0
  rw [Try.params9] at hA hval
  obtain ⟨v0, vs0, d0, ds0, p0, q0, hargs, rfl, rfl, h0, r0⟩ := trodAll_cons hA
  obtain ⟨rfl, rfl, rfl⟩ := trodAll_nil r0
  obtain rfl : args = #[v0] := by cases args; simp_all
  obtain ⟨rfl, rfl⟩ := trodVars_none hV
  obtain ⟨a0, rfl, rfl, rfl, w0⟩ := open_string Try.underlying9 (hval 0 9 v0 rfl rfl) h0
  clear hA0 hval0
  simp only [List.append_nil] at hW'
  refine (walk_FnExactPartsOf a0 w0 W).mono fun e W' ⟨he, bel⟩ => ?_
  subst he
  exact ⟨_, rfl, _, _, _, [], [], [], hW', trodAll_mk1 (shut_bool Try.underlying4 _), (trodAll_cons_mk (shut_string Try.underlying9 w0) trodAll_mk0), rfl, bel.frame _, fun h => by cases h⟩

theorem proved_FnExactPartsOf : Rows.FnExactPartsOfSaid :=
  OpenClaim.holds_of_wide 9 Try.f9 rfl rfl rfl rfl rfl rfl rfl ⟨rfl, rfl, rfl, rfl, rfl⟩ rfl rfl rfl rfl rfl (by kernel_rfl) Try.func9 (by kernel_rfl)
    (of_decide_eq_true (by kernel_rfl)) (by unfold Func.isWrapper; first | (rw [if_pos (by decide +kernel)]; kernel_rfl) | (rw [if_neg (by decide +kernel)]; exact ⟨rfl, rfl⟩))
    (fun os started H enc _ => lifted_FnExactPartsOf os started H enc)
#print axioms proved_FnExactPartsOf
end Go.Proofs.Ytaojedapobdckaa
