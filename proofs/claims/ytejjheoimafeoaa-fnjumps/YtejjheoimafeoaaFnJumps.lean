/- A drawn number that is laid among one place more stays where it was, or goes to the new one; it is laid within; the program answers as the model: whatever is drawn. -/
import Derived.Test.YtejjheoimafeoaaRows
import Derived.ProofKit
import Derived.OpenShut
import Derived.ShutString
import Derived.ChangeOld
import Derived.Test.YtejjheoimafeoaaLawJ
namespace Go.Proofs.Ytejjheoimafeoaa
open Go.ChangeShapes Go.WideShapes Go.ChangeAt Go.RowKit
open Go.ChangeMaps (open_string shut_string)
set_option linter.unusedVariables false

set_option maxRecDepth 100000 in
set_option maxHeartbeats 4000000 in
theorem walk_FnJumps (a : Option Addr) (len cap : Nat) (w : World) (hr : RowB w a len) :
    Calls Try.prog 3 #[.slice a len cap] w fun e w' => e = .returned (.bool true) ∧ Below w.heap.size w w' := by
  by_cases hbig : len ≤ 1048576
  · have CB := hide1 (big9_no a len cap w hbig)
    have hc := hr.code hbig
    have CD := hide1 (drawNumbers_any w a len cap hc)
    have HC := hide1 hc
    clear hr hc
    go_enter Try.func3, Try.ntmps3
    go_wp2_with fail
    refine CB.out.mono ?_
    rintro e w1 ⟨rfl, rfl⟩
    go_wp2_with fail
    refine CD.out.mono ?_
    rintro e w1 ⟨l, lo, cl, rfl, hl, hR1, hb1⟩
    have R1 := hide1 hR1
    have B1 := hide1 hb1
    clear hR1 hb1 CB CD
    have CP := hide1 (drawPl_any w1 a len cap ((HC.out.below B1.out (Nat.le_refl _)).mono B1.out.size))
    go_wp2_with fail
    refine CP.out.mono ?_
    rintro e w2 ⟨xs, p, cp, hx12, hx, rfl, hp1, hp2, hxc, hb2⟩
    have R2 := hide1 (R1.out.later hb2)
    have B2 := hide1 (B1.out.trans (hb2.mono B1.out.size))
    have y0 := hxc 0 (by omega)
    have y1 := hxc 1 (by omega)
    have hx0 := hx xs[0] (List.getElem_mem _)
    have hx1 := hx xs[1] (List.getElem_mem _)
    generalize xs[0] = n0 at *
    generalize xs[1] = n1 at *
    clear hx hxc hb2 R1 B1 CP HC hx12
    obtain ⟨m, hm⟩ : ∃ m : Nat, 1 + n0 % 60 = m := ⟨_, rfl⟩
    have hm1 : 1 ≤ m := by omega
    have hm2 : m ≤ 60 := by omega
    have hmi : 1 + (n0 : Int) % 60 = (m : Int) := by omega
    have hmt : 1 + (n0 : Int).tmod 60 = (m : Int) := by rw [Int.tmod_eq_emod_of_nonneg (by omega)]; exact hmi
    have CJ := hide1 (fun z w' => implJ_nat z hm1 (show m ≤ 1000 by omega) w')
    have CK := hide1 (fun z w' => implJ_nat z (show 1 ≤ m + 1 by omega) (show m + 1 ≤ 1000 by omega) w')
    have CS := hide1 (fun z w' => specJ_nat z hm1 (show m ≤ 1000 by omega) w')
    have C1 := hide1 (fun z w' => by have h := implJ_nat z (m := 1) (by omega) (by omega) w'; rw [plc_one] at h; exact h)
    have HM := hide1 (And.intro (fun z => plc_more hm1 z) (fun z => plcJ_lt hm1 z))
    have Y1 := hide1 y1
    obtain ⟨j9, h9⟩ : ∃ j9, plcJ 1000 256 = j9 := ⟨_, rfl⟩
    have CX : Hid (∀ w', Calls Try.prog 10 #[.int .i64 256, .int .i64 1000] w' fun e w'' => e = .returned (.int .i64 (j9 : Int)) ∧ Below w'.heap.size w' w'') := fun w' => by rw [← h9]; exact implJ_nat 256 (m := 1000) (by omega) (by omega) w'
    have CY : Hid (∀ w', Calls Try.prog 11 #[.int .i64 256, .int .i64 1000] w' fun e w'' => e = .returned (.int .i64 (j9 : Int)) ∧ w' = w'') := fun w' => by rw [← h9]; exact specJ_nat 256 (m := 1000) (by omega) (by omega) w'
    clear h9
    clear hm hm1
    go_wp2
    clear y0 y1
    go_loopw [6] (fun iv wr => ∃ i : Nat, i ≤ l.length ∧ iv = .int .i64 (i : Int) ∧ Below w2.heap.size w2 wr) (fun iv _ => l.length - (intOf iv).toNat)
    case atStart => exact ⟨0, by omega, rfl, Below.refl _ _⟩
    case round =>
      obtain ⟨i, hi, rfl, hbel⟩ := hrel
      have HB := hide1 hbel
      by_cases hlt : i < l.length
      · have k1 : (i : Int) < (l.length : Int) := by omega
        obtain ⟨b, o, rfl, hb, hx⟩ := R2.out i hlt
        have x0 := (hbel.cell (p := ⟨b, o + i, none⟩) hb).trans hx
        generalize l[i] = z at *
        have hbs := hbel.size
        clear hx hbel
        have J1 := hide1 (CJ.out z)
        have J2 := hide1 (CK.out z)
        have J3 := hide1 (CS.out z)
        have J4 := hide1 (C1.out z)
        have h1 := HM.out.1 z
        have h2 := HM.out.2 z
        generalize plcJ (m + 1) z = j2 at *
        generalize plcJ m z = j1 at *
        have w1 : ((m + 1 : Nat) : Int) = (m : Int) + 1 := by omega
        rw [w1] at J2
        have k2 : ¬ (j1 : Int) < 0 := by omega
        have k3 : ¬ (m : Int) ≤ (j1 : Int) := by omega
        go_wp2_with fail
        refine (J1.out _).mono ?_
        rintro e w3 ⟨rfl, hb3⟩
        have H3 := hide1 (HB.out.trans (hb3.mono HB.out.size))
        have x1 := (hb3.cell (p := ⟨b, o + i, none⟩) (by show b < _; omega)).trans x0
        have s3 := hb3.size
        clear hb3 x0
        go_wp2_with fail
        refine (J2.out _).mono ?_
        rintro e w4 ⟨rfl, hb4⟩
        have H4 := hide1 (H3.out.trans (hb4.mono H3.out.size))
        have x2 := (hb4.cell (p := ⟨b, o + i, none⟩) (by show b < _; omega)).trans x1
        have s4 := hb4.size
        clear hb4 x1
        have q1 : ((j1 : Int) != (j1 : Int)) = false := by simp
        have q2 : ((m : Int) != (m : Int)) = false := by simp
        have q3 : ((m : Int) != (j1 : Int)) = true := by simp; omega
        rcases h1 with rfl | rfl
        · go_wp2_with fail
          refine (J4.out _).mono ?_
          rintro e w5 ⟨rfl, hb5⟩
          have H5 := hide1 (H4.out.trans (hb5.mono H4.out.size))
          have x3 := (hb5.cell (p := ⟨b, o + i, none⟩) (by show b < _; omega)).trans x2
          clear hb5 x2
          go_wp2_with fail
          refine (J3.out _).mono ?_
          rintro e w6 ⟨rfl, rfl⟩
          go_wp2
          go_roundw
          case rel => exact ⟨i + 1, by omega, by go_num, H5.out⟩
          case measure => simp [intOf]; omega
        · go_wp2_with fail
          refine (J4.out _).mono ?_
          rintro e w5 ⟨rfl, hb5⟩
          have H5 := hide1 (H4.out.trans (hb5.mono H4.out.size))
          have x3 := (hb5.cell (p := ⟨b, o + i, none⟩) (by show b < _; omega)).trans x2
          clear hb5 x2
          go_wp2_with fail
          refine (J3.out _).mono ?_
          rintro e w6 ⟨rfl, rfl⟩
          go_wp2
          go_roundw
          case rel => exact ⟨i + 1, by omega, by go_num, H5.out⟩
          case measure => simp [intOf]; omega
      · have k1 : ¬ (i : Int) < (l.length : Int) := by omega
        have y1 := (hbel.cell (p := ⟨p, 1, none⟩) hp2).trans Y1.out
        have hbs := hbel.size
        clear hbel
        have J1 := hide1 (CJ.out (n1 : Int))
        have J3 := hide1 (CS.out (n1 : Int))
        have h2 := HM.out.2 (n1 : Int)
        generalize plcJ m (n1 : Int) = j1 at *
        have k2 : (j1 : Int) < (m : Int) := by omega
        have q1 : ((j1 : Int) == (j1 : Int)) = true := by simp
        have q2 : ((j9 : Int) == (j9 : Int)) = true := by simp
        have q3 : decide ((j1 : Int) < (m : Int)) = true := decide_eq_true k2
        have Y2 := hide1 y1
        have hpr : p < wr.heap.size := by omega
        clear CJ CS CK C1 HM hl hlt
        go_wp2
        go_region_held3 (fun w' => w'.cell? ⟨p, 1, none⟩ = some (.int .i64 (n1 : Int))) (first | go_keep | exact (D3.out.cell (p := ⟨p, 1, none⟩) hpr).trans Y2.out | exact (D2.out.cell (p := ⟨p, 1, none⟩) hpr).trans Y2.out | exact (D1.out.cell (p := ⟨p, 1, none⟩) hpr).trans Y2.out) (first | (have := D2.out; go_at_call 10; refine (CX.out _).mono ?_; rintro e w5 ⟨rfl, hb5⟩; have D3 : Hid (Below wr.heap.size wr w5) := (D2.out.trans (show Below wr.heap.size w4 _ by go_grown)).trans (hb5.mono (by have := D2.out.size; go_size)); clear hb5) | (have := D1.out; go_at_call 10; refine (J1.out _).mono ?_; rintro e w4 ⟨rfl, hb4⟩; have D2 : Hid (Below wr.heap.size wr w4) := (D1.out.trans (show Below wr.heap.size w3 _ by go_grown)).trans (hb4.mono (by have := D1.out.size; go_size)); clear hb4) | (go_at_call 10; refine (J1.out _).mono ?_; rintro e w3 ⟨rfl, hb3⟩; have D1 : Hid (Below wr.heap.size wr w3) := (show Below wr.heap.size wr _ by go_grown).trans (hb3.mono (by go_size)); clear hb3) | (have := D3.out; go_at_call 11; refine (CY.out _).mono ?_; rintro e w6 ⟨rfl, rfl⟩) | (go_at_call 11; refine (J3.out _).mono ?_; rintro e w6 ⟨rfl, rfl⟩))
        go_wp2
        go_ret
        exact ⟨rfl, (B2.out.trans (HB.out.mono B2.out.size)).trans (D3.out.mono (Nat.le_trans B2.out.size HB.out.size))⟩
  · have CB := hide1 (big9_yes a len cap w hbig)
    go_enter Try.func3, Try.ntmps3
    go_wp2_with fail
    refine CB.out.mono ?_
    rintro e w1 ⟨rfl, rfl⟩
    go_wp2
    go_ret
    exact ⟨rfl, Below.refl _ _⟩

set_option maxRecDepth 100000 in
theorem lifted_FnJumps (os : Os) (started : os.Started) (H : Type) (enc : TypeId × Value → H) :
    ReturnsInHanded {} Try.checked os 3 .any (Rows.fnJumpsSpec.pre6 enc Try.prog Try.f3 Rows.fnJumpsRow.domain false) (Rows.fnJumpsSpec.post enc Try.prog Try.f3 false true false false) := by
  refine returnsInHanded_of_change (C := Try.checked) (show ownKnob Try.prog.godebug = none by kernel_rfl) started (by kernel_rfl) Try.func3
    (ChangeSpec.witness6 (enc := enc) (C := Try.checked) false ⟨#[], #[.slice none 0 0], []⟩ 8 (by kernel_rfl) (by kernel_rfl) (by kernel_rfl) (by kernel_rfl)) ?_
  intro W base args ds gs before hval0 hW hcnd _
  have hval : ∀ (j : Nat) t v, Try.f3.params[j]? = some t → args[j]? = some v → Value.okWide Try.prog W .any base t v := hval0
  have hW' := hW
  obtain ⟨p, q, hA0, hV, rfl, hfz, hnd⟩ := hW
  have hA : DataW.TrodAll enc Try.prog W 0 (fun _ => true) true Try.f3.params.toList args.toList ds p := hA0
  rw [Try.params3] at hA hval
  obtain ⟨v0, d0, rfl, rfl, h0⟩ := trodAll_one hA
  obtain ⟨rfl, rfl⟩ := trodVars_none hV
  obtain ⟨a0, len0, cap0, rfl⟩ := okWide_slice Try.underlying22 (hval 0 22 v0 rfl rfl)
  have k0 := h0
  have lt0 : ∀ x ∈ p, x.block < W.heap.size := by obtain ⟨m, hm⟩ := k0; exact DataW.trod_lt m _ _ _ hm
  have r0 : RowB W a0 len0 := by
    obtain ⟨fuel, hf⟩ := h0
    rcases Go.ChangeShapes.open_ints Try.underlying22 Try.underlying5 (by kernel_rfl) hf with ⟨hcs, _⟩ | ⟨x, l, c, zs, hcs, _, hl, hm, hz, _, hcell, hwz⟩
    · simp [Value.cells] at hcs
      obtain ⟨rfl, rfl, rfl⟩ := hcs
      exact fun j hj => absurd hj (Nat.not_lt_zero _)
    · simp [Value.cells] at hcs
      obtain ⟨rfl, rfl, rfl⟩ := hcs
      exact rowB_of hl (by simpa using hz) hcell (fun n hn => bounds_u8 (hwz n hn))
  clear hA0 hval0
  refine (walk_FnJumps a0 len0 cap0 W r0).mono fun e W' ⟨he, bel⟩ => ?_
  subst he
  exact ⟨_, rfl, _, _, _, [], _, [], hW', trodAll_mk1 (shut_bool Try.underlying4 _), trodAll_mk1 (Below.trod (show laidOutB Try.prog = true by kernel_rfl) (by kernel_rfl) (of_decide_eq_true (by kernel_rfl)) k0 bel lt0), rfl, bel.frame _, fun h => by cases h⟩

theorem proved_FnJumps : Rows.FnJumpsSaid :=
  OpenClaim.holds_of_wide 3 Try.f3 rfl rfl rfl rfl rfl rfl rfl ⟨rfl, rfl, rfl, rfl, rfl⟩ rfl rfl rfl rfl rfl (by kernel_rfl) Try.func3 (by kernel_rfl)
    (of_decide_eq_true (by kernel_rfl)) (by unfold Func.isWrapper; first | (rw [if_pos (by decide +kernel)]; kernel_rfl) | (rw [if_neg (by decide +kernel)]; exact ⟨rfl, rfl⟩))
    (fun os started H enc _ => lifted_FnJumps os started H enc)
#print axioms proved_FnJumps
end Go.Proofs.Ytejjheoimafeoaa
