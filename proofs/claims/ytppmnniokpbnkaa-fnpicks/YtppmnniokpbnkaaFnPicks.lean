/- What is picked of drawn notes was taken by the greatest ballot, or is one's own. -/
import Derived.Test.YtppmnniokpbnkaaRows
import Derived.ProofKit
import Derived.OpenShut
import Derived.ShutString
import Derived.ChangeOld
import Derived.Test.YtppmnniokpbnkaaLawB
import Derived.Test.YtppmnniokpbnkaaBaH
namespace Go.Proofs.Ytppmnniokpbnkaa
open Go.ChangeShapes Go.WideShapes Go.ChangeAt Go.RowKit
open Go.ChangeMaps (open_string shut_string)
set_option linter.unusedVariables false

set_option maxRecDepth 100000 in
set_option maxHeartbeats 4000000 in
theorem walk_FnPicks (a : Option Addr) (len cap : Nat) (w : World) (hr : RowB w a len) :
    Calls Try.prog 4 #[.slice a len cap] w fun e w' => e = .returned (.bool true) ∧ Below w.heap.size w w' := by
  by_cases hbig : len ≤ 1048576
  · have CB := hide1 (big11_no a len cap w hbig)
    have CD := hide1 (drawPick_any w a len cap (hr.code hbig))
    clear hr
    go_enter Try.func4, Try.ntmps4
    go_wp2_with fail
    refine CB.out.mono ?_
    rintro e w1 ⟨rfl, rfl⟩
    clear CB
    go_wp2_with fail
    refine CD.out.mono ?_
    rintro e w1 ⟨l, wo, c, own, rfl, hl, hsm, hos, hR, hb1⟩
    have B1 := hide1 hb1
    have HR := hide1 hR
    clear hb1 hR CD hsm
    have CP := hide1 (fun w' (h : Below w1.heap.size w1 w') => implPick_any wo l c own w' (by omega) (HR.out.later h))
    have CS := hide1 (fun w' (h : Below w1.heap.size w1 w') => specPick_any wo l c own w' (by omega) (HR.out.later h))
    go_wp2_with fail
    refine (CP.out _ (Below.refl _ _)).mono ?_
    rintro e w2 ⟨rfl, hb2⟩
    have HB2 := hide1 hb2
    clear hb2 CP
    go_wp2
    go_loopw [6, 7] (fun mv iv wr => ∃ i : Nat, i ≤ l.length ∧ iv = .int .i64 (i : Int) ∧ ∃ z : Int, mv = .int .i64 z ∧ Hid ((pickS (l.take i) own).1 = z) ∧ Below w2.heap.size w2 wr) (fun _ iv _ => l.length - (intOf iv).toNat)
    case atStart => exact ⟨0, by omega, rfl, 0, rfl, rfl, Below.refl _ _⟩
    case round =>
      obtain ⟨i, hi, rfl, z, rfl, hz, hbel⟩ := hrel
      by_cases hlt : i < l.length
      · have k1 : (i : Int) < (l.length : Int) := by omega
        obtain ⟨b, o, rfl, hb, h1⟩ := HR.out i hlt
        obtain ⟨x0, x1, x2, x3, x4, x5⟩ := (h1.below HB2.out hb).below hbel (Nat.lt_of_lt_of_le hb HB2.out.size)
        have HN := hide1 (show (pickS (l.take (i + 1)) own).1 = (pickN (pickS (l.take i) own) l[i]).1 by rw [pickS_next hlt])
        unfold pickN at HN
        have hz1 := hz.out
        rw [hz1] at HN
        clear hz1
        have hz0 := hz
        clear h1 hz
        generalize l[i] = m at *
        obtain ⟨k, f, o', b', u, v⟩ := m
        dsimp only at x0 x1 x2 x3 x4 x5 HN
        by_cases c1 : k = 2
        · subst c1
          by_cases c2 : z < u
          · have HP := hide1 (show (pickS (l.take (i + 1)) own).1 = u by rw [HN.out, if_pos ⟨rfl, c2⟩])
            clear HN
            go_wp2
            go_roundw
            case rel => exact ⟨i + 1, by omega, by go_num, u, rfl, HP, by first | exact hbel | exact hbel.drew | exact below_drewN hbel _⟩
            case measure => simp [intOf]; omega
          · have HP := hide1 (show (pickS (l.take (i + 1)) own).1 = z by rw [HN.out, if_neg (fun h => c2 h.2)]; exact hz0.out)
            clear HN
            go_wp2
            go_roundw
            case rel => exact ⟨i + 1, by omega, by go_num, z, rfl, HP, by first | exact hbel | exact hbel.drew | exact below_drewN hbel _⟩
            case measure => simp [intOf]; omega
        · have q1 : (k == 2) = false := by rw [beq_eq_false_iff_ne]; exact c1
          have HP := hide1 (show (pickS (l.take (i + 1)) own).1 = z by rw [HN.out, if_neg (fun h => c1 h.1)]; exact hz0.out)
          clear HN
          go_wp2
          go_roundw
          case rel => exact ⟨i + 1, by omega, by go_num, z, rfl, HP, by first | exact hbel | exact hbel.drew | exact below_drewN hbel _⟩
          case measure => simp [intOf]; omega
      · obtain rfl : i = l.length := by omega
        have HZ := hide1 (show (pickS l own).1 = z by have := hz.out; rwa [List.take_length] at this)
        have PF := hide1 (by have := pick_facts l own l.length (Nat.le_refl _); rw [List.take_length, HZ.out] at this; exact this)
        have B3 := hide1 (B1.out.trans ((HB2.out.trans (hbel.mono HB2.out.size)).mono B1.out.size))
        have B13 := hide1 (HB2.out.trans (hbel.mono HB2.out.size))
        clear hz
        by_cases c0 : z = 0
        · subst c0
          have e0 := PF.out.2.1 rfl
          rw [e0]
          obtain ⟨t1, t2⟩ := tx_eq own
          have CN := hide1 (fun w' : World => implPick_any (some ⟨w'.heap.size, 0, none⟩) [] 0 ⟨#[113]⟩ (w'.alloc (.cells #[] 29)) (by simp) (fun i hi => by simp at hi))
          go_wp2_with fail
          refine (CN.out _).mono ?_
          rintro e w4 ⟨rfl, hb4⟩
          have B4 := hide1 (B3.out.trans ((((Below.refl _ _).alloc (Nat.le_refl _) _).trans (hb4.mono (by rw [World.size_alloc]; omega))).mono B3.out.size))
          clear hb4 CN
          have qq : ((pickS [] (⟨#[113]⟩ : ByteArray)).2.toList == [113]) = true := by rw [show (pickS [] (⟨#[113]⟩ : ByteArray)).2 = ⟨#[113]⟩ from rfl, ByteArray.toList_eq]; rfl
          go_wp2
          go_ret
          exact ⟨by first | rfl | (show Ending.returned (.bool ((pickS [] (⟨#[113]⟩ : ByteArray)).2.toList == [113])) = _; rw [qq]), B4.out⟩
        · have q0 : (z == 0) = false := by rw [beq_eq_false_iff_ne]; exact c0
          obtain ⟨j, hj, _, j1, j2, j3⟩ := PF.out.2.2.2 c0
          have HJ := hide1 (And.intro j1 (And.intro j2 j3))
          clear j1 j2 j3 PF HZ
          generalize (pickS l own).2 = V at *
          go_wp2
          go_loopw [8] (fun iv wq => ∃ i : Nat, i ≤ j ∧ iv = .int .i64 (i : Int) ∧ Below wr.heap.size wr wq) (fun iv _ => l.length - (intOf iv).toNat)
          case atStart => exact ⟨0, by omega, rfl, Below.refl _ _⟩
          case round =>
            obtain ⟨i, hij, rfl, hbel2⟩ := hrel
            have hlt : i < l.length := by omega
            have k1 : (i : Int) < (l.length : Int) := by omega
            obtain ⟨b, o, rfl, hb, h1⟩ := HR.out i hlt
            obtain ⟨x0, x1, x2, x3, x4, x5⟩ := (h1.below B13.out hb).below hbel2 (Nat.lt_of_lt_of_le hb B13.out.size)
            have HM := hide1 (show i = j → l[i].k = 2 ∧ l[i].t = z ∧ l[i].v = V from fun e => by subst e; exact HJ.out)
            clear h1
            generalize l[i] = m at *
            obtain ⟨k, f, o', b', u, v⟩ := m
            dsimp only at x0 x1 x2 x3 x4 x5 HM
            by_cases c1 : k = 2
            · subst c1
              by_cases c2 : u = z
              · subst c2
                by_cases c3 : v = V
                · subst c3
                  obtain ⟨t1, t2⟩ := tx_eq v
                  have C9 := hide1 (CS.out _ (B13.out.trans (hbel2.mono B13.out.size)))
                  have B9 := hide1 (B3.out.trans (hbel2.mono B3.out.size))
                  go_wp2_with fail
                  refine C9.out.mono ?_
                  rintro e w9 ⟨rfl, hb9⟩
                  have B10 := hide1 (B9.out.trans (hb9.mono B9.out.size))
                  clear hb9 C9
                  go_wp2
                  go_ret
                  exact ⟨by first | rfl | (show Ending.returned (.bool (v.toList == v.toList)) = _; rw [t2]), B10.out⟩
                · have hne : i + 1 ≤ j := by
                    have : i ≠ j := fun e => c3 (HM.out e).2.2
                    omega
                  have q3 : (v.toList == V.toList) = false := by
                    rw [beq_eq_false_iff_ne]
                    intro h
                    rw [ByteArray.toList_eq, ByteArray.toList_eq] at h
                    exact c3 (ByteArray.ext (Array.toList_inj.1 h))
                  clear HM
                  go_wp2
                  go_roundw
                  case rel => exact ⟨i + 1, hne, by go_num, by first | exact hbel2 | exact hbel2.drew | exact below_drewN hbel2 _⟩
                  case measure => simp [intOf]; omega
              · have hne : i + 1 ≤ j := by
                  have : i ≠ j := fun e => c2 (HM.out e).2.1
                  omega
                have q2 : (u == z) = false := by rw [beq_eq_false_iff_ne]; exact c2
                clear HM
                go_wp2
                go_roundw
                case rel => exact ⟨i + 1, hne, by go_num, by first | exact hbel2 | exact hbel2.drew | exact below_drewN hbel2 _⟩
                case measure => simp [intOf]; omega
            · have hne : i + 1 ≤ j := by
                have : i ≠ j := fun e => c1 (HM.out e).1
                omega
              have q1 : (k == 2) = false := by rw [beq_eq_false_iff_ne]; exact c1
              clear HM
              go_wp2
              go_roundw
              case rel => exact ⟨i + 1, hne, by go_num, by first | exact hbel2 | exact hbel2.drew | exact below_drewN hbel2 _⟩
              case measure => simp [intOf]; omega
  · have CB := hide1 (big11_yes a len cap w hbig)
    clear hr
    go_enter Try.func4, Try.ntmps4
    go_wp2_with fail
    refine CB.out.mono ?_
    rintro e w1 ⟨rfl, rfl⟩
    go_wp2
    go_ret
    exact ⟨rfl, Below.refl _ _⟩

set_option maxRecDepth 100000 in
theorem lifted_FnPicks (os : Os) (started : os.Started) (H : Type) (enc : TypeId × Value → H) :
    ReturnsInHanded {} Try.checked os 4 .any (Rows.fnPicksSpec.pre6 enc Try.prog Try.f4 Rows.fnPicksRow.domain false) (Rows.fnPicksSpec.post enc Try.prog Try.f4 false true false false) := by
  refine returnsInHanded_of_change (C := Try.checked) (show ownKnob Try.prog.godebug = none by kernel_rfl) started (by kernel_rfl) Try.func4
    (ChangeSpec.witness6 (enc := enc) (C := Try.checked) false ⟨#[], #[.slice none 0 0], []⟩ 8 (by kernel_rfl) (by kernel_rfl) (by kernel_rfl) (by kernel_rfl)) ?_
  intro W base args ds gs before hval0 hW hcnd _
  have hval : ∀ (j : Nat) t v, Try.f4.params[j]? = some t → args[j]? = some v → Value.okWide Try.prog W .any base t v := hval0
  have hW' := hW
  obtain ⟨p, q, hA0, hV, rfl, hfz, hnd⟩ := hW
  have hA : DataW.TrodAll enc Try.prog W 0 (fun _ => true) true Try.f4.params.toList args.toList ds p := hA0
  rw [Try.params4] at hA hval
  obtain ⟨v0, d0, rfl, rfl, h0⟩ := trodAll_one hA
  obtain ⟨rfl, rfl⟩ := trodVars_none hV
  obtain ⟨a0, len0, cap0, rfl⟩ := okWide_slice Try.underlying22 (hval 0 22 v0 rfl rfl)
  have k0 := h0
  have lt0 : ∀ x ∈ p, x.block < W.heap.size := by obtain ⟨m, hm⟩ := k0; exact DataW.trod_lt m _ _ _ hm
  have r0 : RowB W a0 len0 := by
    obtain ⟨fuel, hf⟩ := h0
    rcases Go.ChangeShapes.open_ints Try.underlying22 Try.underlying5 (by kernel_rfl) hf with ⟨hcs, _⟩ | ⟨x, l, c, zs, hcs, _, hl, hm, hz, _, hcell, hwz⟩
    · simp [Value.cells] at hcs
      obtain ⟨rfl, rfl, rfl⟩ := hcs
      exact fun j hj => absurd hj (Nat.not_lt_zero _)
    · simp [Value.cells] at hcs
      obtain ⟨rfl, rfl, rfl⟩ := hcs
      exact rowB_of hl (by simpa using hz) hcell (fun n hn => bounds_u8 (hwz n hn))
  clear hA0 hval0
  refine (walk_FnPicks a0 len0 cap0 W r0).mono fun e W' ⟨he, bel⟩ => ?_
  subst he
  exact ⟨_, rfl, _, _, _, [], _, [], hW', trodAll_mk1 (shut_bool Try.underlying4 _), trodAll_mk1 (Below.trod (show laidOutB Try.prog = true by kernel_rfl) (by kernel_rfl) (of_decide_eq_true (by kernel_rfl)) k0 bel lt0), rfl, bel.frame _, fun h => by cases h⟩

theorem proved_FnPicks : Rows.FnPicksSaid :=
  OpenClaim.holds_of_wide 4 Try.f4 rfl rfl rfl rfl rfl rfl rfl ⟨rfl, rfl, rfl, rfl, rfl⟩ rfl rfl rfl rfl rfl (by kernel_rfl) Try.func4 (by kernel_rfl)
    (of_decide_eq_true (by kernel_rfl)) (by unfold Func.isWrapper; first | (rw [if_pos (by decide +kernel)]; kernel_rfl) | (rw [if_neg (by decide +kernel)]; exact ⟨rfl, rfl⟩))
    (fun os started H enc _ => lifted_FnPicks os started H enc)
#print axioms proved_FnPicks
end Go.Proofs.Ytppmnniokpbnkaa
