/- How many drawn numbers are laid to each place is told for each, and all of them are laid; of 400 numbers each of four places gets more than 50: whatever is drawn. -/
import Derived.Test.YtejjheoimafeoaaRows
import Derived.ProofKit
import Derived.OpenShut
import Derived.ShutString
import Derived.ChangeOld
import Derived.Test.YtejjheoimafeoaaLawJ
namespace Go.Proofs.Ytejjheoimafeoaa
open Go.ChangeShapes Go.WideShapes Go.ChangeAt Go.RowKit
open Go.ChangeMaps (open_string shut_string)
set_option linter.unusedVariables false

/-- The 400 numbers. -/
def manyJ (n : Nat) : List Int := (List.range n).map fun i : Nat => (i : Int) * 7919 + 1
theorem manyJ_succ (n : Nat) : manyJ (n + 1) = manyJ n ++ [(n : Int) * 7919 + 1] := by
  unfold manyJ
  rw [List.range_succ, List.map_append]
  rfl
theorem manyJ_length (n : Nat) : (manyJ n).length = n := by simp [manyJ]
theorem many_four : ((sprF 4 (manyJ 400)).all fun x => decide (50 < x)) = true := by decide +kernel
theorem many_at : ∃ a b c d : Int, sprR (manyJ 400) 4 = [a, b, c, d] ∧ 50 < a ∧ 50 < b ∧ 50 < c ∧ 50 < d := by
  have e := sprR_yes (l := manyJ 400) (m := 4) (by omega) (by omega)
  have hl := sprF_length 4 (manyJ 400)
  have ha := many_four
  rw [show ((4 : Nat) : Int) = 4 from rfl] at e
  rw [e]
  match h : sprF 4 (manyJ 400), hl with
  | [a, b, c, d], _ =>
    rw [h] at ha
    simp at ha
    exact ⟨a, b, c, d, rfl, ha.1, ha.2.1, ha.2.2.1, ha.2.2.2⟩
theorem many_of {M : List Int} (h : M = manyJ 400) : ∃ a b c d : Int, sprR M 4 = [a, b, c, d] ∧ 50 < a ∧ 50 < b ∧ 50 < c ∧ 50 < d := h ▸ many_at
/-- The sum of the first i. -/
theorem sum_step (L : List Int) (i : Nat) (h : i < L.length) : (L.take (i + 1)).sum = (L.take i).sum + L[i] := by
  rw [List.take_succ_eq_append_getElem h, List.sum_append]
  simp
theorem sum_bd {L : List Int} {M : Nat} (h : ∀ i (hi : i < L.length), 0 ≤ L[i] ∧ L[i] ≤ (M : Int)) : ∀ i, i ≤ L.length → 0 ≤ (L.take i).sum ∧ (L.take i).sum ≤ (i : Int) * (M : Int)
  | 0, _ => by simp
  | i + 1, hi => by
    have h1 := sum_bd h i (by omega)
    have h2 := h i (by omega)
    rw [sum_step L i (by omega)]
    have e : ((i + 1 : Nat) : Int) * (M : Int) = (i : Int) * (M : Int) + (M : Int) := by rw [Int.natCast_succ, Int.add_mul]; omega
    rw [e]
    omega

set_option maxRecDepth 100000 in
set_option maxHeartbeats 4000000 in
theorem walk_FnSpreads (a : Option Addr) (len cap : Nat) (w : World) (hr : RowB w a len) :
    Calls Try.prog 4 #[.slice a len cap] w fun e w' => e = .returned (.bool true) ∧ Below w.heap.size w w' := by
  obtain ⟨i0, hi0, hz0, hz1, hz2⟩ := info_parts Try.infoZ
  by_cases hbig : len ≤ 1048576
  · have CB := hide1 (big9_no a len cap w hbig)
    have hc := hr.code hbig
    have CD := hide1 (drawNumbers_any w a len cap hc)
    have HC := hide1 hc
    clear hr hc
    go_enter Try.func4, Try.ntmps4
    go_wp2_with fail
    refine CB.out.mono ?_
    rintro e w1 ⟨rfl, rfl⟩
    go_wp2_with fail
    refine CD.out.mono ?_
    rintro e w1 ⟨l, lo, cl, rfl, hl, hR1, hb1⟩
    have R1 := hide1 hR1
    have B1 := hide1 hb1
    clear hR1 hb1 CB CD
    have CP := hide1 (drawPl_any w1 a len cap ((HC.out.below B1.out (Nat.le_refl _)).mono B1.out.size))
    go_wp2_with fail
    refine CP.out.mono ?_
    rintro e w2 ⟨xs, p, cp, hx12, hx, rfl, hp1, hp2, hxc, hb2⟩
    have R2 := hide1 (R1.out.later hb2)
    have B2 := hide1 (B1.out.trans (hb2.mono B1.out.size))
    have y0 := hxc 0 (by omega)
    have hx0 := hx xs[0] (List.getElem_mem _)
    generalize xs[0] = n0 at *
    clear hx hxc hb2 R1 B1 CP HC hx12 hp1
    obtain ⟨m, hm⟩ : ∃ m : Nat, 1 + n0 % 20 = m := ⟨_, rfl⟩
    have hm1 : 1 ≤ m := by omega
    have hm2 : m ≤ 20 := by omega
    have hmi : 1 + (n0 : Int) % 20 = (m : Int) := by omega
    have hmt : 1 + (n0 : Int).tmod 20 = (m : Int) := by rw [Int.tmod_eq_emod_of_nonneg (by omega)]; exact hmi
    have CS := hide1 (implSpread_any lo l cl (m : Int) w2 (by omega) R2.out)
    rw [sprR_yes hm1 (by omega)] at CS
    have hs1 := sprF_length m l
    have hs2 := sprF_sum hm1 l
    have hs3 := sprF_bd m l
    generalize sprF m l = L at *
    have HS := hide1 (And.intro hs2 (sum_bd hs3))
    have HS3 := hide1 hs3
    subst hs1
    clear hs2 hs3 hm
    go_wp2_with fail
    refine CS.out.mono ?_
    rintro e w3 ⟨so, cs, rfl, ho3, hb3⟩
    have P3 := hide1 (rdZ_of_own ho3)
    have R3 := hide1 (R2.out.later hb3)
    have B3 := hide1 (B2.out.trans (hb3.mono B2.out.size))
    clear ho3 hb3 CS R2 B2 y0 hp2 hmi hmt hx0
    go_wp2
    go_loop [6, 7] (fun sv iv => ∃ i : Nat, i ≤ L.length ∧ iv = .int .i64 (i : Int) ∧ sv = .int .i64 (L.take i).sum) (fun _ iv => L.length - (intOf iv).toNat)
    case atStart => exact ⟨0, by omega, rfl, rfl⟩
    case round =>
      obtain ⟨i, hi, rfl, rfl⟩ := hrel
      by_cases hlt : i < L.length
      · have k1 : (i : Int) < (L.length : Int) := by omega
        obtain ⟨b, o, rfl, hb, x0⟩ := P3.out i hlt
        have h1 := HS.out.2 (i + 1) (by omega)
        have hst := sum_step L i hlt
        have h2 := HS.out.2 i (by omega)
        have h3 := HS3.out i hlt
        generalize L[i] = v at *
        obtain ⟨s, hs⟩ : ∃ s, (L.take i).sum = s := ⟨_, rfl⟩
        rw [hs] at hst h2 ⊢
        have HT := hide1 hst
        have h4 : s ≤ 1048576 := by
          have : (i : Int) * (l.length : Int) ≤ 20 * 19 := Int.mul_le_mul (by omega) (by omega) (by omega) (by omega)
          omega
        have k5 : IntKind.i64.wrap (s + v) = s + v := IntWalk.i64_in _ ⟨by omega, by omega⟩
        clear hs hst h1
        go_wp2
        go_round
        case rel => exact ⟨i + 1, by omega, by go_num, by rw [HT.out]⟩
        case measure => simp [intOf]; omega
      · obtain rfl : i = L.length := by omega
        have e := HS.out.1
        rw [List.take_length, e]
        have q1 : ((L.length : Int) != (L.length : Int)) = false := by simp
        have q2 : ((l.length : Int) != (l.length : Int)) = false := by simp
        clear e
        have SZ : (w3.alloc (.cells #[] 3)).heap.size = w3.heap.size + 1 := World.size_alloc _ _
        have O0 := hide1 (owns_empty w3 3)
        have D0 := hide1 ((Below.refl w3.heap.size w3).alloc (Nat.le_refl _) (.cells #[] 3))
        go_wp2
        go_loopw [8, 9] (fun v iv wr => ∃ i : Nat, i ≤ 400 ∧ iv = .int .i64 (i : Int) ∧ wr.ownsRow w3.heap.size 3 1 v (manyJ i).length (iz (manyJ i)) ∧ Hid (Below w3.heap.size w3 wr)) (fun _ iv _ => 400 - (intOf iv).toNat)
        case atStart => exact ⟨0, by omega, rfl, O0.out, D0⟩
        case round =>
          obtain ⟨i, hi, rfl, hown, hbel⟩ := hrel
          by_cases hlt : i < 400
          · have hln := manyJ_length i
            have hbs := hbel.out.size
            have k5 : IntKind.i64.wrap ((i : Int) * 7919) = (i : Int) * 7919 := IntWalk.i64_in _ ⟨by omega, by omega⟩
            have k6 : IntKind.i64.wrap ((i : Int) * 7919 + 1) = (i : Int) * 7919 + 1 := IntWalk.i64_in _ ⟨by omega, by omega⟩
            have hle : (manyJ i).length < 400 := by omega
            have HM := hide1 (manyJ_succ i)
            clear hln
            generalize manyJ i = acc at *
            go_wp2_with (at_builtin; (refine wpList_push1 rfl _ _ 24 rfl w3.heap.size 3 i0 (.int .i64 0) 8 Try.underlying24 hi0 hz0 hz1 hz2 rfl (by decide) _ acc.length (iz acc) rfl hown _ rfl rfl (by omega) hbs ?_; intro v' w5 hown' hb'))
            go_roundw
            case rel =>
              refine ⟨i + 1, by omega, by go_num, ?_, hide1 (hbel.out.trans hb')⟩
              rw [HM.out, iz_append, List.length_append]
              exact hown'
            case measure => simp [intOf]; omega
          · have k0 : ¬ (i : Int) < 400 := by omega
            have hi4 : i = 400 := by omega
            have hln := manyJ_length i
            obtain ⟨M, hM⟩ : ∃ M, manyJ i = M := ⟨_, rfl⟩
            obtain ⟨a1, a2, a3, a4, hm4, g1, g2, g3, g4⟩ := many_of (hM.symm.trans (congrArg manyJ hi4))
            rw [hM] at hown hln
            clear hM
            obtain ⟨mo, cm, rfl⟩ := own_slice hown
            have CM := hide1 (implSpread_any mo M cm 4 wr (by omega) (rdZ_of_own hown))
            rw [hm4] at CM
            clear hown hm4 hln hi4 hi hlt
            have R4 := hide1 (R3.out.later hbel.out)
            have B4 := hide1 (B3.out.trans (hbel.out.mono B3.out.size))
            clear R3 B3 hbel
            go_wp2_with fail
            refine CM.out.mono ?_
            rintro e w5 ⟨to_, ct, rfl, ho5, hb5⟩
            have P5 := rdZ_of_own ho5
            obtain ⟨b, o, rfl, _, z0⟩ := P5 0 (by simp)
            obtain ⟨b1, o1, e1, _, z1⟩ := P5 1 (by simp)
            obtain ⟨b2, o2, e2, _, z2⟩ := P5 2 (by simp)
            obtain ⟨b3, o3, e3, _, z3⟩ := P5 3 (by simp)
            simp only [Option.some.injEq, Addr.mk.injEq, and_true] at e1 e2 e3
            obtain ⟨rfl, rfl⟩ := e1
            obtain ⟨rfl, rfl⟩ := e2
            obtain ⟨rfl, rfl⟩ := e3
            simp only [List.getElem_cons_zero, List.getElem_cons_succ, Nat.add_zero] at z0 z1 z2 z3
            have C0 := hide1 (implSpread_any lo l cl 0 w5 (by omega) (R4.out.later hb5))
            rw [sprR_no (.inl (by omega))] at C0
            have B5 := hide1 (B4.out.trans (hb5.mono B4.out.size))
            have d1 : decide (50 < a1) = true := decide_eq_true g1
            have d2 : decide (50 < a2) = true := decide_eq_true g2
            have d3 : decide (50 < a3) = true := decide_eq_true g3
            have d4 : decide (50 < a4) = true := decide_eq_true g4
            clear P5 ho5 hb5 CM O0 D0 HS HS3 hm1 hm2 hl
            simp only [List.length_cons, List.length_nil, Nat.zero_add, Nat.reduceAdd]
            go_wp2_with fail
            refine C0.out.mono ?_
            rintro e w6 ⟨b6, c6, rfl, _, hb6⟩
            have B6 := hide1 (B5.out.trans (hb6.mono B5.out.size))
            clear hb6
            simp only [List.length_nil]
            go_wp2
            go_ret
            exact ⟨rfl, B6.out⟩
  · have CB := hide1 (big9_yes a len cap w hbig)
    go_enter Try.func4, Try.ntmps4
    go_wp2_with fail
    refine CB.out.mono ?_
    rintro e w1 ⟨rfl, rfl⟩
    go_wp2
    go_ret
    exact ⟨rfl, Below.refl _ _⟩

set_option maxRecDepth 100000 in
theorem lifted_FnSpreads (os : Os) (started : os.Started) (H : Type) (enc : TypeId × Value → H) :
    ReturnsInHanded {} Try.checked os 4 .any (Rows.fnSpreadsSpec.pre6 enc Try.prog Try.f4 Rows.fnSpreadsRow.domain false) (Rows.fnSpreadsSpec.post enc Try.prog Try.f4 false true false false) := by
  refine returnsInHanded_of_change (C := Try.checked) (show ownKnob Try.prog.godebug = none by kernel_rfl) started (by kernel_rfl) Try.func4
    (ChangeSpec.witness6 (enc := enc) (C := Try.checked) false ⟨#[], #[.slice none 0 0], []⟩ 8 (by kernel_rfl) (by kernel_rfl) (by kernel_rfl) (by kernel_rfl)) ?_
  intro W base args ds gs before hval0 hW hcnd _
  have hval : ∀ (j : Nat) t v, Try.f4.params[j]? = some t → args[j]? = some v → Value.okWide Try.prog W .any base t v := hval0
  have hW' := hW
  obtain ⟨p, q, hA0, hV, rfl, hfz, hnd⟩ := hW
  have hA : DataW.TrodAll enc Try.prog W 0 (fun _ => true) true Try.f4.params.toList args.toList ds p := hA0
  rw [Try.params4] at hA hval
  obtain ⟨v0, d0, rfl, rfl, h0⟩ := trodAll_one hA
  obtain ⟨rfl, rfl⟩ := trodVars_none hV
  obtain ⟨a0, len0, cap0, rfl⟩ := okWide_slice Try.underlying22 (hval 0 22 v0 rfl rfl)
  have k0 := h0
  have lt0 : ∀ x ∈ p, x.block < W.heap.size := by obtain ⟨m, hm⟩ := k0; exact DataW.trod_lt m _ _ _ hm
  have r0 : RowB W a0 len0 := by
    obtain ⟨fuel, hf⟩ := h0
    rcases Go.ChangeShapes.open_ints Try.underlying22 Try.underlying5 (by kernel_rfl) hf with ⟨hcs, _⟩ | ⟨x, l, c, zs, hcs, _, hl, hm, hz, _, hcell, hwz⟩
    · simp [Value.cells] at hcs
      obtain ⟨rfl, rfl, rfl⟩ := hcs
      exact fun j hj => absurd hj (Nat.not_lt_zero _)
    · simp [Value.cells] at hcs
      obtain ⟨rfl, rfl, rfl⟩ := hcs
      exact rowB_of hl (by simpa using hz) hcell (fun n hn => bounds_u8 (hwz n hn))
  clear hA0 hval0
  refine (walk_FnSpreads a0 len0 cap0 W r0).mono fun e W' ⟨he, bel⟩ => ?_
  subst he
  exact ⟨_, rfl, _, _, _, [], _, [], hW', trodAll_mk1 (shut_bool Try.underlying4 _), trodAll_mk1 (Below.trod (show laidOutB Try.prog = true by kernel_rfl) (by kernel_rfl) (of_decide_eq_true (by kernel_rfl)) k0 bel lt0), rfl, bel.frame _, fun h => by cases h⟩

theorem proved_FnSpreads : Rows.FnSpreadsSaid :=
  OpenClaim.holds_of_wide 4 Try.f4 rfl rfl rfl rfl rfl rfl rfl ⟨rfl, rfl, rfl, rfl, rfl⟩ rfl rfl rfl rfl rfl (by kernel_rfl) Try.func4 (by kernel_rfl)
    (of_decide_eq_true (by kernel_rfl)) (by unfold Func.isWrapper; first | (rw [if_pos (by decide +kernel)]; kernel_rfl) | (rw [if_neg (by decide +kernel)]; exact ⟨rfl, rfl⟩))
    (fun os started H enc _ => lifted_FnSpreads os started H enc)
#print axioms proved_FnSpreads
end Go.Proofs.Ytejjheoimafeoaa
