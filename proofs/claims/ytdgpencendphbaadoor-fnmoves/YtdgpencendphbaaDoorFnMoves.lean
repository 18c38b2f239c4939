/- When a node goes from a ring of drawn nodes, just its keys move; when it comes back, keys move to it alone: whatever is drawn, the library's three tables being as the program's text lays them (the card ties them to the text of a pruned copy of the project). -/
import Derived.Test.YtdgpencendphbaaDoorCards
import Derived.Test.YtdgpencendphbaaDoorTie
import Derived.ProofKit
import Derived.LaidMore
import Derived.OpenShut
import Derived.ShutString
import Derived.ChangeOld
import Derived.Stop.Joined
import Derived.Stop.LaidErr
import Derived.SevenTiedAt
import Derived.Test.YtdgpencendphbaaDoorLawH
namespace Go.Proofs.YtdgpencendphbaaDoor
open Go.ChangeShapes Go.WideShapes Go.ChangeAt Go.RowKit
open Go.ChangeMaps (open_string shut_string)
set_option linter.unusedVariables false

theorem of_laid_FnMoves {W : World} (h : laidMetH Tryd.prog Rows.fnMovesRow.laid W) : Tens W := by
  rw [MakeChecks.laidMetH_plain _ _ _ (by kernel_rfl)] at h
  exact Lib.tabIs_of_head gTens (by kernel_rfl) Tryd.underlying134 Tryd.underlying106 (by kernel_rfl) (by kernel_rfl) (laidMet.tail (laidMet.tail h))

set_option maxRecDepth 100000 in
set_option maxHeartbeats 8000000 in
theorem walk_FnMoves (a : Option Addr) (len cap : Nat) (w : World) (hr : RowB w a len) (ht : Tens w) :
    Calls Tryd.prog 4 #[.slice a len cap] w fun e w' => e = .returned (.bool true) ∧ Below w.heap.size w w' := by
  by_cases hbig : len ≤ 1048576
  · obtain ⟨i0, hi0, hz0, hz1, hz2⟩ := info_parts Tryd.infoZ
    have CB := hide1 (big10_no a len cap w hbig)
    have HC := hide1 (hr.code hbig)
    have CD := hide1 (drawNodes_any w a len cap HC.out)
    have CP := hide1 (fun w' (hb : Below w.heap.size w w') => drawPl_any w' a len cap ((HC.out.below hb (Nat.le_refl _)).mono hb.size))
    have CWd := hide1 (fun w' (hb : Below w.heap.size w w') => drawWords_any w' a len cap ((HC.out.below hb (Nat.le_refl _)).mono hb.size))
    have hp := ht.pos
    have HT := hide1 (fun w' (hb : Below w.heap.size w w') => ht.below hb hp)
    clear hr ht
    go_enter Tryd.func4, Tryd.ntmps4
    go_wp2_with fail
    refine CB.out.mono ?_
    rintro e w0 ⟨rfl, hw0⟩
    obtain rfl : w = w0 := hw0
    go_wp2_with fail
    refine CD.out.mono ?_
    rintro e w1 ⟨L, bn, cn, rfl, hok, hL2, ho1, hb1⟩
    have HOK := hide1 hok
    have hL6 := hok.1.2
    have N1 := hide1 (rdZ_of_own ho1)
    have B1 := hide1 hb1
    clear hok ho1 hb1 CB CD
    go_wp2_with fail
    refine (CP.out w1 B1.out).mono ?_
    rintro e w2 ⟨xs, p, pc, hx12, hxl, rfl, hpb, hpl, hpc, hb2⟩
    have N2 := hide1 (N1.out.later hb2)
    have B2 := hide1 (B1.out.trans (hb2.mono B1.out.size))
    obtain ⟨y, hy⟩ : ∃ y, xs[0]'(by omega) = y := ⟨_, rfl⟩
    have hyl : y < 10000 := by rw [← hy]; exact hxl _ (List.getElem_mem _)
    have p0 : w2.cell? ⟨p, 0, none⟩ = some (.int .i64 (y : Int)) := by rw [← hy]; exact hpc 0 (by omega)
    clear hx12 hxl hpc hb2 hy CP N1 B1 hpb hpl xs
    obtain ⟨m, hm⟩ : ∃ m, y % L.length = m := ⟨_, rfl⟩
    have hml : m < L.length := by rw [← hm]; exact Nat.mod_lt _ (by omega)
    obtain ⟨b9, o9, e9, hb9, v9⟩ := N2.out m hml
    subst e9
    have HXL := hide1 (List.getElem_mem hml)
    generalize L[m] = x at *
    have hmi : (y : Int) % (L.length : Int) = (m : Int) := by rw [← hm, Int.natCast_emod]
    have hmt : ((y : Int)).tmod (L.length : Int) = (m : Int) := by rw [Int.tmod_eq_emod_of_nonneg (by omega)]; exact hmi
    have w3' : ((L.length : Int) == 0) = false := by rw [beq_eq_false_iff_ne]; omega
    have w4' : ¬ (L.length : Int) = 0 := by omega
    have w5' : ¬ L = [] := fun e => by rw [e] at hml; simp at hml
    have w6' : IntKind.i64.wrap (m : Int) = (m : Int) := IntWalk.i64_in _ ⟨by omega, by omega⟩
    have w7' : (m : Int) < (L.length : Int) := by omega
    have w8' : ((L.length : Int) == -1) = false := by rw [beq_eq_false_iff_ne]; omega
    have w9' : IntKind.i64.wrap ((y : Int) % (L.length : Int)) = (m : Int) := by rw [hmi]; exact w6'
    have G3 := hide1 (And.intro (owns_empty w2 3) ((Below.refl w2.heap.size w2).alloc (Nat.le_refl _) (.cells #[] 3)))
    clear hm
    go_wp2_with fail
    generalize (w2.alloc (.cells #[] 3)) = w3 at G3 ⊢
    clear p0 v9 hmi hmt w3' w4' w5' w6' w7' w8' w9'
    try go_wp2
    go_loopw [6, 7] (fun rv iv wr => ∃ i : Nat, i ≤ L.length ∧ iv = .int .i64 (i : Int) ∧ wr.ownsRow w2.heap.size 3 1 rv (restL (L.take i) x).length (iz (restL (L.take i) x)) ∧ Hid (Below w2.heap.size w2 wr)) (fun _ iv _ => L.length - (intOf iv).toNat)
    case atStart => exact ⟨0, by omega, rfl, G3.out.1, hide1 G3.out.2⟩
    case round =>
      clear G3
      obtain ⟨i, hi, rfl, hown, hbel⟩ := hrel
      have hbs := hbel.out.size
      obtain ⟨vo, vc, rfl⟩ := own_slice hown
      by_cases c1 : i < L.length
      · have k1 : (i : Int) < (L.length : Int) := by omega
        obtain ⟨b8, o8, e8, hb8, v8⟩ := N2.out i c1
        simp only [Option.some.injEq, Addr.mk.injEq, and_true] at e8
        obtain ⟨rfl, rfl⟩ := e8
        have n8 := (hbel.out.cell (p := ⟨b9, o9 + i, none⟩) hb8).trans v8
        have HN := hide1 (restL_next (x := x) c1)
        have hrl : (restL (L.take i) x).length ≤ 9 := Nat.le_trans (List.length_filter_le _ _) (by rw [List.length_take]; omega)
        generalize L[i] = z at *
        clear v8
        rcases hq : (z != x) with _ | _
        · have HG := hide1 (show restL (L.take (i + 1)) x = restL (L.take i) x by rw [HN.out, if_neg (by rw [hq]; simp)])
          have HO := hide1 hown
          clear hown HN
          go_wp2
          go_roundw
          case rel => exact ⟨i + 1, by omega, by go_num, by rw [HG.out]; exact HO.out, hbel⟩
          case measure => simp [intOf]; omega
        · have HG := hide1 (show restL (L.take (i + 1)) x = restL (L.take i) x ++ [z] by rw [HN.out, if_pos hq])
          clear HN
          generalize restL (L.take i) x = acc at *
          go_wp2_with (at_builtin; (refine wpList_push1 rfl _ _ 24 rfl w2.heap.size 3 i0 (.int .i64 0) 8 Tryd.underlying24 hi0 hz0 hz1 hz2 rfl (by decide) _ acc.length (iz acc) rfl hown _ rfl rfl (by omega) hbs ?_; intro v' w5 hown' hb'))
          go_roundw
          case rel =>
            refine ⟨i + 1, by omega, by go_num, ?_, hide1 (hbel.out.trans hb')⟩
            rw [HG.out, iz_append, List.length_append]
            exact hown'
          case measure => simp [intOf]; omega
      · obtain rfl : i = L.length := by omega
        have k1 : ¬ ((L.length : Nat) : Int) < (L.length : Int) := by omega
        rw [List.take_length] at hown
        obtain ⟨w4, hw4⟩ : ∃ W, W = wr := ⟨_, rfl⟩
        subst hw4
        have HRO := hide1 (rest_ok HOK.out hL2 HXL.out)
        have hrl := restL_length HOK.out.nodup HXL.out
        have HRL := hide1 hrl
        have hr6 : (restL L x).length ≤ 6 := by omega
        have B4 := hide1 (B2.out.trans (hbel.out.mono B2.out.size))
        have N4 := hide1 (N2.out.later hbel.out)
        have Q4 := hide1 (rdZ_of_own hown)
        rw [List.take_length]
        have HH := hide1 (fun (ks : List ByteArray) (z : ByteArray) (hz : z ∈ ks) => moved_has HOK.out hL2 HXL.out hz)
        clear hown hbel hrl N2 B2 hbs
        generalize restL L x = rs at *
        have CA := hide1 (implRing_any (some ⟨b9, o9, none⟩) L cn w4 (by omega) N4.out (HT.out w4 B4.out))
        go_wp2_with fail
        refine CA.out.mono ?_
        rintro e w5 ⟨ba, ca, RA, t, rfl, hA5, ho5, hb5⟩
        obtain ⟨rfl, rfl⟩ : RA = ringL spotF L ∧ t = true := by
          rcases hA5 with ⟨_, h2, h3⟩ | ⟨h1, _⟩
          · exact ⟨h2, h3⟩
          · exact absurd HOK.out h1
        have B5 := hide1 (B4.out.trans (hb5.mono B4.out.size))
        have N5 := hide1 (N4.out.later hb5)
        have Q5 := hide1 (Q4.out.later hb5)
        have P5 := hide1 (rdP_of_own ho5)
        obtain ⟨RA, hRA⟩ : ∃ R, ringL spotF L = R := ⟨_, rfl⟩
        have HRA := hide1 hRA
        have hra : RA.length ≤ 24 := by rw [← hRA, ringL_len]; omega
        rw [hRA] at P5 ⊢
        have G6 := hide1 (And.intro (Blk.new w5 28 #[.slice ba RA.length ca]) ((Below.refl w5.heap.size w5).alloc (Nat.le_refl _) (.cells #[.slice ba RA.length ca] 28)))
        clear ho5 hb5 hA5 CA N4 Q4 B4 hRA
        go_wp2_with fail
        generalize (w5.alloc (.cells #[.slice ba RA.length ca] 28)) = w6 at G6 ⊢
        have B6 := hide1 (B5.out.trans (G6.out.2.mono B5.out.size))
        have N6 := hide1 (N5.out.later G6.out.2)
        have Q6 := hide1 (Q5.out.later G6.out.2)
        have P6 := hide1 (P5.out.later G6.out.2)
        have V6 : Hid (VarR w6 28 w5.heap.size ba RA.length ca) := G6.out.1
        clear N5 Q5 P5 B5 G6
        have CA := hide1 (implRing_any vo rs vc w6 (by omega) Q6.out (HT.out w6 B6.out))
        refine CA.out.mono ?_
        rintro e w7 ⟨bb, cb, RB, t, rfl, hA7, ho7, hb7⟩
        obtain ⟨rfl, rfl⟩ : RB = ringL spotF rs ∧ t = true := by
          rcases hA7 with ⟨_, h2, h3⟩ | ⟨h1, _⟩
          · exact ⟨h2, h3⟩
          · exact absurd HRO.out h1
        obtain ⟨RB, hRB⟩ : ∃ R, ringL spotF rs = R := ⟨_, rfl⟩
        have HRB := hide1 hRB
        have hrb : RB.length ≤ 24 := by rw [← hRB, ringL_len]; omega
        rw [hRB] at ho7 ⊢
        have S7 := hide1 (show RdZ w7 (some ⟨b9, o9, none⟩) L ∧ RdP w7 ba RA ∧ RdP w7 bb RB ∧ VarR w7 28 w5.heap.size ba RA.length ca ∧ Below w.heap.size w w7 from ⟨N6.out.later hb7, P6.out.later hb7, rdP_of_own ho7, V6.out.later hb7, B6.out.trans (hb7.mono B6.out.size)⟩)
        have G8 := hide1 (And.intro (Blk.new w7 28 #[.slice bb RB.length cb]) ((Below.refl w7.heap.size w7).alloc (Nat.le_refl _) (.cells #[.slice bb RB.length cb] 28)))
        clear ho7 hb7 hA7 CA N6 Q6 P6 V6 B6 hRB
        go_wp2_with fail
        generalize (w7.alloc (.cells #[.slice bb RB.length cb] 28)) = w8 at G8 ⊢
        have S8 : Hid (StH w w8 w5.heap.size w7.heap.size (some ⟨b9, o9, none⟩) L ba RA ca bb RB cb) := ⟨S7.out.1.later G8.out.2, S7.out.2.1.later G8.out.2, S7.out.2.2.1.later G8.out.2, S7.out.2.2.2.1.later G8.out.2, G8.out.1, S7.out.2.2.2.2.trans (G8.out.2.mono S7.out.2.2.2.2.size)⟩
        clear S7 G8
        rw [HRA.out, HRB.out] at HH
        refine (CWd.out w8 S8.out.bel).mono ?_
        rintro e w9 ⟨ws, wo, wc, rfl, hw29, hw12, hwd, hb9'⟩
        have WD := hide1 hwd
        have HZ : Hid (∀ j (h : j < ws.length), (ws[j]).size ≤ 12) := fun j h => hw12 _ (List.getElem_mem h)
        have HZ2 : Hid (∀ j (h : j < ws.length), (ws[j]).size ≤ 1048576) := fun j h => Nat.le_trans (HZ.out j h) (by omega)
        have S9 := hide1 (S8.out.later hb9')
        clear hwd hw12 hb9' CWd S8
        have CAB := hide1 (fun w' (hb : Below w9.heap.size w9 w') => implMoved_any ba bb wo RA RB ws ca cb wc w' (by omega) (by omega) (by omega) HZ2.out (S9.out.ra.later hb) (S9.out.rb.later hb) (WD.out.toK.later hb))
        have CBA := hide1 (fun w' (hb : Below w9.heap.size w9 w') => implMoved_any bb ba wo RB RA ws cb ca wc w' (by omega) (by omega) (by omega) HZ2.out (S9.out.rb.later hb) (S9.out.ra.later hb) (WD.out.toK.later hb))
        have CAA := hide1 (fun w' (hb : Below w9.heap.size w9 w') => implMoved_any ba ba wo RA RA ws ca ca wc w' (by omega) (by omega) (by omega) HZ2.out (S9.out.ra.later hb) (S9.out.ra.later hb) (WD.out.toK.later hb))
        have CHm := hide1 (fun z (hz : z.size ≤ 12) w' (hb : Below w9.heap.size w9 w') => implHome_any ba RA ca z w' (by omega) (by omega) (S9.out.ra.later hb))
        rw [moved_comm RB RA] at CBA
        rw [moved_self] at CAA
        have hMl := Nat.le_trans (moved_len RA RB ws) hw29
        have HM := hide1 (fun z (hz : z ∈ ws) => HH.out ws z hz)
        clear HH
        unfold riV at CAB CBA CAA CHm
        generalize movedS RA RB ws = M at *
        have xa := S9.out.va.cells.2
        have xb := S9.out.vb.cells.2
        go_wp2_with fail
        refine (CAB.out w9 (Below.refl _ _)).mono ?_
        rintro e w10 ⟨mo, mc, rfl, ho10, hb10⟩
        have M10 := hide1 (rdQ_of_own ho10)
        have D10 := hide1 hb10
        have ya := (D10.out.cell (p := ⟨w5.heap.size, 0, none⟩) S9.out.va.cells.1).trans xa
        have yb := (D10.out.cell (p := ⟨w7.heap.size, 0, none⟩) S9.out.vb.cells.1).trans xb
        clear ho10 hb10 xa xb CAB
        go_wp2_with fail
        refine (CBA.out w10 D10.out).mono ?_
        rintro e w11 ⟨ko, kc, rfl, ho11, hb11⟩
        have K11 := hide1 (rdQ_of_own ho11)
        have M11 := hide1 (M10.out.later hb11)
        have D11 := hide1 (D10.out.trans (hb11.mono D10.out.size))
        clear ho11 hb11 ya yb CBA M10 D10
        have CT := hide1 (sameT_any mo ko M M mc kc w11 (by omega) M11.out K11.out)
        go_wp2_with fail
        refine CT.out.mono ?_
        rintro e w12 ⟨xq, rfl, hxq, hb12⟩
        obtain rfl : xq = true := by simpa using hxq
        have M12 := hide1 (M11.out.later hb12)
        have D12 := hide1 (D11.out.trans (hb12.mono D11.out.size))
        clear hxq hb12 CT K11 M11 D11
        go_wp2
        go_loopw [15] (fun iv wr => ∃ i : Nat, i ≤ ws.length ∧ iv = .int .i64 (i : Int) ∧ Hid (Below w12.heap.size w12 wr)) (fun iv _ => ws.length - (intOf iv).toNat)
        case atStart => exact ⟨0, by omega, rfl, hide1 (Below.refl _ _)⟩
        case round =>
          obtain ⟨i, hi, rfl, hbel⟩ := hrel
          have DR := hide1 (D12.out.trans (hbel.out.mono D12.out.size))
          have xa := ((S9.out.later DR.out).va.cells).2
          have lxa := ((S9.out.later DR.out).va.cells).1
          by_cases c1 : i < ws.length
          · have k1' : (i : Int) < (ws.length : Int) := by omega
            obtain ⟨g, rfl, hg, n0⟩ := (WD.out.later DR.out) i c1
            have hz := HZ.out i c1
            have HMi := hide1 (HM.out ws[i] (List.getElem_mem c1))
            generalize ws[i] = z at *
            have CHs := hide1 (fun w' (hb : Below wr.heap.size wr w') => lawHasT_any mo M mc z w' (by omega) ((M12.out.later hbel.out).later hb))
            have CHo := hide1 (fun w' (hb : Below wr.heap.size wr w') => CHm.out z hz w' (DR.out.trans (hb.mono DR.out.size)))
            obtain ⟨hv, hhv⟩ : ∃ hv, homeS RA (hashN z 0 : Int) = hv := ⟨_, rfl⟩
            rw [hhv] at CHo HMi
            rw [HMi.out] at CHs
            obtain ⟨q, hq⟩ : ∃ q, (hv == x) = q := ⟨_, rfl⟩
            rw [hq] at CHs
            have qq : (q != q) = false := by simp
            have ZX := hide1 (And.intro xa n0)
            clear hhv HMi
            go_wp2
            go_region_held3 (fun w' => w'.cell? ⟨w5.heap.size, 0, none⟩ = some (.slice ba RA.length ca) ∧ w'.cell? ⟨g, i, none⟩ = some (.string z)) (first | go_keep | exact ⟨(D2.out.cell (p := ⟨w5.heap.size, 0, none⟩) lxa).trans ZX.out.1, (D2.out.cell (p := ⟨g, i, none⟩) hg).trans ZX.out.2⟩ | exact ZX.out) ((first | (go_at_call 15; refine (CHo.out _ (show Below wr.heap.size wr _ by go_grown)).mono ?_; rintro e wh ⟨rfl, hbh⟩; have D2 : Hid (Below wr.heap.size wr wh) := (show Below wr.heap.size wr _ by go_grown).trans (hbh.mono (by go_size)); clear hbh) | (go_at_call 21; refine (CHs.out _ (show Below wr.heap.size wr _ by go_grown)).mono ?_; rintro e wg ⟨rfl, rfl⟩)))
            go_wp2
            go_roundw
            case rel => exact ⟨i + 1, by omega, by go_num, hide1 (hbel.out.trans (D2.out.mono hbel.out.size))⟩
            case measure => simp [intOf]; omega
          · have k1' : ¬ (i : Int) < (ws.length : Int) := by omega
            have SR := hide1 (S9.out.later DR.out)
            have CAe := hide1 (CAA.out wr DR.out)
            have q0 : (((([] : List ByteArray).length : Nat) : Int) == 0) = true := by rfl
            have q1 : ((RA.length : Int) == (RB.length : Int) + 4) = true := by
              have e1 : RA.length = 4 * L.length := by rw [← HRA.out, ringL_len]
              have e2 : RB.length = 4 * rs.length := by rw [← HRB.out, ringL_len]
              have e3 := HRL.out
              rw [beq_iff_eq]
              omega
            have lb := SR.out.vb.cells.1
            have la := SR.out.va.cells.1
            go_wp2_with fail
            refine CAe.out.mono ?_
            rintro e wz ⟨zo, zc, rfl, hoz, hbz⟩
            have za := (hbz.cell (p := ⟨w5.heap.size, 0, none⟩) la).trans SR.out.va.cells.2
            have zb := (hbz.cell (p := ⟨w7.heap.size, 0, none⟩) lb).trans SR.out.vb.cells.2
            have BZ := hide1 ((SR.out.later hbz).bel)
            clear hoz hbz CAe
            go_wp2
            go_ret
            exact ⟨rfl, BZ.out⟩
  · have CB := hide1 (big10_yes a len cap w hbig)
    clear hr ht
    go_enter Tryd.func4, Tryd.ntmps4
    go_wp2_with fail
    refine CB.out.mono ?_
    rintro e w0 ⟨rfl, rfl⟩
    go_wp2
    go_ret
    exact ⟨rfl, Below.refl _ _⟩

theorem door_met_FnMoves (os : Os) (args : Array Value) : laidMetH Tryd.prog Rows.fnMovesRow.laid ((World.doorLaid Tryd.prog 24 os).forCall (fun _ _ => 0) ⟨#[], args, []⟩).memory :=
  laidMetH_of_parts3 (fuel := 8) (laidMet_of_run' 8 (by kernel_rfl) (by kernel_rfl)) (by kernel_rfl) (by kernel_rfl)

set_option maxRecDepth 100000 in
theorem lifted_FnMoves (os : Os) (started : os.Started) (H : Type) (enc : TypeId × Value → H) :
    ReturnsInHanded {} Tryd.checked os 4 .any (fun w args => (Rows.fnMovesSpec.pre enc Tryd.prog Tryd.f4 [] false w args ∧ laidMetH Tryd.prog Rows.fnMovesRow.laid w) ∧ sizedMet enc Tryd.prog Tryd.f4 (OpenSpec.ofChange Rows.fnMovesSpec) false w args)
      (Rows.fnMovesSpec.post enc Tryd.prog Tryd.f4 false true false false) := by
  refine returnsInHanded_of_change_and (C := Tryd.checked) (X := fun w _ => laidMetH Tryd.prog Rows.fnMovesRow.laid w) (fun _ _ _ hh h => h.of_heap hh) (show ownKnob Tryd.prog.godebug = none by kernel_rfl) started (by kernel_rfl) Tryd.func4
    (ChangeSpec.witness_shaped (enc := enc) (C := Tryd.checked) (os := os) (X := fun w _ => laidMetH Tryd.prog Rows.fnMovesRow.laid w) false (World.doorLaid Tryd.prog 24 os) #[.slice none 0 0] 8 rfl (World.shaped_of_RefB (by kernel_rfl) (by kernel_rfl)) (by kernel_rfl) (by kernel_rfl) (by kernel_rfl) (door_met_FnMoves os _)) ?_
  intro W base args ds gs before hval0 hW _ _ hL _
  have hval : ∀ (j : Nat) t v, Tryd.f4.params[j]? = some t → args[j]? = some v → Value.okWide Tryd.prog W .any base t v := hval0
  have hW' := hW
  obtain ⟨p, q, hA0, hV, rfl, hfz, hnd⟩ := hW
  have hA : DataW.TrodAll enc Tryd.prog W 0 (fun _ => true) true Tryd.f4.params.toList args.toList ds p := hA0
  rw [Tryd.params4] at hA hval
  obtain ⟨v0, d0, rfl, rfl, h0⟩ := trodAll_one hA
  obtain ⟨rfl, rfl⟩ := trodVars_none hV
  obtain ⟨a0, len0, cap0, rfl⟩ := okWide_slice Tryd.underlying22 (hval 0 22 v0 rfl rfl)
  have k0 := h0
  have lt0 : ∀ x ∈ p, x.block < W.heap.size := by obtain ⟨m, hm⟩ := k0; exact DataW.trod_lt m _ _ _ hm
  have r0 : RowB W a0 len0 := by
    obtain ⟨fuel, hf⟩ := h0
    rcases Go.ChangeShapes.open_ints Tryd.underlying22 Tryd.underlying5 (by kernel_rfl) hf with ⟨hcs, _⟩ | ⟨x, l, c, zs, hcs, _, hl, hm, hz, _, hcell, hwz⟩
    · simp [Value.cells] at hcs
      obtain ⟨rfl, rfl, rfl⟩ := hcs
      exact fun j hj => absurd hj (Nat.not_lt_zero _)
    · simp [Value.cells] at hcs
      obtain ⟨rfl, rfl, rfl⟩ := hcs
      exact rowB_of hl (by simpa using hz) hcell (fun n hn => bounds_u8 (hwz n hn))
  have hX := of_laid_FnMoves hL
  clear hA0 hval0
  refine (walk_FnMoves a0 len0 cap0 W r0 hX).mono fun e W' ⟨he, bel⟩ => ?_
  subst he
  exact ⟨_, rfl, _, _, _, [], _, [], hW', trodAll_mk1 (shut_bool Tryd.underlying4 _), trodAll_mk1 (Below.trod (show laidOutB Tryd.prog = true by kernel_rfl) (by kernel_rfl) (of_decide_eq_true (by kernel_rfl)) k0 bel lt0), rfl, bel.frame _, fun h => by cases h⟩

theorem row_FnMoves : Rows.FnMovesSaid :=
  OpenClaim.holds_of_wide 4 Tryd.f4 rfl rfl rfl rfl rfl rfl rfl ⟨rfl, rfl, rfl, rfl, rfl⟩ rfl rfl rfl rfl rfl (by kernel_rfl) Tryd.func4 (by kernel_rfl)
    (of_decide_eq_true (by kernel_rfl)) (by unfold Func.isWrapper; first | (rw [if_pos (by decide +kernel)]; kernel_rfl) | (rw [if_neg (by decide +kernel)]; exact ⟨rfl, rfl⟩))
    (fun os started H enc _ => lifted_FnMoves os started H enc)

theorem proved_FnMoves : Rows.FnMovesCardSaid :=
  Claim7.holds_tied_plain_at .later [] Rows.fnMovesCard.laidKinds true Rows.fnMovesCard.stood.harness false
    row_FnMoves (fun _ h => by cases h) (by kernel_rfl) (fun _ h => by cases h) fnMoves_row_tie rfl ⟨rfl, rfl⟩ (by kernel_rfl) rfl
    (fun f fn hf hfn => by
      obtain rfl : f = 4 := Option.some.inj ((show Tryd.prog.funcNamed Tryd.f4.name = some 4 by kernel_rfl).symm.trans hf) |>.symm
      obtain rfl : fn = Tryd.f4 := (Option.some.inj (Tryd.func4.symm.trans hfn)).symm
      exact ⟨by kernel_rfl, fun j t ht => by
        rw [Tryd.params4] at ht
        have hm : t ∈ ([22] : List TypeId) := by simpa using Array.mem_of_getElem? ht
        have hall : (([22] : List TypeId).all fun u => !Tryd.prog.wantsStandIn u) = true := by kernel_rfl
        exact (show Tryd.prog.wantsStandIn t = false by simpa using List.all_eq_true.1 hall t hm)⟩)
    (by kernel_rfl)
#print axioms proved_FnMoves
end Go.Proofs.YtdgpencendphbaaDoor
