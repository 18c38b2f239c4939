/- When a node goes from a ring of drawn nodes, the homes of a key are the others that it had, in order, and one more: whatever is drawn, the library's three tables being as the program's text lays them (the card ties them to the text of a pruned copy of the project). -/
import Derived.Test.YtdgpencendphbaaDoorCards
import Derived.Test.YtdgpencendphbaaDoorTie
import Derived.ProofKit
import Derived.LaidMore
import Derived.OpenShut
import Derived.ShutString
import Derived.ChangeOld
import Derived.Stop.Joined
import Derived.Stop.LaidErr
import Derived.SevenTiedAt
import Derived.Test.YtdgpencendphbaaDoorLawH
namespace Go.Proofs.YtdgpencendphbaaDoor
open Go.ChangeShapes Go.WideShapes Go.ChangeAt Go.RowKit
open Go.ChangeMaps (open_string shut_string)
set_option linter.unusedVariables false

theorem of_laid_FnHomes {W : World} (h : laidMetH Tryd.prog Rows.fnHomesRow.laid W) : Tens W := by
  rw [MakeChecks.laidMetH_plain _ _ _ (by kernel_rfl)] at h
  exact Lib.tabIs_of_head gTens (by kernel_rfl) Tryd.underlying134 Tryd.underlying106 (by kernel_rfl) (by kernel_rfl) (laidMet.tail (laidMet.tail h))

theorem own_lit2 (w : World) (s t : ByteArray) : (w.alloc (.cells #[.string s, .string t] 9)).ownsRow w.heap.size 9 1 (.slice (some ⟨w.heap.size, 0, none⟩) 2 2) 2 (sc [s, t]) :=
  ⟨rfl, .inr ⟨w.heap.size, 2, #[.string s, .string t], rfl, Nat.le_refl _, heap_alloc_new w _, Nat.le_refl _, by unfold maxLen; omega, rfl, rfl⟩⟩

set_option maxRecDepth 100000 in
set_option maxHeartbeats 8000000 in
theorem walk_FnHomes (a : Option Addr) (len cap : Nat) (w : World) (hr : RowB w a len) (ht : Tens w) :
    Calls Tryd.prog 5 #[.slice a len cap] w fun e w' => e = .returned (.bool true) ∧ Below w.heap.size w w' := by
  by_cases hbig : len ≤ 1048576
  · obtain ⟨i0, hi0, hz0, hz1, hz2⟩ := info_parts Tryd.infoZ
    have CB := hide1 (big10_no a len cap w hbig)
    have HC := hide1 (hr.code hbig)
    have CD := hide1 (drawNodes_any w a len cap HC.out)
    have CP := hide1 (fun w' (hb : Below w.heap.size w w') => drawPl_any w' a len cap ((HC.out.below hb (Nat.le_refl _)).mono hb.size))
    have CWd := hide1 (fun w' (hb : Below w.heap.size w w') => drawWords_any w' a len cap ((HC.out.below hb (Nat.le_refl _)).mono hb.size))
    have hp := ht.pos
    have HT := hide1 (fun w' (hb : Below w.heap.size w w') => ht.below hb hp)
    clear hr ht
    go_enter Tryd.func5, Tryd.ntmps5
    go_wp2_with fail
    refine CB.out.mono ?_
    rintro e w0 ⟨rfl, hw0⟩
    obtain rfl : w = w0 := hw0
    go_wp2_with fail
    refine CD.out.mono ?_
    rintro e w1 ⟨L, bn, cn, rfl, hok, hL2, ho1, hb1⟩
    have HOK := hide1 hok
    have hL6 := hok.1.2
    have N1 := hide1 (rdZ_of_own ho1)
    have B1 := hide1 hb1
    clear hok ho1 hb1 CB CD
    go_wp2_with fail
    refine (CP.out w1 B1.out).mono ?_
    rintro e w2 ⟨xs, p, pc, hx12, hxl, rfl, hpb, hpl, hpc, hb2⟩
    have N2 := hide1 (N1.out.later hb2)
    have B2 := hide1 (B1.out.trans (hb2.mono B1.out.size))
    obtain ⟨y, hy⟩ : ∃ y, xs[0]'(by omega) = y := ⟨_, rfl⟩
    have hyl : y < 10000 := by rw [← hy]; exact hxl _ (List.getElem_mem _)
    have p0 : w2.cell? ⟨p, 0, none⟩ = some (.int .i64 (y : Int)) := by rw [← hy]; exact hpc 0 (by omega)
    clear hx12 hxl hpc hb2 hy CP N1 B1 hpb hpl xs
    obtain ⟨m, hm⟩ : ∃ m, y % L.length = m := ⟨_, rfl⟩
    have hml : m < L.length := by rw [← hm]; exact Nat.mod_lt _ (by omega)
    obtain ⟨b9, o9, e9, hb9, v9⟩ := N2.out m hml
    subst e9
    have HXL := hide1 (List.getElem_mem hml)
    generalize L[m] = x at *
    have hmi : (y : Int) % (L.length : Int) = (m : Int) := by rw [← hm, Int.natCast_emod]
    have hmt : ((y : Int)).tmod (L.length : Int) = (m : Int) := by rw [Int.tmod_eq_emod_of_nonneg (by omega)]; exact hmi
    have w3' : ((L.length : Int) == 0) = false := by rw [beq_eq_false_iff_ne]; omega
    have w4' : ¬ (L.length : Int) = 0 := by omega
    have w5' : ¬ L = [] := fun e => by rw [e] at hml; simp at hml
    have w6' : IntKind.i64.wrap (m : Int) = (m : Int) := IntWalk.i64_in _ ⟨by omega, by omega⟩
    have w7' : (m : Int) < (L.length : Int) := by omega
    have w8' : ((L.length : Int) == -1) = false := by rw [beq_eq_false_iff_ne]; omega
    have w9' : IntKind.i64.wrap ((y : Int) % (L.length : Int)) = (m : Int) := by rw [hmi]; exact w6'
    have G3 := hide1 (And.intro (owns_empty w2 3) ((Below.refl w2.heap.size w2).alloc (Nat.le_refl _) (.cells #[] 3)))
    clear hm
    go_wp2_with fail
    generalize (w2.alloc (.cells #[] 3)) = w3 at G3 ⊢
    clear p0 v9 hmi hmt w3' w4' w5' w6' w7' w8' w9'
    try go_wp2
    go_loopw [6, 7] (fun rv iv wr => ∃ i : Nat, i ≤ L.length ∧ iv = .int .i64 (i : Int) ∧ wr.ownsRow w2.heap.size 3 1 rv (restL (L.take i) x).length (iz (restL (L.take i) x)) ∧ Hid (Below w2.heap.size w2 wr)) (fun _ iv _ => L.length - (intOf iv).toNat)
    case atStart => exact ⟨0, by omega, rfl, G3.out.1, hide1 G3.out.2⟩
    case round =>
      clear G3
      obtain ⟨i, hi, rfl, hown, hbel⟩ := hrel
      have hbs := hbel.out.size
      obtain ⟨vo, vc, rfl⟩ := own_slice hown
      by_cases c1 : i < L.length
      · have k1 : (i : Int) < (L.length : Int) := by omega
        obtain ⟨b8, o8, e8, hb8, v8⟩ := N2.out i c1
        simp only [Option.some.injEq, Addr.mk.injEq, and_true] at e8
        obtain ⟨rfl, rfl⟩ := e8
        have n8 := (hbel.out.cell (p := ⟨b9, o9 + i, none⟩) hb8).trans v8
        have HN := hide1 (restL_next (x := x) c1)
        have hrl : (restL (L.take i) x).length ≤ 9 := Nat.le_trans (List.length_filter_le _ _) (by rw [List.length_take]; omega)
        generalize L[i] = z at *
        clear v8
        rcases hq : (z != x) with _ | _
        · have HG := hide1 (show restL (L.take (i + 1)) x = restL (L.take i) x by rw [HN.out, if_neg (by rw [hq]; simp)])
          have HO := hide1 hown
          clear hown HN
          go_wp2
          go_roundw
          case rel => exact ⟨i + 1, by omega, by go_num, by rw [HG.out]; exact HO.out, hbel⟩
          case measure => simp [intOf]; omega
        · have HG := hide1 (show restL (L.take (i + 1)) x = restL (L.take i) x ++ [z] by rw [HN.out, if_pos hq])
          clear HN
          generalize restL (L.take i) x = acc at *
          go_wp2_with (at_builtin; (refine wpList_push1 rfl _ _ 24 rfl w2.heap.size 3 i0 (.int .i64 0) 8 Tryd.underlying24 hi0 hz0 hz1 hz2 rfl (by decide) _ acc.length (iz acc) rfl hown _ rfl rfl (by omega) hbs ?_; intro v' w5 hown' hb'))
          go_roundw
          case rel =>
            refine ⟨i + 1, by omega, by go_num, ?_, hide1 (hbel.out.trans hb')⟩
            rw [HG.out, iz_append, List.length_append]
            exact hown'
          case measure => simp [intOf]; omega
      · obtain rfl : i = L.length := by omega
        have k1 : ¬ ((L.length : Nat) : Int) < (L.length : Int) := by omega
        rw [List.take_length] at hown
        obtain ⟨w4, hw4⟩ : ∃ W, W = wr := ⟨_, rfl⟩
        subst hw4
        have HRO := hide1 (rest_ok HOK.out hL2 HXL.out)
        have hrl := restL_length HOK.out.nodup HXL.out
        have HRL := hide1 hrl
        have hr6 : (restL L x).length ≤ 6 := by omega
        have B4 := hide1 (B2.out.trans (hbel.out.mono B2.out.size))
        have N4 := hide1 (N2.out.later hbel.out)
        have Q4 := hide1 (rdZ_of_own hown)
        rw [List.take_length]
        have HH := hide1 (fun (n : Int) => And.intro (homes9_len HOK.out n) (homes9_rest HOK.out hL2 HXL.out n))
        clear hown hbel hrl N2 B2 hbs
        generalize restL L x = rs at *
        have CA := hide1 (implRing_any (some ⟨b9, o9, none⟩) L cn w4 (by omega) N4.out (HT.out w4 B4.out))
        go_wp2_with fail
        refine CA.out.mono ?_
        rintro e w5 ⟨ba, ca, RA, t, rfl, hA5, ho5, hb5⟩
        obtain ⟨rfl, rfl⟩ : RA = ringL spotF L ∧ t = true := by
          rcases hA5 with ⟨_, h2, h3⟩ | ⟨h1, _⟩
          · exact ⟨h2, h3⟩
          · exact absurd HOK.out h1
        have B5 := hide1 (B4.out.trans (hb5.mono B4.out.size))
        have N5 := hide1 (N4.out.later hb5)
        have Q5 := hide1 (Q4.out.later hb5)
        have P5 := hide1 (rdP_of_own ho5)
        obtain ⟨RA, hRA⟩ : ∃ R, ringL spotF L = R := ⟨_, rfl⟩
        have HRA := hide1 hRA
        have hra : RA.length ≤ 24 := by rw [← hRA, ringL_len]; omega
        rw [hRA] at P5 ⊢
        have G6 := hide1 (And.intro (Blk.new w5 28 #[.slice ba RA.length ca]) ((Below.refl w5.heap.size w5).alloc (Nat.le_refl _) (.cells #[.slice ba RA.length ca] 28)))
        clear ho5 hb5 hA5 CA N4 Q4 B4 hRA
        go_wp2_with fail
        generalize (w5.alloc (.cells #[.slice ba RA.length ca] 28)) = w6 at G6 ⊢
        have B6 := hide1 (B5.out.trans (G6.out.2.mono B5.out.size))
        have N6 := hide1 (N5.out.later G6.out.2)
        have Q6 := hide1 (Q5.out.later G6.out.2)
        have P6 := hide1 (P5.out.later G6.out.2)
        have V6 : Hid (VarR w6 28 w5.heap.size ba RA.length ca) := G6.out.1
        clear N5 Q5 P5 B5 G6
        have CA := hide1 (implRing_any vo rs vc w6 (by omega) Q6.out (HT.out w6 B6.out))
        refine CA.out.mono ?_
        rintro e w7 ⟨bb, cb, RB, t, rfl, hA7, ho7, hb7⟩
        obtain ⟨rfl, rfl⟩ : RB = ringL spotF rs ∧ t = true := by
          rcases hA7 with ⟨_, h2, h3⟩ | ⟨h1, _⟩
          · exact ⟨h2, h3⟩
          · exact absurd HRO.out h1
        obtain ⟨RB, hRB⟩ : ∃ R, ringL spotF rs = R := ⟨_, rfl⟩
        have HRB := hide1 hRB
        have hrb : RB.length ≤ 24 := by rw [← hRB, ringL_len]; omega
        rw [hRB] at ho7 ⊢
        have S7 := hide1 (show RdZ w7 (some ⟨b9, o9, none⟩) L ∧ RdP w7 ba RA ∧ RdP w7 bb RB ∧ VarR w7 28 w5.heap.size ba RA.length ca ∧ Below w.heap.size w w7 from ⟨N6.out.later hb7, P6.out.later hb7, rdP_of_own ho7, V6.out.later hb7, B6.out.trans (hb7.mono B6.out.size)⟩)
        have G8 := hide1 (And.intro (Blk.new w7 28 #[.slice bb RB.length cb]) ((Below.refl w7.heap.size w7).alloc (Nat.le_refl _) (.cells #[.slice bb RB.length cb] 28)))
        clear ho7 hb7 hA7 CA N6 Q6 P6 V6 B6 hRB
        go_wp2_with fail
        have E8 := hide1 (show (w7.alloc (.cells #[.slice bb RB.length cb] 28)).heap.size = w7.heap.size + 1 from World.size_alloc _ _)
        have O9 := hide1 (own_lit2 (w7.alloc (.cells #[.slice bb RB.length cb] 28)) ⟨#[111, 110, 101]⟩ ⟨#[116, 119, 111]⟩)
        rw [E8.out] at O9
        generalize (w7.alloc (.cells #[.slice bb RB.length cb] 28)) = w8 at G8 O9 E8 ⊢
        have S8 : Hid (StH w w8 w5.heap.size w7.heap.size (some ⟨b9, o9, none⟩) L ba RA ca bb RB cb) := ⟨S7.out.1.later G8.out.2, S7.out.2.1.later G8.out.2, S7.out.2.2.1.later G8.out.2, S7.out.2.2.2.1.later G8.out.2, G8.out.1, S7.out.2.2.2.2.trans (G8.out.2.mono S7.out.2.2.2.2.size)⟩
        clear S7 G8
        have HWA := hide1 (ring_wf HOK.out)
        have HWB := hide1 (ring_wf HRO.out)
        rw [HRA.out] at HWA
        rw [HRB.out] at HWB
        rw [HRA.out, HRB.out] at HH
        have G9 := hide1 ((Below.refl w8.heap.size w8).alloc (Nat.le_refl _) (.cells #[.string ⟨#[111, 110, 101]⟩, .string ⟨#[116, 119, 111]⟩] 9))
        generalize (w8.alloc (.cells #[.string ⟨#[111, 110, 101]⟩, .string ⟨#[116, 119, 111]⟩] 9)) = w9 at O9 G9 ⊢
        have S9 := hide1 (S8.out.later G9.out)
        refine (CWd.out w9 S9.out.bel).mono ?_
        rintro e w10 ⟨ws0, wo0, wc0, rfl, hw29, hw12, hwd, hb10⟩
        have W10 := hide1 hwd.toK
        have HZ0 := hide1 hw12
        have D10 := hide1 (G9.out.trans (hb10.mono G9.out.size))
        have O10 := own_kept O9.out hb10
        have hs10 : w7.heap.size + 1 ≤ w10.heap.size := by have := E8.out; have := G9.out.size; have := hb10.size; omega
        clear hwd hw12 hb10 CWd O9 S9 G9
        go_wp2_with (at_builtin; (refine wpList_appT rfl _ _ 34 rfl Tryd.underlying34 (w7.heap.size + 1) _ 2 [⟨#[111, 110, 101]⟩, ⟨#[116, 119, 111]⟩] rfl O10 wo0 ws0.length wc0 ws0 rfl rfl W10.out (by omega) hs10 ?_; intro v' w11 hown11 hg11))
        have S11 := hide1 (S8.out.later (D10.out.trans (gbelow hg11 (fun k hk => by have := (O10.lt k hk).1; have := E8.out; omega) (by have := E8.out; omega))))
        obtain ⟨wo, wc, rfl⟩ := own_slice hown11
        obtain ⟨ws, hws⟩ : ∃ ws, [(⟨#[111, 110, 101]⟩ : ByteArray), ⟨#[116, 119, 111]⟩] ++ ws0 = ws := ⟨_, rfl⟩
        have hwl : 2 + ws0.length = ws.length := by rw [← hws]; simp; omega
        have hwm : ws.length ≤ 31 := by omega
        rw [hws, hwl] at hown11
        rw [hwl]
        have WD := hide1 (rdQ_of_own hown11)
        have hall : ∀ z ∈ ws, z.size ≤ 12 := by
          rw [← hws]
          intro z hz
          rcases List.mem_append.1 hz with e | e
          · simp only [List.mem_cons, List.not_mem_nil, or_false] at e
            rcases e with rfl | rfl
            · show 3 ≤ 12; omega
            · show 3 ≤ 12; omega
          · exact HZ0.out z e
        have HZ : Hid (∀ j (h : j < ws.length), (ws[j]).size ≤ 12) := fun j h => hall _ (List.getElem_mem h)
        clear hall hown11 hg11 hws hwl O10 W10 HZ0 D10 S8
        have CHa := hide1 (fun z (hz : z.size ≤ 12) w' (hb : Below w11.heap.size w11 w') => implHomes_any ba RA ca z 9 w' (by omega) (by omega) (S11.out.ra.later hb) HWA.out)
        have CHb := hide1 (fun z (hz : z.size ≤ 12) w' (hb : Below w11.heap.size w11 w') => implHomes_any bb RB cb z 9 w' (by omega) (by omega) (S11.out.rb.later hb) HWB.out)
        unfold riV at CHa CHb
        rw [show (9 : Int).toNat = 9 from rfl] at CHa CHb
        go_wp2
        go_loopw [13] (fun iv wr => ∃ i : Nat, i ≤ ws.length ∧ iv = .int .i64 (i : Int) ∧ Hid (Below w11.heap.size w11 wr)) (fun iv _ => ws.length - (intOf iv).toNat)
        case atStart => exact ⟨0, by omega, rfl, hide1 (Below.refl _ _)⟩
        case round =>
          obtain ⟨i, hi, rfl, hbel⟩ := hrel
          have xa := ((S11.out.later hbel.out).va.cells).2
          have lxa := ((S11.out.later hbel.out).va.cells).1
          by_cases c1 : i < ws.length
          · have k1' : (i : Int) < (ws.length : Int) := by omega
            obtain ⟨g, o, rfl, hg, n0⟩ := (WD.out.later hbel.out) i c1
            have hz := HZ.out i c1
            generalize ws[i] = z at *
            have CA1 := hide1 (fun w' (hb : Below wr.heap.size wr w') => CHa.out z hz w' (hbel.out.trans (hb.mono hbel.out.size)))
            have CB1 := hide1 (fun w' (hb : Below wr.heap.size wr w') => CHb.out z hz w' (hbel.out.trans (hb.mono hbel.out.size)))
            obtain ⟨H1, H2⟩ := HH.out (hashN z 0 : Int)
            obtain ⟨A9, hA9⟩ : ∃ A9, homesS RA (hashN z 0 : Int) 9 = A9 := ⟨_, rfl⟩
            rw [hA9] at CA1 H1 H2
            rw [H2] at CB1
            have HL9 := hide1 H1
            have hA6 : A9.length ≤ 6 := by omega
            have q9 : ((A9.length : Int) != (L.length : Int)) = false := by rw [H1]; simp
            have ZX := hide1 (And.intro xa n0)
            have XB := hide1 ((S11.out.later hbel.out).vb.cells)
            clear hA9 H1 H2
            go_wp2
            go_region_held3 (fun w' => w'.cell? ⟨w5.heap.size, 0, none⟩ = some (.slice ba RA.length ca) ∧ w'.cell? ⟨g, o + i, none⟩ = some (.string z)) (first | go_keep | exact ⟨(D2.out.cell (p := ⟨w5.heap.size, 0, none⟩) lxa).trans ZX.out.1, (D2.out.cell (p := ⟨g, o + i, none⟩) hg).trans ZX.out.2⟩ | exact ZX.out) ((go_at_call 16; refine (CA1.out _ (show Below wr.heap.size wr _ by go_grown)).mono ?_; rintro e wh ⟨ao9, ac9, rfl, hoh, hbh⟩; have D2 : Hid (Below wr.heap.size wr wh) := (show Below wr.heap.size wr _ by go_grown).trans (hbh.mono (by go_size)); have A2 := hide1 (rdZ_of_own hoh); clear hoh hbh))
            have G20 := hide1 (And.intro (owns_empty wh 3) ((Below.refl wh.heap.size wh).alloc (Nat.le_refl _) (.cells #[] 3)))
            clear xa n0 CA1
            go_wp2_with fail
            generalize (wh.alloc (.cells #[] 3)) = wl at G20 ⊢
            try go_wp2
            obtain ⟨WR, hWR⟩ : ∃ W, W = wr := ⟨_, rfl⟩
            subst hWR
            go_loopw [15, 16] (fun rv jv wv => ∃ j : Nat, j ≤ A9.length ∧ jv = .int .i64 (j : Int) ∧ wv.ownsRow wh.heap.size 3 1 rv (restL (A9.take j) x).length (iz (restL (A9.take j) x)) ∧ Hid (Below wh.heap.size wh wv)) (fun _ jv _ => A9.length - (intOf jv).toNat)
            case atStart => exact ⟨0, by omega, rfl, G20.out.1, hide1 G20.out.2⟩
            case round =>
              clear G20
              obtain ⟨j, hj, rfl, hown, hbel2⟩ := hrel
              have hbs := hbel2.out.size
              obtain ⟨vo2, vc2, rfl⟩ := own_slice hown
              by_cases c2 : j < A9.length
              · have k2 : (j : Int) < (A9.length : Int) := by omega
                obtain ⟨b8, o8, e8, hb8, v8⟩ := A2.out j c2
                subst e8
                have n8 := (hbel2.out.cell (p := ⟨b8, o8 + j, none⟩) hb8).trans v8
                have HN := hide1 (restL_next (x := x) c2)
                have hrl : (restL (A9.take j) x).length ≤ 9 := Nat.le_trans (List.length_filter_le _ _) (by rw [List.length_take]; omega)
                generalize A9[j] = y9 at *
                clear v8
                rcases hq : (y9 != x) with _ | _
                · have HG := hide1 (show restL (A9.take (j + 1)) x = restL (A9.take j) x by rw [HN.out, if_neg (by rw [hq]; simp)])
                  have HO := hide1 hown
                  clear hown HN
                  go_wp2
                  go_roundw
                  case rel => exact ⟨j + 1, by omega, by go_num, by rw [HG.out]; exact HO.out, hbel2⟩
                  case measure => simp [intOf]; omega
                · have HG := hide1 (show restL (A9.take (j + 1)) x = restL (A9.take j) x ++ [y9] by rw [HN.out, if_pos hq])
                  clear HN
                  generalize restL (A9.take j) x = acc at *
                  go_wp2_with (at_builtin; (refine wpList_push1 rfl _ _ 24 rfl wh.heap.size 3 i0 (.int .i64 0) 8 Tryd.underlying24 hi0 hz0 hz1 hz2 rfl (by decide) _ acc.length (iz acc) rfl hown _ rfl rfl (by omega) hbs ?_; intro v' w5 hown' hb'))
                  go_roundw
                  case rel =>
                    refine ⟨j + 1, by omega, by go_num, ?_, hide1 (hbel2.out.trans hb')⟩
                    rw [HG.out, iz_append, List.length_append]
                    exact hown'
                  case measure => simp [intOf]; omega
              · obtain rfl : j = A9.length := by omega
                rw [List.take_length] at hown
                rw [List.take_length]
                obtain ⟨W2, hW2⟩ : ∃ W, W = wr := ⟨_, rfl⟩
                subst hW2
                have D3 := hide1 (D2.out.trans (hbel2.out.mono D2.out.size))
                have ya := (D3.out.cell (p := ⟨w7.heap.size, 0, none⟩) XB.out.1).trans XB.out.2
                have y1 := (D3.out.cell (p := ⟨g, o + i, none⟩) hg).trans ZX.out.2
                have lg2 : g < W2.heap.size := Nat.lt_of_lt_of_le hg D3.out.size
                have lb2 : w7.heap.size < W2.heap.size := Nat.lt_of_lt_of_le XB.out.1 D3.out.size
                have hrl : (restL A9 x).length ≤ 6 := Nat.le_trans (List.length_filter_le _ _) hA6
                have LF := hide1 (rdZ_of_own hown)
                have CB2 := hide1 (fun w' (hb : Below W2.heap.size W2 w') => CB1.out w' (D3.out.trans (hb.mono D3.out.size)))
                have ZY := hide1 (And.intro ya y1)
                clear hown hbel2 hbs CB1
                generalize restL A9 x = rs9 at *
                go_wp2
                go_region_held3 (fun w' => w'.cell? ⟨w7.heap.size, 0, none⟩ = some (.slice bb RB.length cb) ∧ w'.cell? ⟨g, o + i, none⟩ = some (.string z)) (first | go_keep | exact ⟨(D6.out.cell (p := ⟨w7.heap.size, 0, none⟩) lb2).trans ZY.out.1, (D6.out.cell (p := ⟨g, o + i, none⟩) lg2).trans ZY.out.2⟩ | exact ⟨(D5.out.cell (p := ⟨w7.heap.size, 0, none⟩) lb2).trans ZY.out.1, (D5.out.cell (p := ⟨g, o + i, none⟩) lg2).trans ZY.out.2⟩ | exact ZY.out) ((first | (go_at_call 12; refine (CS.out _ (show Below wk.heap.size wk _ by go_grown)).mono ?_; rintro e wj ⟨rfl, hbj⟩; have D6 : Hid (Below W2.heap.size W2 wj) := (D5.out.trans ((show Below wk.heap.size wk _ by go_grown).mono D5.out.size)).trans (hbj.mono (by have := D5.out.size; go_size)); clear hbj) | (go_at_call 16; refine (CB2.out _ (show Below W2.heap.size W2 _ by go_grown)).mono ?_; rintro e wk ⟨bo9, bc9, rfl, hok9, hbk⟩; have D5 : Hid (Below W2.heap.size W2 wk) := (show Below W2.heap.size W2 _ by go_grown).trans (hbk.mono (by go_size)); have CS := hide1 (fun w' (hb : Below wk.heap.size wk w') => sameIntsZ_any bo9 vo2 rs9 rs9 bc9 vc2 w' (by omega) ((rdZ_of_own hok9).later hb) ((LF.out.later D5.out).later hb) rfl); clear hok9 hbk)))
                have BF := hide1 (hbel.out.trans ((D3.out.trans (D6.out.mono D3.out.size)).mono hbel.out.size))
                go_wp2
                go_roundw
                case rel => exact ⟨i + 1, by omega, by go_num, BF⟩
                case measure => simp [intOf]; omega
          · have k1' : ¬ (i : Int) < (ws.length : Int) := by omega
            have BZ := hide1 ((S11.out.later hbel.out).bel)
            go_wp2
            go_ret
            exact ⟨rfl, BZ.out⟩
  · have CB := hide1 (big10_yes a len cap w hbig)
    clear hr ht
    go_enter Tryd.func5, Tryd.ntmps5
    go_wp2_with fail
    refine CB.out.mono ?_
    rintro e w0 ⟨rfl, rfl⟩
    go_wp2
    go_ret
    exact ⟨rfl, Below.refl _ _⟩

theorem door_met_FnHomes (os : Os) (args : Array Value) : laidMetH Tryd.prog Rows.fnHomesRow.laid ((World.doorLaid Tryd.prog 24 os).forCall (fun _ _ => 0) ⟨#[], args, []⟩).memory :=
  laidMetH_of_parts3 (fuel := 8) (laidMet_of_run' 8 (by kernel_rfl) (by kernel_rfl)) (by kernel_rfl) (by kernel_rfl)

set_option maxRecDepth 100000 in
theorem lifted_FnHomes (os : Os) (started : os.Started) (H : Type) (enc : TypeId × Value → H) :
    ReturnsInHanded {} Tryd.checked os 5 .any (fun w args => (Rows.fnHomesSpec.pre enc Tryd.prog Tryd.f5 [] false w args ∧ laidMetH Tryd.prog Rows.fnHomesRow.laid w) ∧ sizedMet enc Tryd.prog Tryd.f5 (OpenSpec.ofChange Rows.fnHomesSpec) false w args)
      (Rows.fnHomesSpec.post enc Tryd.prog Tryd.f5 false true false false) := by
  refine returnsInHanded_of_change_and (C := Tryd.checked) (X := fun w _ => laidMetH Tryd.prog Rows.fnHomesRow.laid w) (fun _ _ _ hh h => h.of_heap hh) (show ownKnob Tryd.prog.godebug = none by kernel_rfl) started (by kernel_rfl) Tryd.func5
    (ChangeSpec.witness_shaped (enc := enc) (C := Tryd.checked) (os := os) (X := fun w _ => laidMetH Tryd.prog Rows.fnHomesRow.laid w) false (World.doorLaid Tryd.prog 24 os) #[.slice none 0 0] 8 rfl (World.shaped_of_RefB (by kernel_rfl) (by kernel_rfl)) (by kernel_rfl) (by kernel_rfl) (by kernel_rfl) (door_met_FnHomes os _)) ?_
  intro W base args ds gs before hval0 hW _ _ hL _
  have hval : ∀ (j : Nat) t v, Tryd.f5.params[j]? = some t → args[j]? = some v → Value.okWide Tryd.prog W .any base t v := hval0
  have hW' := hW
  obtain ⟨p, q, hA0, hV, rfl, hfz, hnd⟩ := hW
  have hA : DataW.TrodAll enc Tryd.prog W 0 (fun _ => true) true Tryd.f5.params.toList args.toList ds p := hA0
  rw [Tryd.params5] at hA hval
  obtain ⟨v0, d0, rfl, rfl, h0⟩ := trodAll_one hA
  obtain ⟨rfl, rfl⟩ := trodVars_none hV
  obtain ⟨a0, len0, cap0, rfl⟩ := okWide_slice Tryd.underlying22 (hval 0 22 v0 rfl rfl)
  have k0 := h0
  have lt0 : ∀ x ∈ p, x.block < W.heap.size := by obtain ⟨m, hm⟩ := k0; exact DataW.trod_lt m _ _ _ hm
  have r0 : RowB W a0 len0 := by
    obtain ⟨fuel, hf⟩ := h0
    rcases Go.ChangeShapes.open_ints Tryd.underlying22 Tryd.underlying5 (by kernel_rfl) hf with ⟨hcs, _⟩ | ⟨x, l, c, zs, hcs, _, hl, hm, hz, _, hcell, hwz⟩
    · simp [Value.cells] at hcs
      obtain ⟨rfl, rfl, rfl⟩ := hcs
      exact fun j hj => absurd hj (Nat.not_lt_zero _)
    · simp [Value.cells] at hcs
      obtain ⟨rfl, rfl, rfl⟩ := hcs
      exact rowB_of hl (by simpa using hz) hcell (fun n hn => bounds_u8 (hwz n hn))
  have hX := of_laid_FnHomes hL
  clear hA0 hval0
  refine (walk_FnHomes a0 len0 cap0 W r0 hX).mono fun e W' ⟨he, bel⟩ => ?_
  subst he
  exact ⟨_, rfl, _, _, _, [], _, [], hW', trodAll_mk1 (shut_bool Tryd.underlying4 _), trodAll_mk1 (Below.trod (show laidOutB Tryd.prog = true by kernel_rfl) (by kernel_rfl) (of_decide_eq_true (by kernel_rfl)) k0 bel lt0), rfl, bel.frame _, fun h => by cases h⟩

theorem row_FnHomes : Rows.FnHomesSaid :=
  OpenClaim.holds_of_wide 5 Tryd.f5 rfl rfl rfl rfl rfl rfl rfl ⟨rfl, rfl, rfl, rfl, rfl⟩ rfl rfl rfl rfl rfl (by kernel_rfl) Tryd.func5 (by kernel_rfl)
    (of_decide_eq_true (by kernel_rfl)) (by unfold Func.isWrapper; first | (rw [if_pos (by decide +kernel)]; kernel_rfl) | (rw [if_neg (by decide +kernel)]; exact ⟨rfl, rfl⟩))
    (fun os started H enc _ => lifted_FnHomes os started H enc)

theorem proved_FnHomes : Rows.FnHomesCardSaid :=
  Claim7.holds_tied_plain_at .later [] Rows.fnHomesCard.laidKinds true Rows.fnHomesCard.stood.harness false
    row_FnHomes (fun _ h => by cases h) (by kernel_rfl) (fun _ h => by cases h) fnHomes_row_tie rfl ⟨rfl, rfl⟩ (by kernel_rfl) rfl
    (fun f fn hf hfn => by
      obtain rfl : f = 5 := Option.some.inj ((show Tryd.prog.funcNamed Tryd.f5.name = some 5 by kernel_rfl).symm.trans hf) |>.symm
      obtain rfl : fn = Tryd.f5 := (Option.some.inj (Tryd.func5.symm.trans hfn)).symm
      exact ⟨by kernel_rfl, fun j t ht => by
        rw [Tryd.params5] at ht
        have hm : t ∈ ([22] : List TypeId) := by simpa using Array.mem_of_getElem? ht
        have hall : (([22] : List TypeId).all fun u => !Tryd.prog.wantsStandIn u) = true := by kernel_rfl
        exact (show Tryd.prog.wantsStandIn t = false by simpa using List.all_eq_true.1 hall t hm)⟩)
    (by kernel_rfl)
#print axioms proved_FnHomes
end Go.Proofs.YtdgpencendphbaaDoor
