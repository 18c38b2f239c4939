/- What was chosen by a drawn council was taken by most of its voices, or what they took later is the same. -/
import Derived.Test.YtgehdgmllilmgaaRows
import Derived.ProofKit
import Derived.OpenShut
import Derived.ShutString
import Derived.ChangeOld
import Derived.Deep.DeepCutAuto
import Derived.Test.YtgehdgmllilmgaaLawB
import Derived.Test.YtgehdgmllilmgaaCnY
import Derived.Test.YtgehdgmllilmgaaCoDw
import Derived.Test.YtgehdgmllilmgaaLawD
import Derived.Test.YtgehdgmllilmgaaCoEq
namespace Go.Proofs.Ytgehdgmllilmgaa
open Go.ChangeShapes Go.WideShapes Go.ChangeAt Go.RowKit
open Go.ChangeMaps (open_string shut_string)
set_option linter.unusedVariables false

theorem cntP_yes {P : Nat → Bool} {i : Nat} (h : P i = true) : cntP P (i + 1) = cntP P i + 1 := by rw [cntP, if_pos h]
theorem cntP_no {P : Nat → Bool} {i : Nat} (h : P i = false) : cntP P (i + 1) = cntP P i := by rw [cntP, h]; rfl
theorem took_yes {vs : List Vo} {x : ByteArray} {i : Nat} (hi : i < vs.length) (h1 : 0 < vs[i].t) (h2 : vs[i].v = x) : tookB vs x i = true := by
  unfold tookB vj
  rw [List.getD_eq_getElem?_getD, List.getElem?_eq_getElem hi]
  show (decide (0 < vs[i].t) && decide (vs[i].v = x)) = true
  rw [decide_eq_true h1, decide_eq_true h2]
  rfl
theorem took_no {vs : List Vo} {x : ByteArray} {i : Nat} (hi : i < vs.length) (h : ¬ (0 < vs[i].t ∧ vs[i].v = x)) : tookB vs x i = false := by
  unfold tookB vj
  rw [List.getD_eq_getElem?_getD, List.getElem?_eq_getElem hi]
  show (decide (0 < vs[i].t) && decide (vs[i].v = x)) = false
  rw [← Bool.decide_and]
  exact decide_eq_false h
theorem one_bent {l : List ByteArray} (h : 0 < l.length) {z : ByteArray} (hz : z.size = l[0].size + 1) : oneL (l ++ [z]) = false := by
  cases l with
  | nil => simp at h
  | cons x xs =>
    show (xs ++ [z]).all (fun y => y.toList == x.toList) = false
    rw [List.all_append]
    have : ([z].all (fun y => y.toList == x.toList)) = false := by
      simp only [List.all_cons, List.all_nil, Bool.and_true, beq_eq_false_iff_ne, ne_eq]
      intro e
      have e1 : z.toList = z.data.toList := ByteArray.toList_eq z
      have e2 : x.toList = x.data.toList := ByteArray.toList_eq x
      rw [e1, e2] at e
      have e3 : z.data.size = x.data.size := by rw [← Array.length_toList, e, Array.length_toList]
      have e4 : z.data.size = x.data.size + 1 := hz
      omega
    rw [this, Bool.and_false]
set_option maxRecDepth 100000 in
set_option maxHeartbeats 8000000 in
theorem walk_FnChosen (a : Option Addr) (len cap : Nat) (w : World) (hr : RowB w a len) :
    Calls Try.prog 4 #[.slice a len cap] w fun e w' => e = .returned (.bool true) ∧ Below w.heap.size w w' := by
  by_cases hbig : len ≤ 1048576
  · have CB := hide1 (big11_no a len cap w hbig)
    have CD := hide1 (drawCo_any w a len cap hbig (hr.code hbig))
    clear hr
    go_enter Try.func4, Try.ntmps4
    go_wp2_with fail
    refine CB.out.mono ?_
    rintro e w1 ⟨rfl, rfl⟩
    clear CB
    go_wp2_with fail
    refine CD.out.mono ?_
    rintro e w1 ⟨v, t, es, eb, ec, rfl, hv, ht, hes, hok, hR, hb1⟩
    obtain ⟨R, hRR⟩ : ∃ R, runR (v : Int) (t : Int) es = R := ⟨_, rfl⟩
    obtain ⟨fr1, fr2⟩ := run_facts hv ⟨ht.1, by omega⟩ (by omega) hok hRR
    have CR := hide1 (implRun_any (v : Int) (t : Int) eb ec es R w1 (by omega) (fun e he => by have := okHp.size (hok e he); omega) hR hRR)
    have B1 := hide1 hb1
    clear hb1 hR CD hok hRR
    go_wp2_with fail
    refine CR.out.mono ?_
    rintro e w2 ⟨⟨A, nb, nc, rfl, hO, _, _⟩, hb2⟩
    clear CR
    obtain ⟨c, ks, ok⟩ := R
    have fr1 : ok = true := fr1
    have fr2 : RunD v t es c := fr2
    subst fr1
    have hO : OwC w1.heap.size w2 A c := hO
    dsimp only
    have hnv := fr2.nv
    have hnt := fr2.nt
    have FR := hide1 fr2
    have HRv := hide1 (rdG_of_own encV.len hO.v rfl)
    have HRc := hide1 (rdG_of_own encX.len hO.c rfl)
    have B2 := hide1 (B1.out.trans (hb2.mono B1.out.size))
    have HNV := hide1 (And.intro hnv hnt)
    have hcl : c.ch.length ≤ 80 := fr2.cz
    rw [hnv, hnt]
    clear hnv hnt fr2 hO hb2 B1
    have FC := hide1 (And.intro (Blk.new w2 32 #[.slice A.va v A.vc, .slice A.ta t A.tc, .slice A.na c.ns.length A.nc, .slice A.ca c.ch.length A.cc]) ((Below.refl w2.heap.size w2).alloc (Nat.le_refl _) (.cells #[.slice A.va v A.vc, .slice A.ta t A.tc, .slice A.na c.ns.length A.nc, .slice A.ca c.ch.length A.cc] 32)))
    go_upto_region 5 with fail
    generalize (w2.alloc (.cells #[.slice A.va v A.vc, .slice A.ta t A.tc, .slice A.na c.ns.length A.nc, .slice A.ca c.ch.length A.cc] 32)) = w3 at FC ⊢
    obtain ⟨G, hG⟩ : ∃ G, G = w2.heap.size := ⟨_, rfl⟩
    have K3 := hide1 FC.out.1
    rw [← hG] at K3 ⊢
    have R3 := hide1 (HRv.out.later FC.out.2)
    have Q3 := hide1 (HRc.out.later FC.out.2)
    have B3 := hide1 (B2.out.trans (FC.out.2.mono B2.out.size))
    have lG : G < w3.heap.size := K3.out.lt
    have g0 : w3.cell? ⟨G, 0, none⟩ = some (.slice A.va v A.vc) := K3.out.cell 0
    have g1 : w3.cell? ⟨G, 1, none⟩ = some (.slice A.ta t A.tc) := K3.out.cell 1
    have g2 : w3.cell? ⟨G, 2, none⟩ = some (.slice A.na c.ns.length A.nc) := K3.out.cell 2
    have g3 : w3.cell? ⟨G, 3, none⟩ = some (.slice A.ca c.ch.length A.cc) := K3.out.cell 3
    clear hG FC HRv HRc B2
    by_cases c0 : c.ch.length = 0
    · have q0 : ((c.ch.length : Int) == 0) = true := by simp [c0]
      have CO := hide1 (implOne_any c A w3 (by omega) Q3.out)
      rw [HNV.out.1, HNV.out.2, oneL_all FR.out.al] at CO
      clear c0
      go_wp2_with fail
      refine CO.out.mono ?_
      rintro e w4 ⟨rfl, hb4⟩
      go_wp2
      go_ret
      exact ⟨rfl, B3.out.trans (hb4.mono B3.out.size)⟩
    · have q0 : ((c.ch.length : Int) == 0) = false := by simp only [beq_eq_false_iff_ne, ne_eq]; omega
      have hc0 : 0 < c.ch.length := by omega
      have hc1 : (0 : Int) < (c.ch.length : Int) := by omega
      obtain ⟨cb, co, hca, hcb, hcc⟩ := Q3.out 0 hc0
      have hx := List.getElem_mem hc0
      have HX := hide1 (And.intro (FR.out.mo _ hx) (FR.out.ce _ hx))
      have X0 := hide1 (show w3.cell? ⟨cb, co, none⟩ = some (.string c.ch[0]) by have := hcc 0 (by omega); rw [Nat.zero_mul, Nat.add_zero] at this; exact this)
      have HB1 := hide1 (fun (z : ByteArray) (hz : z.size = c.ch[0].size + 1) => one_bent hc0 hz)
      generalize c.ch[0] = x0 at HX X0 HB1
      have hxz : x0.size ≤ 40 := HX.out.2
      rw [hca] at g3 K3 Q3 ⊢
      clear hcc c0 hx hca
      go_upto_region 10 with fail
      go_wp2
      go_loopw [10, 9] (fun iv nv wr => ∃ i : Nat, i ≤ v ∧ iv = .int .i64 (i : Int) ∧ nv = .int .i64 (cntP (tookB c.vs x0) i : Int) ∧ Hid (Below w3.heap.size w3 wr)) (fun iv _ _ => v - (intOf iv).toNat)
      case atStart => exact ⟨0, by omega, rfl, rfl, hide1 (Below.refl _ _)⟩
      case round =>
        obtain ⟨i, hi, rfl, rfl, BB⟩ := hrel
        have hcnt := cntP_le (tookB c.vs x0) i
        have e0 : wr.cell? ⟨G, 0, none⟩ = some (.slice A.va v A.vc) := (BB.out.cell (p := ⟨G, 0, none⟩) lG).trans g0
        have e3 : wr.cell? ⟨G, 3, none⟩ = some (.slice (some ⟨cb, co, none⟩) c.ch.length A.cc) := (BB.out.cell (p := ⟨G, 3, none⟩) lG).trans g3
        have ex : wr.cell? ⟨cb, co, none⟩ = some (.string x0) := (BB.out.cell (p := ⟨cb, co, none⟩) hcb).trans X0.out
        by_cases hlt : i < v
        · have k1 : (i : Int) < (v : Int) := by omega
          have hil : i < c.vs.length := by rw [HNV.out.1]; exact hlt
          obtain ⟨vb, vo, hva, hvb, hvc⟩ := R3.out i hil
          have y1 : wr.cell? ⟨vb, vo + i * 3 + 1, none⟩ = some (.int .i64 c.vs[i].t) := (BB.out.cell (p := ⟨vb, vo + i * 3 + 1, none⟩) hvb).trans (hvc 1 (by omega))
          have y2 : wr.cell? ⟨vb, vo + i * 3 + 2, none⟩ = some (.string c.vs[i].v) := (BB.out.cell (p := ⟨vb, vo + i * 3 + 2, none⟩) hvb).trans (hvc 2 (by omega))
          have TY := hide1 (fun h1 h2 => took_yes (x := x0) hil h1 h2)
          have TN := hide1 (fun h => took_no (x := x0) hil h)
          rw [hva] at e0
          clear hvc hva
          generalize c.vs[i].t = tv at y1 TY TN
          generalize c.vs[i].v = vv at y2 TY TN
          by_cases ct : 0 < tv
          · by_cases ce : vv = x0
            · have TT := hide1 (cntP_yes (TY.out ct ce))
              obtain ⟨q, q'⟩ := text_eq ce
              clear ce TY TN hil
              go_wp2_with fail
              go_quiet (fail)
              go_wp2
              go_roundw
              case rel => exact ⟨i + 1, by omega, by go_num, by first | (rw [TT.out]; go_num) | rw [TT.out], hide1 (below_drewN BB.out _)⟩
              case measure => simp [intOf]; omega
            · have TT := hide1 (cntP_no (TN.out (fun h => ce h.2)))
              obtain ⟨q, q'⟩ := text_ne ce
              clear ce TY TN hil
              go_wp2_with fail
              go_quiet (fail)
              go_wp2
              go_roundw
              case rel => exact ⟨i + 1, by omega, by go_num, by first | (rw [TT.out]; go_num) | rw [TT.out], hide1 (below_drewN BB.out _)⟩
              case measure => simp [intOf]; omega
          · have TT := hide1 (cntP_no (TN.out (fun h => ct h.1)))
            have qd : decide (0 < tv) = false := decide_eq_false ct
            clear TY TN hil
            go_wp2_with fail
            go_quiet (fail)
            go_wp2
            go_roundw
            case rel => exact ⟨i + 1, by omega, by go_num, by first | (rw [TT.out]; go_num) | rw [TT.out], hide1 (below_drewN BB.out _)⟩
            case measure => simp [intOf]; omega
        · obtain rfl : i = v := by omega
          have k1 : ¬ ((i : Int) < (i : Int)) := by omega
          have e1 : wr.cell? ⟨G, 1, none⟩ = some (.slice A.ta t A.tc) := (BB.out.cell (p := ⟨G, 1, none⟩) lG).trans g1
          have e2 : wr.cell? ⟨G, 2, none⟩ = some (.slice A.na c.ns.length A.nc) := (BB.out.cell (p := ⟨G, 2, none⟩) lG).trans g2
          have CI := hide1 (show True from trivial)
          have FH := hide1 (And.intro (Blk.new wr 32 #[.slice A.va i A.vc, .slice A.ta t A.tc, .slice A.na c.ns.length A.nc, .slice (some ⟨cb, co, none⟩) c.ch.length A.cc]) ((Below.refl wr.heap.size wr).alloc (Nat.le_refl _) (.cells #[.slice A.va i A.vc, .slice A.ta t A.tc, .slice A.na c.ns.length A.nc, .slice (some ⟨cb, co, none⟩) c.ch.length A.cc] 32)))
          go_upto_region 16 with fail
          generalize (wr.alloc (.cells #[.slice A.va i A.vc, .slice A.ta t A.tc, .slice A.na c.ns.length A.nc, .slice (some ⟨cb, co, none⟩) c.ch.length A.cc] 32)) = wH at FH ⊢
          obtain ⟨H, hH⟩ : ∃ H, H = wr.heap.size := ⟨_, rfl⟩
          have KH := hide1 FH.out.1
          rw [← hH] at KH ⊢
          have B4 := hide1 (BB.out.trans (FH.out.2.mono BB.out.size))
          have lH : H < wH.heap.size := KH.out.lt
          have hl3 : w3.heap.size ≤ wr.heap.size := BB.out.size
          have lcb : cb < wH.heap.size := by omega
          have hGH : G ≠ H := by omega
          have hHl : w3.heap.size ≤ H := by omega
          have lG : G < wH.heap.size := by omega
          have HR := hide1 (Q3.out.later B4.out)
          have HZ := hide1 (KH.out.froz 3)
          have hz : wH.frozen? ⟨H, 3, none⟩ = false := HZ.out
          have h0 : wH.cell? ⟨cb, co, none⟩ = some (.string x0) := (B4.out.cell (p := ⟨cb, co, none⟩) hcb).trans X0.out
          have H0 := hide1 h0
          have h1 : wH.cell? ⟨H, 3, none⟩ = some (.slice (some ⟨cb, co, none⟩) c.ch.length A.cc) := KH.out.cell 3
          have H1 := hide1 h1
          have g0 : wH.cell? ⟨G, 3, none⟩ = some (.slice (some ⟨cb, co, none⟩) c.ch.length A.cc) := (B4.out.cell (p := ⟨G, 3, none⟩) (by omega)).trans g3
          have G0 := hide1 g0
          have hn2 : c.ch.length ≤ 1000000 := by omega
          have hxs : ¬ (9223372036854775807 < x0.size + 1) := by omega
          clear e0 e1 e2 e3 ex g1 g2 g3 hH K3 R3 Q3 FH
          go_cut [11] (fun hv wx => hv = .pointer (some ⟨H, 0, none⟩) ∧ ∃ (z : ByteArray) (b9 : Option Addr) (c9 : Nat), Hid (z.size = x0.size + 1) ∧ Hid (Blk wx H 32 [.slice A.va i A.vc, .slice A.ta t A.tc, .slice A.na c.ns.length A.nc, .slice b9 (c.ch.length + 1) c9]) ∧ Hid (RdG txE 1 wx b9 (c.ch ++ [z])) ∧ Hid (Below w3.heap.size w3 wx))
          case first =>
            go_region_law ((first | (have := E4.out; refine step_pushG encX rowX rfl (.tmp 74) (.tmp 80) rfl wH.heap.size b4 c.ch.length c4 c.ch rfl (by first | exact O4.out | exact O4.out.alloc _ | exact O4.out.drew) _ (_) rfl (by first | exact ZM.out | exact Blk.new _ _ _ | exact blkE1 _ _) hn2 (by have := E4.out.size; go_size) ?_; intro b5 c5 w5 ho5 hb5; have E5 : Hid (Below wH.heap.size wH w5) := E4.out.trans ((show Below wH.heap.size w4 _ by go_grown).trans hb5); have O5 := hide1 ho5; have s5 := E5.out.size; have hz : w5.frozen? ⟨H, 3, none⟩ = false := (E5.out.frozen lH).trans HZ.out; clear ho5 hb5 h0 h1 g0; have h0 : w5.cell? ⟨cb, co, none⟩ = some (.string x0) := (E5.out.cell lcb).trans H0.out; have h1 : w5.cell? ⟨H, 3, none⟩ = some (.slice (some ⟨cb, co, none⟩) c.ch.length A.cc) := (E5.out.cell lH).trans H1.out; have g0 : w5.cell? ⟨G, 3, none⟩ = some (.slice (some ⟨cb, co, none⟩) c.ch.length A.cc) := (E5.out.cell lG).trans G0.out) | (refine step_copyG encX rowX rfl (.tmp 71) (.tmp 73) rfl wH.heap.size _ rfl (by first | exact Blk.new _ _ _ | exact blkE1 _ _ | exact Blk.more (Blk.new _ _ _) _ | exact blkE2 _ _ _ | exact (blkN2 _ _ _ _ _).2.1 | exact blkE3 _ _ _) (by first | exact Nat.le_refl _ | exact Nat.le_succ _) (some ⟨cb, co, none⟩) c.ch.length A.cc c.ch rfl rfl (HR.out.later (by go_grown)) (by omega) ?_; intro b4 c4 w4 ho4 hb4 hg4; have E4 : Hid (Below wH.heap.size wH w4) := (show Below wH.heap.size wH _ by go_grown).trans hb4; have O4 := hide1 ho4; (first | (have ZM := hide1 (zM1D hg4)) | (have ZM := hide1 (zM2D hg4)) | (have ZM := hide1 (zM1 hg4)) | (have ZM := hide1 (zM2 hg4)) | skip); have s4 := E4.out.size; clear ho4 hb4 hg4 h0 h1 g0; have h0 : w4.cell? ⟨cb, co, none⟩ = some (.string x0) := (E4.out.cell lcb).trans H0.out; have h1 : w4.cell? ⟨H, 3, none⟩ = some (.slice (some ⟨cb, co, none⟩) c.ch.length A.cc) := (E4.out.cell lH).trans H1.out; have g0 : w4.cell? ⟨G, 3, none⟩ = some (.slice (some ⟨cb, co, none⟩) c.ch.length A.cc) := (E4.out.cell lG).trans G0.out)))
            all_goals
              go_wp2_with fail
              go_meet
              have R5 := hide1 ((rdG_of_own encX.len O5.out (by simp)).grown (lo := fun _ => True) (gset (World.grownBy.refl _ (some H)) 3 (.slice b5 (c.ch.length + 1) c5)) (own_ne O5.out lH (LoLe.all _)))
              exact ⟨rfl, _, b5, c5, hide1 (by rw [ByteArray.size_append]; rfl), hide1 (Blk.set (KH.out.below E5.out lH) 3 (.slice b5 (c.ch.length + 1) c5)), R5, hide1 ((B4.out.trans (E5.out.mono B4.out.size)).setCell (p := ⟨H, 3, none⟩) hHl _)⟩
          case rest =>
          obtain ⟨rfl, z, b9, c9, HZS, K9, R9, B9⟩ := hcut
          clear h0 H0 h1 H1 g0 G0 HR HZ hz hn2 lH lcb lG KH B4
          generalize wc = w5 at *
          obtain ⟨k, hk⟩ : ∃ k, mostI (i : Int) = k := ⟨_, rfl⟩
          have CM := hide1 (implMost_any (i : Int) w5 (by omega) (by omega))
          rw [hk] at CM
          have hkn : k ≤ (cntP (tookB c.vs x0) i : Int) := by rw [← hk]; exact HX.out.1
          obtain ⟨n, hn⟩ : ∃ n, cntP (tookB c.vs x0) i = n := ⟨_, rfl⟩
          rw [hn] at hkn hcnt ⊢
          have CO := hide1 (fun w' (hb : Below w5.heap.size w5 w') => implOne_any ⟨c.vs, c.ts, c.ns, c.ch ++ [z]⟩ ⟨A.va, A.vc, A.ta, A.tc, A.na, A.nc, b9, c9, A.L⟩ w' (by show (c.ch ++ [z]).length ≤ _; rw [List.length_append, List.length_singleton]; omega) (R9.out.later hb))
          dsimp only at CO
          rw [HNV.out.1, HNV.out.2, HB1.out z HZS.out, List.length_append, List.length_singleton] at CO
          have lH : H < w5.heap.size := K9.out.lt
          clear hk hn
          go_wp2_with (first | (go_at_call 19; refine CM.out.mono ?_; rintro e w6 ⟨rfl, hb6⟩; have E6 := hide1 hb6; have y0 : w6.cell? ⟨H, 0, none⟩ = some (.slice A.va i A.vc) := (hb6.cell (p := ⟨H, 0, none⟩) lH).trans (K9.out.cell 0); have y1 : w6.cell? ⟨H, 1, none⟩ = some (.slice A.ta t A.tc) := (hb6.cell (p := ⟨H, 1, none⟩) lH).trans (K9.out.cell 1); have y2 : w6.cell? ⟨H, 2, none⟩ = some (.slice A.na c.ns.length A.nc) := (hb6.cell (p := ⟨H, 2, none⟩) lH).trans (K9.out.cell 2); have y3 : w6.cell? ⟨H, 3, none⟩ = some (.slice b9 (c.ch.length + 1) c9) := (hb6.cell (p := ⟨H, 3, none⟩) lH).trans (K9.out.cell 3); clear hb6) | (go_at_call 16; refine (CO.out _ E6.out).mono ?_; rintro e w7 ⟨rfl, hb7⟩))
          go_ret
          exact ⟨rfl, B3.out.trans ((B9.out.trans ((E6.out.trans (hb7.mono E6.out.size)).mono B9.out.size)).mono B3.out.size)⟩
  · have CB := hide1 (big11_yes a len cap w hbig)
    go_enter Try.func4, Try.ntmps4
    go_wp2_with fail
    refine CB.out.mono ?_
    rintro e w1 ⟨rfl, rfl⟩
    go_wp2
    go_ret
    exact ⟨rfl, Below.refl _ _⟩

set_option maxRecDepth 100000 in
theorem lifted_FnChosen (os : Os) (started : os.Started) (H : Type) (enc : TypeId × Value → H) :
    ReturnsInHanded {} Try.checked os 4 .any (Rows.fnChosenSpec.pre6 enc Try.prog Try.f4 Rows.fnChosenRow.domain false) (Rows.fnChosenSpec.post enc Try.prog Try.f4 false true false false) := by
  refine returnsInHanded_of_change (C := Try.checked) (show ownKnob Try.prog.godebug = none by kernel_rfl) started (by kernel_rfl) Try.func4
    (ChangeSpec.witness6 (enc := enc) (C := Try.checked) false ⟨#[], #[.slice none 0 0], []⟩ 8 (by kernel_rfl) (by kernel_rfl) (by kernel_rfl) (by kernel_rfl)) ?_
  intro W base args ds gs before hval0 hW hcnd _
  have hval : ∀ (j : Nat) t v, Try.f4.params[j]? = some t → args[j]? = some v → Value.okWide Try.prog W .any base t v := hval0
  have hW' := hW
  obtain ⟨p, q, hA0, hV, rfl, hfz, hnd⟩ := hW
  have hA : DataW.TrodAll enc Try.prog W 0 (fun _ => true) true Try.f4.params.toList args.toList ds p := hA0
  rw [Try.params4] at hA hval
  obtain ⟨v0, d0, rfl, rfl, h0⟩ := trodAll_one hA
  obtain ⟨rfl, rfl⟩ := trodVars_none hV
  obtain ⟨a0, len0, cap0, rfl⟩ := okWide_slice Try.underlying22 (hval 0 22 v0 rfl rfl)
  have k0 := h0
  have lt0 : ∀ x ∈ p, x.block < W.heap.size := by obtain ⟨m, hm⟩ := k0; exact DataW.trod_lt m _ _ _ hm
  have r0 : RowB W a0 len0 := by
    obtain ⟨fuel, hf⟩ := h0
    rcases Go.ChangeShapes.open_ints Try.underlying22 Try.underlying5 (by kernel_rfl) hf with ⟨hcs, _⟩ | ⟨x, l, c, zs, hcs, _, hl, hm, hz, _, hcell, hwz⟩
    · simp [Value.cells] at hcs
      obtain ⟨rfl, rfl, rfl⟩ := hcs
      exact fun j hj => absurd hj (Nat.not_lt_zero _)
    · simp [Value.cells] at hcs
      obtain ⟨rfl, rfl, rfl⟩ := hcs
      exact rowB_of hl (by simpa using hz) hcell (fun n hn => bounds_u8 (hwz n hn))
  clear hA0 hval0
  refine (walk_FnChosen a0 len0 cap0 W r0).mono fun e W' ⟨he, bel⟩ => ?_
  subst he
  exact ⟨_, rfl, _, _, _, [], _, [], hW', trodAll_mk1 (shut_bool Try.underlying4 _), trodAll_mk1 (Below.trod (show laidOutB Try.prog = true by kernel_rfl) (by kernel_rfl) (of_decide_eq_true (by kernel_rfl)) k0 bel lt0), rfl, bel.frame _, fun h => by cases h⟩

theorem proved_FnChosen : Rows.FnChosenSaid :=
  OpenClaim.holds_of_wide 4 Try.f4 rfl rfl rfl rfl rfl rfl rfl ⟨rfl, rfl, rfl, rfl, rfl⟩ rfl rfl rfl rfl rfl (by kernel_rfl) Try.func4 (by kernel_rfl)
    (of_decide_eq_true (by kernel_rfl)) (by unfold Func.isWrapper; first | (rw [if_pos (by decide +kernel)]; kernel_rfl) | (rw [if_neg (by decide +kernel)]; exact ⟨rfl, rfl⟩))
    (fun os started H enc _ => lifted_FnChosen os started H enc)
#print axioms proved_FnChosen
end Go.Proofs.Ytgehdgmllilmgaa
