/- Voices of a drawn council choose one value, whatever is lost, told twice or late; it was proposed. -/
import Derived.Test.YtgehdgmllilmgaaRows
import Derived.ProofKit
import Derived.OpenShut
import Derived.ShutString
import Derived.ChangeOld
import Derived.Test.YtgehdgmllilmgaaLawB
import Derived.Test.YtgehdgmllilmgaaCnY
import Derived.Test.YtgehdgmllilmgaaCoDw
import Derived.Test.YtgehdgmllilmgaaLawD
import Derived.Test.YtgehdgmllilmgaaCoEq
import Derived.Test.YtgehdgmllilmgaaCoRn
import Derived.Test.YtgehdgmllilmgaaYQ
import Derived.Test.YtgehdgmllilmgaaSamI
namespace Go.Proofs.Ytgehdgmllilmgaa
open Go.ChangeShapes Go.WideShapes Go.ChangeAt Go.RowKit
open Go.ChangeMaps (open_string shut_string)
set_option linter.unusedVariables false

/-- One of the first k events proposed this. -/
def PrTo (es : List Hp) (x : ByteArray) (k : Nat) : Prop := ∃ j, ∃ h : j < es.length, j < k ∧ es[j].k = 1 ∧ es[j].v = x
theorem PrTo.step {es : List Hp} {x : ByteArray} {k : Nat} (hk : k < es.length) (h : PrTo es x (k + 1)) (hn : ¬ (es[k].k = 1 ∧ es[k].v = x)) : PrTo es x k := by
  obtain ⟨j, hj, h1, h2⟩ := h
  by_cases c : j < k
  · exact ⟨j, hj, c, h2⟩
  · have : j = k := by omega
    subst this
    exact absurd h2 hn
theorem PrTo.all {es : List Hp} {x : ByteArray} (h : ∃ e ∈ es, e.k = 1 ∧ e.v = x) : PrTo es x es.length := by
  obtain ⟨e, he, h2⟩ := h
  obtain ⟨j, hj, rfl⟩ := List.getElem_of_mem he
  exact ⟨j, hj, hj, h2⟩
set_option maxRecDepth 100000 in
set_option maxHeartbeats 8000000 in
theorem walk_FnDecides (a : Option Addr) (len cap : Nat) (w : World) (hr : RowB w a len) :
    Calls Try.prog 3 #[.slice a len cap] w fun e w' => e = .returned (.bool true) ∧ Below w.heap.size w w' := by
  by_cases hbig : len ≤ 1048576
  · have CB := hide1 (big11_no a len cap w hbig)
    have CD := hide1 (drawCo_any w a len cap hbig (hr.code hbig))
    clear hr
    go_enter Try.func3, Try.ntmps3
    go_wp2_with fail
    refine CB.out.mono ?_
    rintro e w1 ⟨rfl, rfl⟩
    clear CB
    go_wp2_with fail
    refine CD.out.mono ?_
    rintro e w1 ⟨v, t, es, eb, ec, rfl, hv, ht, hes, hok, hR, hb1⟩
    obtain ⟨R, hRR⟩ : ∃ R, runR (v : Int) (t : Int) es = R := ⟨_, rfl⟩
    obtain ⟨fr1, fr2⟩ := run_facts hv ⟨ht.1, by omega⟩ (by omega) hok hRR
    have hkl : R.2.1.length ≤ 80 := by
      have := hRR
      unfold runR at this
      split at this
      · subst this
        show (runC _ _).2.length ≤ 80
        rw [codes_len]
        omega
      · subst this
        exact Nat.zero_le _
    have CR := hide1 (implRun_any (v : Int) (t : Int) eb ec es R w1 (by omega) (fun e he => by have := okHp.size (hok e he); omega) hR hRR)
    have CS := hide1 (fun w' (hb : Below w1.heap.size w1 w') => specRun_any (v : Int) (t : Int) eb ec es R w' (by omega) (fun e he => by have := okHp.size (hok e he); omega) (hR.later hb) hRR)
    have B1 := hide1 hb1
    have HES := hide1 hR
    clear hb1 hR CD hok hRR
    obtain ⟨c, ks, ok⟩ := R
    have fr1 : ok = true := fr1
    have FR := hide1 (show RunD v t es c from fr2)
    have hkl : ks.length ≤ 80 := hkl
    subst fr1
    clear fr2
    have HNV := hide1 (And.intro FR.out.nv FR.out.nt)
    dsimp only at CR CS
    rw [HNV.out.1, HNV.out.2] at CR CS
    have hcl : c.ch.length ≤ 80 := FR.out.cz
    go_wp2_with fail
    refine CR.out.mono ?_
    rintro e w2 ⟨⟨A, nb, nc, rfl, hO, hK, _⟩, hb2⟩
    have HRv := hide1 (rdG_of_own encV.len hO.v rfl)
    have HRc := hide1 (rdG_of_own encX.len hO.c rfl)
    have HRk := hide1 (rdG_of_own encZ.len hK rfl)
    have B2 := hide1 hb2
    clear hO hK hb2 CR
    have FC := hide1 (And.intro (Blk.new w2 32 #[.slice A.va v A.vc, .slice A.ta t A.tc, .slice A.na c.ns.length A.nc, .slice A.ca c.ch.length A.cc]) ((Below.refl w2.heap.size w2).alloc (Nat.le_refl _) (.cells #[.slice A.va v A.vc, .slice A.ta t A.tc, .slice A.na c.ns.length A.nc, .slice A.ca c.ch.length A.cc] 32)))
    go_upto_region 5 with fail
    generalize (w2.alloc (.cells #[.slice A.va v A.vc, .slice A.ta t A.tc, .slice A.na c.ns.length A.nc, .slice A.ca c.ch.length A.cc] 32)) = w3 at FC ⊢
    obtain ⟨G, hG⟩ : ∃ G, G = w2.heap.size := ⟨_, rfl⟩
    have K3 := hide1 FC.out.1
    rw [← hG] at K3 ⊢
    have E3 := hide1 (show Below w1.heap.size w1 w3 from B2.out.trans (FC.out.2.mono B2.out.size))
    have X3 := hide1 FC.out.2
    clear hG FC B2
    go_wp2_with fail
    refine (CS.out w3 E3.out).mono ?_
    rintro e w4 ⟨⟨M, mb, mc, rfl, hM, hMk⟩, hb4⟩
    have HMc := hide1 (hM w4.heap.size (.inr (Nat.le_refl _))).c
    have HMk := hide1 hMk
    have E4 := hide1 hb4
    clear hM hMk hb4 CS
    have FM := hide1 (And.intro (Blk.new w4 32 #[.slice M.va v M.vc, .slice M.ta t M.tc, .slice M.na c.ns.length M.nc, .slice M.ca c.ch.length M.cc]) ((Below.refl w4.heap.size w4).alloc (Nat.le_refl _) (.cells #[.slice M.va v M.vc, .slice M.ta t M.tc, .slice M.na c.ns.length M.nc, .slice M.ca c.ch.length M.cc] 32)))
    go_upto_region 6 with fail
    generalize (w4.alloc (.cells #[.slice M.va v M.vc, .slice M.ta t M.tc, .slice M.na c.ns.length M.nc, .slice M.ca c.ch.length M.cc] 32)) = w5 at FM ⊢
    obtain ⟨H, hH⟩ : ∃ H, H = w4.heap.size := ⟨_, rfl⟩
    have K5 := hide1 FM.out.1
    rw [← hH] at K5 ⊢
    have E5 := hide1 (show Below w3.heap.size w3 w5 from E4.out.trans (FM.out.2.mono E4.out.size))
    have lG : G < w5.heap.size := by have := K3.out.lt; have := E5.out.size; omega
    have lH : H < w5.heap.size := K5.out.lt
    have KG := hide1 (K3.out.below E5.out K3.out.lt)
    have RV := hide1 ((HRv.out.later X3.out).later E5.out)
    have RC := hide1 ((HRc.out.later X3.out).later E5.out)
    have RK := hide1 ((HRk.out.later X3.out).later E5.out)
    have MC := hide1 (HMc.out.later FM.out.2)
    have MK := hide1 (HMk.out.later FM.out.2)
    have EV := hide1 ((HES.out.later E3.out).later E5.out)
    have BW := hide1 (show Below w.heap.size w w5 from (B1.out.trans (E3.out.mono B1.out.size)).trans (E5.out.mono (by have := B1.out.size; have := E3.out.size; omega)))
    clear hH FM HRv HRc HRk HMc HMk HES B1 E3 X3 E4 E5 K3
    have g0 : w5.cell? ⟨G, 0, none⟩ = some (.slice A.va v A.vc) := KG.out.cell 0
    have G0 := hide1 g0
    have g1 : w5.cell? ⟨G, 1, none⟩ = some (.slice A.ta t A.tc) := KG.out.cell 1
    have G1 := hide1 g1
    have g2 : w5.cell? ⟨G, 2, none⟩ = some (.slice A.na c.ns.length A.nc) := KG.out.cell 2
    have G2 := hide1 g2
    have g3 : w5.cell? ⟨G, 3, none⟩ = some (.slice A.ca c.ch.length A.cc) := KG.out.cell 3
    have G3 := hide1 g3
    have h3 : w5.cell? ⟨H, 3, none⟩ = some (.slice M.ca c.ch.length M.cc) := K5.out.cell 3
    have H3 := hide1 h3
    have hone : oneL c.ch = true := oneL_all FR.out.al
    have C1 := hide1 (sameI_same nb mb ks nc mc w5 (by omega) RK.out MK.out)
    have C2 := hide1 (fun w' (hb : Below w5.heap.size w5 w') => sameT_any A.ca M.ca c.ch c.ch A.cc M.cc w' (by omega) (rdQ_of (RC.out.later hb)) (rdQ_of (MC.out.later hb)))
    have C3 := hide1 (fun w' (hb : Below w5.heap.size w5 w') => implOne_any c A w' (by omega) (RC.out.later hb))
    have C4 := hide1 (fun w' (hb : Below w5.heap.size w5 w') => specOne_any c A w' (by omega) (RC.out.later hb))
    rw [HNV.out.1, HNV.out.2, hone] at C3 C4
    clear hone
    go_upto_region 8 with (first
      | (have := Q3.out; go_at_call 17; refine (C4.out _ Q3.out).mono ?_; rintro e w9 ⟨rfl, hb9⟩; have Q4 := hide1 (Q3.out.trans (hb9.mono Q3.out.size)); clear g0 g1 g2 g3 h3; have g0 : w9.cell? ⟨G, 0, none⟩ = some (.slice A.va v A.vc) := (Q4.out.cell (p := ⟨G, 0, none⟩) lG).trans G0.out; have g1 : w9.cell? ⟨G, 1, none⟩ = some (.slice A.ta t A.tc) := (Q4.out.cell (p := ⟨G, 1, none⟩) lG).trans G1.out; have g2 : w9.cell? ⟨G, 2, none⟩ = some (.slice A.na c.ns.length A.nc) := (Q4.out.cell (p := ⟨G, 2, none⟩) lG).trans G2.out; have g3 : w9.cell? ⟨G, 3, none⟩ = some (.slice A.ca c.ch.length A.cc) := (Q4.out.cell (p := ⟨G, 3, none⟩) lG).trans G3.out; have h3 : w9.cell? ⟨H, 3, none⟩ = some (.slice M.ca c.ch.length M.cc) := (Q4.out.cell (p := ⟨H, 3, none⟩) lH).trans H3.out; clear hb9)
      | (have := Q2.out; go_at_call 16; refine (C3.out _ Q2.out).mono ?_; rintro e w8 ⟨rfl, hb8⟩; have Q3 := hide1 (Q2.out.trans (hb8.mono Q2.out.size)); clear g0 g1 g2 g3 h3; have g0 : w8.cell? ⟨G, 0, none⟩ = some (.slice A.va v A.vc) := (Q3.out.cell (p := ⟨G, 0, none⟩) lG).trans G0.out; have g1 : w8.cell? ⟨G, 1, none⟩ = some (.slice A.ta t A.tc) := (Q3.out.cell (p := ⟨G, 1, none⟩) lG).trans G1.out; have g2 : w8.cell? ⟨G, 2, none⟩ = some (.slice A.na c.ns.length A.nc) := (Q3.out.cell (p := ⟨G, 2, none⟩) lG).trans G2.out; have g3 : w8.cell? ⟨G, 3, none⟩ = some (.slice A.ca c.ch.length A.cc) := (Q3.out.cell (p := ⟨G, 3, none⟩) lG).trans G3.out; have h3 : w8.cell? ⟨H, 3, none⟩ = some (.slice M.ca c.ch.length M.cc) := (Q3.out.cell (p := ⟨H, 3, none⟩) lH).trans H3.out; clear hb8)
      | (have := Q1.out; go_at_call 15; refine (C2.out _ Q1.out).mono ?_; rintro e w7 ⟨x, rfl, hx, hb7⟩; (obtain rfl : x = true := (by first | exact hx.2 rfl | exact hx.2 trivial)); have Q2 := hide1 (Q1.out.trans (hb7.mono Q1.out.size)); clear g0 g1 g2 g3 h3; have g0 : w7.cell? ⟨G, 0, none⟩ = some (.slice A.va v A.vc) := (Q2.out.cell (p := ⟨G, 0, none⟩) lG).trans G0.out; have g1 : w7.cell? ⟨G, 1, none⟩ = some (.slice A.ta t A.tc) := (Q2.out.cell (p := ⟨G, 1, none⟩) lG).trans G1.out; have g2 : w7.cell? ⟨G, 2, none⟩ = some (.slice A.na c.ns.length A.nc) := (Q2.out.cell (p := ⟨G, 2, none⟩) lG).trans G2.out; have g3 : w7.cell? ⟨G, 3, none⟩ = some (.slice A.ca c.ch.length A.cc) := (Q2.out.cell (p := ⟨G, 3, none⟩) lG).trans G3.out; have h3 : w7.cell? ⟨H, 3, none⟩ = some (.slice M.ca c.ch.length M.cc) := (Q2.out.cell (p := ⟨H, 3, none⟩) lH).trans H3.out; clear hb7 hx)
      | (go_at_call 14; refine C1.out.mono ?_; rintro e w6 ⟨rfl, hb6⟩; have Q1 := hide1 hb6; clear g0 g1 g2 g3 h3; have g0 : w6.cell? ⟨G, 0, none⟩ = some (.slice A.va v A.vc) := (Q1.out.cell (p := ⟨G, 0, none⟩) lG).trans G0.out; have g1 : w6.cell? ⟨G, 1, none⟩ = some (.slice A.ta t A.tc) := (Q1.out.cell (p := ⟨G, 1, none⟩) lG).trans G1.out; have g2 : w6.cell? ⟨G, 2, none⟩ = some (.slice A.na c.ns.length A.nc) := (Q1.out.cell (p := ⟨G, 2, none⟩) lG).trans G2.out; have g3 : w6.cell? ⟨G, 3, none⟩ = some (.slice A.ca c.ch.length A.cc) := (Q1.out.cell (p := ⟨G, 3, none⟩) lG).trans G3.out; have h3 : w6.cell? ⟨H, 3, none⟩ = some (.slice M.ca c.ch.length M.cc) := (Q1.out.cell (p := ⟨H, 3, none⟩) lH).trans H3.out; clear hb6))
    clear C1 C2 C3 C4 g0 g1 g2 g3 h3 Q1 Q2 Q3 MC MK RK K5 KG
    go_wp2
    go_loopw [12] (fun iv wr => ∃ i : Nat, i ≤ c.ch.length ∧ iv = .int .i64 (i : Int) ∧ Hid (Below w5.heap.size w5 wr)) (fun iv _ => c.ch.length - (intOf iv).toNat)
    case atStart => exact ⟨0, Nat.zero_le _, rfl, Q4⟩
    case round =>
      obtain ⟨i, hi, rfl, BB⟩ := hrel
      clear Q4
      have g3 : wr.cell? ⟨G, 3, none⟩ = some (.slice A.ca c.ch.length A.cc) := (BB.out.cell (p := ⟨G, 3, none⟩) lG).trans G3.out
      by_cases hlt : i < c.ch.length
      · have k1 : (i : Int) < (c.ch.length : Int) := by omega
        obtain ⟨cb, co, hca, hcb, hcc⟩ := RC.out i hlt
        have X0 := hide1 (show w5.cell? ⟨cb, co + i, none⟩ = some (.string c.ch[i]) by have := hcc 0 (by omega); rwa [Nat.mul_one, Nat.add_zero] at this)
        have PA := hide1 (PrTo.all (FR.out.pr _ (List.getElem_mem hlt)))
        generalize c.ch[i] = x0 at X0 PA
        rw [hca] at g3
        have G3' := hide1 g3
        clear hcc
        obtain ⟨W0, hW0⟩ : ∃ W, W = wr := ⟨_, rfl⟩
        subst hW0
        go_wp2
        go_loopw [14, 13] (fun kv bv wr => ∃ k : Nat, k ≤ es.length ∧ kv = .int .i64 (k : Int) ∧ ∃ b : Bool, bv = .bool b ∧ Hid (PrTo es x0 k → b = true) ∧ Hid (Below w5.heap.size w5 wr)) (fun kv _ _ => es.length - (intOf kv).toNat)
        case atStart => exact ⟨0, Nat.zero_le _, rfl, false, rfl, hide1 (fun h => by obtain ⟨j, _, h1, _⟩ := h; omega), BB⟩
        case round =>
          obtain ⟨k, hk, rfl, b, rfl, HP, BK⟩ := hrel
          clear g3
          by_cases hlt2 : k < es.length
          · have k2 : (k : Int) < (es.length : Int) := by omega
            obtain ⟨eb', eo, hea, heb, hec⟩ := EV.out k hlt2
            subst hea
            have e0 : wr.cell? ⟨eb', eo + k * 4, none⟩ = some (.int .i64 es[k].k) := (BK.out.cell (p := ⟨eb', eo + k * 4, none⟩) heb).trans (hec 0 (by omega))
            have e3 : wr.cell? ⟨eb', eo + k * 4 + 3, none⟩ = some (.string es[k].v) := (BK.out.cell (p := ⟨eb', eo + k * 4 + 3, none⟩) heb).trans (hec 3 (by omega))
            have g3 : wr.cell? ⟨G, 3, none⟩ = some (.slice (some ⟨cb, co, none⟩) c.ch.length A.cc) := by rw [← hca]; exact (BK.out.cell (p := ⟨G, 3, none⟩) lG).trans G3.out
            have ex : wr.cell? ⟨cb, co + i, none⟩ = some (.string x0) := (BK.out.cell (p := ⟨cb, co + i, none⟩) hcb).trans X0.out
            have ST := hide1 (fun (h : PrTo es x0 (k + 1)) (hn : ¬ (es[k].k = 1 ∧ es[k].v = x0)) => HP.out (PrTo.step hlt2 h hn))
            generalize es[k].k = ek at *
            generalize es[k].v = ev at *
            clear hec hca
            cases b with
            | true =>
              clear HP ST e0 e3 ex g3
              go_wp2_with fail
              go_quiet (fail)
              go_wp2
              go_roundw
              case rel => exact ⟨k + 1, by omega, by go_num, true, rfl, hide1 (fun h => rfl), hide1 (below_drewN BK.out _)⟩
              case measure => simp [intOf]; omega
            | false =>
              by_cases c1 : ek = 1
              · have q1 : (ek == 1) = true := by simp [c1]
                by_cases ce : ev = x0
                · obtain ⟨q, q'⟩ := text_eq ce
                  clear ce ST HP c1
                  go_wp2_with fail
                  go_quiet (fail)
                  go_wp2
                  go_roundw
                  case rel => exact ⟨k + 1, by omega, by go_num, true, rfl, hide1 (fun h => rfl), hide1 (below_drewN BK.out _)⟩
                  case measure => simp [intOf]; omega
                · have NX := hide1 (fun h => ST.out h (fun e => ce e.2))
                  obtain ⟨q, q'⟩ := text_ne ce
                  clear ce ST HP c1
                  go_wp2_with fail
                  go_quiet (fail)
                  go_wp2
                  go_roundw
                  case rel => exact ⟨k + 1, by omega, by go_num, false, rfl, hide1 (fun h => NX.out h), hide1 (below_drewN BK.out _)⟩
                  case measure => simp [intOf]; omega
              · have NX := hide1 (fun h => ST.out h (fun e => c1 e.1))
                have q1 : (ek == 1) = false := by simp [c1]
                clear ST HP
                go_wp2_with fail
                go_quiet (fail)
                go_wp2
                go_roundw
                case rel => exact ⟨k + 1, by omega, by go_num, false, rfl, hide1 (fun h => NX.out h), hide1 (below_drewN BK.out _)⟩
                case measure => simp [intOf]; omega
          · obtain rfl : k = es.length := by omega
            have k2 : ¬ ((es.length : Int) < (es.length : Int)) := by omega
            obtain rfl : b = true := HP.out PA.out
            clear HP
            go_wp2
            go_roundw
            case rel => exact ⟨i + 1, by omega, by go_num, BK⟩
            case measure => simp [intOf]; omega
      · obtain rfl : i = c.ch.length := by omega
        have k1 : ¬ ((c.ch.length : Int) < (c.ch.length : Int)) := by omega
        clear RC G3 EV
        go_wp2
        go_loopw [15] (fun iv wr => ∃ i : Nat, i ≤ v ∧ iv = .int .i64 (i : Int) ∧ Hid (Below w5.heap.size w5 wr)) (fun iv _ => v - (intOf iv).toNat)
        case atStart => exact ⟨0, Nat.zero_le _, rfl, BB⟩
        case round =>
          obtain ⟨i, hi, rfl, BK⟩ := hrel
          clear g3
          by_cases hlt : i < v
          · have k2 : (i : Int) < (v : Int) := by omega
            have hil : i < c.vs.length := by rw [HNV.out.1]; exact hlt
            obtain ⟨vb, vo, hva, hvb, hvc⟩ := RV.out i hil
            have g0 : wr.cell? ⟨G, 0, none⟩ = some (.slice (some ⟨vb, vo, none⟩) v A.vc) := by rw [← hva]; exact (BK.out.cell (p := ⟨G, 0, none⟩) lG).trans G0.out
            have y0 : wr.cell? ⟨vb, vo + i * 3, none⟩ = some (.int .i64 c.vs[i].p) := (BK.out.cell (p := ⟨vb, vo + i * 3, none⟩) hvb).trans (hvc 0 (by omega))
            have y1 : wr.cell? ⟨vb, vo + i * 3 + 1, none⟩ = some (.int .i64 c.vs[i].t) := (BK.out.cell (p := ⟨vb, vo + i * 3 + 1, none⟩) hvb).trans (hvc 1 (by omega))
            have y2 : wr.cell? ⟨vb, vo + i * 3 + 2, none⟩ = some (.string c.vs[i].v) := (BK.out.cell (p := ⟨vb, vo + i * 3 + 2, none⟩) hvb).trans (hvc 2 (by omega))
            have hok : okVo c.vs[i] := by have := FR.out.ok i hlt; unfold vj at this; rwa [List.getD_eq_getElem?_getD, List.getElem?_eq_getElem hil] at this
            have CV := hide1 (implVoice_any c.vs[i] wr (by have := FR.out.vz _ (List.getElem_mem hil); omega))
            rw [decide_eq_true hok] at CV
            unfold voV at CV
            generalize c.vs[i] = x at *
            clear hvc hok hva hil
            go_wp2_with fail
            refine CV.out.mono ?_
            rintro e w9 ⟨rfl, hb9⟩
            have Q9 := hide1 (BK.out.trans (hb9.mono BK.out.size))
            clear hb9
            go_wp2
            go_roundw
            case rel => exact ⟨i + 1, by omega, by go_num, Q9⟩
            case measure => simp [intOf]; omega
          · obtain rfl : i = v := by omega
            have k2 : ¬ ((i : Int) < (i : Int)) := by omega
            go_wp2
            go_ret
            exact ⟨rfl, BW.out.trans (BK.out.mono BW.out.size)⟩
  · have CB := hide1 (big11_yes a len cap w hbig)
    go_enter Try.func3, Try.ntmps3
    go_wp2_with fail
    refine CB.out.mono ?_
    rintro e w1 ⟨rfl, rfl⟩
    go_wp2
    go_ret
    exact ⟨rfl, Below.refl _ _⟩

set_option maxRecDepth 100000 in
theorem lifted_FnDecides (os : Os) (started : os.Started) (H : Type) (enc : TypeId × Value → H) :
    ReturnsInHanded {} Try.checked os 3 .any (Rows.fnDecidesSpec.pre6 enc Try.prog Try.f3 Rows.fnDecidesRow.domain false) (Rows.fnDecidesSpec.post enc Try.prog Try.f3 false true false false) := by
  refine returnsInHanded_of_change (C := Try.checked) (show ownKnob Try.prog.godebug = none by kernel_rfl) started (by kernel_rfl) Try.func3
    (ChangeSpec.witness6 (enc := enc) (C := Try.checked) false ⟨#[], #[.slice none 0 0], []⟩ 8 (by kernel_rfl) (by kernel_rfl) (by kernel_rfl) (by kernel_rfl)) ?_
  intro W base args ds gs before hval0 hW hcnd _
  have hval : ∀ (j : Nat) t v, Try.f3.params[j]? = some t → args[j]? = some v → Value.okWide Try.prog W .any base t v := hval0
  have hW' := hW
  obtain ⟨p, q, hA0, hV, rfl, hfz, hnd⟩ := hW
  have hA : DataW.TrodAll enc Try.prog W 0 (fun _ => true) true Try.f3.params.toList args.toList ds p := hA0
  rw [Try.params3] at hA hval
  obtain ⟨v0, d0, rfl, rfl, h0⟩ := trodAll_one hA
  obtain ⟨rfl, rfl⟩ := trodVars_none hV
  obtain ⟨a0, len0, cap0, rfl⟩ := okWide_slice Try.underlying22 (hval 0 22 v0 rfl rfl)
  have k0 := h0
  have lt0 : ∀ x ∈ p, x.block < W.heap.size := by obtain ⟨m, hm⟩ := k0; exact DataW.trod_lt m _ _ _ hm
  have r0 : RowB W a0 len0 := by
    obtain ⟨fuel, hf⟩ := h0
    rcases Go.ChangeShapes.open_ints Try.underlying22 Try.underlying5 (by kernel_rfl) hf with ⟨hcs, _⟩ | ⟨x, l, c, zs, hcs, _, hl, hm, hz, _, hcell, hwz⟩
    · simp [Value.cells] at hcs
      obtain ⟨rfl, rfl, rfl⟩ := hcs
      exact fun j hj => absurd hj (Nat.not_lt_zero _)
    · simp [Value.cells] at hcs
      obtain ⟨rfl, rfl, rfl⟩ := hcs
      exact rowB_of hl (by simpa using hz) hcell (fun n hn => bounds_u8 (hwz n hn))
  clear hA0 hval0
  refine (walk_FnDecides a0 len0 cap0 W r0).mono fun e W' ⟨he, bel⟩ => ?_
  subst he
  exact ⟨_, rfl, _, _, _, [], _, [], hW', trodAll_mk1 (shut_bool Try.underlying4 _), trodAll_mk1 (Below.trod (show laidOutB Try.prog = true by kernel_rfl) (by kernel_rfl) (of_decide_eq_true (by kernel_rfl)) k0 bel lt0), rfl, bel.frame _, fun h => by cases h⟩

theorem proved_FnDecides : Rows.FnDecidesSaid :=
  OpenClaim.holds_of_wide 3 Try.f3 rfl rfl rfl rfl rfl rfl rfl ⟨rfl, rfl, rfl, rfl, rfl⟩ rfl rfl rfl rfl rfl (by kernel_rfl) Try.func3 (by kernel_rfl)
    (of_decide_eq_true (by kernel_rfl)) (by unfold Func.isWrapper; first | (rw [if_pos (by decide +kernel)]; kernel_rfl) | (rw [if_neg (by decide +kernel)]; exact ⟨rfl, rfl⟩))
    (fun os started H enc _ => lifted_FnDecides os started H enc)
#print axioms proved_FnDecides
end Go.Proofs.Ytgehdgmllilmgaa
