/- The model's RunCouncil. -/
import Derived.Test.YtgehdgmllilmgaaCoCq
import Derived.Test.YtgehdgmllilmgaaCnY
namespace Go.Proofs.Ytgehdgmllilmgaa
open Go.RowKit
set_option linter.unusedVariables false

/-- What is known behind the first i events of the look at them. -/
def OkTo (v t : Int) (es : List Hp) (i : Nat) : Prop := okNew v t ∧ (0 < i → es.length ≤ 80) ∧ ∀ j (h : j < es.length), j < i → okHp t es[j]
theorem OkTo.all {v t : Int} {es : List Hp} (h : OkTo v t es es.length) : okNew v t ∧ okHps t es := by
  refine ⟨h.1, ?_, fun e he => ?_⟩
  · by_cases c : 0 < es.length
    · exact h.2.1 c
    · omega
  · obtain ⟨j, hj, rfl⟩ := List.getElem_of_mem he
    exact h.2.2 j hj hj
theorem OkTo.next {v t : Int} {es : List Hp} {i : Nat} (h : OkTo v t es i) (hi : i < es.length) (hl : es.length ≤ 80) (he : okHp t es[i]) : OkTo v t es (i + 1) :=
  ⟨h.1, fun _ => hl, fun j hj hlt => by
    by_cases c : j < i
    · exact h.2.2 j hj c
    · have : j = i := by omega
      subst this
      exact he⟩
set_option maxRecDepth 100000 in
set_option maxHeartbeats 4000000 in
theorem specRun_any (v t : Int) (a : Option Addr) (ca : Nat) (es : List Hp) (R : Cn × List Int × Bool) (w : World) (hl : es.length ≤ 1048576) (hz : ∀ e ∈ es, e.v.size ≤ 1048576) (hR : RdG hpC 4 w a es) (hRR : runR v t es = R) :
    Calls Try.prog 13 #[.int .i64 v, .int .i64 t, .slice a es.length ca] w fun r w' => (∃ (M : CA) (b : Option Addr) (cb : Nat), r = .returned (.tuple #[.agg #[.slice M.va R.1.vs.length M.vc, .slice M.ta R.1.ts.length M.tc, .slice M.na R.1.ns.length M.nc, .slice M.ca R.1.ch.length M.cc], .slice b R.2.1.length cb, .bool R.2.2]) ∧ (∀ D, D < w.heap.size ∨ w'.heap.size ≤ D → RdC12 (fun _ => True) w' D M R.1) ∧ RdG izE 1 w' b R.2.1) ∧ Below w.heap.size w w' := by
  have F0 := hide1 (And.intro (Blk.new w 32 #[.slice none 0 0, .slice none 0 0, .slice none 0 0, .slice none 0 0]) ((Below.refl w.heap.size w).alloc (Nat.le_refl _) (.cells #[.slice none 0 0, .slice none 0 0, .slice none 0 0, .slice none 0 0] 32)))
  have HRR := hide1 hRR
  have HR := hide1 hR
  have HZ := hide1 hz
  clear hRR hR hz
  go_enter Try.func13, Try.ntmps13
  go_wp2_with fail
  generalize (w.alloc (.cells #[.slice none 0 0, .slice none 0 0, .slice none 0 0, .slice none 0 0] 32)) = u at F0 ⊢
  obtain ⟨RB, hRB⟩ : ∃ G, G = w.heap.size := ⟨_, rfl⟩
  have KR := hide1 F0.out.1
  rw [← hRB] at KR ⊢
  have lRu : RB < u.heap.size := KR.out.lt
  have hRw : w.heap.size ≤ RB := by omega
  have E0 := hide1 F0.out.2
  clear F0 hRB
  refine (specNewC_any (lo := LoB u.heap.size none) v t u (LoB.none (Nat.le_refl _))).mono ?_
  rintro r w1 ⟨⟨A, rfl, hA⟩, hb1⟩
  have HA := hide1 hA
  have B1 := hide1 hb1
  clear hA hb1
  unfold cnC
  obtain ⟨c, hcc⟩ : ∃ c, newC v t = c := ⟨_, rfl⟩
  rw [hcc]
  rw [hcc] at HA
  have HC := hide1 hcc
  clear hcc
  have FX := hide1 (And.intro (Blk.new w1 32 #[.slice A.va c.vs.length A.vc, .slice A.ta c.ts.length A.tc, .slice A.na c.ns.length A.nc, .slice A.ca c.ch.length A.cc]) ((Below.refl w1.heap.size w1).alloc (Nat.le_refl _) (.cells #[.slice A.va c.vs.length A.vc, .slice A.ta c.ts.length A.tc, .slice A.na c.ns.length A.nc, .slice A.ca c.ch.length A.cc] 32)))
  obtain ⟨b0, hb0⟩ : ∃ b : Bool, b = decide (okNew v t) := ⟨_, rfl⟩
  rw [← hb0]
  have HB0 := hide1 hb0
  clear hb0
  go_upto_region 2 with fail
  generalize (w1.alloc (.cells #[.slice A.va c.vs.length A.vc, .slice A.ta c.ts.length A.tc, .slice A.na c.ns.length A.nc, .slice A.ca c.ch.length A.cc] 32)) = w2 at FX ⊢
  obtain ⟨X, hX⟩ : ∃ X, X = w1.heap.size := ⟨_, rfl⟩
  have KX := hide1 FX.out.1
  have hA1 := hide1 (HA.out X (.inr (by omega)))
  rw [← hX] at KX ⊢
  have lu1 : u.heap.size ≤ w1.heap.size := B1.out.size
  have B2 := hide1 (show Below w.heap.size w w2 from (E0.out.trans (B1.out.mono E0.out.size)).trans (FX.out.2.mono (by have := E0.out.size; omega)))
  have lX2 : X < w2.heap.size := KX.out.lt
  have hXu : u.heap.size ≤ X := by omega
  have V2 := hide1 (show VaC (LoB u.heap.size none) w2 X A c from ⟨KX.out, LoB.none (by omega), hA1.out.grown (gnew (show Below w1.heap.size w1 w2 from FX.out.2))⟩)
  have KR2 := hide1 ((KR.out.below B1.out lRu).below FX.out.2 (by omega))
  have lu2 : u.heap.size ≤ w2.heap.size := by omega
  clear hX hA1 HA KX FX B1 E0 KR
  have lw2 : w.heap.size ≤ w2.heap.size := B2.out.size
  go_wp2
  go_loopw [11, 10] (fun iv ov wr => ∃ i : Nat, i ≤ es.length ∧ iv = .int .i64 (i : Int) ∧ ∃ b : Bool, ov = .bool b ∧ Hid (b = true → OkTo v t es i) ∧ Hid (b = false → ¬ (okNew v t ∧ okHps t es)) ∧ Hid (Below w2.heap.size w2 wr)) (fun iv _ _ => es.length - (intOf iv).toNat)
  case atStart =>
    refine ⟨0, Nat.zero_le _, rfl, b0, rfl, hide1 (fun h => ⟨?_, fun h => by omega, fun j _ h => by omega⟩), hide1 (fun h e => ?_), hide1 (Below.refl _ _)⟩
    · rw [HB0.out] at h; exact of_decide_eq_true h
    · rw [HB0.out] at h; exact of_decide_eq_false h e.1
  case round =>
    obtain ⟨i, hi, rfl, b, rfl, HT, HN, BB⟩ := hrel
    have KRr := hide1 (KR2.out.below BB.out KR2.out.lt)
    have BW := hide1 (B2.out.trans (BB.out.mono lw2))
    by_cases hlt : i < es.length
    · have k1 : (i : Int) < (es.length : Int) := by omega
      cases b with
      | false =>
        have HNO := hide1 (HN.out rfl)
        clear HT HN
        have ER := hide1 (show R = (zeroCn, [], false) by rw [← HRR.out]; unfold runR; rw [if_neg HNO.out])
        have RR := hide1 (KRr.out)
        have r0 : wr.cell? ⟨RB, 0, none⟩ = some (.slice none 0 0) := RR.out.cell 0
        have r1 : wr.cell? ⟨RB, 1, none⟩ = some (.slice none 0 0) := RR.out.cell 1
        have r2 : wr.cell? ⟨RB, 2, none⟩ = some (.slice none 0 0) := RR.out.cell 2
        have r3 : wr.cell? ⟨RB, 3, none⟩ = some (.slice none 0 0) := RR.out.cell 3
        have rf : ∀ j, wr.frozen? ⟨RB, j, none⟩ = false := fun j => RR.out.froz j
        have lR9 : RB < wr.heap.size := RR.out.lt
        go_wp2
        have hb9 : ∀ (p q r s : Value) (o : Obj), Below w.heap.size w (((((wr.setCell ⟨RB, 0, none⟩ p).setCell ⟨RB, 1, none⟩ q).setCell ⟨RB, 2, none⟩ r).setCell ⟨RB, 3, none⟩ s).alloc o) := fun p q r s o => ((((BW.out.setCell (p := ⟨RB, 0, none⟩) hRw p).setCell (p := ⟨RB, 1, none⟩) hRw q).setCell (p := ⟨RB, 2, none⟩) hRw r).setCell (p := ⟨RB, 3, none⟩) hRw s).alloc (by simp only [World.size_setCell]; exact BW.out.size) o
        refine bodyPost_ret (resC3 Try.results13 _ _ RB 32 #[.slice none 0 0, .slice none 0 0, .slice none 0 0, .slice none 0 0] (0, 0) _ rfl (Blk.more (Blk.set (Blk.set (Blk.set (Blk.set RR.out 0 _) 1 _) 2 _) 3 _) _) Try.underlying32 rfl (by kernel_rfl)) rfl ?_
        rw [ER.out]
        first
          | exact ⟨⟨nilA, _, _, rfl, fun D hD => nil_rd _ D, RdG.nil _ _⟩, hb9 _ _ _ _ _⟩
          | exact ⟨⟨nilA, _, ⟨_, rfl⟩, fun D hD => nil_rd _ D, RdG.nil _ _⟩, hb9 _ _ _ _ _⟩
      | true =>
        have HO := hide1 (HT.out rfl)
        clear HT HN
        by_cases c80 : es.length ≤ 80
        · have k2 : (es.length : Int) ≤ 80 := by omega
          obtain ⟨eb, eo, rfl, heb, hec⟩ := HR.out i hlt
          have e0 : wr.cell? ⟨eb, eo + i * 4, none⟩ = some (.int .i64 es[i].k) := (BW.out.cell (p := ⟨eb, eo + i * 4, none⟩) heb).trans (hec 0 (by omega))
          have e1 : wr.cell? ⟨eb, eo + i * 4 + 1, none⟩ = some (.int .i64 es[i].i) := (BW.out.cell (p := ⟨eb, eo + i * 4 + 1, none⟩) heb).trans (hec 1 (by omega))
          have e2 : wr.cell? ⟨eb, eo + i * 4 + 2, none⟩ = some (.int .i64 es[i].a) := (BW.out.cell (p := ⟨eb, eo + i * 4 + 2, none⟩) heb).trans (hec 2 (by omega))
          have e3 : wr.cell? ⟨eb, eo + i * 4 + 3, none⟩ = some (.string es[i].v) := (BW.out.cell (p := ⟨eb, eo + i * 4 + 3, none⟩) heb).trans (hec 3 (by omega))
          have CE := hide1 (specOkE_any t es[i] wr (HZ.out _ (List.getElem_mem hlt)))
          have HY := hide1 (fun h => HO.out.next hlt c80 h)
          have HW := hide1 (fun (h : ¬ okHp t es[i]) (e : okNew v t ∧ okHps t es) => h (e.2.2 _ (List.getElem_mem hlt)))
          generalize es[i] = e at *
          clear hec
          go_wp2_with fail
          refine CE.out.mono ?_
          rintro r w3 ⟨rfl, hb3⟩
          obtain ⟨d, hd⟩ : ∃ d : Bool, d = decide (okHp t e) := ⟨_, rfl⟩
          rw [← hd]
          have HD := hide1 hd
          have E3 := hide1 (show Below w2.heap.size w2 w3 from BB.out.trans (hb3.mono BB.out.size))
          clear hd hb3 CE
          go_wp2
          go_roundw
          case rel => exact ⟨i + 1, by omega, by go_num, d, rfl, hide1 (fun h => HY.out (of_decide_eq_true (by rw [← HD.out]; exact h))), hide1 (fun h => HW.out (of_decide_eq_false (by rw [← HD.out]; exact h))), E3⟩
          case measure => simp [intOf]; omega
        · have k2 : ¬ (es.length : Int) ≤ 80 := by omega
          have q2 : decide ((es.length : Int) ≤ 80) = false := decide_eq_false k2
          go_wp2
          go_roundw
          case rel => exact ⟨i + 1, by omega, by go_num, false, rfl, hide1 (fun h => by cases h), hide1 (fun _ e => c80 e.2.1), BB⟩
          case measure => simp [intOf]; omega
    · obtain rfl : i = es.length := by omega
      have k1 : ¬ ((es.length : Int) < (es.length : Int)) := by omega
      cases b with
      | false =>
        have HNO := hide1 (HN.out rfl)
        clear HT HN
        have ER := hide1 (show R = (zeroCn, [], false) by rw [← HRR.out]; unfold runR; rw [if_neg HNO.out])
        have RR := hide1 (KRr.out)
        have r0 : wr.cell? ⟨RB, 0, none⟩ = some (.slice none 0 0) := RR.out.cell 0
        have r1 : wr.cell? ⟨RB, 1, none⟩ = some (.slice none 0 0) := RR.out.cell 1
        have r2 : wr.cell? ⟨RB, 2, none⟩ = some (.slice none 0 0) := RR.out.cell 2
        have r3 : wr.cell? ⟨RB, 3, none⟩ = some (.slice none 0 0) := RR.out.cell 3
        have rf : ∀ j, wr.frozen? ⟨RB, j, none⟩ = false := fun j => RR.out.froz j
        have lR9 : RB < wr.heap.size := RR.out.lt
        go_wp2
        have hb9 : ∀ (p q r s : Value) (o : Obj), Below w.heap.size w (((((wr.setCell ⟨RB, 0, none⟩ p).setCell ⟨RB, 1, none⟩ q).setCell ⟨RB, 2, none⟩ r).setCell ⟨RB, 3, none⟩ s).alloc o) := fun p q r s o => ((((BW.out.setCell (p := ⟨RB, 0, none⟩) hRw p).setCell (p := ⟨RB, 1, none⟩) hRw q).setCell (p := ⟨RB, 2, none⟩) hRw r).setCell (p := ⟨RB, 3, none⟩) hRw s).alloc (by simp only [World.size_setCell]; exact BW.out.size) o
        refine bodyPost_ret (resC3 Try.results13 _ _ RB 32 #[.slice none 0 0, .slice none 0 0, .slice none 0 0, .slice none 0 0] (0, 0) _ rfl (Blk.more (Blk.set (Blk.set (Blk.set (Blk.set RR.out 0 _) 1 _) 2 _) 3 _) _) Try.underlying32 rfl (by kernel_rfl)) rfl ?_
        rw [ER.out]
        first
          | exact ⟨⟨nilA, _, _, rfl, fun D hD => nil_rd _ D, RdG.nil _ _⟩, hb9 _ _ _ _ _⟩
          | exact ⟨⟨nilA, _, ⟨_, rfl⟩, fun D hD => nil_rd _ D, RdG.nil _ _⟩, hb9 _ _ _ _ _⟩
      | true =>
        have HO := hide1 ((HT.out rfl).all)
        clear HT HN
        obtain ⟨hnew, h80, hall⟩ := id HO.out
        obtain ⟨⟨v1, v2⟩, t1, t2⟩ := id hnew
        obtain ⟨vn, hvn⟩ : ∃ n : Nat, v = (n : Int) := ⟨v.toNat, by omega⟩
        obtain ⟨tn, htn⟩ : ∃ n : Nat, t = (n : Int) := ⟨t.toNat, by omega⟩
        subst hvn htn
        have ER := hide1 (show R = ((runC (newCn vn tn) es).1, (runC (newCn vn tn) es).2, true) by rw [← HRR.out]; unfold runR; rw [if_pos HO.out, Int.toNat_natCast, Int.toNat_natCast])
        have HNC := hide1 (show c = newCn vn tn by rw [← HC.out]; unfold newC; rw [if_pos hnew, Int.toNat_natCast, Int.toNat_natCast])
        have HAL := hide1 hall
        have VR := hide1 (V2.out.later BB.out)
        have FG := hide1 (And.intro (Blk.new wr 3 #[]) ((Below.refl wr.heap.size wr).alloc (Nat.le_refl _) (.cells #[] 3)))
        clear hall HO HC HRR hnew V2 KR2 B2
        go_upto_region 9 with fail
        generalize (wr.alloc (.cells #[] 3)) = w5 at FG ⊢
        obtain ⟨g, hg⟩ : ∃ g, g = wr.heap.size := ⟨_, rfl⟩
        have KG := hide1 FG.out.1
        rw [← hg] at KG ⊢
        have lX : X < wr.heap.size := VR.out.b.lt
        have V5 := hide1 (show VaC (LoB u.heap.size (some ⟨g, 0, none⟩)) w5 X A c from VR.out.push (n := 0) (ec := 0) (gnew FG.out.2) (fun q hq => by cases hq) (fun x hx => .inr (by injection hx with hx; subst hx; show wr.heap.size ≤ g; omega)) (fun x hx => by injection hx with hx; subst hx; exact KG.out.lt))
        have O5 := hide1 (show w5.ownsRow (X + 1) 3 1 (.slice (some ⟨g, 0, none⟩) 0 0) 0 (rowG izE ([] : List Int)) from own_none KG.out (by omega))
        have M5 := hide1 (show Mid13 vn tn 0 es c [] by rw [HNC.out]; exact Mid13.new vn tn es (by omega) (by omega))
        have KR5 := hide1 (KRr.out.below FG.out.2 KRr.out.lt)
        have BW5 := hide1 (BW.out.trans (FG.out.2.mono BW.out.size))
        have hRX : RB ≠ X := by omega
        have hwX : w.heap.size ≤ X := by omega
        clear hg KG FG VR KRr BW BB HNC k1 lX
        go_wp2
        go_loopw [13, 12] (fun iv kv wr => ∃ i : Nat, i ≤ es.length ∧ iv = .int .i64 (i : Int) ∧ ∃ (c : Cn) (A : CA) (ks : List Int) (kb : Option Addr) (kc : Nat), kv = .slice kb i kc ∧ Hid (Mid13 vn tn i es c ks) ∧ Hid (VaC (LoB u.heap.size kb) wr X A c) ∧ Hid (wr.ownsRow (X + 1) 3 1 (.slice kb i kc) i (rowG izE ks)) ∧ Hid (Blk wr RB 32 [.slice none 0 0, .slice none 0 0, .slice none 0 0, .slice none 0 0]) ∧ Hid (Below w.heap.size w wr)) (fun iv _ _ => es.length - (intOf iv).toNat)
        case atStart => exact ⟨0, Nat.zero_le _, rfl, c, A, [], _, _, rfl, M5, V5, O5, KR5, BW5⟩
        case round =>
          clear M5 V5 O5 KR5 BW5
          obtain ⟨i, hi, rfl, c, A, ks, kb, kc, rfl, HM, VR, OK, KRr, BW⟩ := hrel
          have lX : X < wr.heap.size := VR.out.b.lt
          have lR : RB < wr.heap.size := KRr.out.lt
          have hfit := fit_of HM.out.hg HM.out.hs (by omega)
          have HFT := hide1 hfit
          by_cases hlt : i < es.length
          · have k1 : (i : Int) < (es.length : Int) := by omega
            obtain ⟨eb, eo, rfl, heb, hec⟩ := HR.out i hlt
            have e0 : wr.cell? ⟨eb, eo + i * 4, none⟩ = some (.int .i64 es[i].k) := (BW.out.cell (p := ⟨eb, eo + i * 4, none⟩) heb).trans (hec 0 (by omega))
            have e1 : wr.cell? ⟨eb, eo + i * 4 + 1, none⟩ = some (.int .i64 es[i].i) := (BW.out.cell (p := ⟨eb, eo + i * 4 + 1, none⟩) heb).trans (hec 1 (by omega))
            have e2 : wr.cell? ⟨eb, eo + i * 4 + 2, none⟩ = some (.int .i64 es[i].a) := (BW.out.cell (p := ⟨eb, eo + i * 4 + 2, none⟩) heb).trans (hec 2 (by omega))
            have e3 : wr.cell? ⟨eb, eo + i * 4 + 3, none⟩ = some (.string es[i].v) := (BW.out.cell (p := ⟨eb, eo + i * 4 + 3, none⟩) heb).trans (hec 3 (by omega))
            have hoe := HAL.out _ (List.getElem_mem hlt)
            have htl := HM.out.ht
            have CDo := hide1 (specDo_any c es[i] X A wr VR.out hfit.1 hfit.2 hoe.2.1.1 (by rw [htl]; exact hoe.2.1.2) hoe.2.2.1)
            have MN := hide1 (HM.out.next (by omega) hlt hoe)
            generalize es[i] = e at *
            clear hec hfit hoe htl HFT
            obtain ⟨k, hk⟩ : ∃ k, (doC c e).2 = k := ⟨_, rfl⟩
            obtain ⟨c', hc'⟩ : ∃ c', (doC c e).1 = c' := ⟨_, rfl⟩
            rw [hk, hc'] at CDo MN
            clear hk hc'
            go_wp2_with fail
            refine CDo.out.mono ?_
            rintro r w6 ⟨rfl, ⟨A', hA'⟩, hg6⟩
            have V6 := hide1 hA'
            have O6 := hide1 (gown hg6 OK.out (fun q hq e => by injection e with e; have := (OK.out.lt q hq).1; omega))
            have KR6 := hide1 (gblk hg6 KRr.out (by intro e; injection e; omega))
            have BW6 := hide1 (BW.out.trans (gbelow hg6 (fun q hq => by injection hq with hq; omega) BW.out.size))
            have lX6 : X < w6.heap.size := V6.out.b.lt
            have FL := hide1 (And.intro (Blk.new w6 3 #[.int .i64 k]) ((Below.refl w6.heap.size w6).alloc (Nat.le_refl _) (.cells #[.int .i64 k] 3)))
            clear hA' hg6 CDo e0 e1 e2 e3
            go_wp2_with (at_builtin; (refine wpList_appA encZ rowZ rfl (.tmp 51) (.tmp 57) rfl (X + 1) _ i ks rfl (own_kept O6.out FL.out.2) (some ⟨w6.heap.size, 0, none⟩) 1 1 [k] rfl rfl (rd_one encZ FL.out.1) (by omega) (by have := FL.out.2.size; omega) ?_; intro b7 c7 w7 ho7 hg7 hp7; have O7 := hide1 ho7; have G7 := hide1 hg7; have P7 := hide1 hp7; clear ho7 hg7 hp7))
            go_roundw
            case rel =>
              have oq : ∀ q, (Value.slice kb i kc).ownBlock = some q → X + 1 ≤ q := fun q hq => (O6.out.lt q hq).1
              have hbl := gbelow (B := X + 1) G7.out oq (by have := FL.out.2.size; omega)
              refine ⟨i + 1, by omega, by go_num, c', A', ks ++ [k], b7, c7, rfl, MN, hide1 ((V6.out.later FL.out.2).push G7.out (fun q hq => by have := oq q hq; omega) P7.out (fun x hx => (O7.out.lt x.block (by subst hx; rfl)).2)), O7, hide1 ((KR6.out.below FL.out.2 KR6.out.lt).below hbl (by omega)), hide1 ((BW6.out.trans (FL.out.2.mono BW6.out.size)).trans (hbl.mono (by omega)))⟩
            case measure => simp [intOf]; omega
          · obtain rfl : i = es.length := by omega
            have k1 : ¬ ((es.length : Int) < (es.length : Int)) := by omega
            have hc9 := HM.out.hc
            have hk9 := HM.out.hk
            rw [List.take_length] at hc9 hk9
            have ER2 := hide1 (show R = (c, ks, true) by rw [ER.out, ← hc9, ← hk9])
            have HKL := hide1 HM.out.hl
            have CC := hide1 (specCopy_any12 c A X wr VR.out.r hfit.1)
            have x0 : wr.cell? ⟨X, 0, none⟩ = some (.slice A.va c.vs.length A.vc) := VR.out.b.cell 0
            have x1 : wr.cell? ⟨X, 1, none⟩ = some (.slice A.ta c.ts.length A.tc) := VR.out.b.cell 1
            have x2 : wr.cell? ⟨X, 2, none⟩ = some (.slice A.na c.ns.length A.nc) := VR.out.b.cell 2
            have x3 : wr.cell? ⟨X, 3, none⟩ = some (.slice A.ca c.ch.length A.cc) := VR.out.b.cell 3
            clear hc9 hk9 hfit HFT HM ER
            go_wp2_with fail
            refine CC.out.mono ?_
            rintro r w8 ⟨⟨M, rfl, hM⟩, hb8⟩
            have HMM := hide1 hM
            have E8 := hide1 hb8
            have RR := hide1 (KRr.out.below hb8 lR)
            have r0 : w8.cell? ⟨RB, 0, none⟩ = some (.slice none 0 0) := RR.out.cell 0
            have r1 : w8.cell? ⟨RB, 1, none⟩ = some (.slice none 0 0) := RR.out.cell 1
            have r2 : w8.cell? ⟨RB, 2, none⟩ = some (.slice none 0 0) := RR.out.cell 2
            have r3 : w8.cell? ⟨RB, 3, none⟩ = some (.slice none 0 0) := RR.out.cell 3
            have rf : ∀ j, w8.frozen? ⟨RB, j, none⟩ = false := fun j => RR.out.froz j
            have B8 := hide1 (BW.out.trans (hb8.mono BW.out.size))
            have l8 : wr.heap.size ≤ w8.heap.size := hb8.size
            have lwr : w.heap.size ≤ wr.heap.size := BW.out.size
            clear hM hb8 CC
            go_wp2
            have hg9 : ∀ (p q r s : Value), w8.grownBy ((((w8.setCell ⟨RB, 0, none⟩ p).setCell ⟨RB, 1, none⟩ q).setCell ⟨RB, 2, none⟩ r).setCell ⟨RB, 3, none⟩ s) (some RB) := fun p q r s => gset (gset (gset (gset (World.grownBy.refl _ _) 0 p) 1 q) 2 r) 3 s
            have hb9 : ∀ (p q r s : Value), Below w.heap.size w ((((w8.setCell ⟨RB, 0, none⟩ p).setCell ⟨RB, 1, none⟩ q).setCell ⟨RB, 2, none⟩ r).setCell ⟨RB, 3, none⟩ s) := fun p q r s => (((B8.out.setCell (p := ⟨RB, 0, none⟩) hRw p).setCell (p := ⟨RB, 1, none⟩) hRw q).setCell (p := ⟨RB, 2, none⟩) hRw r).setCell (p := ⟨RB, 3, none⟩) hRw s
            refine bodyPost_ret (resC3 Try.results13 _ _ RB 32 #[.slice M.va c.vs.length M.vc, .slice M.ta c.ts.length M.tc, .slice M.na c.ns.length M.nc, .slice M.ca c.ch.length M.cc] (0, 0) _ rfl (Blk.set (Blk.set (Blk.set (Blk.set RR.out 0 _) 1 _) 2 _) 3 _) Try.underlying32 rfl (by kernel_rfl)) rfl ?_
            rw [ER2.out]
            have e9 := HKL.out
            refine ⟨⟨M, kb, kc, by show _ = Ending.returned (.tuple #[_, .slice kb ks.length kc, _]); rw [e9]; rfl, fun D hD => ?_, ?_⟩, hb9 _ _ _ _⟩
            · simp only [World.size_setCell] at hD
              exact (HMM.out D (by omega)).move (hg9 _ _ _ _) (fun b hb e => by injection e with e; have hb : wr.heap.size ≤ b := hb; omega) (fun _ _ _ => trivial)
            · exact ((rdG_of_own encZ.len OK.out HKL.out).later E8.out).move (hg9 _ _ _ _) (fun b o e h q => by injection q with q; have := (OK.out.lt b (by subst e; rfl)).1; omega)
end Go.Proofs.Ytgehdgmllilmgaa
