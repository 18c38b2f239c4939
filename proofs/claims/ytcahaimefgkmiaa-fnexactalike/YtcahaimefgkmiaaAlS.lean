/- Who must have the same: the model's Alike. -/
import Derived.Test.YtcahaimefgkmiaaGhV
import Derived.Test.YtcahaimefgkmiaaGhS
import Derived.Test.YtcahaimefgkmiaaAlE
import Derived.Test.YtcahaimefgkmiaaTD
namespace Go.Proofs.Ytcahaimefgkmiaa
open Go.RowKit
set_option linter.unusedVariables false

/-- AlkP told by the group's rows. -/
theorem AlkP.of_L {g : Gv} : AlkP g.vs g.ms ↔ ∀ i (hi : i < g.L.length) k (hk : k < g.L.length), MusG g.vs g.L[i].m g.L[k].m → g.L[i].m.is = g.L[k].m.is := by
  unfold AlkP Gv.ms
  simp only [List.length_map, List.getElem_map]
  constructor
  · intro h i hi k hk hm
    by_cases e : i = k
    · subst e; rfl
    · exact h i hi k hk e hm
  · intro h i hi k hk _ hm
    exact h i hi k hk hm
set_option maxRecDepth 100000 in
set_option maxHeartbeats 4000000 in
theorem specAlike_any (g : Gv) (w : World) (hz : SmGp g) (hr : RdGp w g) :
    Calls Try.prog 24 #[.agg (grA g)] w fun e w' => e = .returned (.bool (bo (AlkP g.vs g.ms))) ∧ Below w.heap.size w w' := by
  have F := hide1 (And.intro (BlkA.new w 46 (grA g)) ((Below.refl w.heap.size w).alloc (Nat.le_refl _) (.cells (grA g) 46)))
  have HR := hide1 (hr.later F.out.2)
  have hml := hz.ml
  have hvl := hz.vl
  have HZS := hide1 hz
  clear hr hz
  go_enter Try.func24, Try.ntmps24
  go_upto_region 1 with fail
  generalize (w.alloc (.cells (grA g) 46)) = u at F HR ⊢
  obtain ⟨X, hX⟩ : ∃ G, G = w.heap.size := ⟨_, rfl⟩
  have KX := hide1 F.out.1
  have E0 := hide1 F.out.2
  rw [← hX] at KX ⊢
  clear F hX
  go_wp2
  go_loopw [3] (fun iv wr => ∃ i : Nat, i ≤ g.L.length ∧ iv = .int .i64 (i : Int) ∧ Hid (∀ j (h : j < g.L.length), j < i → ∀ k (hk : k < g.L.length), MusG g.vs g.L[j].m g.L[k].m → g.L[j].m.is = g.L[k].m.is) ∧ Below u.heap.size u wr) (fun iv _ => g.L.length - (intOf iv).toNat)
  case atStart => exact ⟨0, by omega, rfl, hide1 (fun j _ h => by omega), Below.refl _ _⟩
  case round =>
    obtain ⟨i, hi, rfl, hD, hbel⟩ := hrel
    have x1 : wr.cell? ⟨X, 1, none⟩ = some (.slice g.ma g.L.length g.mc) := (KX.out.below hbel KX.out.lt).cell 1 rfl
    by_cases hlt : i < g.L.length
    · have k1 : (i : Int) < (g.L.length : Int) := by omega
      obtain ⟨b1, o1, ea, hb1, hc1⟩ := RdG.at encMr HR.out.m.r i hlt
      rw [ea] at x1
      have C1 := hide1 (show CsAt wr b1 (o1 + i * 16) (mrA g.L[i]) from hc1.later hbel hb1)
      have ONE1 := hide1 (oneMr g.L[i])
      have BX := hide1 (BlkA.new wr 69 (mrA g.L[i]))
      have bx := (Below.refl wr.heap.size wr).alloc (Nat.le_refl _) (.cells (mrA g.L[i]) 69)
      have BB := hide1 (hbel.trans (bx.mono hbel.size))
      have EA := hide1 ea
      clear hc1 bx ea
      go_upto_region 5 with (first | (refine wpList_load_at rfl 69 _ rfl b1 (o1 + i * 16) rfl (mrA g.L[i]) _ C1.out Try.underlying69 rfl sizeMb ?_) | (refine wpList_store_row rfl 69 _ _ rfl wr.heap.size (mrA g.L[i]) rfl rfl 69 _ (heap_alloc_last _ _) sizeMb rfl ONE1.out ?_; rw [World.setRow_alloc_new]))
      generalize (wr.alloc (.cells (mrA g.L[i]) 69)) = v at BX BB ⊢
      obtain ⟨Y, hY⟩ : ∃ G, G = wr.heap.size := ⟨_, rfl⟩
      rw [← hY] at BX ⊢
      clear hY C1 ONE1 x1
      have NX := hide1 (show ∀ u', Below u.heap.size u u' → (∀ k (hk : k < g.L.length), MusG g.vs g.L[i].m g.L[k].m → g.L[i].m.is = g.L[k].m.is) → i + 1 ≤ g.L.length ∧ Hid (∀ j (h : j < g.L.length), j < i + 1 → ∀ k (hk : k < g.L.length), MusG g.vs g.L[j].m g.L[k].m → g.L[j].m.is = g.L[k].m.is) ∧ Below u.heap.size u u' from fun u' hb ho => ⟨by omega, fun j h hj => by
        by_cases e : j < i
        · exact hD.out j h e
        · obtain rfl : j = i := by omega
          exact ho, hb⟩)
      clear hD hbel
      have y5 : v.cell? ⟨Y, 5, none⟩ = some (.bool g.L[i].m.se) := BX.out.cell 5 rfl
      have y9 : v.cell? ⟨Y, 9, none⟩ = some (.int .i64 g.L[i].m.tk.op) := BX.out.cell 9 rfl
      have x0 : v.cell? ⟨X, 0, none⟩ = some (.slice g.va g.M.length g.vc) := (KX.out.below BB.out KX.out.lt).cell 0 rfl
      cases hse : g.L[i].m.se
      · have SE := hide1 hse
        rw [hse] at y5
        clear hse
        go_wp2
        go_roundw
        case rel => obtain ⟨n1, n2, n3⟩ := NX.out _ BB.out (fun k hk h => by have := h.1; rw [SE.out] at this; cases this); exact ⟨i + 1, n1, by go_num, n2, n3⟩
        case measure => simp [intOf]; omega
      have SE := hide1 hse
      rw [hse] at y5
      clear hse
      by_cases h2 : g.L[i].m.tk.op = 0
      case neg =>
        have q2 : (g.L[i].m.tk.op != 0) = true := by simp [h2]
        have H2 := hide1 h2
        clear h2
        go_wp2
        go_roundw
        case rel => obtain ⟨n1, n2, n3⟩ := NX.out _ BB.out (fun k hk h => absurd h.2.1 H2.out); exact ⟨i + 1, n1, by go_num, n2, n3⟩
        case measure => simp [intOf]; omega
      have q2 : (g.L[i].m.tk.op != 0) = false := by simp [h2]
      have H2 := hide1 h2
      clear h2
      by_cases d1 : 1 ≤ g.L[i].m.ep ∧ g.L[i].m.ep ≤ (g.M.length : Int)
      case neg =>
        have y1 : v.cell? ⟨Y, 1, none⟩ = some (.int .i64 g.L[i].m.ep) := BX.out.cell 1 rfl
        have CI := hide1 (fun w => in_anyG g.L[i].m.ep 1 g.M.length false (by by_cases h1 : 1 ≤ g.L[i].m.ep <;> by_cases h2 : g.L[i].m.ep ≤ (g.M.length : Int) <;> simp [h1, h2] <;> omega) w)
        have D1 := hide1 d1
        clear d1
        go_wp2_with (go_at_call 26; refine (CI.out _).mono ?_; rintro e w2 ⟨rfl, rfl⟩)
        go_roundw
        case rel => obtain ⟨n1, n2, n3⟩ := NX.out _ BB.out (fun k hk h => by have h5 := h.2.2.2.2; rw [show vwO g.vs g.L[i].m.ep = [] from vwO_out D1.out] at h5; cases h5); exact ⟨i + 1, n1, by go_num, n2, n3⟩
        case measure => simp [intOf]; omega
      obtain ⟨e, he⟩ : ∃ e : Nat, g.L[i].m.ep = (e : Int) + 1 := ⟨(g.L[i].m.ep - 1).toNat, by omega⟩
      have hle : e < g.M.length := by omega
      have HE := hide1 he
      have y1 : v.cell? ⟨Y, 1, none⟩ = some (.int .i64 ((e : Int) + 1)) := by rw [← he]; exact BX.out.cell 1 rfl
      have CI := hide1 (fun w => in_anyG ((e : Int) + 1) 1 g.M.length true (by simp; omega) w)
      have k3 : (e : Int) < (g.M.length : Int) := by omega
      have k4 : wrap64 ((e : Int) + 1 - 1) = (e : Int) := by rw [show (e : Int) + 1 - 1 = (e : Int) by omega]; exact IntWalk.wrap64_in _ (by omega)
      have VE := hide1 (show vwO g.vs g.L[i].m.ep = g.M[e].l from by rw [he]; exact vwO_in hle)
      clear d1 he
      obtain ⟨b, o, eb, hb, hc⟩ := HR.out.v.r e hle
      have ZC := hide1 (show u.cell? ⟨b, o + e, none⟩ = some (.slice g.M[e].a g.M[e].l.length g.M[e].c) from by
        have h := hc 0 (by omega)
        rw [show o + e * 1 + 0 = o + e by omega] at h
        exact h)
      have EB := hide1 eb
      clear hc eb
      go_wp2_with (go_at_call 26; refine (CI.out _).mono ?_; rintro e w2 ⟨rfl, rfl⟩)
      clear y5 y9 x0 y1 CI q2
      have BV := hide1 BB.out
      go_loopw [5] (fun kv wq => ∃ k : Nat, k ≤ g.L.length ∧ kv = .int .i64 (k : Int) ∧ Hid (∀ j (h : j < g.L.length), j < k → MusG g.vs g.L[i].m g.L[j].m → g.L[i].m.is = g.L[j].m.is) ∧ Below u.heap.size u wq ∧ BlkA wq Y 69 (mrA g.L[i])) (fun kv _ => g.L.length - (intOf kv).toNat)
      case atStart => exact ⟨0, by omega, rfl, hide1 (fun j _ h => by omega), BV.out, BX.out⟩
      case round =>
        obtain ⟨k, hk, rfl, hP, hb4, hy4⟩ := hrel
        have BQ := hide1 hb4
        have KY := hide1 hy4
        clear hb4 hy4 BX BB BV
        have x1 : wr.cell? ⟨X, 1, none⟩ = some (.slice (some ⟨b1, o1, none⟩) g.L.length g.mc) := by rw [← EA.out]; exact (KX.out.below BQ.out KX.out.lt).cell 1 rfl
        by_cases hlk : k < g.L.length
        · have k2 : (k : Int) < (g.L.length : Int) := by omega
          obtain ⟨b2, o2, e2, hb5, hc5⟩ := RdG.at encMr HR.out.m.r k hlk
          rw [EA.out] at e2
          obtain ⟨rfl, rfl⟩ : b1 = b2 ∧ o1 = o2 := by injection e2 with e2; injection e2 with e3 e4; exact ⟨e3, e4⟩
          have C5 := hide1 (show CsAt wr b1 (o1 + k * 16) (mrA g.L[k]) from hc5.later BQ.out hb5)
          have ONE2 := hide1 (oneMr g.L[k])
          have BZ := hide1 (BlkA.new wr 69 (mrA g.L[k]))
          have bz := (Below.refl wr.heap.size wr).alloc (Nat.le_refl _) (.cells (mrA g.L[k]) 69)
          have B2 := hide1 (BQ.out.trans (bz.mono BQ.out.size))
          have KY2 := hide1 (KY.out.below bz KY.out.lt)
          clear hc5 bz
          go_upto_region 10 with (first | (refine wpList_load_at rfl 69 _ rfl b1 (o1 + k * 16) rfl (mrA g.L[k]) _ C5.out Try.underlying69 rfl sizeMb ?_) | (refine wpList_store_row rfl 69 _ _ rfl wr.heap.size (mrA g.L[k]) rfl rfl 69 _ (heap_alloc_last _ _) sizeMb rfl ONE2.out ?_; rw [World.setRow_alloc_new]))
          go_simp
          generalize (wr.alloc (.cells (mrA g.L[k]) 69)) = q at BZ B2 KY2 ⊢
          obtain ⟨Z, hZ⟩ : ∃ G, G = wr.heap.size := ⟨_, rfl⟩
          rw [← hZ] at BZ ⊢
          clear hZ C5 ONE2 x1 KY
          have NP := hide1 (show (MusG g.vs g.L[i].m g.L[k].m → g.L[i].m.is = g.L[k].m.is) → ∀ j (h : j < g.L.length), j < k + 1 → MusG g.vs g.L[i].m g.L[j].m → g.L[i].m.is = g.L[j].m.is from fun ho j h hj => by
            by_cases e : j < k
            · exact hP.out j h e
            · obtain rfl : j = k := by omega
              exact ho)
          clear hP
          have v1 : ∀ n : Gr q, n.w.cell? ⟨Y, 1, none⟩ = some (.int .i64 ((e : Int) + 1)) := fun n => n.cell (by rw [← HE.out]; exact KY2.out.cell 1 rfl)
          have v7 : ∀ n : Gr q, n.w.cell? ⟨Y, 7, none⟩ = some (.slice g.L[i].a.ia g.L[i].m.is.length g.L[i].a.ic) := fun n => n.cell (KY2.out.cell 7 rfl)
          have z0 : ∀ n : Gr q, n.w.cell? ⟨Z, 0, none⟩ = some (.int .i64 g.L[k].m.id) := fun n => n.cell (BZ.out.cell 0 rfl)
          have z1 : ∀ n : Gr q, n.w.cell? ⟨Z, 1, none⟩ = some (.int .i64 g.L[k].m.ep) := fun n => n.cell (BZ.out.cell 1 rfl)
          have z3 : ∀ n : Gr q, n.w.cell? ⟨Z, 3, none⟩ = some (.bool g.L[k].m.ba) := fun n => n.cell (BZ.out.cell 3 rfl)
          have z7 : ∀ n : Gr q, n.w.cell? ⟨Z, 7, none⟩ = some (.slice g.L[k].a.ia g.L[k].m.is.length g.L[k].a.ic) := fun n => n.cell (BZ.out.cell 7 rfl)
          have x0 : ∀ n : Gr q, n.w.cell? ⟨X, 0, none⟩ = some (.slice (some ⟨b, o, none⟩) g.M.length g.vc) := fun n => by rw [← EB.out]; exact n.cell ((KX.out.below B2.out KX.out.lt).cell 0 rfl)
          have c0 : ∀ n : Gr q, n.w.cell? ⟨b, o + e, none⟩ = some (.slice g.M[e].a g.M[e].l.length g.M[e].c) := fun n => n.cell ((B2.out.cell (p := ⟨b, o + e, none⟩) hb).trans ZC.out)
          have CN := hide1 (fun w' (h : Below q.heap.size q w') => (specIn_any g.M[e].a g.M[e].l g.M[e].c g.L[k].m.id w' (HZS.out.vs _ (List.getElem_mem hle)) (((HR.out.v.v _ (List.getElem_mem hle)).later B2.out).later h)).mono (R' := fun r w'' => r = .returned (.bool (decide (g.L[k].m.id ∈ g.M[e].l))) ∧ w'' = w') (fun _ _ h => ⟨h.1, h.2.symm⟩))
          have CM := hide1 (fun w' (h : Below q.heap.size q w') => sameIms_any g.L[k].a.ia g.L[i].a.ia g.L[k].m.is g.L[i].m.is g.L[k].a.ic g.L[i].a.ic w' (HZS.out.ms _ (List.getElem_mem hlk)).il ((((HR.out.m.e _ (List.getElem_mem hlk)).later B2.out).later h).ir) ((((HR.out.m.e _ (List.getElem_mem hlt)).later B2.out).later h).ir))
          by_cases c1 : g.L[k].m.ep = (e : Int) + 1
          case neg =>
            have q1 : (g.L[k].m.ep == (e : Int) + 1) = false := by simp [c1]
            have D1 := hide1 c1
            clear c1
            refine wp_region_grown (by kernel_rfl) (by kernel_rfl) ?_
            (repeat (first | go_big_quiet_skip | (go_big_quiet_want; (go_big_quiet_op; first | go_big_quiet_on | go_big_quiet_call ((first | (go_at_call 50; exact quiet_grownS (CN.out _ (Gr.b _))) | (go_at_call 51; exact quiet_grown (CM.out _ (Gr.b _)))))))))
            refine wpQuiet_nil ?_
            rintro w2 ⟨m2, rfl⟩
            go_wp2
            go_roundw
            case rel => exact ⟨k + 1, by omega, by go_num, hide1 (NP.out (fun h => absurd (h.2.2.2.1.trans HE.out) D1.out)), B2.out.trans (m2.b.mono B2.out.size), KY2.out.below m2.b KY2.out.lt⟩
            case measure => simp [intOf]; omega
          have q1 : (g.L[k].m.ep == (e : Int) + 1) = true := by simp [c1]
          have D1 := hide1 c1
          clear c1
          cases hba : g.L[k].m.ba
          · have D2 := hide1 hba
            rw [hba] at z3
            clear hba
            refine wp_region_grown (by kernel_rfl) (by kernel_rfl) ?_
            (repeat (first | go_big_quiet_skip | (go_big_quiet_want; (go_big_quiet_op; first | go_big_quiet_on | go_big_quiet_call ((first | (go_at_call 50; exact quiet_grownS (CN.out _ (Gr.b _))) | (go_at_call 51; exact quiet_grown (CM.out _ (Gr.b _)))))))))
            refine wpQuiet_nil ?_
            rintro w2 ⟨m2, rfl⟩
            go_wp2
            go_roundw
            case rel => exact ⟨k + 1, by omega, by go_num, hide1 (NP.out (fun h => by have h5 := h.2.2.1; rw [D2.out] at h5; cases h5)), B2.out.trans (m2.b.mono B2.out.size), KY2.out.below m2.b KY2.out.lt⟩
            case measure => simp [intOf]; omega
          have D2 := hide1 hba
          rw [hba] at z3
          clear hba
          by_cases c3 : g.L[k].m.id ∈ g.M[e].l
          case neg =>
            rw [decide_eq_false c3] at CN
            have D3 := hide1 c3
            clear c3
            refine wp_region_grown (by kernel_rfl) (by kernel_rfl) ?_
            (repeat (first | go_big_quiet_skip | (go_big_quiet_want; (go_big_quiet_op; first | go_big_quiet_on | go_big_quiet_call ((first | (go_at_call 50; exact quiet_grownS (CN.out _ (Gr.b _))) | (go_at_call 51; exact quiet_grown (CM.out _ (Gr.b _)))))))))
            refine wpQuiet_nil ?_
            rintro w2 ⟨m2, rfl⟩
            go_wp2
            go_roundw
            case rel => exact ⟨k + 1, by omega, by go_num, hide1 (NP.out (fun h => absurd (by have h5 := h.2.2.2.2; rw [VE.out] at h5; exact h5) D3.out)), B2.out.trans (m2.b.mono B2.out.size), KY2.out.below m2.b KY2.out.lt⟩
            case measure => simp [intOf]; omega
          rw [decide_eq_true c3] at CN
          have MU := hide1 (show MusG g.vs g.L[i].m g.L[k].m from ⟨SE.out, H2.out, D2.out, by rw [D1.out, HE.out], by rw [VE.out]; exact c3⟩)
          clear c3
          by_cases c4 : g.L[k].m.is = g.L[i].m.is
          · have D4 := hide1 c4
            rw [bo_t c4] at CM
            clear c4
            refine wp_region_grown (by kernel_rfl) (by kernel_rfl) ?_
            (repeat (first | go_big_quiet_skip | (go_big_quiet_want; (go_big_quiet_op; first | go_big_quiet_on | go_big_quiet_call ((first | (go_at_call 50; exact quiet_grownS (CN.out _ (Gr.b _))) | (go_at_call 51; exact quiet_grown (CM.out _ (Gr.b _)))))))))
            refine wpQuiet_nil ?_
            rintro w2 ⟨m2, rfl⟩
            go_wp2
            go_roundw
            case rel => exact ⟨k + 1, by omega, by go_num, hide1 (NP.out (fun _ => D4.out.symm)), B2.out.trans (m2.b.mono B2.out.size), KY2.out.below m2.b KY2.out.lt⟩
            case measure => simp [intOf]; omega
          · have RES := hide1 (show bo (AlkP g.vs g.ms) = false from bo_f (fun h => c4 (AlkP.of_L.1 h i hlt k hlk MU.out).symm))
            rw [bo_f c4] at CM
            clear c4
            refine wp_region_grown (by kernel_rfl) (by kernel_rfl) ?_
            (repeat (first | go_big_quiet_skip | (go_big_quiet_want; (go_big_quiet_op; first | go_big_quiet_on | go_big_quiet_call ((first | (go_at_call 50; exact quiet_grownS (CN.out _ (Gr.b _))) | (go_at_call 51; exact quiet_grown (CM.out _ (Gr.b _)))))))))
            refine wpQuiet_nil ?_
            rintro w2 ⟨m2, rfl⟩
            go_wp2
            go_ret
            exact ⟨by rw [RES.out]; rfl, E0.out.trans ((B2.out.trans (m2.b.mono B2.out.size)).mono E0.out.size)⟩
        · obtain rfl : k = g.L.length := by omega
          go_wp2
          go_roundw
          case rel => obtain ⟨n1, n2, n3⟩ := NX.out _ BQ.out (fun j h => hP.out j h h); exact ⟨i + 1, n1, by go_num, n2, n3⟩
          case measure => simp [intOf]; omega
    · obtain rfl : i = g.L.length := by omega
      have RES := hide1 (show bo (AlkP g.vs g.ms) = true from bo_t (AlkP.of_L.2 (fun a ha => hD.out a ha ha)))
      go_wp2
      go_ret
      exact ⟨by rw [RES.out]; rfl, E0.out.trans (hbel.mono E0.out.size)⟩
end Go.Proofs.Ytcahaimefgkmiaa
