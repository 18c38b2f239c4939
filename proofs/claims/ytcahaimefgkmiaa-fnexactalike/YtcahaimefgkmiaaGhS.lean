/- Who serves: the model's. -/
import Derived.Test.YtcahaimefgkmiaaGqP
import Derived.Test.YtcahaimefgkmiaaGqL
import Derived.Test.YtcahaimefgkmiaaGrX
import Derived.Test.YtcahaimefgkmiaaTA
import Derived.IntWalk
import Derived.Deep.RegionHeld3
import Derived.Deep.DeepCutAuto
namespace Go.Proofs.Ytcahaimefgkmiaa
open Go.RowKit
set_option linter.unusedVariables false

theorem in_anyG (x lo hi : Int) (b : Bool) (hb : (decide (lo ≤ x) && decide (x ≤ hi)) = b) (w : World) : Calls Try.prog 26 #[.int .i64 x, .int .i64 lo, .int .i64 hi] w fun e w' => e = .returned (.bool b) ∧ w' = w := (in_any x lo hi w).mono (fun e w' h => ⟨by rw [← hb]; exact h.1, h.2.symm⟩)
set_option maxRecDepth 100000 in
set_option maxHeartbeats 4000000 in
theorem specOneServes_any (g : Gv) (w : World) (hz : SmGp g) (hr : RdGp w g) :
    Calls Try.prog 20 #[.agg (grA g)] w fun e w' => e = .returned (.bool (bo (OneP g.vs g.ms))) ∧ Below w.heap.size w w' := by
  have F := hide1 (And.intro (BlkA.new w 46 (grA g)) ((Below.refl w.heap.size w).alloc (Nat.le_refl _) (.cells (grA g) 46)))
  have HR := hide1 (hr.later F.out.2)
  have hml := hz.ml
  have hvl := hz.vl
  clear hr hz
  go_enter Try.func20, Try.ntmps20
  go_upto_region 1 with fail
  generalize (w.alloc (.cells (grA g) 46)) = u at F HR ⊢
  obtain ⟨X, hX⟩ : ∃ G, G = w.heap.size := ⟨_, rfl⟩
  have KX := hide1 F.out.1
  have E0 := hide1 F.out.2
  rw [← hX] at KX ⊢
  clear F hX
  go_wp2
  go_loopw [3] (fun iv wr => ∃ i : Nat, i ≤ g.L.length ∧ iv = .int .i64 (i : Int) ∧ Hid (∀ j (h : j < g.L.length), j < i → g.L[j].m.se = true → HdG g.vs g.L[j].m ∧ ∀ k (hk : k < g.L.length), k < j → g.L[k].m.se = true → g.L[k].m.ep ≠ g.L[j].m.ep) ∧ Below u.heap.size u wr) (fun iv _ => g.L.length - (intOf iv).toNat)
  case atStart => exact ⟨0, by omega, rfl, hide1 (fun j _ h => by omega), Below.refl _ _⟩
  case round =>
    obtain ⟨i, hi, rfl, hD, hbel⟩ := hrel
    have x1 : wr.cell? ⟨X, 1, none⟩ = some (.slice g.ma g.L.length g.mc) := (KX.out.below hbel KX.out.lt).cell 1 rfl
    by_cases hlt : i < g.L.length
    · have k1 : (i : Int) < (g.L.length : Int) := by omega
      obtain ⟨b1, o1, ea, hb1, hc1⟩ := RdG.at encMr HR.out.m.r i hlt
      rw [ea] at x1
      have C1 := hide1 (show CsAt wr b1 (o1 + i * 16) (mrA g.L[i]) from hc1.later hbel hb1)
      have ONE1 := hide1 (oneMr g.L[i])
      have BX := hide1 (BlkA.new wr 69 (mrA g.L[i]))
      have bx := (Below.refl wr.heap.size wr).alloc (Nat.le_refl _) (.cells (mrA g.L[i]) 69)
      have BB := hide1 (hbel.trans (bx.mono hbel.size))
      have EA := hide1 ea
      clear hc1 bx ea
      go_upto_region 5 with (first | (refine wpList_load_at rfl 69 _ rfl b1 (o1 + i * 16) rfl (mrA g.L[i]) _ C1.out Try.underlying69 rfl sizeMb ?_) | (refine wpList_store_row rfl 69 _ _ rfl wr.heap.size (mrA g.L[i]) rfl rfl 69 _ (heap_alloc_last _ _) sizeMb rfl ONE1.out ?_; rw [World.setRow_alloc_new]))
      generalize (wr.alloc (.cells (mrA g.L[i]) 69)) = v at BX BB ⊢
      obtain ⟨Y, hY⟩ : ∃ G, G = wr.heap.size := ⟨_, rfl⟩
      rw [← hY] at BX ⊢
      clear hY C1 ONE1 x1
      have y5 : v.cell? ⟨Y, 5, none⟩ = some (.bool g.L[i].m.se) := BX.out.cell 5 rfl
      have NX := hide1 (show ∀ u', Below u.heap.size u u' → (g.L[i].m.se = true → HdG g.vs g.L[i].m ∧ ∀ k (hk : k < g.L.length), k < i → g.L[k].m.se = true → g.L[k].m.ep ≠ g.L[i].m.ep) → i + 1 ≤ g.L.length ∧ Hid (∀ j (h : j < g.L.length), j < i + 1 → g.L[j].m.se = true → HdG g.vs g.L[j].m ∧ ∀ k (hk : k < g.L.length), k < j → g.L[k].m.se = true → g.L[k].m.ep ≠ g.L[j].m.ep) ∧ Below u.heap.size u u' from fun u' hb ho => ⟨by omega, fun j h hj => by
        by_cases e : j < i
        · exact hD.out j h e
        · obtain rfl : j = i := by omega
          exact ho, hb⟩)
      clear hD hbel
      cases hse : g.L[i].m.se
      · have SE := hide1 hse
        rw [hse] at y5
        clear hse
        go_wp2
        go_roundw
        case rel => obtain ⟨n1, n2, n3⟩ := NX.out _ BB.out (fun h => by rw [SE.out] at h; cases h); exact ⟨i + 1, n1, by go_num, n2, n3⟩
        case measure => simp [intOf]; omega
      have SE := hide1 hse
      rw [hse] at y5
      clear hse
      go_upto_region 6 with fail
      clear y5
      have KV := hide1 (KX.out.below BB.out KX.out.lt)
      have NO := hide1 (show ¬ HdG g.vs g.L[i].m → bo (OneP g.vs g.ms) = false from fun h => bo_f (fun h2 => h ((OneP.of_L.1 h2).1 _ (List.getElem_mem hlt) SE.out)))
      have x0 : ∀ n : Gr v, n.w.cell? ⟨X, 0, none⟩ = some (.slice g.va g.M.length g.vc) := fun n => n.cell (KV.out.cell 0 rfl)
      have y0 : ∀ n : Gr v, n.w.cell? ⟨Y, 0, none⟩ = some (.int .i64 g.L[i].m.id) := fun n => n.cell (BX.out.cell 0 rfl)
      by_cases d1 : 1 ≤ g.L[i].m.ep ∧ g.L[i].m.ep ≤ (g.M.length : Int)
      case neg =>
        have y1 : ∀ n : Gr v, n.w.cell? ⟨Y, 1, none⟩ = some (.int .i64 g.L[i].m.ep) := fun n => n.cell (BX.out.cell 1 rfl)
        have CI := hide1 (fun w => in_anyG g.L[i].m.ep 1 g.M.length false (by by_cases h1 : 1 ≤ g.L[i].m.ep <;> by_cases h2 : g.L[i].m.ep ≤ (g.M.length : Int) <;> simp [h1, h2] <;> omega) w)
        have RES := hide1 (NO.out (fun ⟨t, h⟩ => by rw [show vwO g.vs g.L[i].m.ep = [] from vwO_out d1] at h; cases h))
        clear d1
        refine wp_region_grown (by kernel_rfl) (by kernel_rfl) ?_
        (repeat (first | go_big_quiet_skip | (go_big_quiet_want; (go_big_quiet_op; first | go_big_quiet_on | go_big_quiet_call ((go_at_call 26; exact quiet_grownS (CI.out _)))))))
        refine wpQuiet_nil ?_
        rintro w2 ⟨m2, rfl⟩
        go_wp2
        go_ret
        exact ⟨by rw [RES.out]; rfl, E0.out.trans ((BB.out.trans (m2.b.mono BB.out.size)).mono E0.out.size)⟩
      obtain ⟨e, he⟩ : ∃ e : Nat, g.L[i].m.ep = (e : Int) + 1 := ⟨(g.L[i].m.ep - 1).toNat, by omega⟩
      have hle : e < g.M.length := by omega
      have HE := hide1 he
      have y1 : ∀ n : Gr v, n.w.cell? ⟨Y, 1, none⟩ = some (.int .i64 ((e : Int) + 1)) := fun n => n.cell (by rw [← he]; exact BX.out.cell 1 rfl)
      have CI := hide1 (fun w => in_anyG ((e : Int) + 1) 1 g.M.length true (by simp; omega) w)
      have k3 : (e : Int) < (g.M.length : Int) := by omega
      have k4 : wrap64 ((e : Int) + 1 - 1) = (e : Int) := by rw [show (e : Int) + 1 - 1 = (e : Int) by omega]; exact IntWalk.wrap64_in _ (by omega)
      have VE := hide1 (show vwO g.vs g.L[i].m.ep = g.M[e].l from by rw [he]; exact vwO_in hle)
      clear d1 he
      obtain ⟨b, o, eb, hb, hc⟩ := HR.out.v.r e hle
      have hc0 : v.cell? ⟨b, o + e, none⟩ = some (.slice g.M[e].a g.M[e].l.length g.M[e].c) := by
        have h := hc 0 (by omega)
        rw [show o + e * 1 + 0 = o + e by omega] at h
        exact (BB.out.cell (p := ⟨b, o + e, none⟩) hb).trans h
      have z0 : ∀ n : Gr v, n.w.cell? ⟨b, o + e, none⟩ = some (.slice g.M[e].a g.M[e].l.length g.M[e].c) := fun n => n.cell hc0
      rw [eb] at x0
      have HZ := hide1 ((HR.out.v.v g.M[e] (List.getElem_mem hle)).later BB.out)
      clear hc hc0 eb hb
      generalize g.M[e] = s at z0 HZ VE
      obtain ⟨sa, sc, sl⟩ := s
      cases sl with
      | nil =>
        have RES := hide1 (NO.out (fun ⟨t, h⟩ => by rw [VE.out] at h; cases h))
        refine wp_region_grown (by kernel_rfl) (by kernel_rfl) ?_
        (repeat (first | go_big_quiet_skip | (go_big_quiet_want; (go_big_quiet_op; first | go_big_quiet_on | go_big_quiet_call ((go_at_call 26; exact quiet_grownS (CI.out _)))))))
        refine wpQuiet_nil ?_
        rintro w2 ⟨m2, rfl⟩
        go_wp2
        go_ret
        exact ⟨by rw [RES.out]; rfl, E0.out.trans ((BB.out.trans (m2.b.mono BB.out.size)).mono E0.out.size)⟩
      | cons hd tl =>
        obtain ⟨b3, o3, e3, hb3, hc3⟩ := HZ.out 0 (by simp)
        have e3' : sa = some ⟨b3, o3, none⟩ := e3
        subst e3'
        have v0 : ∀ n : Gr v, n.w.cell? ⟨b3, o3, none⟩ = some (.int .i64 hd) := fun n => n.cell hc3
        have k5 : ((tl.length : Int) + 1 == 0) = false := by simp; omega
        clear hc3 e3
        by_cases hid : hd = g.L[i].m.id
        case neg =>
          have q : (hd != g.L[i].m.id) = true := by simp [hid]
          have RES := hide1 (NO.out (fun ⟨t, h⟩ => by rw [VE.out] at h; injection h with h _; exact hid h))
          clear hid
          refine wp_region_grown (by kernel_rfl) (by kernel_rfl) ?_
          (repeat (first | go_big_quiet_skip | (go_big_quiet_want; (go_big_quiet_op; first | go_big_quiet_on | go_big_quiet_call ((go_at_call 26; exact quiet_grownS (CI.out _)))))))
          refine wpQuiet_nil ?_
          rintro w2 ⟨m2, rfl⟩
          go_wp2
          go_ret
          exact ⟨by rw [RES.out]; rfl, E0.out.trans ((BB.out.trans (m2.b.mono BB.out.size)).mono E0.out.size)⟩
        have q : (hd != g.L[i].m.id) = false := by simp [hid]
        have HH := hide1 (show HdG g.vs g.L[i].m from ⟨tl, by rw [VE.out, ← hid]⟩)
        clear hid
        refine wp_region_grown (by kernel_rfl) (by kernel_rfl) ?_
        (repeat (first | go_big_quiet_skip | (go_big_quiet_want; (go_big_quiet_op; first | go_big_quiet_on | go_big_quiet_call ((go_at_call 26; exact quiet_grownS (CI.out _)))))))
        refine wpQuiet_nil ?_
        rintro w2 ⟨m2, rfl⟩
        have B2 := hide1 (BB.out.trans (m2.b.mono BB.out.size))
        have KY := hide1 (BX.out.below m2.b BX.out.lt)
        clear x0 y0 y1 z0 v0 k5 q k3 k4 KV BX BB
        generalize m2.w = v2 at B2 KY ⊢
        go_wp2
        go_loopw [5] (fun kv wq => ∃ k : Nat, k ≤ i ∧ kv = .int .i64 (k : Int) ∧ Hid (∀ j (h : j < g.L.length), j < k → g.L[j].m.se = true → g.L[j].m.ep ≠ g.L[i].m.ep) ∧ Below u.heap.size u wq ∧ BlkA wq Y 69 (mrA g.L[i])) (fun kv _ => i - (intOf kv).toNat)
        case atStart => exact ⟨0, by omega, rfl, hide1 (fun j _ h => by omega), B2.out, KY.out⟩
        case round =>
          obtain ⟨k, hk, rfl, hP, hb4, hy4⟩ := hrel
          have KY4 := hide1 hy4
          clear hy4
          have BQ : Hid (Below u.heap.size u wr) := hb4
          by_cases hki : k < i
          · have k2 : (k : Int) < (i : Int) := by omega
            have hkl : k < g.L.length := by omega
            have k6 : (k : Int) < (g.L.length : Int) := by omega
            obtain ⟨b2, o2, e2, hb5, hc5⟩ := RdG.at encMr HR.out.m.r k hkl
            rw [EA.out] at e2
            obtain ⟨rfl, rfl⟩ : b1 = b2 ∧ o1 = o2 := by injection e2 with e2; injection e2 with e3 e4; exact ⟨e3, e4⟩
            have C5 : CsAt wr b1 (o1 + k * 16) (mrA g.L[k]) := hc5.later BQ.out hb5
            have r5 : ∀ n : Gr wr, n.w.cell? ⟨b1, o1 + k * 16 + 5, none⟩ = some (.bool g.L[k].m.se) := fun n => n.cell (C5 5 (by show 5 < 16; omega))
            have r1 : ∀ n : Gr wr, n.w.cell? ⟨b1, o1 + k * 16 + 1, none⟩ = some (.int .i64 g.L[k].m.ep) := fun n => n.cell (C5 1 (by show 1 < 16; omega))
            have x1 : ∀ n : Gr wr, n.w.cell? ⟨X, 1, none⟩ = some (.slice (some ⟨b1, o1, none⟩) g.L.length g.mc) := fun n => by rw [← EA.out]; exact n.cell ((KX.out.below BQ.out KX.out.lt).cell 1 rfl)
            have y1 : ∀ n : Gr wr, n.w.cell? ⟨Y, 1, none⟩ = some (.int .i64 g.L[i].m.ep) := fun n => n.cell (KY4.out.cell 1 rfl)
            clear hc5 C5 hb4
            have NP := hide1 (show (g.L[k].m.se = true → g.L[k].m.ep ≠ g.L[i].m.ep) → ∀ j (h : j < g.L.length), j < k + 1 → g.L[j].m.se = true → g.L[j].m.ep ≠ g.L[i].m.ep from fun ho j h hj => by
              by_cases e : j < k
              · exact hP.out j h e
              · obtain rfl : j = k := by omega
                exact ho)
            cases hs : g.L[k].m.se
            · have HS := hide1 hs
              rw [hs] at r5
              clear hs
              go_upto_region 11 with fail
              refine wp_region_grown (by kernel_rfl) (by kernel_rfl) ?_
              (repeat (first | go_big_quiet_skip | (go_big_quiet_want; go_big_quiet_op; go_big_quiet_on)))
              refine wpQuiet_nil ?_
              rintro w2 ⟨m2, rfl⟩
              go_wp2
              go_roundw
              case rel => exact ⟨k + 1, by omega, by go_num, hide1 (NP.out (fun h => by rw [HS.out] at h; cases h)), BQ.out.trans (m2.b.mono BQ.out.size), KY4.out.below m2.b KY4.out.lt⟩
              case measure => simp [intOf]; omega
            have HS := hide1 hs
            rw [hs] at r5
            clear hs
            by_cases hep : g.L[k].m.ep = g.L[i].m.ep
            · have q : (g.L[k].m.ep == g.L[i].m.ep) = true := by simp [hep]
              have RES := hide1 (show bo (OneP g.vs g.ms) = false from bo_f (fun h => (OneP.of_L.1 h).2 k hkl i hlt (by omega) HS.out SE.out hep))
              clear hep
              go_upto_region 11 with fail
              refine wp_region_grown (by kernel_rfl) (by kernel_rfl) ?_
              (repeat (first | go_big_quiet_skip | (go_big_quiet_want; go_big_quiet_op; go_big_quiet_on)))
              refine wpQuiet_nil ?_
              rintro w2 ⟨m2, rfl⟩
              go_wp2
              go_ret
              exact ⟨by rw [RES.out]; rfl, E0.out.trans ((BQ.out.trans (m2.b.mono BQ.out.size)).mono E0.out.size)⟩
            · have q : (g.L[k].m.ep == g.L[i].m.ep) = false := by simp [hep]
              have HE2 := hide1 hep
              clear hep
              go_upto_region 11 with fail
              refine wp_region_grown (by kernel_rfl) (by kernel_rfl) ?_
              (repeat (first | go_big_quiet_skip | (go_big_quiet_want; go_big_quiet_op; go_big_quiet_on)))
              refine wpQuiet_nil ?_
              rintro w2 ⟨m2, rfl⟩
              go_wp2
              go_roundw
              case rel => exact ⟨k + 1, by omega, by go_num, hide1 (NP.out (fun _ => HE2.out)), BQ.out.trans (m2.b.mono BQ.out.size), KY4.out.below m2.b KY4.out.lt⟩
              case measure => simp [intOf]; omega
          · obtain rfl : k = i := by omega
            go_wp2
            go_roundw
            case rel => obtain ⟨n1, n2, n3⟩ := NX.out _ BQ.out (fun _ => ⟨HH.out, fun j h hj => hP.out j h hj⟩); exact ⟨k + 1, n1, by go_num, n2, n3⟩
            case measure => simp [intOf]; omega
    · obtain rfl : i = g.L.length := by omega
      have RES := hide1 (show bo (OneP g.vs g.ms) = true from bo_t (OneP.of_L.2 ⟨fun x hx => by obtain ⟨j, hj, rfl⟩ := List.getElem_of_mem hx; exact fun h => (hD.out j hj hj h).1, fun a ha b hb hne h1 h2 => by
        by_cases e : a < b
        · exact (hD.out b hb hb h2).2 a ha e h1
        · exact fun e2 => (hD.out a ha ha h1).2 b hb (by omega) h2 e2.symm⟩))
      go_wp2
      go_ret
      exact ⟨by rw [RES.out]; rfl, E0.out.trans (hbel.mono E0.out.size)⟩
end Go.Proofs.Ytcahaimefgkmiaa
