/- Who heads a view, who serves: the program's. -/
import Derived.Test.YtcahaimefgkmiaaGhI
import Derived.Test.YtcahaimefgkmiaaOfM
namespace Go.Proofs.Ytcahaimefgkmiaa
open Go.RowKit
set_option linter.unusedVariables false

set_option maxRecDepth 100000 in
set_option maxHeartbeats 4000000 in
theorem heads_any (g : Gv) (x : Mr) (X : Nat) (w : World) (hl : g.M.length ≤ 1048576) (hX : BlkA w X 46 (grA g)) (hv : RdVs w g.va g.M) :
    Calls Try.prog 43 #[.pointer (some ⟨X, 0, none⟩), .agg (mrA x)] w fun e w' => e = .returned (.bool (bo (HdG g.vs x.m))) ∧ Below w.heap.size w w' := by
  have F := hide1 (And.intro (BlkA.new w 69 (mrA x)) ((Below.refl w.heap.size w).alloc (Nat.le_refl _) (.cells (mrA x) 69)))
  have C := hide1 (viewIn_any g x X (w.alloc (.cells (mrA x) 69)) hl (hX.below F.out.2 hX.lt) (hv.later F.out.2))
  clear hX hv
  go_enter Try.func43, Try.ntmps43
  go_upto_region 2 with (first | (go_at_call 67; refine C.out.mono ?_; rintro e w2 ⟨s, rfl, hs, hz, hb⟩; have HS := hide1 hs; have HZ := hide1 hz; have HB := hide1 hb; clear hs hz hb) | (refine wpList_load_rowG rfl 69 _ rfl w.heap.size rfl 69 (mrA x) _ F.out.1 Try.underlying69 rfl sizeMb ?_))
  have y0 : ∀ n : Gr w2, n.w.cell? ⟨w.heap.size, 0, none⟩ = some (.int .i64 x.m.id) := fun n => n.cell ((F.out.1.below HB.out F.out.1.lt).cell 0 rfl)
  have BB := hide1 (F.out.2.trans (HB.out.mono F.out.2.size))
  obtain ⟨sa, sc, sl⟩ := s
  cases sl with
  | nil =>
    have RES := hide1 (show bo (HdG g.vs x.m) = false from bo_f (fun ⟨t, h⟩ => by rw [← HS.out] at h; cases h))
    refine wp_region_grown (by kernel_rfl) (by kernel_rfl) ?_
    (repeat (first | go_big_quiet_skip | (go_big_quiet_want; go_big_quiet_op; go_big_quiet_on)))
    refine wpQuiet_nil ?_
    rintro w3 ⟨m1, rfl⟩
    go_wp2
    go_ret
    exact ⟨by rw [RES.out]; rfl, BB.out.trans (m1.b.mono BB.out.size)⟩
  | cons hd tl =>
    obtain ⟨b, o, ea, hb, hc⟩ := HZ.out 0 (by simp)
    have ea2 : sa = some ⟨b, o, none⟩ := ea
    subst ea2
    have z0 : ∀ n : Gr w2, n.w.cell? ⟨b, o, none⟩ = some (.int .i64 hd) := fun n => n.cell hc
    have k0 : ((tl.length : Int) + 1 > 0) := by omega
    have RES := hide1 (show bo (HdG g.vs x.m) = (hd == x.m.id) from by
      by_cases e : hd = x.m.id
      · rw [bo_t (show HdG g.vs x.m from ⟨tl, by rw [← HS.out, ← e]⟩)]; simp [e]
      · rw [bo_f (fun ⟨t, h⟩ => by rw [← HS.out] at h; injection h with h _; exact e h)]; simp [e])
    clear hc ea
    refine wp_region_grown (by kernel_rfl) (by kernel_rfl) ?_
    (repeat (first | go_big_quiet_skip | (go_big_quiet_want; go_big_quiet_op; go_big_quiet_on)))
    refine wpQuiet_nil ?_
    rintro w3 ⟨m1, rfl⟩
    go_wp2
    go_ret
    exact ⟨by rw [RES.out]; rfl, BB.out.trans (m1.b.mono BB.out.size)⟩
theorem sizeTrM : (Try.prog.info? 76).map (·.size) = some 2 := by kernel_rfl
theorem one_iff (g : Gv) : OneP g.vs g.ms ↔ (∀ i (h : i < g.L.length), g.L[i].m.se = true → HdG g.vs g.L[i].m) ∧ OfL spk_alone hld_alone g.L := by
  rw [OneP.of_L]
  constructor
  · rintro ⟨h1, h2⟩
    refine ⟨fun i h => h1 _ (List.getElem_mem h), fun i hi k hk hne hs => ?_⟩
    unfold spk_alone at hs
    simp only [Bool.and_eq_true, beq_iff_eq] at hs
    exact absurd hs.2 (h2 i hi k hk hne hs.1.1 hs.1.2)
  · rintro ⟨h1, h2⟩
    refine ⟨fun x hx => by obtain ⟨j, hj, rfl⟩ := List.getElem_of_mem hx; exact h1 j hj, fun i hi k hk hne ha hb e => ?_⟩
    have := h2 i hi k hk hne (by unfold spk_alone; simp [ha, hb, e])
    unfold hld_alone at this
    cases this
set_option maxRecDepth 100000 in
set_option maxHeartbeats 4000000 in
theorem implOneServes_any (g : Gv) (w : World) (hz : SmGp g) (hr : RdGp w g) :
    Calls Try.prog 22 #[.agg (grA g)] w fun e w' => e = .returned (.bool (bo (OneP g.vs g.ms))) ∧ Below w.heap.size w w' := by
  have F := hide1 (And.intro (BlkA.new w 46 (grA g)) ((Below.refl w.heap.size w).alloc (Nat.le_refl _) (.cells (grA g) 46)))
  have HR := hide1 (hr.later F.out.2)
  have hml := hz.ml
  have hvl := hz.vl
  clear hr hz
  go_enter Try.func22, Try.ntmps22
  go_upto_region 1 with fail
  generalize (w.alloc (.cells (grA g) 46)) = u at F HR ⊢
  obtain ⟨X, hX⟩ : ∃ G, G = w.heap.size := ⟨_, rfl⟩
  have KX := hide1 F.out.1
  have E0 := hide1 F.out.2
  rw [← hX] at KX ⊢
  clear F hX
  have x1 : u.cell? ⟨X, 1, none⟩ = some (.slice g.ma g.L.length g.mc) := KX.out.cell 1 rfl
  go_wp2
  clear x1
  have HM0 := HR.out.m.r
  generalize g.ma = ma at HM0 ⊢
  have HM := hide1 HM0
  clear HM0
  go_loopw [9] (fun iv wr => ∃ i : Nat, i ≤ g.L.length ∧ iv = .int .i64 (i : Int) ∧ Hid (∀ j (h : j < g.L.length), j < i → g.L[j].m.se = true → HdG g.vs g.L[j].m) ∧ Below u.heap.size u wr) (fun iv _ => g.L.length - (intOf iv).toNat)
  case atStart => exact ⟨0, by omega, rfl, hide1 (fun j _ h => by omega), Below.refl _ _⟩
  case round =>
    obtain ⟨i, hi, rfl, hD, hbel⟩ := hrel
    by_cases hlt : i < g.L.length
    · have k1 : (i : Int) < (g.L.length : Int) := by omega
      obtain ⟨b1, o1, rfl, hb1, hc1⟩ := RdG.at encMr HM.out i hlt
      have C1 := hide1 (show CsAt wr b1 (o1 + i * 16) (mrA g.L[i]) from hc1.later hbel hb1)
      have ONE1 := hide1 (oneMr g.L[i])
      have BX := hide1 (BlkA.new wr 69 (mrA g.L[i]))
      have bx := (Below.refl wr.heap.size wr).alloc (Nat.le_refl _) (.cells (mrA g.L[i]) 69)
      have BB := hide1 (hbel.trans (bx.mono hbel.size))
      have KX2 := hide1 (KX.out.below BB.out KX.out.lt)
      have CH := hide1 (heads_any g g.L[i] X (wr.alloc (.cells (mrA g.L[i]) 69)) hvl KX2.out (HR.out.v.later BB.out))
      clear hc1 bx
      go_upto_region 4 with (first | (refine wpList_load_at rfl 69 _ rfl b1 (o1 + i * 16) rfl (mrA g.L[i]) _ C1.out Try.underlying69 rfl sizeMb ?_) | (refine wpList_store_row rfl 69 _ _ rfl wr.heap.size (mrA g.L[i]) rfl rfl 69 _ (heap_alloc_last _ _) sizeMb rfl ONE1.out ?_; rw [World.setRow_alloc_new]))
      generalize (wr.alloc (.cells (mrA g.L[i]) 69)) = v at BX BB KX2 CH ⊢
      obtain ⟨Y, hY⟩ : ∃ G, G = wr.heap.size := ⟨_, rfl⟩
      rw [← hY] at BX ⊢
      clear hY C1 ONE1
      have y5 : v.cell? ⟨Y, 5, none⟩ = some (.bool g.L[i].m.se) := BX.out.cell 5 rfl
      have NX := hide1 (show ∀ u', Below u.heap.size u u' → (g.L[i].m.se = true → HdG g.vs g.L[i].m) → i + 1 ≤ g.L.length ∧ Hid (∀ j (h : j < g.L.length), j < i + 1 → g.L[j].m.se = true → HdG g.vs g.L[j].m) ∧ Below u.heap.size u u' from fun u' hb ho => ⟨by omega, fun j h hj => by
        by_cases e : j < i
        · exact hD.out j h e
        · obtain rfl : j = i := by omega
          exact ho, hb⟩)
      clear hD hbel
      cases hse : g.L[i].m.se
      · have SE := hide1 hse
        rw [hse] at y5
        clear hse
        go_wp2
        go_roundw
        case rel => obtain ⟨n1, n2, n3⟩ := NX.out _ BB.out (fun h => by rw [SE.out] at h; cases h); exact ⟨i + 1, n1, by go_num, n2, n3⟩
        case measure => simp [intOf]; omega
      · have SE := hide1 hse
        rw [hse] at y5
        clear hse
        by_cases hH : HdG g.vs g.L[i].m
        · rw [bo_t hH] at CH
          have HH := hide1 hH
          clear hH
          go_wp2_with (first | (go_at_call 43; refine CH.out.mono ?_; rintro e w2 ⟨rfl, hb2⟩; have B2 := hide1 (BB.out.trans (hb2.mono BB.out.size)); clear hb2) | (refine wpList_load_rowG rfl 69 _ rfl Y rfl 69 (mrA g.L[i]) _ BX.out Try.underlying69 rfl sizeMb ?_))
          go_roundw
          case rel => obtain ⟨n1, n2, n3⟩ := NX.out _ B2.out (fun _ => HH.out); exact ⟨i + 1, n1, by go_num, n2, n3⟩
          case measure => simp [intOf]; omega
        · rw [bo_f hH] at CH
          have RES := hide1 (show bo (OneP g.vs g.ms) = false from bo_f (fun h => hH (((one_iff g).1 h).1 i hlt SE.out)))
          clear hH
          go_wp2_with (first | (go_at_call 43; refine CH.out.mono ?_; rintro e w2 ⟨rfl, hb2⟩; have B2 := hide1 (BB.out.trans (hb2.mono BB.out.size)); clear hb2) | (refine wpList_load_rowG rfl 69 _ rfl Y rfl 69 (mrA g.L[i]) _ BX.out Try.underlying69 rfl sizeMb ?_))
          go_ret
          exact ⟨by rw [RES.out]; rfl, E0.out.trans (B2.out.mono E0.out.size)⟩
    · obtain rfl : i = g.L.length := by omega
      have BW := hide1 hbel
      have KX2 := hide1 (KX.out.below hbel KX.out.lt)
      have H1 := hide1 (show ∀ j (h : j < g.L.length), g.L[j].m.se = true → HdG g.vs g.L[j].m from fun j h => hD.out j h h)
      have RES := hide1 (show bo (OneP g.vs g.ms) = bo (OfL spk_alone hld_alone g.L) from bo_iff (by rw [one_iff]; exact ⟨fun h => h.2, fun h => ⟨H1.out, h⟩⟩))
      have FF := hide1 (And.intro (BlkA.new wr 76 #[.func (.func 44) #[] #[], .func (.func 45) #[] #[]]) ((Below.refl wr.heap.size wr).alloc (Nat.le_refl _) (.cells #[.func (.func 44) #[] #[], .func (.func 45) #[] #[]] 76)))
      clear hbel hD
      go_upto_region 8 with (first | (refine wpList_store_row rfl 76 _ _ rfl wr.heap.size #[.func (.func 44) #[] #[], .func (.func 45) #[] #[]] rfl rfl 76 _ (heap_alloc_last _ _) sizeTrM rfl (by simp [Value.oneCell']) ?_; rw [World.setRow_alloc_new]))
      generalize (wr.alloc (.cells #[.func (.func 44) #[] #[], .func (.func 45) #[] #[]] 76)) = v at FF ⊢
      have z0 : v.cell? ⟨wr.heap.size, 0, none⟩ = some (.func (.func 44) #[] #[]) := FF.out.1.cell 0 rfl
      have z1 : v.cell? ⟨wr.heap.size, 1, none⟩ = some (.func (.func 45) #[] #[]) := FF.out.1.cell 1 rfl
      have BV := hide1 (BW.out.trans (FF.out.2.mono BW.out.size))
      have x1 : v.cell? ⟨X, 1, none⟩ = some (.slice g.ma g.L.length g.mc) := (KX.out.below BV.out KX.out.lt).cell 1 rfl
      have CO := hide1 (of_alone g.ma g.L g.mc v hml (HR.out.m.r.later BV.out))
      go_wp2_with (first | (go_at_call 46; refine CO.out.mono ?_; rintro e w2 ⟨rfl, hb2⟩; have B2 := hide1 (BV.out.trans (hb2.mono BV.out.size)); clear hb2))
      go_ret
      exact ⟨by rw [RES.out]; rfl, E0.out.trans (B2.out.mono E0.out.size)⟩
end Go.Proofs.Ytcahaimefgkmiaa
