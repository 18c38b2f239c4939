/- A truth of all two of a row of members: the program's truth[Member].of. -/
import Derived.Test.YtcahaimefgkmiaaEaM
import Derived.Test.YtcahaimefgkmiaaGmI
import Derived.Test.YtcahaimefgkmiaaOfP
namespace Go.Proofs.Ytcahaimefgkmiaa
open Go.RowKit Go.Shelf
set_option linter.unusedVariables false
attribute [local go_sem] Oper.semAt_some

def spk_alone (x y : Mr) : Bool := x.m.se && y.m.se && (x.m.ep == y.m.ep)
def hld_alone (x y : Mr) : Bool := false
set_option maxRecDepth 100000 in
set_option maxHeartbeats 4000000 in
theorem of_alone (ao : Option Addr) (ls : List Mr) (ca : Nat) (w : World) (hls : ls.length ≤ 1048576) (hR : RdG mrC 16 w ao ls) :
    Calls Try.prog 46 #[.agg #[.func (.func 44) #[] #[], .func (.func 45) #[] #[]], .slice ao ls.length ca] w fun e w' => e = .returned (.bool (bo (OfL spk_alone hld_alone ls))) ∧ Below w.heap.size w w' := by
  have HR := hide1 hR
  have CS := hide1 (fun x y w => serveAtOnce_any x y w)
  have CH := hide1 (fun x y w => neverM_any x y w)
  clear hR
  refine (callsIn_wide (n := 6)).1 ?_
  refine callsIn_of_wp_marks Try.func46 rfl trivial ?_ rfl
  simp only [Try.ntmps46, List.size_toArray, List.length_cons, List.length_nil, Nat.reduceAdd, Nat.reduceSub, Array.replicate_succ, Array.replicate_zero, List.push_toArray, List.append_toArray, List.nil_append, List.cons_append]
  gi_wp2_with (refine ⟨trivial, ?_⟩; gi_at_call 68; refine (eachTwoMember_in Fence.wide _ trivial rfl _ _ _ _).mono ?_; rintro e w' ⟨rfl, rfl⟩)
  have bX := hide1 (BlkA.new w 76 #[.func (.func 44) #[] #[], .func (.func 45) #[] #[]])
  have bR := hide1 (Boxed.new (w.alloc (.cells #[.func (.func 44) #[] #[], .func (.func 45) #[] #[]] 76)) 4 (.bool false))
  have bL := hide1 (Boxed.new ((w.alloc (.cells #[.func (.func 44) #[] #[], .func (.func 45) #[] #[]] 76)).alloc (.cells #[.bool false] 4)) 43 (.slice ao ls.length ca))
  have bB := hide1 ((((Below.refl _ w).alloc (Nat.le_refl _) (.cells #[.func (.func 44) #[] #[], .func (.func 45) #[] #[]] 76)).alloc (by simp) (.cells #[.bool false] 4)).alloc (by simp; omega) (.cells #[.slice ao ls.length ca] 43))
  have hsz : (((w.alloc (.cells #[.func (.func 44) #[] #[], .func (.func 45) #[] #[]] 76)).alloc (.cells #[.bool false] 4)).alloc (.cells #[.slice ao ls.length ca] 43)).heap.size = w.heap.size + 3 := by simp
  have bX1 := hide1 ((bX.out.below ((Below.refl _ _).alloc (Nat.le_refl _) (.cells #[.bool false] 4)) bX.out.lt))
  have bX2 := hide1 ((bX1.out.below ((Below.refl _ _).alloc (Nat.le_refl _) (.cells #[.slice ao ls.length ca] 43)) bX1.out.lt))
  have bR2 := hide1 (bR.out.alloc (.cells #[.slice ao ls.length ca] 43))
  simp only [World.size_alloc] at bR2 bL
  obtain ⟨W0, hW0⟩ : ∃ W0, (((w.alloc (.cells #[.func (.func 44) #[] #[], .func (.func 45) #[] #[]] 76)).alloc (.cells #[.bool false] 4)).alloc (.cells #[.slice ao ls.length ca] 43)) = W0 := ⟨_, rfl⟩
  rw [hW0] at bL bB bX2 bR2 hsz ⊢
  clear hW0 bX bR bX1
  refine wpIn_rangeFunc_ownH rfl (by omega) (gf := 80) (lb := #[.pointer (some ⟨w.heap.size + 1 + 1, 0, none⟩)]) rfl trivial (enters_of Try.func80 (by kernel_rfl) rfl)
    (eachTwoMember_stops Fence.wide _ trivial rfl (by omega) (w.heap.size + 1 + 1) ao ls ca hls W0 (by omega) bL.out.cell (HR.out.later (bB.out))) (fun h k => h.t k) (fun W l o o' _ h hc _ => CK.put W l o o' h hc) (Below.refl _ _) (fun _ => rfl)
    (fun pre W => ((OfQ spk_alone hld_alone pre) ∧ BlkA W w.heap.size 76 #[.func (.func 44) #[] #[], .func (.func 45) #[] #[]] ∧ Boxed W (w.heap.size + 1) 4 (.bool false)) ∧ Below w.heap.size w W)
    (fun c pre W => (c = .ret ∧ ¬ (OfQ spk_alone hld_alone pre) ∧ Boxed W (w.heap.size + 1) 4 (.bool false)) ∧ Below w.heap.size w W)
    (OwnFrom.and (Own.from (fun s A B row hs hg hr => ⟨hs.1, (grownBy_keeps_cells hg hr hs.2.1 rfl).trans hs.2.1, (grownBy_keeps_cells hg hr hs.2.2 rfl).trans hs.2.2⟩) _) (ownFrom_below (Nat.le_refl _) (by omega)))
    (fun c => OwnFrom.and (Own.from (fun s A B row hs hg hr => ⟨hs.1, hs.2.1, (grownBy_keeps_cells hg hr hs.2.2 rfl).trans hs.2.2⟩) _) (ownFrom_below (Nat.le_refl _) (by omega)))
    ⟨⟨fun p hp => by simp at hp, bX2.out, bR2.out⟩, bB.out⟩
    (fun x a' W => ∃ B1 B2 : Nat, BlkA W B1 69 (mrA x.1) ∧ BlkA W B2 69 (mrA x.2) ∧ a' = { tmps := #[.agg #[.func (.func 44) #[] #[], .func (.func 45) #[] #[]], .slice ao ls.length ca, .pointer (some ⟨w.heap.size, 0, none⟩), undef, .pointer (some ⟨w.heap.size + 1, 0, none⟩), .pointer (some ⟨B1, 0, none⟩), .pointer (some ⟨B2, 0, none⟩), .slice ao ls.length ca, .func (.func 80) #[] #[.pointer (some ⟨w.heap.size + 1 + 1, 0, none⟩)], .agg (mrA x.1), .agg (mrA x.2), undef, undef, undef, undef, undef, undef, undef, undef, undef, undef, undef, undef, undef], defers := [] })
    (fun x a' s A B row hs hg hr => by
      obtain ⟨B1, B2, h1, h2, e⟩ := hs
      exact ⟨B1, B2, (grownBy_keeps_cells hg (fun r e => (hr r e).2) h1 rfl).trans h1, (grownBy_keeps_cells hg (fun r e => (hr r e).2) h2 rfl).trans h2, e⟩) ?assign ?body ?done ?stop
  case assign =>
    rintro l pre x W K hi hK
    have ONE1 := hide1 (oneMr x.1)
    have ONE2 := hide1 (oneMr x.2)
    gi_wp2_with (first | (refine wpListIn_store_row rfl 69 _ _ rfl W.heap.size (mrA x.1) rfl rfl 69 _ (heap_alloc_last _ _) sizeMb rfl ONE1.out ?_; rw [World.setRow_alloc_new]) | (refine wpListIn_store_row rfl 69 _ _ rfl (W.heap.size + 1) (mrA x.2) rfl rfl 69 _ (heap_alloc_two _ _ _) sizeMb rfl ONE2.out ?_; rw [setRow_alloc_two]))
    have FF := two_newT W 69 (mrA x.1) (mrA x.2)
    exact hK _ _ (keepsFrom_bel FF.2.2) (CK.bel FF.2.2) ⟨⟨hi.1.1, hi.1.2.1.below FF.2.2 hi.1.2.1.lt, boxed_bel hi.1.2.2 FF.2.2⟩, hi.2.trans (FF.2.2.mono hi.2.size)⟩ ⟨_, _, FF.1, FF.2.1, rfl⟩
  case body =>
    rintro l pre x a' W hl ⟨r, hr⟩ ⟨⟨hp, hX, hR1⟩, hB⟩ ⟨B1, B2, h1, h2, rfl⟩ hlt
    have x0 : W.cell? ⟨w.heap.size, 0, none⟩ = some (.func (.func 44) #[] #[]) := hX.cell 0 rfl
    have C1 := hide1 (fun w => CS.out x.1 x.2 w)
    have C2 := hide1 (fun w => CH.out x.1 x.2 w)
    have HP := hide1 hp
    have HB := hide1 hB
    have HX := hide1 hX
    have HR1 := hide1 hR1
    have H1 := hide1 h1
    have H2 := hide1 h2
    clear hp hB hX hR1 h1 h2 CS CH bL bB bX2 bR2
    by_cases hS : spk_alone x.1 x.2 = true
    · rw [show (x.1.m.se && x.2.m.se && (x.1.m.ep == x.2.m.ep)) = true from hS] at C1
      by_cases hH : hld_alone x.1 x.2 = true
      · rw [show (false) = true from hH] at C2
        have QQ := hide1 (show OfQ spk_alone hld_alone (pre ++ [x]) from fun p hp => by
          rcases List.mem_append.1 hp with h | h
          · exact HP.out p h
          · rw [List.mem_singleton.1 h]; exact fun _ => hH)
        clear hS hH
        gi_wp2_with (first | (refine ⟨trivial, ?_⟩; gi_at_call 44; refine (CallsIn.inRound l (callsIn_wide.2 (C1.out _))).mono ?_; rintro e w2 ⟨rfl, hb2⟩; have D2 := hide1 hb2; have y1 : w2.cell? ⟨w.heap.size, 1, none⟩ = some (.func (.func 45) #[] #[]) := (HX.out.below D2.out HX.out.lt).cell 1 rfl; have J1 := hide1 (H1.out.below D2.out H1.out.lt); have J2 := hide1 (H2.out.below D2.out H2.out.lt); clear hb2) | (refine ⟨trivial, ?_⟩; gi_at_call 45; refine (CallsIn.inRound l (callsIn_wide.2 (C2.out _))).mono ?_; rintro e w3 ⟨rfl, hb3⟩; have D3 := hide1 (D2.out.trans (hb3.mono D2.out.size)); have r1 := (boxed_bel HR1.out D3.out).cell; have r2 := (boxed_bel HR1.out D3.out).frozen; clear hb3) | (refine wpListIn_load_A rfl 69 _ rfl B1 rfl 69 (mrA x.1) _ J1.out Try.underlying69 rfl sizeMb ?_) | (refine wpListIn_load_A rfl 69 _ rfl B2 rfl 69 (mrA x.2) _ J2.out Try.underlying69 rfl sizeMb ?_) | (refine wpListIn_load_A rfl 69 _ rfl B1 rfl 69 (mrA x.1) _ H1.out Try.underlying69 rfl sizeMb ?_) | (refine wpListIn_load_A rfl 69 _ rfl B2 rfl 69 (mrA x.2) _ H2.out Try.underlying69 rfl sizeMb ?_))
        exact ⟨keepsFrom_bel D3.out, CK.bel D3.out, ⟨QQ.out, HX.out.below D3.out HX.out.lt, boxed_bel HR1.out D3.out⟩, HB.out.trans (D3.out.mono HB.out.size)⟩
      · rw [show (false) = false from Bool.eq_false_iff.2 hH] at C2
        have QQ := hide1 (show ¬ OfQ spk_alone hld_alone (pre ++ [x]) from fun h => hH (h x (by simp) hS))
        clear hS hH
        gi_wp2_with (first | (refine ⟨trivial, ?_⟩; gi_at_call 44; refine (CallsIn.inRound l (callsIn_wide.2 (C1.out _))).mono ?_; rintro e w2 ⟨rfl, hb2⟩; have D2 := hide1 hb2; have y1 : w2.cell? ⟨w.heap.size, 1, none⟩ = some (.func (.func 45) #[] #[]) := (HX.out.below D2.out HX.out.lt).cell 1 rfl; have J1 := hide1 (H1.out.below D2.out H1.out.lt); have J2 := hide1 (H2.out.below D2.out H2.out.lt); clear hb2) | (refine ⟨trivial, ?_⟩; gi_at_call 45; refine (CallsIn.inRound l (callsIn_wide.2 (C2.out _))).mono ?_; rintro e w3 ⟨rfl, hb3⟩; have D3 := hide1 (D2.out.trans (hb3.mono D2.out.size)); have r1 := (boxed_bel HR1.out D3.out).cell; have r2 := (boxed_bel HR1.out D3.out).frozen; clear hb3) | (refine wpListIn_load_A rfl 69 _ rfl B1 rfl 69 (mrA x.1) _ J1.out Try.underlying69 rfl sizeMb ?_) | (refine wpListIn_load_A rfl 69 _ rfl B2 rfl 69 (mrA x.2) _ J2.out Try.underlying69 rfl sizeMb ?_) | (refine wpListIn_load_A rfl 69 _ rfl B1 rfl 69 (mrA x.1) _ H1.out Try.underlying69 rfl sizeMb ?_) | (refine wpListIn_load_A rfl 69 _ rfl B2 rfl 69 (mrA x.2) _ H2.out Try.underlying69 rfl sizeMb ?_))
        exact ⟨(keepsFrom_bel D3.out).trans ((KeepsOthers.setCell _ _ _).from _), ⟨rfl, QQ.out, boxed_set (boxed_bel HR1.out D3.out) _⟩, (HB.out.trans (D3.out.mono HB.out.size)).setCell (p := ⟨w.heap.size + 1, 0, none⟩) (by dsimp only; omega) _⟩
    · rw [show (x.1.m.se && x.2.m.se && (x.1.m.ep == x.2.m.ep)) = false from Bool.eq_false_iff.2 hS] at C1
      have QQ := hide1 (show OfQ spk_alone hld_alone (pre ++ [x]) from fun p hp => by
        rcases List.mem_append.1 hp with h | h
        · exact HP.out p h
        · rw [List.mem_singleton.1 h]; exact fun h => absurd h hS)
      clear hS
      gi_wp2_with (first | (refine ⟨trivial, ?_⟩; gi_at_call 44; refine (CallsIn.inRound l (callsIn_wide.2 (C1.out _))).mono ?_; rintro e w2 ⟨rfl, hb2⟩; have D2 := hide1 hb2; have y1 : w2.cell? ⟨w.heap.size, 1, none⟩ = some (.func (.func 45) #[] #[]) := (HX.out.below D2.out HX.out.lt).cell 1 rfl; have J1 := hide1 (H1.out.below D2.out H1.out.lt); have J2 := hide1 (H2.out.below D2.out H2.out.lt); clear hb2) | (refine wpListIn_load_A rfl 69 _ rfl B1 rfl 69 (mrA x.1) _ J1.out Try.underlying69 rfl sizeMb ?_) | (refine wpListIn_load_A rfl 69 _ rfl B2 rfl 69 (mrA x.2) _ J2.out Try.underlying69 rfl sizeMb ?_) | (refine wpListIn_load_A rfl 69 _ rfl B1 rfl 69 (mrA x.1) _ H1.out Try.underlying69 rfl sizeMb ?_) | (refine wpListIn_load_A rfl 69 _ rfl B2 rfl 69 (mrA x.2) _ H2.out Try.underlying69 rfl sizeMb ?_))
      refine ⟨fun _ h => (by cases h), ?_⟩
      gi_wp2
      exact ⟨keepsFrom_bel D2.out, CK.bel D2.out, ⟨QQ.out, HX.out.below D2.out HX.out.lt, boxed_bel HR1.out D2.out⟩, HB.out.trans (D2.out.mono HB.out.size)⟩
  case done =>
    rintro D xs W hD hxs ⟨⟨hp, hX, hR1⟩, hB⟩ hK
    have QA := hide1 (show OfL spk_alone hld_alone ls from fun i hi k hk hne hs => hp (ls[i], ls[k]) (hxs.2 i hi k hk hne) hs)
    have r1 := hR1.cell
    have r2 := hR1.frozen
    have HR2 := hide1 (boxed_set hR1 (.bool true))
    clear hp hX hxs bL bB bX2 bR2 CS CH HR
    gi_wp2
    have hK' := (KeepsOthers.setCell W ⟨w.heap.size + 1, 0, none⟩ (.bool true)).same D _ hK rfl
    refine ⟨by simp, .inl ⟨_, _, rfl, run_takeDeferred hK', ?_⟩⟩
    have hc5 := cell_kept HR2.out.cell (grownBy_putObj' _ D (.deferred none)) (fun r e => by cases e; exact ⟨_, hK', rfl⟩)
    refine ⟨.bool true, ?_, by rw [bo_t QA.out], (hB.setCell (p := ⟨w.heap.size + 1, 0, none⟩) (by dsimp only; omega) _).trans (belowK_b (w := w) (Nat.le_refl _) _ D _ _ (by omega) hK' rfl rfl)⟩
    simp [results, Try.f46, go_sem, hc5]
  case stop =>
    rintro D c pre W hD hpre ⟨⟨rfl, hp, hR1⟩, hB⟩ hK
    have QA := hide1 (show ¬ OfL spk_alone hld_alone ls from fun h => hp (fun p hp2 => by obtain ⟨i, hi, k, hk, hne, e⟩ := hpre p hp2; subst e; exact h i hi k hk hne))
    clear hp hpre bL bB bX2 bR2 CS CH HR
    gi_wp2
    refine ⟨by simp, .inl ⟨_, _, rfl, run_takeDeferred hK, ?_⟩⟩
    have hc5 := cell_kept hR1.cell (grownBy_putObj' _ D (.deferred none)) (fun r e => by cases e; exact ⟨_, hK, rfl⟩)
    refine ⟨.bool false, ?_, by rw [bo_f QA.out], hB.trans (belowK_b (w := w) (Nat.le_refl _) _ D _ _ (by omega) hK rfl rfl)⟩
    simp [results, Try.f46, go_sem, hc5]
end Go.Proofs.Ytcahaimefgkmiaa
