/- A truth of all two of a row of calls: the program's truth[Call].of. -/
import Derived.Test.YtcahaimefgkmiaaEaC
import Derived.Test.YtcahaimefgkmiaaStJ
namespace Go.Proofs.Ytcahaimefgkmiaa
open Go.RowKit Go.Shelf
set_option linter.unusedVariables false
attribute [local go_sem] Oper.semAt_some

def OfQ {α : Type} (S H : α → α → Bool) (pre : List (α × α)) : Prop := ∀ p ∈ pre, S p.1 p.2 = true → H p.1 p.2 = true
def OfL {α : Type} (S H : α → α → Bool) (l : List α) : Prop := ∀ i (hi : i < l.length) k (hk : k < l.length), i ≠ k → S l[i] l[k] = true → H l[i] l[k] = true
def spk_inOrder (x y : Cl) : Bool := decide (x.dn < y.wh)
def hld_inOrder (x y : Cl) : Bool := decide (stp x < stp y)
set_option maxRecDepth 100000 in
set_option maxHeartbeats 4000000 in
theorem of_inOrder (ao : Option Addr) (ls : List Cl) (ca : Nat) (w : World) (hls : ls.length ≤ 1048576) (hR : RdG clC 9 w ao ls) :
    Calls Try.prog 33 #[.agg #[.func (.func 29) #[] #[], .func (.func 30) #[] #[]], .slice ao ls.length ca] w fun e w' => e = .returned (.bool (bo (OfL spk_inOrder hld_inOrder ls))) ∧ Below w.heap.size w w' := by
  have HR := hide1 hR
  have CS := hide1 (fun x y w => doneAhead_any x y w)
  have CH := hide1 (fun x y w => stampedBelow_any x y w)
  clear hR
  refine (callsIn_wide (n := 6)).1 ?_
  refine callsIn_of_wp_marks Try.func33 rfl trivial ?_ rfl
  simp only [Try.ntmps33, List.size_toArray, List.length_cons, List.length_nil, Nat.reduceAdd, Nat.reduceSub, Array.replicate_succ, Array.replicate_zero, List.push_toArray, List.append_toArray, List.nil_append, List.cons_append]
  gi_wp2_with (refine ⟨trivial, ?_⟩; gi_at_call 57; refine (eachTwoCall_in Fence.wide _ trivial rfl _ _ _ _).mono ?_; rintro e w' ⟨rfl, rfl⟩)
  have bX := hide1 (BlkA.new w 57 #[.func (.func 29) #[] #[], .func (.func 30) #[] #[]])
  have bR := hide1 (Boxed.new (w.alloc (.cells #[.func (.func 29) #[] #[], .func (.func 30) #[] #[]] 57)) 4 (.bool false))
  have bL := hide1 (Boxed.new ((w.alloc (.cells #[.func (.func 29) #[] #[], .func (.func 30) #[] #[]] 57)).alloc (.cells #[.bool false] 4)) 32 (.slice ao ls.length ca))
  have bB := hide1 ((((Below.refl _ w).alloc (Nat.le_refl _) (.cells #[.func (.func 29) #[] #[], .func (.func 30) #[] #[]] 57)).alloc (by simp) (.cells #[.bool false] 4)).alloc (by simp; omega) (.cells #[.slice ao ls.length ca] 32))
  have hsz : (((w.alloc (.cells #[.func (.func 29) #[] #[], .func (.func 30) #[] #[]] 57)).alloc (.cells #[.bool false] 4)).alloc (.cells #[.slice ao ls.length ca] 32)).heap.size = w.heap.size + 3 := by simp
  have bX1 := hide1 ((bX.out.below ((Below.refl _ _).alloc (Nat.le_refl _) (.cells #[.bool false] 4)) bX.out.lt))
  have bX2 := hide1 ((bX1.out.below ((Below.refl _ _).alloc (Nat.le_refl _) (.cells #[.slice ao ls.length ca] 32)) bX1.out.lt))
  have bR2 := hide1 (bR.out.alloc (.cells #[.slice ao ls.length ca] 32))
  simp only [World.size_alloc] at bR2 bL
  obtain ⟨W0, hW0⟩ : ∃ W0, (((w.alloc (.cells #[.func (.func 29) #[] #[], .func (.func 30) #[] #[]] 57)).alloc (.cells #[.bool false] 4)).alloc (.cells #[.slice ao ls.length ca] 32)) = W0 := ⟨_, rfl⟩
  rw [hW0] at bL bB bX2 bR2 hsz ⊢
  clear hW0 bX bR bX1
  refine wpIn_rangeFunc_ownH rfl (by omega) (gf := 74) (lb := #[.pointer (some ⟨w.heap.size + 1 + 1, 0, none⟩)]) rfl trivial (enters_of Try.func74 (by kernel_rfl) rfl)
    (eachTwoCall_stops Fence.wide _ trivial rfl (by omega) (w.heap.size + 1 + 1) ao ls ca hls W0 (by omega) bL.out.cell (HR.out.later (bB.out))) (fun h k => h.t k) (fun W l o o' _ h hc _ => CK.put W l o o' h hc) (Below.refl _ _) (fun _ => rfl)
    (fun pre W => ((OfQ spk_inOrder hld_inOrder pre) ∧ BlkA W w.heap.size 57 #[.func (.func 29) #[] #[], .func (.func 30) #[] #[]] ∧ Boxed W (w.heap.size + 1) 4 (.bool false)) ∧ Below w.heap.size w W)
    (fun c pre W => (c = .ret ∧ ¬ (OfQ spk_inOrder hld_inOrder pre) ∧ Boxed W (w.heap.size + 1) 4 (.bool false)) ∧ Below w.heap.size w W)
    (OwnFrom.and (Own.from (fun s A B row hs hg hr => ⟨hs.1, (grownBy_keeps_cells hg hr hs.2.1 rfl).trans hs.2.1, (grownBy_keeps_cells hg hr hs.2.2 rfl).trans hs.2.2⟩) _) (ownFrom_below (Nat.le_refl _) (by omega)))
    (fun c => OwnFrom.and (Own.from (fun s A B row hs hg hr => ⟨hs.1, hs.2.1, (grownBy_keeps_cells hg hr hs.2.2 rfl).trans hs.2.2⟩) _) (ownFrom_below (Nat.le_refl _) (by omega)))
    ⟨⟨fun p hp => by simp at hp, bX2.out, bR2.out⟩, bB.out⟩
    (fun x a' W => ∃ B1 B2 : Nat, BlkA W B1 26 (clA x.1) ∧ BlkA W B2 26 (clA x.2) ∧ a' = { tmps := #[.agg #[.func (.func 29) #[] #[], .func (.func 30) #[] #[]], .slice ao ls.length ca, .pointer (some ⟨w.heap.size, 0, none⟩), undef, .pointer (some ⟨w.heap.size + 1, 0, none⟩), .pointer (some ⟨B1, 0, none⟩), .pointer (some ⟨B2, 0, none⟩), .slice ao ls.length ca, .func (.func 74) #[] #[.pointer (some ⟨w.heap.size + 1 + 1, 0, none⟩)], .agg (clA x.1), .agg (clA x.2), undef, undef, undef, undef, undef, undef, undef, undef, undef, undef, undef, undef, undef], defers := [] })
    (fun x a' s A B row hs hg hr => by
      obtain ⟨B1, B2, h1, h2, e⟩ := hs
      exact ⟨B1, B2, (grownBy_keeps_cells hg (fun r e => (hr r e).2) h1 rfl).trans h1, (grownBy_keeps_cells hg (fun r e => (hr r e).2) h2 rfl).trans h2, e⟩) ?assign ?body ?done ?stop
  case assign =>
    rintro l pre x W K hi hK
    have ONE1 := hide1 (oneCl x.1)
    have ONE2 := hide1 (oneCl x.2)
    gi_wp2_with (first | (refine wpListIn_store_row rfl 26 _ _ rfl W.heap.size (clA x.1) rfl rfl 26 _ (heap_alloc_last _ _) sizeCl rfl ONE1.out ?_; rw [World.setRow_alloc_new]) | (refine wpListIn_store_row rfl 26 _ _ rfl (W.heap.size + 1) (clA x.2) rfl rfl 26 _ (heap_alloc_two _ _ _) sizeCl rfl ONE2.out ?_; rw [setRow_alloc_two]))
    have FF := two_newT W 26 (clA x.1) (clA x.2)
    exact hK _ _ (keepsFrom_bel FF.2.2) (CK.bel FF.2.2) ⟨⟨hi.1.1, hi.1.2.1.below FF.2.2 hi.1.2.1.lt, boxed_bel hi.1.2.2 FF.2.2⟩, hi.2.trans (FF.2.2.mono hi.2.size)⟩ ⟨_, _, FF.1, FF.2.1, rfl⟩
  case body =>
    rintro l pre x a' W hl ⟨r, hr⟩ ⟨⟨hp, hX, hR1⟩, hB⟩ ⟨B1, B2, h1, h2, rfl⟩ hlt
    have x0 : W.cell? ⟨w.heap.size, 0, none⟩ = some (.func (.func 29) #[] #[]) := hX.cell 0 rfl
    have C1 := hide1 (fun w => CS.out x.1 x.2 w)
    have C2 := hide1 (fun w => CH.out x.1 x.2 w)
    have HP := hide1 hp
    have HB := hide1 hB
    have HX := hide1 hX
    have HR1 := hide1 hR1
    have H1 := hide1 h1
    have H2 := hide1 h2
    clear hp hB hX hR1 h1 h2 CS CH bL bB bX2 bR2
    by_cases hS : spk_inOrder x.1 x.2 = true
    · rw [show (decide (x.1.dn < x.2.wh)) = true from hS] at C1
      by_cases hH : hld_inOrder x.1 x.2 = true
      · rw [show (decide (stp x.1 < stp x.2)) = true from hH] at C2
        have QQ := hide1 (show OfQ spk_inOrder hld_inOrder (pre ++ [x]) from fun p hp => by
          rcases List.mem_append.1 hp with h | h
          · exact HP.out p h
          · rw [List.mem_singleton.1 h]; exact fun _ => hH)
        clear hS hH
        gi_wp2_with (first | (refine ⟨trivial, ?_⟩; gi_at_call 29; refine (CallsIn.inRound l (callsIn_wide.2 (C1.out _))).mono ?_; rintro e w2 ⟨rfl, hb2⟩; have D2 := hide1 hb2; have y1 : w2.cell? ⟨w.heap.size, 1, none⟩ = some (.func (.func 30) #[] #[]) := (HX.out.below D2.out HX.out.lt).cell 1 rfl; have J1 := hide1 (H1.out.below D2.out H1.out.lt); have J2 := hide1 (H2.out.below D2.out H2.out.lt); clear hb2) | (refine ⟨trivial, ?_⟩; gi_at_call 30; refine (CallsIn.inRound l (callsIn_wide.2 (C2.out _))).mono ?_; rintro e w3 ⟨rfl, hb3⟩; have D3 := hide1 (D2.out.trans (hb3.mono D2.out.size)); have r1 := (boxed_bel HR1.out D3.out).cell; have r2 := (boxed_bel HR1.out D3.out).frozen; clear hb3) | (refine wpListIn_load_A rfl 26 _ rfl B1 rfl 26 (clA x.1) _ J1.out Try.underlying26 rfl sizeCl ?_) | (refine wpListIn_load_A rfl 26 _ rfl B2 rfl 26 (clA x.2) _ J2.out Try.underlying26 rfl sizeCl ?_) | (refine wpListIn_load_A rfl 26 _ rfl B1 rfl 26 (clA x.1) _ H1.out Try.underlying26 rfl sizeCl ?_) | (refine wpListIn_load_A rfl 26 _ rfl B2 rfl 26 (clA x.2) _ H2.out Try.underlying26 rfl sizeCl ?_))
        exact ⟨keepsFrom_bel D3.out, CK.bel D3.out, ⟨QQ.out, HX.out.below D3.out HX.out.lt, boxed_bel HR1.out D3.out⟩, HB.out.trans (D3.out.mono HB.out.size)⟩
      · rw [show (decide (stp x.1 < stp x.2)) = false from Bool.eq_false_iff.2 hH] at C2
        have QQ := hide1 (show ¬ OfQ spk_inOrder hld_inOrder (pre ++ [x]) from fun h => hH (h x (by simp) hS))
        clear hS hH
        gi_wp2_with (first | (refine ⟨trivial, ?_⟩; gi_at_call 29; refine (CallsIn.inRound l (callsIn_wide.2 (C1.out _))).mono ?_; rintro e w2 ⟨rfl, hb2⟩; have D2 := hide1 hb2; have y1 : w2.cell? ⟨w.heap.size, 1, none⟩ = some (.func (.func 30) #[] #[]) := (HX.out.below D2.out HX.out.lt).cell 1 rfl; have J1 := hide1 (H1.out.below D2.out H1.out.lt); have J2 := hide1 (H2.out.below D2.out H2.out.lt); clear hb2) | (refine ⟨trivial, ?_⟩; gi_at_call 30; refine (CallsIn.inRound l (callsIn_wide.2 (C2.out _))).mono ?_; rintro e w3 ⟨rfl, hb3⟩; have D3 := hide1 (D2.out.trans (hb3.mono D2.out.size)); have r1 := (boxed_bel HR1.out D3.out).cell; have r2 := (boxed_bel HR1.out D3.out).frozen; clear hb3) | (refine wpListIn_load_A rfl 26 _ rfl B1 rfl 26 (clA x.1) _ J1.out Try.underlying26 rfl sizeCl ?_) | (refine wpListIn_load_A rfl 26 _ rfl B2 rfl 26 (clA x.2) _ J2.out Try.underlying26 rfl sizeCl ?_) | (refine wpListIn_load_A rfl 26 _ rfl B1 rfl 26 (clA x.1) _ H1.out Try.underlying26 rfl sizeCl ?_) | (refine wpListIn_load_A rfl 26 _ rfl B2 rfl 26 (clA x.2) _ H2.out Try.underlying26 rfl sizeCl ?_))
        exact ⟨(keepsFrom_bel D3.out).trans ((KeepsOthers.setCell _ _ _).from _), ⟨rfl, QQ.out, boxed_set (boxed_bel HR1.out D3.out) _⟩, (HB.out.trans (D3.out.mono HB.out.size)).setCell (p := ⟨w.heap.size + 1, 0, none⟩) (by dsimp only; omega) _⟩
    · rw [show (decide (x.1.dn < x.2.wh)) = false from Bool.eq_false_iff.2 hS] at C1
      have QQ := hide1 (show OfQ spk_inOrder hld_inOrder (pre ++ [x]) from fun p hp => by
        rcases List.mem_append.1 hp with h | h
        · exact HP.out p h
        · rw [List.mem_singleton.1 h]; exact fun h => absurd h hS)
      clear hS
      gi_wp2_with (first | (refine ⟨trivial, ?_⟩; gi_at_call 29; refine (CallsIn.inRound l (callsIn_wide.2 (C1.out _))).mono ?_; rintro e w2 ⟨rfl, hb2⟩; have D2 := hide1 hb2; have y1 : w2.cell? ⟨w.heap.size, 1, none⟩ = some (.func (.func 30) #[] #[]) := (HX.out.below D2.out HX.out.lt).cell 1 rfl; have J1 := hide1 (H1.out.below D2.out H1.out.lt); have J2 := hide1 (H2.out.below D2.out H2.out.lt); clear hb2) | (refine wpListIn_load_A rfl 26 _ rfl B1 rfl 26 (clA x.1) _ J1.out Try.underlying26 rfl sizeCl ?_) | (refine wpListIn_load_A rfl 26 _ rfl B2 rfl 26 (clA x.2) _ J2.out Try.underlying26 rfl sizeCl ?_) | (refine wpListIn_load_A rfl 26 _ rfl B1 rfl 26 (clA x.1) _ H1.out Try.underlying26 rfl sizeCl ?_) | (refine wpListIn_load_A rfl 26 _ rfl B2 rfl 26 (clA x.2) _ H2.out Try.underlying26 rfl sizeCl ?_))
      refine ⟨fun _ h => (by cases h), ?_⟩
      gi_wp2
      exact ⟨keepsFrom_bel D2.out, CK.bel D2.out, ⟨QQ.out, HX.out.below D2.out HX.out.lt, boxed_bel HR1.out D2.out⟩, HB.out.trans (D2.out.mono HB.out.size)⟩
  case done =>
    rintro D xs W hD hxs ⟨⟨hp, hX, hR1⟩, hB⟩ hK
    have QA := hide1 (show OfL spk_inOrder hld_inOrder ls from fun i hi k hk hne hs => hp (ls[i], ls[k]) (hxs.2 i hi k hk hne) hs)
    have r1 := hR1.cell
    have r2 := hR1.frozen
    have HR2 := hide1 (boxed_set hR1 (.bool true))
    clear hp hX hxs bL bB bX2 bR2 CS CH HR
    gi_wp2
    have hK' := (KeepsOthers.setCell W ⟨w.heap.size + 1, 0, none⟩ (.bool true)).same D _ hK rfl
    refine ⟨by simp, .inl ⟨_, _, rfl, run_takeDeferred hK', ?_⟩⟩
    have hc5 := cell_kept HR2.out.cell (grownBy_putObj' _ D (.deferred none)) (fun r e => by cases e; exact ⟨_, hK', rfl⟩)
    refine ⟨.bool true, ?_, by rw [bo_t QA.out], (hB.setCell (p := ⟨w.heap.size + 1, 0, none⟩) (by dsimp only; omega) _).trans (belowK_b (w := w) (Nat.le_refl _) _ D _ _ (by omega) hK' rfl rfl)⟩
    simp [results, Try.f33, go_sem, hc5]
  case stop =>
    rintro D c pre W hD hpre ⟨⟨rfl, hp, hR1⟩, hB⟩ hK
    have QA := hide1 (show ¬ OfL spk_inOrder hld_inOrder ls from fun h => hp (fun p hp2 => by obtain ⟨i, hi, k, hk, hne, e⟩ := hpre p hp2; subst e; exact h i hi k hk hne))
    clear hp hpre bL bB bX2 bR2 CS CH HR
    gi_wp2
    refine ⟨by simp, .inl ⟨_, _, rfl, run_takeDeferred hK, ?_⟩⟩
    have hc5 := cell_kept hR1.cell (grownBy_putObj' _ D (.deferred none)) (fun r e => by cases e; exact ⟨_, hK, rfl⟩)
    refine ⟨.bool false, ?_, by rw [bo_f QA.out], hB.trans (belowK_b (w := w) (Nat.le_refl _) _ D _ _ (by omega) hK rfl rfl)⟩
    simp [results, Try.f33, go_sem, hc5]
def spk_unlike (x y : Cl) : Bool := stp x == stp y
def hld_unlike (x y : Cl) : Bool := false
set_option maxRecDepth 100000 in
set_option maxHeartbeats 4000000 in
theorem of_unlike (ao : Option Addr) (ls : List Cl) (ca : Nat) (w : World) (hls : ls.length ≤ 1048576) (hR : RdG clC 9 w ao ls) :
    Calls Try.prog 33 #[.agg #[.func (.func 31) #[] #[], .func (.func 32) #[] #[]], .slice ao ls.length ca] w fun e w' => e = .returned (.bool (bo (OfL spk_unlike hld_unlike ls))) ∧ Below w.heap.size w w' := by
  have HR := hide1 hR
  have CS := hide1 (fun x y w => stampedAlike_any x y w)
  have CH := hide1 (fun x y w => never_any x y w)
  clear hR
  refine (callsIn_wide (n := 6)).1 ?_
  refine callsIn_of_wp_marks Try.func33 rfl trivial ?_ rfl
  simp only [Try.ntmps33, List.size_toArray, List.length_cons, List.length_nil, Nat.reduceAdd, Nat.reduceSub, Array.replicate_succ, Array.replicate_zero, List.push_toArray, List.append_toArray, List.nil_append, List.cons_append]
  gi_wp2_with (refine ⟨trivial, ?_⟩; gi_at_call 57; refine (eachTwoCall_in Fence.wide _ trivial rfl _ _ _ _).mono ?_; rintro e w' ⟨rfl, rfl⟩)
  have bX := hide1 (BlkA.new w 57 #[.func (.func 31) #[] #[], .func (.func 32) #[] #[]])
  have bR := hide1 (Boxed.new (w.alloc (.cells #[.func (.func 31) #[] #[], .func (.func 32) #[] #[]] 57)) 4 (.bool false))
  have bL := hide1 (Boxed.new ((w.alloc (.cells #[.func (.func 31) #[] #[], .func (.func 32) #[] #[]] 57)).alloc (.cells #[.bool false] 4)) 32 (.slice ao ls.length ca))
  have bB := hide1 ((((Below.refl _ w).alloc (Nat.le_refl _) (.cells #[.func (.func 31) #[] #[], .func (.func 32) #[] #[]] 57)).alloc (by simp) (.cells #[.bool false] 4)).alloc (by simp; omega) (.cells #[.slice ao ls.length ca] 32))
  have hsz : (((w.alloc (.cells #[.func (.func 31) #[] #[], .func (.func 32) #[] #[]] 57)).alloc (.cells #[.bool false] 4)).alloc (.cells #[.slice ao ls.length ca] 32)).heap.size = w.heap.size + 3 := by simp
  have bX1 := hide1 ((bX.out.below ((Below.refl _ _).alloc (Nat.le_refl _) (.cells #[.bool false] 4)) bX.out.lt))
  have bX2 := hide1 ((bX1.out.below ((Below.refl _ _).alloc (Nat.le_refl _) (.cells #[.slice ao ls.length ca] 32)) bX1.out.lt))
  have bR2 := hide1 (bR.out.alloc (.cells #[.slice ao ls.length ca] 32))
  simp only [World.size_alloc] at bR2 bL
  obtain ⟨W0, hW0⟩ : ∃ W0, (((w.alloc (.cells #[.func (.func 31) #[] #[], .func (.func 32) #[] #[]] 57)).alloc (.cells #[.bool false] 4)).alloc (.cells #[.slice ao ls.length ca] 32)) = W0 := ⟨_, rfl⟩
  rw [hW0] at bL bB bX2 bR2 hsz ⊢
  clear hW0 bX bR bX1
  refine wpIn_rangeFunc_ownH rfl (by omega) (gf := 74) (lb := #[.pointer (some ⟨w.heap.size + 1 + 1, 0, none⟩)]) rfl trivial (enters_of Try.func74 (by kernel_rfl) rfl)
    (eachTwoCall_stops Fence.wide _ trivial rfl (by omega) (w.heap.size + 1 + 1) ao ls ca hls W0 (by omega) bL.out.cell (HR.out.later (bB.out))) (fun h k => h.t k) (fun W l o o' _ h hc _ => CK.put W l o o' h hc) (Below.refl _ _) (fun _ => rfl)
    (fun pre W => ((OfQ spk_unlike hld_unlike pre) ∧ BlkA W w.heap.size 57 #[.func (.func 31) #[] #[], .func (.func 32) #[] #[]] ∧ Boxed W (w.heap.size + 1) 4 (.bool false)) ∧ Below w.heap.size w W)
    (fun c pre W => (c = .ret ∧ ¬ (OfQ spk_unlike hld_unlike pre) ∧ Boxed W (w.heap.size + 1) 4 (.bool false)) ∧ Below w.heap.size w W)
    (OwnFrom.and (Own.from (fun s A B row hs hg hr => ⟨hs.1, (grownBy_keeps_cells hg hr hs.2.1 rfl).trans hs.2.1, (grownBy_keeps_cells hg hr hs.2.2 rfl).trans hs.2.2⟩) _) (ownFrom_below (Nat.le_refl _) (by omega)))
    (fun c => OwnFrom.and (Own.from (fun s A B row hs hg hr => ⟨hs.1, hs.2.1, (grownBy_keeps_cells hg hr hs.2.2 rfl).trans hs.2.2⟩) _) (ownFrom_below (Nat.le_refl _) (by omega)))
    ⟨⟨fun p hp => by simp at hp, bX2.out, bR2.out⟩, bB.out⟩
    (fun x a' W => ∃ B1 B2 : Nat, BlkA W B1 26 (clA x.1) ∧ BlkA W B2 26 (clA x.2) ∧ a' = { tmps := #[.agg #[.func (.func 31) #[] #[], .func (.func 32) #[] #[]], .slice ao ls.length ca, .pointer (some ⟨w.heap.size, 0, none⟩), undef, .pointer (some ⟨w.heap.size + 1, 0, none⟩), .pointer (some ⟨B1, 0, none⟩), .pointer (some ⟨B2, 0, none⟩), .slice ao ls.length ca, .func (.func 74) #[] #[.pointer (some ⟨w.heap.size + 1 + 1, 0, none⟩)], .agg (clA x.1), .agg (clA x.2), undef, undef, undef, undef, undef, undef, undef, undef, undef, undef, undef, undef, undef], defers := [] })
    (fun x a' s A B row hs hg hr => by
      obtain ⟨B1, B2, h1, h2, e⟩ := hs
      exact ⟨B1, B2, (grownBy_keeps_cells hg (fun r e => (hr r e).2) h1 rfl).trans h1, (grownBy_keeps_cells hg (fun r e => (hr r e).2) h2 rfl).trans h2, e⟩) ?assign ?body ?done ?stop
  case assign =>
    rintro l pre x W K hi hK
    have ONE1 := hide1 (oneCl x.1)
    have ONE2 := hide1 (oneCl x.2)
    gi_wp2_with (first | (refine wpListIn_store_row rfl 26 _ _ rfl W.heap.size (clA x.1) rfl rfl 26 _ (heap_alloc_last _ _) sizeCl rfl ONE1.out ?_; rw [World.setRow_alloc_new]) | (refine wpListIn_store_row rfl 26 _ _ rfl (W.heap.size + 1) (clA x.2) rfl rfl 26 _ (heap_alloc_two _ _ _) sizeCl rfl ONE2.out ?_; rw [setRow_alloc_two]))
    have FF := two_newT W 26 (clA x.1) (clA x.2)
    exact hK _ _ (keepsFrom_bel FF.2.2) (CK.bel FF.2.2) ⟨⟨hi.1.1, hi.1.2.1.below FF.2.2 hi.1.2.1.lt, boxed_bel hi.1.2.2 FF.2.2⟩, hi.2.trans (FF.2.2.mono hi.2.size)⟩ ⟨_, _, FF.1, FF.2.1, rfl⟩
  case body =>
    rintro l pre x a' W hl ⟨r, hr⟩ ⟨⟨hp, hX, hR1⟩, hB⟩ ⟨B1, B2, h1, h2, rfl⟩ hlt
    have x0 : W.cell? ⟨w.heap.size, 0, none⟩ = some (.func (.func 31) #[] #[]) := hX.cell 0 rfl
    have C1 := hide1 (fun w => CS.out x.1 x.2 w)
    have C2 := hide1 (fun w => CH.out x.1 x.2 w)
    have HP := hide1 hp
    have HB := hide1 hB
    have HX := hide1 hX
    have HR1 := hide1 hR1
    have H1 := hide1 h1
    have H2 := hide1 h2
    clear hp hB hX hR1 h1 h2 CS CH bL bB bX2 bR2
    by_cases hS : spk_unlike x.1 x.2 = true
    · rw [show (stp x.1 == stp x.2) = true from hS] at C1
      by_cases hH : hld_unlike x.1 x.2 = true
      · rw [show (false) = true from hH] at C2
        have QQ := hide1 (show OfQ spk_unlike hld_unlike (pre ++ [x]) from fun p hp => by
          rcases List.mem_append.1 hp with h | h
          · exact HP.out p h
          · rw [List.mem_singleton.1 h]; exact fun _ => hH)
        clear hS hH
        gi_wp2_with (first | (refine ⟨trivial, ?_⟩; gi_at_call 31; refine (CallsIn.inRound l (callsIn_wide.2 (C1.out _))).mono ?_; rintro e w2 ⟨rfl, hb2⟩; have D2 := hide1 hb2; have y1 : w2.cell? ⟨w.heap.size, 1, none⟩ = some (.func (.func 32) #[] #[]) := (HX.out.below D2.out HX.out.lt).cell 1 rfl; have J1 := hide1 (H1.out.below D2.out H1.out.lt); have J2 := hide1 (H2.out.below D2.out H2.out.lt); clear hb2) | (refine ⟨trivial, ?_⟩; gi_at_call 32; refine (CallsIn.inRound l (callsIn_wide.2 (C2.out _))).mono ?_; rintro e w3 ⟨rfl, hb3⟩; have D3 := hide1 (D2.out.trans (hb3.mono D2.out.size)); have r1 := (boxed_bel HR1.out D3.out).cell; have r2 := (boxed_bel HR1.out D3.out).frozen; clear hb3) | (refine wpListIn_load_A rfl 26 _ rfl B1 rfl 26 (clA x.1) _ J1.out Try.underlying26 rfl sizeCl ?_) | (refine wpListIn_load_A rfl 26 _ rfl B2 rfl 26 (clA x.2) _ J2.out Try.underlying26 rfl sizeCl ?_) | (refine wpListIn_load_A rfl 26 _ rfl B1 rfl 26 (clA x.1) _ H1.out Try.underlying26 rfl sizeCl ?_) | (refine wpListIn_load_A rfl 26 _ rfl B2 rfl 26 (clA x.2) _ H2.out Try.underlying26 rfl sizeCl ?_))
        exact ⟨keepsFrom_bel D3.out, CK.bel D3.out, ⟨QQ.out, HX.out.below D3.out HX.out.lt, boxed_bel HR1.out D3.out⟩, HB.out.trans (D3.out.mono HB.out.size)⟩
      · rw [show (false) = false from Bool.eq_false_iff.2 hH] at C2
        have QQ := hide1 (show ¬ OfQ spk_unlike hld_unlike (pre ++ [x]) from fun h => hH (h x (by simp) hS))
        clear hS hH
        gi_wp2_with (first | (refine ⟨trivial, ?_⟩; gi_at_call 31; refine (CallsIn.inRound l (callsIn_wide.2 (C1.out _))).mono ?_; rintro e w2 ⟨rfl, hb2⟩; have D2 := hide1 hb2; have y1 : w2.cell? ⟨w.heap.size, 1, none⟩ = some (.func (.func 32) #[] #[]) := (HX.out.below D2.out HX.out.lt).cell 1 rfl; have J1 := hide1 (H1.out.below D2.out H1.out.lt); have J2 := hide1 (H2.out.below D2.out H2.out.lt); clear hb2) | (refine ⟨trivial, ?_⟩; gi_at_call 32; refine (CallsIn.inRound l (callsIn_wide.2 (C2.out _))).mono ?_; rintro e w3 ⟨rfl, hb3⟩; have D3 := hide1 (D2.out.trans (hb3.mono D2.out.size)); have r1 := (boxed_bel HR1.out D3.out).cell; have r2 := (boxed_bel HR1.out D3.out).frozen; clear hb3) | (refine wpListIn_load_A rfl 26 _ rfl B1 rfl 26 (clA x.1) _ J1.out Try.underlying26 rfl sizeCl ?_) | (refine wpListIn_load_A rfl 26 _ rfl B2 rfl 26 (clA x.2) _ J2.out Try.underlying26 rfl sizeCl ?_) | (refine wpListIn_load_A rfl 26 _ rfl B1 rfl 26 (clA x.1) _ H1.out Try.underlying26 rfl sizeCl ?_) | (refine wpListIn_load_A rfl 26 _ rfl B2 rfl 26 (clA x.2) _ H2.out Try.underlying26 rfl sizeCl ?_))
        exact ⟨(keepsFrom_bel D3.out).trans ((KeepsOthers.setCell _ _ _).from _), ⟨rfl, QQ.out, boxed_set (boxed_bel HR1.out D3.out) _⟩, (HB.out.trans (D3.out.mono HB.out.size)).setCell (p := ⟨w.heap.size + 1, 0, none⟩) (by dsimp only; omega) _⟩
    · rw [show (stp x.1 == stp x.2) = false from Bool.eq_false_iff.2 hS] at C1
      have QQ := hide1 (show OfQ spk_unlike hld_unlike (pre ++ [x]) from fun p hp => by
        rcases List.mem_append.1 hp with h | h
        · exact HP.out p h
        · rw [List.mem_singleton.1 h]; exact fun h => absurd h hS)
      clear hS
      gi_wp2_with (first | (refine ⟨trivial, ?_⟩; gi_at_call 31; refine (CallsIn.inRound l (callsIn_wide.2 (C1.out _))).mono ?_; rintro e w2 ⟨rfl, hb2⟩; have D2 := hide1 hb2; have y1 : w2.cell? ⟨w.heap.size, 1, none⟩ = some (.func (.func 32) #[] #[]) := (HX.out.below D2.out HX.out.lt).cell 1 rfl; have J1 := hide1 (H1.out.below D2.out H1.out.lt); have J2 := hide1 (H2.out.below D2.out H2.out.lt); clear hb2) | (refine wpListIn_load_A rfl 26 _ rfl B1 rfl 26 (clA x.1) _ J1.out Try.underlying26 rfl sizeCl ?_) | (refine wpListIn_load_A rfl 26 _ rfl B2 rfl 26 (clA x.2) _ J2.out Try.underlying26 rfl sizeCl ?_) | (refine wpListIn_load_A rfl 26 _ rfl B1 rfl 26 (clA x.1) _ H1.out Try.underlying26 rfl sizeCl ?_) | (refine wpListIn_load_A rfl 26 _ rfl B2 rfl 26 (clA x.2) _ H2.out Try.underlying26 rfl sizeCl ?_))
      refine ⟨fun _ h => (by cases h), ?_⟩
      gi_wp2
      exact ⟨keepsFrom_bel D2.out, CK.bel D2.out, ⟨QQ.out, HX.out.below D2.out HX.out.lt, boxed_bel HR1.out D2.out⟩, HB.out.trans (D2.out.mono HB.out.size)⟩
  case done =>
    rintro D xs W hD hxs ⟨⟨hp, hX, hR1⟩, hB⟩ hK
    have QA := hide1 (show OfL spk_unlike hld_unlike ls from fun i hi k hk hne hs => hp (ls[i], ls[k]) (hxs.2 i hi k hk hne) hs)
    have r1 := hR1.cell
    have r2 := hR1.frozen
    have HR2 := hide1 (boxed_set hR1 (.bool true))
    clear hp hX hxs bL bB bX2 bR2 CS CH HR
    gi_wp2
    have hK' := (KeepsOthers.setCell W ⟨w.heap.size + 1, 0, none⟩ (.bool true)).same D _ hK rfl
    refine ⟨by simp, .inl ⟨_, _, rfl, run_takeDeferred hK', ?_⟩⟩
    have hc5 := cell_kept HR2.out.cell (grownBy_putObj' _ D (.deferred none)) (fun r e => by cases e; exact ⟨_, hK', rfl⟩)
    refine ⟨.bool true, ?_, by rw [bo_t QA.out], (hB.setCell (p := ⟨w.heap.size + 1, 0, none⟩) (by dsimp only; omega) _).trans (belowK_b (w := w) (Nat.le_refl _) _ D _ _ (by omega) hK' rfl rfl)⟩
    simp [results, Try.f33, go_sem, hc5]
  case stop =>
    rintro D c pre W hD hpre ⟨⟨rfl, hp, hR1⟩, hB⟩ hK
    have QA := hide1 (show ¬ OfL spk_unlike hld_unlike ls from fun h => hp (fun p hp2 => by obtain ⟨i, hi, k, hk, hne, e⟩ := hpre p hp2; subst e; exact h i hi k hk hne))
    clear hp hpre bL bB bX2 bR2 CS CH HR
    gi_wp2
    refine ⟨by simp, .inl ⟨_, _, rfl, run_takeDeferred hK, ?_⟩⟩
    have hc5 := cell_kept hR1.cell (grownBy_putObj' _ D (.deferred none)) (fun r e => by cases e; exact ⟨_, hK, rfl⟩)
    refine ⟨.bool false, ?_, by rw [bo_f QA.out], hB.trans (belowK_b (w := w) (Nat.le_refl _) _ D _ _ (by omega) hK rfl rfl)⟩
    simp [results, Try.f33, go_sem, hc5]
end Go.Proofs.Ytcahaimefgkmiaa
