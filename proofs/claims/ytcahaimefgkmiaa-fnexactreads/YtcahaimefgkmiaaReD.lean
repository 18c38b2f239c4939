/- The program's Reads: all gets that are done. -/
import Derived.Test.YtcahaimefgkmiaaReI
namespace Go.Proofs.Ytcahaimefgkmiaa
open Go.RowKit Go.Shelf
set_option linter.unusedVariables false
attribute [local go_sem] Oper.semAt_some

def RdQ16 (l pre : List Cl) : Prop := ∀ g ∈ pre, g.op = 2 → RdOk l g
theorem rds_iff (l : List Cl) : Rds l ↔ RdQ16 l (dnL l) := by
  unfold Rds RdQ16 dnL
  constructor
  · intro h g hg h2
    obtain ⟨h3, h4⟩ := List.mem_filter.1 hg
    exact h g h3 h2 (by simpa using h4)
  · intro h g hg h2 h3
    exact h g (List.mem_filter.2 ⟨hg, by simpa using h3⟩) h2
set_option maxRecDepth 100000 in
set_option maxHeartbeats 4000000 in
theorem implReads_any (ao : Option Addr) (ls : List Cl) (ca : Nat) (w : World) (hls : ls.length ≤ 1048576) (hR : RdG clC 9 w ao ls) :
    Calls Try.prog 18 #[.slice ao ls.length ca] w fun e w' => e = .returned (.bool (bo (Rds ls))) ∧ Below w.heap.size w w' := by
  have HR := hide1 hR
  have CR := hide1 (fun g w' (h : Below w.heap.size w w') => readsRight_any g ao ls ca w' hls (hR.later h))
  clear hR
  refine (callsIn_wide (n := 7)).1 ?_
  refine callsIn_of_wp_marks Try.func18 rfl trivial ?_ rfl
  simp only [Try.ntmps18, List.size_toArray, List.length_cons, List.length_nil, Nat.reduceAdd, Nat.reduceSub, Array.replicate_succ, Array.replicate_zero, List.push_toArray, List.append_toArray, List.nil_append, List.cons_append]
  gi_wp2_with (refine ⟨trivial, ?_⟩; gi_at_call 28; refine (doneCalls_any _ _ _ _).mono ?_; rintro e w' ⟨rfl, rfl⟩)
  have bX := hide1 (Boxed.new w 32 (.slice ao ls.length ca))
  have bR := hide1 (Boxed.new (w.alloc (.cells #[.slice ao ls.length ca] 32)) 4 (.bool false))
  have bL := hide1 (Boxed.new ((w.alloc (.cells #[.slice ao ls.length ca] 32)).alloc (.cells #[.bool false] 4)) 32 (.slice ao ls.length ca))
  have bB := hide1 ((((Below.refl _ w).alloc (Nat.le_refl _) (.cells #[.slice ao ls.length ca] 32)).alloc (by simp) (.cells #[.bool false] 4)).alloc (by simp; omega) (.cells #[.slice ao ls.length ca] 32))
  have hsz : (((w.alloc (.cells #[.slice ao ls.length ca] 32)).alloc (.cells #[.bool false] 4)).alloc (.cells #[.slice ao ls.length ca] 32)).heap.size = w.heap.size + 3 := by simp
  have bX1 := hide1 (bX.out.alloc (.cells #[.bool false] 4))
  have bX2 := hide1 (bX1.out.alloc (.cells #[.slice ao ls.length ca] 32))
  have bR2 := hide1 (bR.out.alloc (.cells #[.slice ao ls.length ca] 32))
  simp only [World.size_alloc] at bR2 bL
  obtain ⟨W0, hW0⟩ : ∃ W0, (((w.alloc (.cells #[.slice ao ls.length ca] 32)).alloc (.cells #[.bool false] 4)).alloc (.cells #[.slice ao ls.length ca] 32)) = W0 := ⟨_, rfl⟩
  rw [hW0] at bL bB bX2 bR2 hsz ⊢
  clear hW0 bX bR bX1
  refine wpIn_rangeFunc_ownH rfl (by omega) (gf := 55) (lb := #[.pointer (some ⟨w.heap.size + 1 + 1, 0, none⟩)]) rfl trivial (enters_of Try.func55 (by kernel_rfl) rfl)
    (doneCalls_stops (w.heap.size + 1 + 1) W0.heap.size ao ls ca hls W0 (Nat.le_refl _) (by omega) bL.out.cell (HR.out.later bB.out) (fun b o e h => by obtain ⟨b2, o2, e2, h2, _⟩ := HR.out 0 h; rw [e] at e2; injection e2 with e2; injection e2 with e2 _; omega)) belowK_t (belowK_b (Nat.le_refl _)) (Below.refl _ _) (fun _ => rfl)
    (fun pre W => (RdQ16 ls pre ∧ Boxed W w.heap.size 32 (.slice ao ls.length ca) ∧ Boxed W (w.heap.size + 1) 4 (.bool false)) ∧ (Below w.heap.size w W ∧ W0.heap.size ≤ W.heap.size))
    (fun c pre W => (c = .ret ∧ ¬ RdQ16 ls pre ∧ Boxed W (w.heap.size + 1) 4 (.bool false)) ∧ Below w.heap.size w W)
    (OwnFrom.and (Own.from (fun s A B row hs hg hr => ⟨hs.1, (grownBy_keeps_cells hg hr hs.2.1 rfl).trans hs.2.1, (grownBy_keeps_cells hg hr hs.2.2 rfl).trans hs.2.2⟩) _) (OwnFrom.and (ownFrom_below (Nat.le_refl _) (by omega)) (fun s A B row hs hg hr => Nat.le_trans hs hg.size)))
    (fun c => OwnFrom.and (Own.from (fun s A B row hs hg hr => ⟨hs.1, hs.2.1, (grownBy_keeps_cells hg hr hs.2.2 rfl).trans hs.2.2⟩) _) (ownFrom_below (Nat.le_refl _) (by omega)))
    ⟨⟨fun p hp => by simp at hp, bX2.out, bR2.out⟩, bB.out, Nat.le_refl _⟩
    (fun x a' W => ∃ B1 : Nat, BlkA W B1 26 (clA x) ∧ a' = { tmps := #[.slice ao ls.length ca, .pointer (some ⟨w.heap.size, 0, none⟩), .pointer (some ⟨w.heap.size + 1, 0, none⟩), .pointer (some ⟨B1, 0, none⟩), .slice ao ls.length ca, .func (.func 55) #[] #[.pointer (some ⟨w.heap.size + 1 + 1, 0, none⟩)], .agg (clA x), undef, undef, undef, undef, undef, undef, undef, undef, undef], defers := [] })
    (fun x a' s A B row hs hg hr => by
      obtain ⟨B1, h1, e⟩ := hs
      exact ⟨B1, (grownBy_keeps_cells hg (fun r e => (hr r e).2) h1 rfl).trans h1, e⟩) ?assign ?body ?done ?stop
  case assign =>
    rintro l pre x W K hi hK
    have ONE1 := hide1 (oneCl x)
    gi_wp2_with (first | (refine wpListIn_store_row rfl 26 _ _ rfl W.heap.size (clA x) rfl rfl 26 _ (heap_alloc_last _ _) sizeCl rfl ONE1.out ?_; rw [World.setRow_alloc_new]))
    have bb := (Below.refl W.heap.size W).alloc (Nat.le_refl _) (.cells (clA x) 26)
    exact hK _ _ (keepsFrom_bel bb) (bb.mono hi.2.2) ⟨⟨hi.1.1, boxed_bel hi.1.2.1 bb, boxed_bel hi.1.2.2 bb⟩, hi.2.1.trans (bb.mono hi.2.1.size), Nat.le_trans hi.2.2 bb.size⟩ ⟨_, BlkA.new _ _ _, rfl⟩
  case body =>
    rintro l pre x a' W hl ⟨r, hr⟩ ⟨⟨hp, hX, hR1⟩, hB, hS⟩ ⟨B1, h1, rfl⟩ hlt
    have x0 : W.cell? ⟨B1, 0, none⟩ = some (.int .i64 x.op) := h1.cell 0 rfl
    have y0 := hX.cell
    have C1 := hide1 (fun w' h => CR.out x w' h)
    have HP := hide1 hp
    have HB := hide1 hB
    have HX := hide1 hX
    have HR1 := hide1 hR1
    have H1 := hide1 h1
    clear hp hB hX hR1 h1 CR bL bB bX2 bR2 HR
    by_cases hop : x.op = 2
    · have q1 : (x.op == 2) = true := by simp [hop]
      by_cases hH : RdOk ls x
      · rw [bo_t hH] at C1
        have QQ := hide1 (show RdQ16 ls (pre ++ [x]) from fun p hp => by
          rcases List.mem_append.1 hp with h | h
          · exact HP.out p h
          · rw [List.mem_singleton.1 h]; exact fun _ => hH)
        clear hop hH
        gi_wp2_with (first | (refine ⟨trivial, ?_⟩; gi_at_call 36; refine (CallsIn.inRound l (callsIn_wide.2 (C1.out _ HB.out))).mono ?_; rintro e w2 ⟨rfl, hb2⟩; have D2 := hide1 hb2; have r1 := (boxed_bel HR1.out D2.out).cell; have r2 := (boxed_bel HR1.out D2.out).frozen; clear hb2) | (refine wpListIn_load_A rfl 26 _ rfl B1 rfl 26 (clA x) _ H1.out Try.underlying26 rfl sizeCl ?_))
        exact ⟨keepsFrom_bel D2.out, D2.out.mono hS, ⟨QQ.out, boxed_bel HX.out D2.out, boxed_bel HR1.out D2.out⟩, HB.out.trans (D2.out.mono HB.out.size), Nat.le_trans hS D2.out.size⟩
      · rw [bo_f hH] at C1
        have QQ := hide1 (show ¬ RdQ16 ls (pre ++ [x]) from fun h => hH (h x (by simp) hop))
        clear hop hH
        gi_wp2_with (first | (refine ⟨trivial, ?_⟩; gi_at_call 36; refine (CallsIn.inRound l (callsIn_wide.2 (C1.out _ HB.out))).mono ?_; rintro e w2 ⟨rfl, hb2⟩; have D2 := hide1 hb2; have r1 := (boxed_bel HR1.out D2.out).cell; have r2 := (boxed_bel HR1.out D2.out).frozen; clear hb2) | (refine wpListIn_load_A rfl 26 _ rfl B1 rfl 26 (clA x) _ H1.out Try.underlying26 rfl sizeCl ?_))
        exact ⟨(keepsFrom_bel D2.out).trans ((KeepsOthers.setCell _ _ _).from _), ⟨rfl, QQ.out, boxed_set (boxed_bel HR1.out D2.out) _⟩, (HB.out.trans (D2.out.mono HB.out.size)).setCell (p := ⟨w.heap.size + 1, 0, none⟩) (by dsimp only; omega) _⟩
    · have q1 : (x.op == 2) = false := by simp [hop]
      have QQ := hide1 (show RdQ16 ls (pre ++ [x]) from fun p hp => by
        rcases List.mem_append.1 hp with h | h
        · exact HP.out p h
        · rw [List.mem_singleton.1 h]; exact fun h => absurd h hop)
      clear hop
      gi_wp2_with (refine wpListIn_load_A rfl 26 _ rfl B1 rfl 26 (clA x) _ H1.out Try.underlying26 rfl sizeCl ?_)
      refine ⟨trivial, ?_⟩
      gi_wp2
      exact ⟨KeepsFrom.refl _ _, Below.refl _ _, ⟨QQ.out, HX.out, HR1.out⟩, HB.out, hS⟩
  case done =>
    rintro D xs W hD rfl ⟨⟨hp, hX, hR1⟩, hB, hS⟩ hK
    have QA := hide1 ((rds_iff ls).2 hp)
    have r1 := hR1.cell
    have r2 := hR1.frozen
    have HR2 := hide1 (boxed_set hR1 (.bool true))
    clear hp hX bL bB bX2 bR2 CR HR
    gi_wp2
    have hK' := (KeepsOthers.setCell W ⟨w.heap.size + 1, 0, none⟩ (.bool true)).same D _ hK rfl
    refine ⟨by simp, .inl ⟨_, _, rfl, run_takeDeferred hK', ?_⟩⟩
    have hc5 := cell_kept HR2.out.cell (grownBy_putObj' _ D (.deferred none)) (fun r e => by cases e; exact ⟨_, hK', rfl⟩)
    refine ⟨.bool true, ?_, by rw [bo_t QA.out], (hB.setCell (p := ⟨w.heap.size + 1, 0, none⟩) (by dsimp only; omega) _).trans (belowK_b (w := w) (Nat.le_refl _) _ D _ _ (by omega) hK' rfl rfl)⟩
    simp [results, Try.f18, go_sem, hc5]
  case stop =>
    rintro D c pre W hD hpre ⟨⟨rfl, hp, hR1⟩, hB⟩ hK
    have QA := hide1 (show ¬ Rds ls from fun h => hp (fun g hg => (rds_iff ls).1 h g (hpre.subset hg)))
    clear hp hpre bL bB bX2 bR2 CR HR
    gi_wp2
    refine ⟨by simp, .inl ⟨_, _, rfl, run_takeDeferred hK, ?_⟩⟩
    have hc5 := cell_kept hR1.cell (grownBy_putObj' _ D (.deferred none)) (fun r e => by cases e; exact ⟨_, hK, rfl⟩)
    refine ⟨.bool false, ?_, by rw [bo_f QA.out], hB.trans (belowK_b (w := w) (Nat.le_refl _) _ D _ _ (by omega) hK rfl rfl)⟩
    simp [results, Try.f18, go_sem, hc5]
end Go.Proofs.Ytcahaimefgkmiaa
