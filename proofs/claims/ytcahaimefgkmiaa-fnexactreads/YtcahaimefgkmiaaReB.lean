/- May a get have its value by this put: the program. -/
import Derived.Test.YtcahaimefgkmiaaReP
import Derived.Test.YtcahaimefgkmiaaStJ
import Derived.Deep.RegionHeld3
import Derived.Deep.DeepCutAuto
namespace Go.Proofs.Ytcahaimefgkmiaa
open Go.RowKit
set_option linter.unusedVariables false

set_option maxRecDepth 100000 in
set_option maxHeartbeats 4000000 in
theorem mayRead_any (g p : Cl) (w : World) : Calls Try.prog 59 #[.agg (clA g), .agg (clA p)] w fun e w' => e = .returned (.bool (bo (PutOk g p))) ∧ Below w.heap.size w w' := by
  have F := hide1 (two_new w (clA g) (clA p))
  have CD := hide1 (fun w => isDone_any p w)
  go_enter Try.func59, Try.ntmps59
  go_upto_region 1 with fail
  generalize ((w.alloc (.cells (clA g) 26)).alloc (.cells (clA p) 26)) = u at F ⊢
  have x1 : u.cell? ⟨w.heap.size, 1, none⟩ = some (.string g.key) := F.out.1.cell 1 rfl
  have x8 : u.cell? ⟨w.heap.size, 8, none⟩ = some (.string g.gt) := F.out.1.cell 8 rfl
  have x5 : u.cell? ⟨w.heap.size, 5, none⟩ = some (.int .i64 g.vr) := F.out.1.cell 5 rfl
  have y0 : u.cell? ⟨w.heap.size + 1, 0, none⟩ = some (.int .i64 p.op) := F.out.2.1.cell 0 rfl
  have y1 : u.cell? ⟨w.heap.size + 1, 1, none⟩ = some (.string p.key) := F.out.2.1.cell 1 rfl
  have y2 : u.cell? ⟨w.heap.size + 1, 2, none⟩ = some (.string p.val) := F.out.2.1.cell 2 rfl
  have y4 : u.cell? ⟨w.heap.size + 1, 4, none⟩ = some (.int .i64 p.dn) := F.out.2.1.cell 4 rfl
  have y5 : u.cell? ⟨w.heap.size + 1, 5, none⟩ = some (.int .i64 p.vr) := F.out.2.1.cell 5 rfl
  by_cases h1 : p.op = 1
  · have q1 : (p.op == 1) = true := by simp [h1]
    have q1' : (p.op != 1) = false := by simp [h1]
    by_cases h2 : p.key = g.key
    · obtain ⟨t2, r2⟩ := txt_eq h2
      by_cases h3 : p.val = g.gt
      · obtain ⟨t3, r3⟩ := txt_eq h3
        by_cases h4 : p.dn < 0
        · rw [decide_eq_false (by omega)] at CD
          have RES := hide1 (bo_t (show PutOk g p from ⟨h1, h2, h3, .inl h4⟩))
          clear h1 h2 h3 h4
          go_wp2_with (first | (refine wpList_load_rowG rfl 26 _ rfl (w.heap.size + 1) rfl 26 (clA p) _ F.out.2.1 Try.underlying26 rfl sizeCl ?_) | (go_at_call 56; refine (CD.out _).mono ?_; rintro e w2 ⟨rfl, hb2⟩; have HB := hide1 (F.out.2.2.trans (hb2.mono F.out.2.2.size)); have z5 : w2.cell? ⟨w.heap.size + 1, 5, none⟩ = some (.int .i64 p.vr) := (F.out.2.1.below hb2 F.out.2.1.lt).cell 5 rfl; have v5 : w2.cell? ⟨w.heap.size, 5, none⟩ = some (.int .i64 g.vr) := (F.out.1.below hb2 F.out.1.lt).cell 5 rfl; clear hb2))
          go_ret
          exact ⟨by rw [RES.out]; rfl, HB.out⟩
        by_cases h5 : p.vr = g.vr
        · have q5 : (p.vr == g.vr) = true := by simp [h5]
          rw [decide_eq_true (by omega)] at CD
          have RES := hide1 (bo_t (show PutOk g p from ⟨h1, h2, h3, .inr h5⟩))
          clear h1 h2 h3 h5 h4
          go_wp2_with (first | (refine wpList_load_rowG rfl 26 _ rfl (w.heap.size + 1) rfl 26 (clA p) _ F.out.2.1 Try.underlying26 rfl sizeCl ?_) | (go_at_call 56; refine (CD.out _).mono ?_; rintro e w2 ⟨rfl, hb2⟩; have HB := hide1 (F.out.2.2.trans (hb2.mono F.out.2.2.size)); have z5 : w2.cell? ⟨w.heap.size + 1, 5, none⟩ = some (.int .i64 p.vr) := (F.out.2.1.below hb2 F.out.2.1.lt).cell 5 rfl; have v5 : w2.cell? ⟨w.heap.size, 5, none⟩ = some (.int .i64 g.vr) := (F.out.1.below hb2 F.out.1.lt).cell 5 rfl; clear hb2))
          go_ret
          exact ⟨by rw [RES.out]; rfl, HB.out⟩
        · have q5 : (p.vr == g.vr) = false := by simp [h5]
          rw [decide_eq_true (by omega)] at CD
          have RES := hide1 (bo_f (show ¬ PutOk g p from fun h => h.2.2.2.elim h4 h5))
          clear h1 h2 h3 h5 h4
          go_wp2_with (first | (refine wpList_load_rowG rfl 26 _ rfl (w.heap.size + 1) rfl 26 (clA p) _ F.out.2.1 Try.underlying26 rfl sizeCl ?_) | (go_at_call 56; refine (CD.out _).mono ?_; rintro e w2 ⟨rfl, hb2⟩; have HB := hide1 (F.out.2.2.trans (hb2.mono F.out.2.2.size)); have z5 : w2.cell? ⟨w.heap.size + 1, 5, none⟩ = some (.int .i64 p.vr) := (F.out.2.1.below hb2 F.out.2.1.lt).cell 5 rfl; have v5 : w2.cell? ⟨w.heap.size, 5, none⟩ = some (.int .i64 g.vr) := (F.out.1.below hb2 F.out.1.lt).cell 5 rfl; clear hb2))
          go_ret
          exact ⟨by rw [RES.out]; rfl, HB.out⟩
      · obtain ⟨t3, r3⟩ := txt_ne h3
        have RES := hide1 (bo_f (show ¬ PutOk g p from fun h => h3 h.2.2.1))
        clear h1 h2
        go_wp2_with (first | (refine wpList_load_rowG rfl 26 _ rfl (w.heap.size + 1) rfl 26 (clA p) _ F.out.2.1 Try.underlying26 rfl sizeCl ?_) | (go_at_call 56; refine (CD.out _).mono ?_; rintro e w2 ⟨rfl, hb2⟩; have HB := hide1 (F.out.2.2.trans (hb2.mono F.out.2.2.size)); have z5 : w2.cell? ⟨w.heap.size + 1, 5, none⟩ = some (.int .i64 p.vr) := (F.out.2.1.below hb2 F.out.2.1.lt).cell 5 rfl; have v5 : w2.cell? ⟨w.heap.size, 5, none⟩ = some (.int .i64 g.vr) := (F.out.1.below hb2 F.out.1.lt).cell 5 rfl; clear hb2))
        go_ret
        exact ⟨by rw [RES.out]; rfl, F.out.2.2⟩
    · obtain ⟨t2, r2⟩ := txt_ne h2
      have RES := hide1 (bo_f (show ¬ PutOk g p from fun h => h2 h.2.1))
      clear h1
      go_wp2_with (first | (refine wpList_load_rowG rfl 26 _ rfl (w.heap.size + 1) rfl 26 (clA p) _ F.out.2.1 Try.underlying26 rfl sizeCl ?_) | (go_at_call 56; refine (CD.out _).mono ?_; rintro e w2 ⟨rfl, hb2⟩; have HB := hide1 (F.out.2.2.trans (hb2.mono F.out.2.2.size)); have z5 : w2.cell? ⟨w.heap.size + 1, 5, none⟩ = some (.int .i64 p.vr) := (F.out.2.1.below hb2 F.out.2.1.lt).cell 5 rfl; have v5 : w2.cell? ⟨w.heap.size, 5, none⟩ = some (.int .i64 g.vr) := (F.out.1.below hb2 F.out.1.lt).cell 5 rfl; clear hb2))
      go_ret
      exact ⟨by rw [RES.out]; rfl, F.out.2.2⟩
  · have q1 : (p.op == 1) = false := by simp [h1]
    have q1' : (p.op != 1) = true := by simp [h1]
    have RES := hide1 (bo_f (show ¬ PutOk g p from fun h => h1 h.1))
    clear h1
    go_wp2_with (first | (refine wpList_load_rowG rfl 26 _ rfl (w.heap.size + 1) rfl 26 (clA p) _ F.out.2.1 Try.underlying26 rfl sizeCl ?_) | (go_at_call 56; refine (CD.out _).mono ?_; rintro e w2 ⟨rfl, hb2⟩; have HB := hide1 (F.out.2.2.trans (hb2.mono F.out.2.2.size)); have z5 : w2.cell? ⟨w.heap.size + 1, 5, none⟩ = some (.int .i64 p.vr) := (F.out.2.1.below hb2 F.out.2.1.lt).cell 5 rfl; have v5 : w2.cell? ⟨w.heap.size, 5, none⟩ = some (.int .i64 g.vr) := (F.out.1.below hb2 F.out.1.lt).cell 5 rfl; clear hb2))
    go_ret
    exact ⟨by rw [RES.out]; rfl, F.out.2.2⟩
end Go.Proofs.Ytcahaimefgkmiaa
