/- May a get have its value by this put: the model. -/
import Derived.Test.YtcahaimefgkmiaaReP
import Derived.Test.YtcahaimefgkmiaaStJ
import Derived.Deep.RegionHeld3
import Derived.Deep.DeepCutAuto
namespace Go.Proofs.Ytcahaimefgkmiaa
open Go.RowKit
set_option linter.unusedVariables false

set_option maxRecDepth 100000 in
set_option maxHeartbeats 4000000 in
theorem l16Put_any (g p : Cl) (w : World) : Calls Try.prog 35 #[.agg (clA g), .agg (clA p)] w fun e w' => e = .returned (.bool (bo (PutOk g p))) ∧ Below w.heap.size w w' := by
  have F := hide1 (two_new w (clA g) (clA p))
  go_enter Try.func35, Try.ntmps35
  go_upto_region 1 with fail
  generalize ((w.alloc (.cells (clA g) 26)).alloc (.cells (clA p) 26)) = u at F ⊢
  have x1 : u.cell? ⟨w.heap.size, 1, none⟩ = some (.string g.key) := F.out.1.cell 1 rfl
  have x8 : u.cell? ⟨w.heap.size, 8, none⟩ = some (.string g.gt) := F.out.1.cell 8 rfl
  have x5 : u.cell? ⟨w.heap.size, 5, none⟩ = some (.int .i64 g.vr) := F.out.1.cell 5 rfl
  have y0 : u.cell? ⟨w.heap.size + 1, 0, none⟩ = some (.int .i64 p.op) := F.out.2.1.cell 0 rfl
  have y1 : u.cell? ⟨w.heap.size + 1, 1, none⟩ = some (.string p.key) := F.out.2.1.cell 1 rfl
  have y2 : u.cell? ⟨w.heap.size + 1, 2, none⟩ = some (.string p.val) := F.out.2.1.cell 2 rfl
  have y4 : u.cell? ⟨w.heap.size + 1, 4, none⟩ = some (.int .i64 p.dn) := F.out.2.1.cell 4 rfl
  have y5 : u.cell? ⟨w.heap.size + 1, 5, none⟩ = some (.int .i64 p.vr) := F.out.2.1.cell 5 rfl
  by_cases h1 : p.op = 1
  · have q1 : (p.op == 1) = true := by simp [h1]
    have q1' : (p.op != 1) = false := by simp [h1]
    by_cases h2 : p.key = g.key
    · obtain ⟨t2, r2⟩ := txt_eq h2
      by_cases h3 : p.val = g.gt
      · obtain ⟨t3, r3⟩ := txt_eq h3
        by_cases h4 : p.dn < 0
        · have RES := hide1 (bo_t (show PutOk g p from ⟨h1, h2, h3, .inl h4⟩))
          clear h1 h2 h3
          go_wp2_with fail
          go_ret
          exact ⟨by rw [RES.out]; rfl, F.out.2.2⟩
        by_cases h5 : p.vr = g.vr
        · have q5 : (p.vr == g.vr) = true := by simp [h5]
          have RES := hide1 (bo_t (show PutOk g p from ⟨h1, h2, h3, .inr h5⟩))
          clear h1 h2 h3 h5
          go_wp2_with fail
          go_ret
          exact ⟨by rw [RES.out]; rfl, F.out.2.2⟩
        · have q5 : (p.vr == g.vr) = false := by simp [h5]
          have RES := hide1 (bo_f (show ¬ PutOk g p from fun h => h.2.2.2.elim h4 h5))
          clear h1 h2 h3 h5
          go_wp2_with fail
          go_ret
          exact ⟨by rw [RES.out]; rfl, F.out.2.2⟩
      · obtain ⟨t3, r3⟩ := txt_ne h3
        have RES := hide1 (bo_f (show ¬ PutOk g p from fun h => h3 h.2.2.1))
        clear h1 h2
        go_wp2_with fail
        go_ret
        exact ⟨by rw [RES.out]; rfl, F.out.2.2⟩
    · obtain ⟨t2, r2⟩ := txt_ne h2
      have RES := hide1 (bo_f (show ¬ PutOk g p from fun h => h2 h.2.1))
      clear h1
      go_wp2_with fail
      go_ret
      exact ⟨by rw [RES.out]; rfl, F.out.2.2⟩
  · have q1 : (p.op == 1) = false := by simp [h1]
    have q1' : (p.op != 1) = true := by simp [h1]
    have RES := hide1 (bo_f (show ¬ PutOk g p from fun h => h1 h.1))
    clear h1
    go_wp2_with fail
    go_ret
    exact ⟨by rw [RES.out]; rfl, F.out.2.2⟩
end Go.Proofs.Ytcahaimefgkmiaa
