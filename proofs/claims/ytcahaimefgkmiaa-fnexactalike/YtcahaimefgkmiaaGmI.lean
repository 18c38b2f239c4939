/- What is asked of two members: the program's. -/
import Derived.Test.YtcahaimefgkmiaaRsM
import Derived.Deep.RegionHeld3
import Derived.Deep.DeepCutAuto
namespace Go.Proofs.Ytcahaimefgkmiaa
open Go.RowKit
set_option linter.unusedVariables false

set_option maxRecDepth 100000 in
theorem serveAtOnce_any (x y : Mr) (w : World) : Calls Try.prog 44 #[.agg (mrA x), .agg (mrA y)] w fun e w' => e = .returned (.bool (x.m.se && y.m.se && (x.m.ep == y.m.ep))) ∧ Below w.heap.size w w' := by
  have F := hide1 (two_newT w 69 (mrA x) (mrA y))
  go_enter Try.func44, Try.ntmps44
  go_upto_region 1 with fail
  generalize ((w.alloc (.cells (mrA x) 69)).alloc (.cells (mrA y) 69)) = u at F ⊢
  have x5 : u.cell? ⟨w.heap.size, 5, none⟩ = some (.bool x.m.se) := F.out.1.cell 5 rfl
  have x1 : u.cell? ⟨w.heap.size, 1, none⟩ = some (.int .i64 x.m.ep) := F.out.1.cell 1 rfl
  have y5 : u.cell? ⟨w.heap.size + 1, 5, none⟩ = some (.bool y.m.se) := F.out.2.1.cell 5 rfl
  have y1 : u.cell? ⟨w.heap.size + 1, 1, none⟩ = some (.int .i64 y.m.ep) := F.out.2.1.cell 1 rfl
  cases hx : x.m.se
  · rw [hx] at x5
    go_wp2
    go_ret
    exact ⟨by simp [hx], F.out.2.2⟩
  · rw [hx] at x5
    cases hy : y.m.se
    · rw [hy] at y5
      go_wp2
      go_ret
      exact ⟨by simp [hx, hy], F.out.2.2⟩
    · rw [hy] at y5
      go_wp2
      go_ret
      exact ⟨by simp [hx, hy], F.out.2.2⟩
theorem neverM_any (x y : Mr) (w : World) : Calls Try.prog 45 #[.agg (mrA x), .agg (mrA y)] w fun e w' => e = .returned (.bool false) ∧ Below w.heap.size w w' := by
  go_enter Try.func45, Try.ntmps45
  go_wp2
  go_ret
  exact ⟨rfl, by go_grown⟩
end Go.Proofs.Ytcahaimefgkmiaa
