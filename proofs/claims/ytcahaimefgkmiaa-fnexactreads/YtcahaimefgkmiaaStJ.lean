/- What is asked of two calls: the program's. -/
import Derived.Test.YtcahaimefgkmiaaStI
import Derived.Test.YtcahaimefgkmiaaGrR
import Derived.Deep.RegionHeld3
import Derived.Deep.DeepCutAuto
namespace Go.Proofs.Ytcahaimefgkmiaa
open Go.RowKit
set_option linter.unusedVariables false

set_option maxRecDepth 100000 in
theorem isDone_any (x : Cl) (w : World) : Calls Try.prog 56 #[.agg (clA x)] w fun e w' => e = .returned (.bool (decide (0 ≤ x.dn))) ∧ Below w.heap.size w w' := by
  obtain ⟨op, key, val, wh, dn, vr, ep, nu, gt⟩ := x
  unfold clA
  by_cases h : 0 ≤ dn
  all_goals
    go_enter Try.func56, Try.ntmps56
    go_wp2
    go_ret
    exact ⟨by simp [h], by go_grown⟩
set_option maxRecDepth 100000 in
theorem doneAhead_any (x y : Cl) (w : World) : Calls Try.prog 29 #[.agg (clA x), .agg (clA y)] w fun e w' => e = .returned (.bool (decide (x.dn < y.wh))) ∧ Below w.heap.size w w' := by
  obtain ⟨op, key, val, wh, dn, vr, ep, nu, gt⟩ := x
  obtain ⟨op2, key2, val2, wh2, dn2, vr2, ep2, nu2, gt2⟩ := y
  unfold clA
  by_cases h : dn < wh2
  all_goals
    go_enter Try.func29, Try.ntmps29
    go_wp2
    go_ret
    exact ⟨by simp [h], by go_grown⟩
theorem never_any (x y : Cl) (w : World) : Calls Try.prog 32 #[.agg (clA x), .agg (clA y)] w fun e w' => e = .returned (.bool false) ∧ Below w.heap.size w w' := by
  go_enter Try.func32, Try.ntmps32
  go_wp2
  go_ret
  exact ⟨rfl, by go_grown⟩
theorem two_new (w : World) (cx cy : Array Value) : BlkA ((w.alloc (.cells cx 26)).alloc (.cells cy 26)) w.heap.size 26 cx ∧ BlkA ((w.alloc (.cells cx 26)).alloc (.cells cy 26)) (w.heap.size + 1) 26 cy ∧ Below w.heap.size w ((w.alloc (.cells cx 26)).alloc (.cells cy 26)) := two_newT w _ cx cy
set_option maxRecDepth 100000 in
theorem stampedBelow_any (x y : Cl) (w : World) : Calls Try.prog 30 #[.agg (clA x), .agg (clA y)] w fun e w' => e = .returned (.bool (decide (stp x < stp y))) ∧ Below w.heap.size w w' := by
  have F := hide1 (two_new w (clA x) (clA y))
  have CS := hide1 (fun c w => implStamp_any c w)
  go_enter Try.func30, Try.ntmps30
  go_upto_region 1 with fail
  generalize ((w.alloc (.cells (clA x) 26)).alloc (.cells (clA y) 26)) = u at F ⊢
  refine wp_region_grown (by kernel_rfl) (by kernel_rfl) ?_
  (repeat (first | go_big_quiet_skip | (go_big_quiet_want; first | (refine quiet_loadA 26 _ rfl w.heap.size 0 rfl (clA x) (gr_load F.out.1 Try.underlying26 rfl sizeCl) ?_; go_simp; go_big_quiet_on) | (refine quiet_loadA 26 _ rfl (w.heap.size + 1) 0 rfl (clA y) (gr_load F.out.2.1 Try.underlying26 rfl sizeCl) ?_; go_simp; go_big_quiet_on) | (go_big_quiet_op; first | go_big_quiet_on | go_big_quiet_call ((go_at_call 11; exact quiet_grown (CS.out _ _)))))))
  refine wpQuiet_nil ?_
  rintro w1 ⟨n1, rfl⟩
  go_wp2
  go_ret
  exact ⟨rfl, F.out.2.2.trans (n1.b.mono F.out.2.2.size)⟩
set_option maxRecDepth 100000 in
theorem stampedAlike_any (x y : Cl) (w : World) : Calls Try.prog 31 #[.agg (clA x), .agg (clA y)] w fun e w' => e = .returned (.bool (stp x == stp y)) ∧ Below w.heap.size w w' := by
  have F := hide1 (two_new w (clA x) (clA y))
  have CS := hide1 (fun c w => implStamp_any c w)
  go_enter Try.func31, Try.ntmps31
  go_upto_region 1 with fail
  generalize ((w.alloc (.cells (clA x) 26)).alloc (.cells (clA y) 26)) = u at F ⊢
  refine wp_region_grown (by kernel_rfl) (by kernel_rfl) ?_
  (repeat (first | go_big_quiet_skip | (go_big_quiet_want; first | (refine quiet_loadA 26 _ rfl w.heap.size 0 rfl (clA x) (gr_load F.out.1 Try.underlying26 rfl sizeCl) ?_; go_simp; go_big_quiet_on) | (refine quiet_loadA 26 _ rfl (w.heap.size + 1) 0 rfl (clA y) (gr_load F.out.2.1 Try.underlying26 rfl sizeCl) ?_; go_simp; go_big_quiet_on) | (go_big_quiet_op; first | go_big_quiet_on | go_big_quiet_call ((go_at_call 11; exact quiet_grown (CS.out _ _)))))))
  refine wpQuiet_nil ?_
  rintro w1 ⟨n1, rfl⟩
  go_wp2
  go_ret
  exact ⟨rfl, F.out.2.2.trans (n1.b.mono F.out.2.2.size)⟩
end Go.Proofs.Ytcahaimefgkmiaa
