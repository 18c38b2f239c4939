/- Who must have the same: the program's mustMatch, sameItems, Alike. -/
import Derived.Test.YtcahaimefgkmiaaGhV
import Derived.Test.YtcahaimefgkmiaaAlE
import Derived.Test.YtcahaimefgkmiaaCtV
import Derived.Test.YtcahaimefgkmiaaGmI
import Derived.Test.YtcahaimefgkmiaaGqL
namespace Go.Proofs.Ytcahaimefgkmiaa
open Go.RowKit
set_option linter.unusedVariables false

set_option maxRecDepth 100000 in
theorem sameItems_any (x y : Mr) (w : World) (hz : ZMr x) (hx : RMr w x) (hy : RMr w y) : Calls Try.prog 53 #[.agg (mrA x), .agg (mrA y)] w fun e w' => e = .returned (.bool (bo (x.m.is = y.m.is))) ∧ Below w.heap.size w w' := by
  have F := hide1 (two_newT w 69 (mrA x) (mrA y))
  have C := hide1 (fun w' (h : Below w.heap.size w w') => equalIm_any x.a.ia y.a.ia x.m.is y.m.is x.a.ic y.a.ic w' hz.il (hx.ir.later h) (hy.ir.later h))
  clear hx hy hz
  go_enter Try.func53, Try.ntmps53
  go_upto_region 1 with fail
  generalize ((w.alloc (.cells (mrA x) 69)).alloc (.cells (mrA y) 69)) = u at F ⊢
  have x7 : u.cell? ⟨w.heap.size, 7, none⟩ = some (.slice x.a.ia x.m.is.length x.a.ic) := F.out.1.cell 7 rfl
  have y7 : u.cell? ⟨w.heap.size + 1, 7, none⟩ = some (.slice y.a.ia y.m.is.length y.a.ic) := F.out.2.1.cell 7 rfl
  go_wp2_with (go_at_call 73; refine (C.out _ F.out.2.2).mono ?_; rintro e w2 ⟨rfl, hb⟩; have HB := hide1 hb; clear hb)
  go_ret
  exact ⟨rfl, F.out.2.2.trans (HB.out.mono F.out.2.2.size)⟩
set_option maxRecDepth 100000 in
set_option maxHeartbeats 4000000 in
theorem mustMatch_any (g : Gv) (x y : Mr) (X : Nat) (w : World) (hl : g.M.length ≤ 1048576) (hs : ∀ v ∈ g.M, v.l.length ≤ 1048576) (hX : BlkA w X 46 (grA g)) (hv : RdVs w g.va g.M) :
    Calls Try.prog 52 #[.pointer (some ⟨X, 0, none⟩), .agg (mrA x), .agg (mrA y)] w fun e w' => e = .returned (.bool (bo (MusG g.vs x.m y.m))) ∧ Below w.heap.size w w' := by
  have F := hide1 (two_newT w 69 (mrA x) (mrA y))
  have KX := hide1 (hX.below F.out.2.2 hX.lt)
  have HV := hide1 (hv.later F.out.2.2)
  clear hX hv
  go_enter Try.func52, Try.ntmps52
  go_upto_region 1 with fail
  generalize ((w.alloc (.cells (mrA x) 69)).alloc (.cells (mrA y) 69)) = u at F KX HV ⊢
  have x5 : u.cell? ⟨w.heap.size, 5, none⟩ = some (.bool x.m.se) := F.out.1.cell 5 rfl
  have x9 : u.cell? ⟨w.heap.size, 9, none⟩ = some (.int .i64 x.m.tk.op) := F.out.1.cell 9 rfl
  have x1 : u.cell? ⟨w.heap.size, 1, none⟩ = some (.int .i64 x.m.ep) := F.out.1.cell 1 rfl
  have y3 : u.cell? ⟨w.heap.size + 1, 3, none⟩ = some (.bool y.m.ba) := F.out.2.1.cell 3 rfl
  have y1 : u.cell? ⟨w.heap.size + 1, 1, none⟩ = some (.int .i64 y.m.ep) := F.out.2.1.cell 1 rfl
  cases hse : x.m.se
  · rw [hse] at x5
    have RES := hide1 (bo_f (show ¬ MusG g.vs x.m y.m from fun h => by have := h.1; rw [hse] at this; cases this))
    clear hse
    go_wp2
    go_ret
    exact ⟨by rw [RES.out]; rfl, F.out.2.2⟩
  rw [hse] at x5
  by_cases h2 : x.m.tk.op = 0
  case neg =>
    have q2 : (x.m.tk.op != 0) = true := by simp [h2]
    have RES := hide1 (bo_f (show ¬ MusG g.vs x.m y.m from fun h => h2 h.2.1))
    clear hse h2
    go_wp2
    go_ret
    exact ⟨by rw [RES.out]; rfl, F.out.2.2⟩
  have q2 : (x.m.tk.op != 0) = false := by simp [h2]
  cases hba : y.m.ba
  · rw [hba] at y3
    have RES := hide1 (bo_f (show ¬ MusG g.vs x.m y.m from fun h => by have := h.2.2.1; rw [hba] at this; cases this))
    clear hse h2 hba
    go_wp2
    go_ret
    exact ⟨by rw [RES.out]; rfl, F.out.2.2⟩
  rw [hba] at y3
  by_cases h4 : y.m.ep = x.m.ep
  case neg =>
    have q4 : (y.m.ep != x.m.ep) = true := by simp [h4]
    have RES := hide1 (bo_f (show ¬ MusG g.vs x.m y.m from fun h => h4 h.2.2.2.1))
    clear hse h2 hba h4
    go_wp2
    go_ret
    exact ⟨by rw [RES.out]; rfl, F.out.2.2⟩
  have q4 : (y.m.ep != x.m.ep) = false := by simp [h4]
  have RES := hide1 (show bo (MusG g.vs x.m y.m) = decide (y.m.id ∈ (vwS g x.m.ep).l) from by
    rw [vwS_l]
    by_cases h5 : y.m.id ∈ vwO g.vs x.m.ep
    · rw [bo_t (show MusG g.vs x.m y.m from ⟨hse, h2, hba, h4, h5⟩), decide_eq_true h5]
    · rw [bo_f (show ¬ MusG g.vs x.m y.m from fun h => h5 h.2.2.2.2), decide_eq_false h5])
  clear hse h2 hba h4
  have CV := hide1 (fun w' (h : Below u.heap.size u w') => viewIn_fix g x X w' hl (KX.out.below h KX.out.lt) (HV.out.later h))
  have CC := hide1 (fun w' (h : Below u.heap.size u w') => containsV_any (vwS g x.m.ep).a (vwS g x.m.ep).c (vwS g x.m.ep).l y.m.id w' (by
    by_cases h2 : 1 ≤ x.m.ep ∧ x.m.ep ≤ g.M.length
    · obtain ⟨k, hk⟩ : ∃ k : Nat, x.m.ep = (k : Int) + 1 := ⟨(x.m.ep - 1).toNat, by omega⟩
      have hl2 : k < g.M.length := by omega
      rw [hk, vwS_in hl2]
      exact hs _ (List.getElem_mem hl2)
    · rw [vwS_out h2]
      exact Nat.zero_le _) (vwS_rd _ (HV.out.later h)))
  have z0 : ∀ n : Gr u, n.w.cell? ⟨w.heap.size + 1, 0, none⟩ = some (.int .i64 y.m.id) := fun n => n.cell (F.out.2.1.cell 0 rfl)
  go_upto_region 3 with fail
  refine wp_region_grown (by kernel_rfl) (by kernel_rfl) ?_
  (repeat (first | go_big_quiet_skip | (go_big_quiet_want; first | (refine quiet_loadA 69 _ rfl w.heap.size 0 rfl (mrA x) (gr_load F.out.1 Try.underlying69 rfl sizeMb) ?_; go_simp; go_big_quiet_on) | (go_big_quiet_op; first | go_big_quiet_on | go_big_quiet_call ((first | (go_at_call 67; exact quiet_grown (CV.out _ (Gr.b _))) | (go_at_call 72; exact quiet_grownS (CC.out _ (Gr.b _)))))))))
  refine wpQuiet_nil ?_
  rintro w1 ⟨m1, rfl⟩
  go_wp2
  go_ret
  exact ⟨by rw [RES.out]; rfl, F.out.2.2.trans (m1.b.mono F.out.2.2.size)⟩
end Go.Proofs.Ytcahaimefgkmiaa
