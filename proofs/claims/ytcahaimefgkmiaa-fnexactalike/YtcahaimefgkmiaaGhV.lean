/- The view of a member, told by where it lies: the program's. -/
import Derived.Test.YtcahaimefgkmiaaGqP
import Derived.Test.YtcahaimefgkmiaaGqL
import Derived.Test.YtcahaimefgkmiaaGrX
import Derived.IntWalk
import Derived.Deep.RegionHeld3
import Derived.Deep.DeepCutAuto
namespace Go.Proofs.Ytcahaimefgkmiaa
open Go.RowKit
set_option linter.unusedVariables false

def vwS (g : Gv) (e : Int) : Vw := if 1 ≤ e then g.M.getD (e - 1).toNat ⟨none, 0, []⟩ else ⟨none, 0, []⟩
theorem vwS_in {g : Gv} {e : Nat} (h : e < g.M.length) : vwS g ((e : Int) + 1) = g.M[e] := by
  unfold vwS
  rw [if_pos (by omega)]
  have : ((e : Int) + 1 - 1).toNat = e := by omega
  rw [this]
  simp [h]
theorem vwS_out {g : Gv} {e : Int} (h : ¬ (1 ≤ e ∧ e ≤ g.M.length)) : vwS g e = ⟨none, 0, []⟩ := by
  unfold vwS
  by_cases h1 : 1 ≤ e
  · rw [if_pos h1, List.getD_eq_getElem?_getD, List.getElem?_eq_none (by omega)]
    rfl
  · rw [if_neg h1]
theorem vwS_l (g : Gv) (e : Int) : (vwS g e).l = vwO g.vs e := by
  by_cases h : 1 ≤ e ∧ e ≤ g.M.length
  · obtain ⟨k, hk⟩ : ∃ k : Nat, e = (k : Int) + 1 := ⟨(e - 1).toNat, by omega⟩
    have hl : k < g.M.length := by omega
    rw [hk, vwS_in hl]
    exact (vwO_in hl).symm
  · rw [vwS_out h]
    exact (vwO_out h).symm
theorem vwS_rd {g : Gv} {w : World} (e : Int) (h : RdVs w g.va g.M) : RdZ w (vwS g e).a (vwS g e).l := by
  by_cases h2 : 1 ≤ e ∧ e ≤ g.M.length
  · obtain ⟨k, hk⟩ : ∃ k : Nat, e = (k : Int) + 1 := ⟨(e - 1).toNat, by omega⟩
    have hl : k < g.M.length := by omega
    rw [hk, vwS_in hl]
    exact h.v _ (List.getElem_mem hl)
  · rw [vwS_out h2]
    exact fun i hi => by simp at hi
set_option maxRecDepth 100000 in
set_option maxHeartbeats 4000000 in
theorem viewIn_fix (g : Gv) (x : Mr) (X : Nat) (w : World) (hl : g.M.length ≤ 1048576) (hX : BlkA w X 46 (grA g)) (hv : RdVs w g.va g.M) :
    Calls Try.prog 67 #[.pointer (some ⟨X, 0, none⟩), .agg (mrA x)] w fun e w' => e = .returned (.slice (vwS g x.m.ep).a (vwS g x.m.ep).l.length (vwS g x.m.ep).c) ∧ Below w.heap.size w w' := by
  have F := hide1 (And.intro (BlkA.new w 69 (mrA x)) ((Below.refl w.heap.size w).alloc (Nat.le_refl _) (.cells (mrA x) 69)))
  have KX := hide1 (hX.below F.out.2 hX.lt)
  have HV := hide1 (hv.later F.out.2)
  clear hX hv
  go_enter Try.func67, Try.ntmps67
  go_upto_region 1 with fail
  generalize (w.alloc (.cells (mrA x) 69)) = u at F KX HV ⊢
  have x0 : ∀ n : Gr u, n.w.cell? ⟨X, 0, none⟩ = some (.slice g.va g.M.length g.vc) := fun n => n.cell (KX.out.cell 0 rfl)
  by_cases d1 : x.m.ep < 1
  · have y1 : ∀ n : Gr u, n.w.cell? ⟨w.heap.size, 1, none⟩ = some (.int .i64 x.m.ep) := fun n => n.cell (F.out.1.cell 1 rfl)
    have RES := hide1 (show vwS g x.m.ep = ⟨none, 0, []⟩ from vwS_out (by omega))
    refine wp_region_grown (by kernel_rfl) (by kernel_rfl) ?_
    (repeat (first | go_big_quiet_skip | (go_big_quiet_want; go_big_quiet_op; go_big_quiet_on)))
    refine wpQuiet_nil ?_
    rintro w1 ⟨m1, rfl⟩
    go_wp2
    go_ret
    exact ⟨by rw [RES.out]; rfl, F.out.2.trans (m1.b.mono F.out.2.size)⟩
  by_cases d2 : x.m.ep > (g.M.length : Int)
  · have y1 : ∀ n : Gr u, n.w.cell? ⟨w.heap.size, 1, none⟩ = some (.int .i64 x.m.ep) := fun n => n.cell (F.out.1.cell 1 rfl)
    have RES := hide1 (show vwS g x.m.ep = ⟨none, 0, []⟩ from vwS_out (by omega))
    refine wp_region_grown (by kernel_rfl) (by kernel_rfl) ?_
    (repeat (first | go_big_quiet_skip | (go_big_quiet_want; go_big_quiet_op; go_big_quiet_on)))
    refine wpQuiet_nil ?_
    rintro w1 ⟨m1, rfl⟩
    go_wp2
    go_ret
    exact ⟨by rw [RES.out]; rfl, F.out.2.trans (m1.b.mono F.out.2.size)⟩
  obtain ⟨e, he⟩ : ∃ e : Nat, x.m.ep = (e : Int) + 1 := ⟨(x.m.ep - 1).toNat, by omega⟩
  have hlt : e < g.M.length := by omega
  have y1 : ∀ n : Gr u, n.w.cell? ⟨w.heap.size, 1, none⟩ = some (.int .i64 ((e : Int) + 1)) := fun n => n.cell (by rw [← he]; exact F.out.1.cell 1 rfl)
  have RES := hide1 (show vwS g x.m.ep = g.M[e] from by rw [he]; exact vwS_in hlt)
  have k1 : ¬ ((e : Int) + 1 < 1) := by omega
  have k2 : ¬ ((e : Int) + 1 > (g.M.length : Int)) := by omega
  have k3 : (e : Int) < (g.M.length : Int) := by omega
  have k4 : wrap64 ((e : Int) + 1 - 1) = (e : Int) := by rw [show (e : Int) + 1 - 1 = (e : Int) by omega]; exact IntWalk.wrap64_in _ (by omega)
  clear d1 d2
  refine wp_region_grown (by kernel_rfl) (by kernel_rfl) ?_
  (repeat (first | go_big_quiet_skip | (go_big_quiet_want; go_big_quiet_op; go_big_quiet_on)))
  refine wpQuiet_nil ?_
  rintro w1 ⟨m1, rfl⟩
  have B1 := hide1 (F.out.2.trans (m1.b.mono F.out.2.size))
  have KX1 := hide1 (KX.out.below m1.b KX.out.lt)
  have HV1 := hide1 (HV.out.later m1.b)
  have FY1 := hide1 (F.out.1.below m1.b F.out.1.lt)
  clear x0 y1 KX HV F k1 k2
  generalize m1.w = u1 at B1 KX1 HV1 FY1 ⊢
  obtain ⟨b, o, ea, hb, hc⟩ := HV1.out.r e hlt
  have hc0 : u1.cell? ⟨b, o + e, none⟩ = some (.slice g.M[e].a g.M[e].l.length g.M[e].c) := by have h := hc 0 (by omega); rw [show o + e * 1 + 0 = o + e by omega] at h; exact h
  have z0 : ∀ n : Gr u1, n.w.cell? ⟨b, o + e, none⟩ = some (.slice g.M[e].a g.M[e].l.length g.M[e].c) := fun n => n.cell hc0
  have x0 : ∀ n : Gr u1, n.w.cell? ⟨X, 0, none⟩ = some (.slice (some ⟨b, o, none⟩) g.M.length g.vc) := fun n => by rw [← ea]; exact n.cell (KX1.out.cell 0 rfl)
  have y1 : ∀ n : Gr u1, n.w.cell? ⟨w.heap.size, 1, none⟩ = some (.int .i64 ((e : Int) + 1)) := fun n => n.cell (by rw [← he]; exact FY1.out.cell 1 rfl)
  clear hc hc0
  go_wp2_with fail
  refine wp_region_grown (by kernel_rfl) (by kernel_rfl) ?_
  (repeat (first | go_big_quiet_skip | (go_big_quiet_want; go_big_quiet_op; go_big_quiet_on)))
  refine wpQuiet_nil ?_
  rintro w2 ⟨m2, rfl⟩
  go_wp2
  go_ret
  exact ⟨by rw [RES.out]; rfl, B1.out.trans (m2.b.mono B1.out.size)⟩
end Go.Proofs.Ytcahaimefgkmiaa
