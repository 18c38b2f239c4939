/- The program's reader of messages: what it wants holds, or it panics. -/
import Derived.Test.YtbkhhkknhbddeaaDoorMsT
import Derived.Test.YtbkhhkknhbddeaaDoorMoI
import Derived.Deep.RegionHeld3
import Derived.RegionDies
import Derived.Defers
import Derived.Recover
namespace Go.Proofs.YtbkhhkknhbddeaaDoor
open Go.RowKit
set_option linter.unusedVariables false

theorem want_yes (p : Value) (w : World) : Calls Tryd.prog 77 #[p, .bool true] w fun e w' => e = .returned (.tuple #[]) ∧ w' = w := by
  go_enter Tryd.func77, Tryd.ntmps77
  go_wp2
  go_end0
  exact ⟨rfl, rfl⟩
theorem want_no (p : Value) (w : World) : Calls Tryd.prog 77 #[p, .bool false] w fun e w' => e = .panicked [{ v := .iface 107 (.agg #[]), recovered := false }] ∧ w' = w := by
  go_enter Tryd.func77, Tryd.ntmps77
  go_wp2
  exact ⟨rfl, rfl, rfl⟩

def stopC : List PanicEntry := [{ v := .iface 107 (.agg #[]), recovered := false }]
/-- A reader in memory: its text, its place. -/
def Rdr (w : World) (R : Nat) (s : ByteArray) (p : Nat) : Prop := Blk w R 80 [.string s, .int .i64 (p : Int)]
theorem Rdr.set {w : World} {R : Nat} {s : ByteArray} {p : Nat} (h : Rdr w R s p) (q : Nat) : Rdr (w.setCell ⟨R, 1, none⟩ (.int .i64 (q : Int))) R s q := Blk.set h 1 _

set_option maxRecDepth 100000 in
set_option maxHeartbeats 1000000 in
theorem oneByte_yes (R : Nat) (s : ByteArray) (p : Nat) (w : World) (hs : s.size ≤ 1048576) (hB : Rdr w R s p) (hp : p < s.size) :
    Calls Tryd.prog 74 #[.pointer (some ⟨R, 0, none⟩)] w fun e w' => e = .returned (.int .i64 (byt s p : Int)) ∧ Rdr w' R s (p + 1) ∧ w.grownBy w' (some R) := by
  have HB := hide1 hB
  have g0 : ∀ n : Gr w, n.w.cell? ⟨R, 0, none⟩ = some (.string s) := fun n => n.cell (hB.cell 0)
  have g1 : ∀ n : Gr w, n.w.cell? ⟨R, 1, none⟩ = some (.int .i64 (p : Int)) := fun n => n.cell (hB.cell 1)
  have k1 : (p : Int) < (s.size : Int) := by omega
  have k2 : decide ((p : Int) < (s.size : Int)) = true := decide_eq_true k1
  clear hB
  go_enter Tryd.func74, Tryd.ntmps74
  go_upto_region 1 with fail
  refine wp_region_grown (by kernel_rfl) (by kernel_rfl) ?_
  (repeat (first | go_big_quiet_skip | (go_big_quiet_want; go_big_quiet_op; first | go_big_quiet_on | go_big_quiet_call ((go_at_call 77; exact quiet_grownS (want_yes _ _))))))
  refine wpQuiet_nil ?_
  rintro w1 ⟨n1, rfl⟩
  have B1 := hide1 n1.b
  have K1 := hide1 (show Rdr n1.w R s p from HB.out.below n1.b HB.out.lt)
  clear g0 g1
  generalize n1.w = w1 at B1 K1 ⊢
  have y1 : w1.cell? ⟨R, 1, none⟩ = some (.int .i64 (p : Int)) := K1.out.cell 1
  have f1 : w1.frozen? ⟨R, 1, none⟩ = false := K1.out.froz 1
  have K2 := hide1 (show Rdr (w1.setCell ⟨R, 1, none⟩ (.int .i64 ((p : Int) + 1))) R s (p + 1) from K1.out.set (p + 1))
  have G2 := hide1 (show w.grownBy (w1.setCell ⟨R, 1, none⟩ (.int .i64 ((p : Int) + 1))) (some R) from gset (gnew B1.out) 1 _)
  go_upto_region 3 with fail
  generalize (w1.setCell ⟨R, 1, none⟩ (.int .i64 ((p : Int) + 1))) = w2 at K2 G2 ⊢
  clear y1 f1
  have y0 : w2.cell? ⟨R, 0, none⟩ = some (.string s) := K2.out.cell 0
  have y1 : w2.cell? ⟨R, 1, none⟩ = some (.int .i64 ((p : Int) + 1)) := K2.out.cell 1
  have hb := get_byt s
  have hle := byt_le s p
  have kw : IntKind.i64.wrap ((p : Int) + 1 - 1) = (p : Int) := by rw [Int.add_sub_cancel]; exact IntWalk.i64_in _ ⟨by omega, by omega⟩
  have k0 : (0 : Int) ≤ (p : Int) := by omega
  go_quiet (fail)
  go_wp2
  go_ret
  exact ⟨rfl, K2.out.below (below_drewN (Below.refl _ _) _) K2.out.lt, G2.out.trans (gnew (below_drewN (Below.refl _ _) _))⟩

set_option maxRecDepth 100000 in
set_option maxHeartbeats 1000000 in
theorem oneByte_no (R : Nat) (s : ByteArray) (p : Nat) (w : World) (hs : s.size ≤ 1048576) (hp0 : p ≤ 1048576) (hB : Rdr w R s p) (hp : ¬ p < s.size) :
    Calls Tryd.prog 74 #[.pointer (some ⟨R, 0, none⟩)] w fun e w' => e = .panicked stopC ∧ w.grownBy w' (some R) := by
  have HB := hide1 hB
  have y0 : w.cell? ⟨R, 0, none⟩ = some (.string s) := hB.cell 0
  have y1 : w.cell? ⟨R, 1, none⟩ = some (.int .i64 (p : Int)) := hB.cell 1
  have k1 : ¬ ((p : Int) < (s.size : Int)) := by omega
  have k2 : decide ((p : Int) < (s.size : Int)) = false := decide_eq_false k1
  have G0 := hide1 (show w.grownBy w.drew (some R) from gnew (Below.refl _ _).drew)
  clear hB
  go_enter Tryd.func74, Tryd.ntmps74
  go_upto_region 1 with fail
  go_region_dies
  all_goals
    refine (want_no _ _).mono ?_
    rintro e w1 ⟨rfl, rfl⟩
    exact ⟨rfl, rfl, G0.out⟩
end Go.Proofs.YtbkhhkknhbddeaaDoor
