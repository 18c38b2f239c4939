/- Seen, by the model, at a door that is not right. -/
import Derived.Test.YtocoligcbgcanaaDoorDrC
namespace Go.Proofs.YtocoligcbgcanaaDoor
open Go.RowKit

set_option maxRecDepth 100000 in
set_option maxHeartbeats 1000000 in
theorem specSeen_no (d : Int) (s : ByteArray) (hok : okD d = false) (w : World) :
    Calls Tryd.prog 12 #[.agg #[.int .i64 d], .string s] w fun e w' => e = .returned (.bool (seenD d s)) ∧ Below w.heap.size w w' := by
  have CO := hide1 (fun w' => specDoorOk_any d w')
  unfold seenD
  rw [hok] at CO ⊢
  rw [Bool.false_and]
  clear hok
  go_enter Tryd.func12, Tryd.ntmps12
  go_upto_region 1 with fail
  have hc0 : (w.alloc (.cells #[.int .i64 d] 27)).cell? ⟨w.heap.size, 0, none⟩ = some (.int .i64 d) := (Blk.new w _ _).cell 0
  have B0 := hide1 ((Below.refl w.heap.size w).alloc (Nat.le_refl _) (.cells #[.int .i64 d] 27))
  have S0 : w.heap.size < (w.alloc (.cells #[.int .i64 d] 27)).heap.size := by simp
  generalize (w.alloc (.cells #[.int .i64 d] 27)) = w0 at hc0 B0 S0 ⊢
  first | go_region_with ((go_at_call 19; refine (CO.out _).mono ?_; rintro e w2 ⟨rfl, hb⟩; have E2 : Hid (Below w0.heap.size w0 w2) := (show Below w0.heap.size w0 _ by go_grown).trans (hb.mono (by go_size)); clear hb)) | fail
  all_goals (go_wp2; go_ret; exact ⟨rfl, by have := B0.out.trans (E2.out.mono (by omega)); first | exact this | exact this.drew | exact below_drewN this _⟩)
end Go.Proofs.YtocoligcbgcanaaDoor
