/- The contract of the program's writer of decimal figures: at every int, where the library's table of powers of ten is as its text lays it. -/
import Derived.Test.YtdgpencendphbaaDoorDec
import Derived.Test.YtdgpencendphbaaDoorItoa
import Derived.Lib.LaidTab
import Derived.WalkSmall
namespace Go.Proofs.YtdgpencendphbaaDoor
open Go.RowKit

/-- The library's table of powers of ten holds them. -/
def Tens (w : World) : Prop := Lib.TabIs Tryd.prog w "internal/strconv.uint64pow10" .u64 Lib.pow10Tab
theorem gTens : Tryd.prog.globalNamed "internal/strconv.uint64pow10" = some 0 := by kernel_rfl
theorem Tens.pos {w : World} (h : Tens w) : 0 < w.heap.size := by
  unfold Tens Lib.TabIs World.var? at h
  rw [gTens] at h
  simp only [Option.bind_some] at h
  cases e : w.heap[0]? with
  | none => rw [e] at h; cases h
  | some x => exact (Array.getElem?_eq_some_iff.1 e).1
theorem Tens.below {w w' : World} {B : Nat} (h : Tens w) (hb : Below B w w') (hB : 0 < B) : Tens w' := var?_below hb gTens hB h
theorem below_grow1 (w : World) (k : Nat) (os : Array Obj) : Below w.heap.size w (Sort.grow (w.drewN k) os) := by
  refine ⟨rfl, rfl, rfl, ?_, fun i hi => ?_⟩
  · show w.heap.size ≤ (w.heap ++ os).size
    simp
  · show (w.heap ++ os)[i]? = w.heap[i]?
    rw [Array.getElem?_append_left hi]

theorem itoa_any (n : Int) (h0 : -9223372036854775808 ≤ n) (h1 : n ≤ 9223372036854775807) (w : World) (ht : Tens w) :
    Calls Tryd.prog 72 #[.int .i64 n] w fun e w' => e = .returned (.string ⟨(Lib.itoa n).toArray⟩) ∧ Below w.heap.size w w' := by
  refine (Any.strconv_Itoa lays171 n h0 h1 w ht).mono ?_
  rintro e w' ⟨rfl, k, os, rfl⟩
  exact ⟨rfl, below_grow1 w k os⟩

theorem implDecimal_any (n : Int) (h0 : -9223372036854775808 ≤ n) (h1 : n ≤ 9223372036854775807) (w : World) (ht : Tens w) :
    Calls Tryd.prog 58 #[.int .i64 n] w fun e w' => e = .returned (.string ⟨(Lib.itoa n).toArray⟩) ∧ Below w.heap.size w w' := by
  have cc := itoa_any n h0 h1 w ht
  generalize ({ data := (Lib.itoa n).toArray } : ByteArray) = z at cc ⊢
  have CC := hide1 cc
  clear cc ht
  go_enter Tryd.func58, Tryd.ntmps58
  go_wp2_with (go_at_call 72; refine (CC.out).mono ?_; rintro e w1 ⟨rfl, hb1⟩)
  go_ret
  exact ⟨rfl, hb1⟩
end Go.Proofs.YtdgpencendphbaaDoor
