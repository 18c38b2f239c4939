/- Structs of many cells, loaded and stored as a whole: their cells as one letter. -/
import Derived.Test.YtcahaimefgkmiaaMkMb
import Derived.Test.YtcahaimefgkmiaaTB
import Derived.Laws.Rows
import Derived.Laws.Tables
import Derived.Deep.RegionHeld3
namespace Go.Proofs.Ytcahaimefgkmiaa
open Go.RowKit
set_option linter.unusedVariables false

/-- A member's cells. -/
def mbA (m : Mb) (A : MA) : Array Value := #[.int .i64 m.id, .int .i64 m.ep, .bool m.fe, .bool m.ba, .bool m.le, .bool m.se, .slice A.wa m.wa.length A.wc, .slice A.ia m.is.length A.ic, .int .i64 m.cn, .int .i64 m.tk.op, .int .i64 m.tk.cl, .int .i64 m.tk.nu, .string m.tk.it.k, .string m.tk.it.v, .int .i64 m.tk.it.n, .slice A.la m.tk.lf.length A.lc]
def zMb : Array Value := #[.int .i64 0, .int .i64 0, .bool false, .bool false, .bool false, .bool false, .slice none 0 0, .slice none 0 0, .int .i64 0, .int .i64 0, .int .i64 0, .int .i64 0, .string ⟨#[]⟩, .string ⟨#[]⟩, .int .i64 0, .slice none 0 0]
theorem mbV_A (m : Mb) (A : MA) : mbV m A = .agg (mbA m A) := rfl
theorem sizeMb : (Try.prog.info? 69).map (·.size) = some 16 := by kernel_rfl
theorem sizeMbL : (Try.prog.info? 96).map (·.size) = some 16 := by kernel_rfl
theorem oneMb (m : Mb) (A : MA) : (mbA m A).all (·.oneCell') = true := by simp [mbA, Value.oneCell']
theorem lenMb (m : Mb) (A : MA) : (mbA m A).size = 16 := rfl
theorem toMb_A (m : Mb) (A : MA) (w : World) (hl : SzMb m) (hA : RdMb w m A) :
    Calls Try.prog 65 #[.agg (mbA m A)] w fun r w' => ∃ B : MA, r = .returned (.agg (mbA m B)) ∧ OwnMb w' w.heap.size m B ∧ Below w.heap.size w w' := toMember_any m A w hl hA
theorem eqMb_A (m : Mb) (A B : MA) (w : World) (hl : SzMb m) (hA : RdMb w m A) (hB : RdMb w m B) :
    Calls Try.prog 70 #[.agg (mbA m A), .agg (mbA m B)] w fun r w' => r = .returned (.bool true) ∧ Below w.heap.size w w' := eqMember_same m A B w hl hA hB
end Go.Proofs.Ytcahaimefgkmiaa
