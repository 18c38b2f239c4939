/- What the program's table says of bytes; no condition. -/
import Derived.Test.YtenmpciimocggaaGreatProg
import Derived.Test.YtenmpciimocggaaGreatXA
namespace Go.Proofs.YtenmpciimocggaaGreat

theorem Tryz.info5 : (Tryz.prog.info? 5).map (fun i => (i.zero, i.size, i.bytes)) = some (some (.int .u8 0), 1, 1) := by kernel_rfl
end Go.Proofs.YtenmpciimocggaaGreat
