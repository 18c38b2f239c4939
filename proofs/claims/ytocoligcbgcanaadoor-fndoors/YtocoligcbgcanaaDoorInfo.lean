/- What the program's table says of bytes; no condition. -/
import Derived.Test.YtocoligcbgcanaaDoorProg
import Derived.Test.YtocoligcbgcanaaDoorKit
namespace Go.Proofs.YtocoligcbgcanaaDoor

theorem Tryd.info5 : (Tryd.prog.info? 5).map (fun i => (i.zero, i.size, i.bytes)) = some (some (.int .u8 0), 1, 1) := by kernel_rfl
end Go.Proofs.YtocoligcbgcanaaDoor
