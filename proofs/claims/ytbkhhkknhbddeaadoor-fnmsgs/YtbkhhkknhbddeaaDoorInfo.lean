/- What the program's table says of bytes; no condition. -/
import Derived.Test.YtbkhhkknhbddeaaDoorProg
import Derived.Test.YtbkhhkknhbddeaaDoorKit
namespace Go.Proofs.YtbkhhkknhbddeaaDoor

theorem Tryd.info5 : (Tryd.prog.info? 5).map (fun i => (i.zero, i.size, i.bytes)) = some (some (.int .u8 0), 1, 1) := by kernel_rfl
end Go.Proofs.YtbkhhkknhbddeaaDoor
