/- What the program's table says of bytes; no condition. -/
import Derived.Test.YtmejdblobikclaaProg
import Derived.Test.YtmejdblobikclaaKit
namespace Go.Proofs.Ytmejdblobikclaa

theorem Try.info5 : (Try.prog.info? 5).map (fun i => (i.zero, i.size, i.bytes)) = some (some (.int .u8 0), 1, 1) := by kernel_rfl
end Go.Proofs.Ytmejdblobikclaa
