/- What the program's table says of bytes; no condition. -/
import Derived.Test.YtbkhhkknhbddeaaProg
import Derived.Test.YtbkhhkknhbddeaaKit
namespace Go.Proofs.Ytbkhhkknhbddeaa

theorem Try.info5 : (Try.prog.info? 5).map (fun i => (i.zero, i.size, i.bytes)) = some (some (.int .u8 0), 1, 1) := by kernel_rfl
end Go.Proofs.Ytbkhhkknhbddeaa
