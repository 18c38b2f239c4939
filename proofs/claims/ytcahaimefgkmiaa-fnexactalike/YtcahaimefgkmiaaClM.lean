/- Calls in memory. -/
import Derived.Test.YtcahaimefgkmiaaTI
import Derived.Test.YtcahaimefgkmiaaTB
import Derived.Test.YtcahaimefgkmiaaTE
namespace Go.Proofs.Ytcahaimefgkmiaa
open Go.RowKit
set_option linter.unusedVariables false

def clC (x : Cl) : List Value := [.int .i64 x.op, .string x.key, .string x.val, .int .i64 x.wh, .int .i64 x.dn, .int .i64 x.vr, .int .i64 x.ep, .int .i64 x.nu, .string x.gt]
theorem encCl : EncK clC 9 := ⟨fun _ => rfl, fun x u hu => by simp only [clC, List.mem_cons, List.not_mem_nil, or_false] at hu; rcases hu with rfl | rfl | rfl | rfl | rfl | rfl | rfl | rfl | rfl <;> rfl⟩
theorem Try.infoCl : (Try.prog.info? 26).map (fun i => (i.zero, i.size, i.bytes)) = some (some (.agg #[.int .i64 0, .string ⟨#[]⟩, .string ⟨#[]⟩, .int .i64 0, .int .i64 0, .int .i64 0, .int .i64 0, .int .i64 0, .string ⟨#[]⟩]), 9, 96) := by kernel_rfl
theorem rowCl : RowK Try.prog 32 26 9 := rowK_mk Try.underlying32 Try.infoCl rfl (by decide) (by decide)
end Go.Proofs.Ytcahaimefgkmiaa
