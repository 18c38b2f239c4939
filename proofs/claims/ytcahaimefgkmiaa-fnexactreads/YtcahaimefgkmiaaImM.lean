/- Items in memory. -/
import Derived.Test.YtcahaimefgkmiaaRowO
import Derived.Test.YtcahaimefgkmiaaRowJ
import Derived.Test.YtcahaimefgkmiaaImP
namespace Go.Proofs.Ytcahaimefgkmiaa
open Go.RowKit
set_option linter.unusedVariables false

def imC (x : Im) : List Value := [.string x.k, .string x.v, .int .i64 x.n]
theorem encIm : EncK imC 3 := ⟨fun _ => rfl, fun x u hu => by simp only [imC, List.mem_cons, List.not_mem_nil, or_false] at hu; rcases hu with rfl | rfl | rfl <;> rfl⟩
theorem Try.infoIm : (Try.prog.info? 65).map (fun i => (i.zero, i.size, i.bytes)) = some (some (.agg #[.string ⟨#[]⟩, .string ⟨#[]⟩, .int .i64 0]), 3, 40) := by kernel_rfl
theorem rowK_mk {P : Program} {t e : TypeId} {k b : Nat} {z : Value} (hs : P.underlying t = some (.slice e)) (h : (P.info? e).map (fun i => (i.zero, i.size, i.bytes)) = some (some z, k, b)) (hz : z.cells.size = k) (hb : b ≤ 256) (hk : 0 < k) : RowK P t e k := by
  refine ⟨hs, ?_, hk⟩
  cases hi : P.info? e with
  | none => rw [hi] at h; cases h
  | some i =>
    rw [hi] at h
    simp only [Option.map_some, Option.some.injEq, Prod.mk.injEq] at h
    exact ⟨i, z, b, rfl, h.1, h.2.1, h.2.2, hz, hb⟩
theorem rowIm : RowK Try.prog 63 65 3 := rowK_mk Try.underlying63 Try.infoIm rfl (by decide) (by decide)
theorem tx_eq (s : ByteArray) : (s.toList != s.toList) = false ∧ (s.toList == s.toList) = true := by simp
end Go.Proofs.Ytcahaimefgkmiaa
