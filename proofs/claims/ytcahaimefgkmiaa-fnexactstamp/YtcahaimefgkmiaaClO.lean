/- A call that came in. -/
import Derived.Test.YtcahaimefgkmiaaToCl
import Derived.ProofKit
import Derived.OpenShut
namespace Go.Proofs.Ytcahaimefgkmiaa
open Go.ChangeShapes Go.WideShapes Go.ChangeAt Go.RowKit
set_option maxRecDepth 100000 in
theorem open_call {H : Type} {enc : TypeId × Value → H} {w : World} {r : Reach} {b0 base : Nat} {sp : Nat → Bool} {held : Bool} {v : Value} {d : DataW H} {p : List MemPlace} (hv : Value.okWide Try.prog w r b0 23 v) (h : DataW.Trod enc Try.prog w base sp held 23 v d p) :
    ∃ x : Cl, v = .agg #[.int .i64 x.op, .string x.key, .string x.val, .int .i64 x.wh, .int .i64 x.dn, .int .i64 x.vr, .int .i64 x.ep, .int .i64 x.nu, .string x.gt] ∧ wfCall x := by
  obtain ⟨cs, rfl, hsz⟩ := okWide_struct Try.underlying23 hv
  obtain ⟨fuel, hf⟩ := h
  obtain ⟨s, hs, hw⟩ := open_callE hf
  exact ⟨s, by obtain ⟨cl⟩ := cs; have e : cl = clC s := hs; rw [e]; rfl, hw⟩
end Go.Proofs.Ytcahaimefgkmiaa
