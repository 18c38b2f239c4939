/- An event that came in. -/
import Derived.Test.YtmfpgnoeemjhiaaToE
import Derived.ProofKit
import Derived.OpenShut
namespace Go.Proofs.Ytmfpgnoeemjhiaa
open Go.ChangeShapes Go.WideShapes Go.ChangeAt Go.RowKit
theorem open_event {H : Type} {enc : TypeId × Value → H} {w : World} {r : Reach} {b0 base : Nat} {sp : Nat → Bool} {held : Bool} {v : Value} {d : DataW H} {p : List MemPlace} (hv : Value.okWide Try.prog w r b0 23 v) (h : DataW.Trod enc Try.prog w base sp held 23 v d p) :
    ∃ x : Ev, v = .agg #[.int .i64 x.k, .int .i64 x.n, .int .i64 x.pl, .int .i64 x.op, .string x.key, .string x.val] ∧ wfEvent x := by
  obtain ⟨cs, rfl, hsz⟩ := okWide_struct Try.underlying23 hv
  obtain ⟨fuel, hf⟩ := h
  obtain ⟨s, hs, hw⟩ := open_eventE hf
  exact ⟨s, by obtain ⟨cl⟩ := cs; have e : cl = evC s := hs; rw [e]; rfl, hw⟩
end Go.Proofs.Ytmfpgnoeemjhiaa
