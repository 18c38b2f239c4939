/- An item that came in. -/
import Derived.Test.YtgmiohmglffidaaToI
import Derived.ProofKit
import Derived.OpenShut
namespace Go.Proofs.Ytgmiohmglffidaa
open Go.ChangeShapes Go.WideShapes Go.ChangeAt Go.RowKit
theorem open_item {H : Type} {enc : TypeId × Value → H} {w : World} {r : Reach} {b0 base : Nat} {sp : Nat → Bool} {held : Bool} {v : Value} {d : DataW H} {p : List MemPlace} (hv : Value.okWide Try.prog w r b0 40 v) (h : DataW.Trod enc Try.prog w base sp held 40 v d p) :
    ∃ x : Im, v = .agg #[.string x.k, .string x.v, .int .i64 x.n] ∧ wfItem x := by
  obtain ⟨cs, rfl, hsz⟩ := okWide_struct Try.underlying40 hv
  obtain ⟨fuel, hf⟩ := h
  obtain ⟨s, hs, hw⟩ := open_itemE hf
  exact ⟨s, by obtain ⟨cl⟩ := cs; have e : cl = imC s := hs; rw [e]; rfl, hw⟩
end Go.Proofs.Ytgmiohmglffidaa
