/- The contracts of the statements' functions on tables, whole: copied, sized, marked, held. -/
import Derived.Test.YtldbdmofjckjkaaTabT
namespace Go.Proofs.Ytldbdmofjckjkaa
open Go.RowKit

/-- Two rows lie apart. -/
def apart2 (u v : Value) : Prop := ∀ k, u.ownBlock = some k → v.ownBlock ≠ some k

theorem own_grown2 {w w' : World} {base n size : Nat} {e : TypeId} {v : Value} {xs : List Value} {r : Option Nat} (h : w.ownsRow base e size v n xs) (hg : w.grownBy w' r) (hne : ∀ k, v.ownBlock = some k → r ≠ some k) : w'.ownsRow base e size v n xs := by
  refine ⟨h.1, ?_⟩
  rcases h.2 with h2 | ⟨k, cap, cur, hv, hk, hh, q⟩
  · exact .inl h2
  · exact .inr ⟨k, cap, cur, hv, hk, by rw [hg.block k (Array.getElem?_eq_some_iff.1 hh).1 (fun e => hne k (by rw [hv]; rfl) e.symm)]; exact hh, q⟩

end Go.Proofs.Ytldbdmofjckjkaa
