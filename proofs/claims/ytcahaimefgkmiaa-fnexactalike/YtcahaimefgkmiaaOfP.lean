/- A truth of all two of a row, plain. -/
import Derived.Test.YtcahaimefgkmiaaPlain
import Derived.Test.YtcahaimefgkmiaaBoP
namespace Go.Proofs.Ytcahaimefgkmiaa
set_option linter.unusedVariables false

def OfQ {α : Type} (S H : α → α → Bool) (pre : List (α × α)) : Prop := ∀ p ∈ pre, S p.1 p.2 = true → H p.1 p.2 = true
def OfL {α : Type} (S H : α → α → Bool) (l : List α) : Prop := ∀ i (hi : i < l.length) k (hk : k < l.length), i ≠ k → S l[i] l[k] = true → H l[i] l[k] = true
end Go.Proofs.Ytcahaimefgkmiaa
