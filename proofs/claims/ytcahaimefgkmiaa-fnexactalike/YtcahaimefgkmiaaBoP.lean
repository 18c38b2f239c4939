/- Whether a thing is so, as a Bool. -/
import Derived.Test.YtcahaimefgkmiaaPlain
namespace Go.Proofs.Ytcahaimefgkmiaa

/-- Whether it is so. -/
noncomputable def bo (p : Prop) : Bool := @decide p (Classical.propDecidable p)
theorem bo_t {p : Prop} (h : p) : bo p = true := by unfold bo; exact @decide_eq_true p (Classical.propDecidable p) h
theorem bo_f {p : Prop} (h : ¬ p) : bo p = false := by unfold bo; exact @decide_eq_false p (Classical.propDecidable p) h
theorem bo_true {p : Prop} : bo p = true ↔ p := by
  constructor
  · intro h
    refine Classical.byContradiction fun hp => ?_
    rw [bo_f hp] at h
    cases h
  · exact bo_t
theorem bo_iff {p q : Prop} (h : p ↔ q) : bo p = bo q := by rw [propext h]
end Go.Proofs.Ytcahaimefgkmiaa
