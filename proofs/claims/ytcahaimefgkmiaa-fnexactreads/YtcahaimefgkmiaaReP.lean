/- What a get may have: plain. -/
import Derived.Test.YtcahaimefgkmiaaStI
namespace Go.Proofs.Ytcahaimefgkmiaa
open Go.RowKit
set_option linter.unusedVariables false

theorem txt_ne {s t : ByteArray} (h : ¬ s = t) : (s.toList != t.toList) = true ∧ (s.toList == t.toList) = false := by
  have e : ¬ s.toList = t.toList := fun e => h (by
    rw [ByteArray.toList_eq, ByteArray.toList_eq] at e
    obtain ⟨d⟩ := s
    obtain ⟨d2⟩ := t
    congr 1
    exact Array.toList_inj.1 e)
  exact ⟨by simpa using e, by simpa using e⟩
theorem txt_eq {s t : ByteArray} (h : s = t) : (s.toList != t.toList) = false ∧ (s.toList == t.toList) = true := by subst h; simp
def PutOk (g p : Cl) : Prop := p.op = 1 ∧ p.key = g.key ∧ p.val = g.gt ∧ (p.dn < 0 ∨ p.vr = g.vr)
def RdOk (l : List Cl) (g : Cl) : Prop := (g.vr = 0 → g.gt = ⟨#[]⟩) ∧ (g.vr ≠ 0 → (∃ p ∈ l, PutOk g p) ∧ g.vr ≤ stp g)
def Rds (l : List Cl) : Prop := ∀ g ∈ l, g.op = 2 → 0 ≤ g.dn → RdOk l g
end Go.Proofs.Ytcahaimefgkmiaa
