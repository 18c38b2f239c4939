/- Texts in their order, plain. -/
import Derived.Test.YtcahaimefgkmiaaPlain
namespace Go.Proofs.Ytcahaimefgkmiaa
open Go.RowKit
set_option linter.unusedVariables false

theorem bl_irr : ∀ a : List UInt8, Op.bytesLess a a = false
  | [] => rfl
  | a :: x => by simp [Op.bytesLess, bl_irr x]
theorem bl_trans : ∀ a b c : List UInt8, Op.bytesLess a b = true → Op.bytesLess b c = true → Op.bytesLess a c = true
  | _, [], _, h, _ => by cases h' : (‹List UInt8›) <;> simp_all [Op.bytesLess]
  | _, _ :: _, [], _, h => by simp [Op.bytesLess] at h
  | [], _ :: _, _ :: _, _, _ => rfl
  | a :: x, b :: y, c :: z, h1, h2 => by
    simp only [Op.bytesLess, Bool.or_eq_true, decide_eq_true_eq, Bool.and_eq_true, beq_iff_eq] at h1 h2 ⊢
    rcases h1 with h1 | ⟨rfl, h1⟩
    · rcases h2 with h2 | ⟨rfl, h2⟩
      · exact .inl (UInt8.lt_trans h1 h2)
      · exact .inl h1
    · rcases h2 with h2 | ⟨rfl, h2⟩
      · exact .inl h2
      · exact .inr ⟨rfl, bl_trans x y z h1 h2⟩
theorem bl_tri : ∀ a b : List UInt8, Op.bytesLess a b = false → Op.bytesLess b a = false → a = b
  | [], [], _, _ => rfl
  | [], _ :: _, h, _ => by simp [Op.bytesLess] at h
  | _ :: _, [], _, h => by simp [Op.bytesLess] at h
  | a :: x, b :: y, h1, h2 => by
    simp only [Op.bytesLess, Bool.or_eq_false_iff, decide_eq_false_iff_not, Bool.and_eq_false_iff, beq_eq_false_iff_ne] at h1 h2
    have e : a = b := by
      have h3 := h1.1
      have h4 := h2.1
      rw [UInt8.lt_iff_toNat_lt] at h3 h4
      exact UInt8.toNat_inj.1 (by omega)
    subst e
    rw [bl_tri x y (by rcases h1.2 with h | h <;> simp_all) (by rcases h2.2 with h | h <;> simp_all)]
/-- Is a text less than another one? -/
def tLt (a b : ByteArray) : Bool := Op.bytesLess a.toList b.toList
theorem tLt_irr (a : ByteArray) : tLt a a = false := bl_irr _
theorem tLt_trans {a b c : ByteArray} (h1 : tLt a b = true) (h2 : tLt b c = true) : tLt a c = true := bl_trans _ _ _ h1 h2
theorem tx_inj {a b : ByteArray} (h : a.toList = b.toList) : a = b := by
  have e1 : a.toList = a.data.toList := ByteArray.toList_eq a
  have e2 : b.toList = b.data.toList := ByteArray.toList_eq b
  rw [e1, e2] at h
  obtain ⟨x⟩ := a
  obtain ⟨y⟩ := b
  congr
  exact Array.toList_inj.1 h
theorem tLt_tri {a b : ByteArray} (h1 : tLt a b = false) (h2 : tLt b a = false) : a = b := tx_inj (bl_tri _ _ h1 h2)
theorem tLt_asym {a b : ByteArray} (h : tLt a b = true) : tLt b a = false := by
  cases e : tLt b a with
  | false => rfl
  | true => have := tLt_trans h e; rw [tLt_irr] at this; cases this
theorem tLt_ne {a b : ByteArray} (h : tLt a b = true) : a ≠ b := fun e => by rw [e, tLt_irr] at h; cases h
end Go.Proofs.Ytcahaimefgkmiaa
