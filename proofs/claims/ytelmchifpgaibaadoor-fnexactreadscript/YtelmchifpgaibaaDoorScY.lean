/- What a line does, by its word. -/
import Derived.Test.YtelmchifpgaibaaDoorScX
namespace Go.Proofs.YtelmchifpgaibaaDoor
open Go.RowKit
set_option linter.unusedVariables false

theorem ne_words : (¬ wPut = wView) ∧ (¬ wGet = wView) ∧ (¬ wDeliver = wView) ∧ (¬ wDrop = wView) ∧ (¬ wCopy = wView) ∧ (¬ wAdopt = wView) ∧ (¬ wFall = wView) := by decide
theorem isView_no {p : List ByteArray} (h : ¬ p.getD 0 ⟨#[]⟩ = wView) : isView p = false := by
  unfold isView
  cases hb : (p.getD 0 ⟨#[]⟩ == wView) with
  | true => exact absurd ((beq_bytes _ _).1 hb) h
  | false => rw [Bool.and_false]
theorem partsSc_ev {st : Sc} {p : List ByteArray} (h : ¬ p.getD 0 ⟨#[]⟩ = wView) : partsSc st p = match evOf p with | none => none | some e => evSc st e := by unfold partsSc; rw [isView_no h]; rfl
theorem parts_view (st : Sc) (r : List ByteArray) : partsSc st (wView :: r) = doView st r := by
  unfold partsSc doView
  have e : isView (wView :: r) = (r.length == 1) := by
    unfold isView
    rw [show ((wView :: r).getD 0 ⟨#[]⟩ == wView) = true from (beq_bytes _ _).2 rfl, Bool.and_true, List.length_cons]
    cases h : (r.length == 1) with
    | true => have := beq_iff_eq.1 h; rw [this]; rfl
    | false => have := beq_eq_false_iff_ne.1 h; exact beq_eq_false_iff_ne.2 (by omega)
  rw [e]
  by_cases c : r.length = 1
  · rw [if_pos (by simp [c]), if_pos c]; rfl
  · rw [if_neg (by simp [c]), if_neg c]
    rcases r with _ | ⟨n, _ | ⟨k, _ | ⟨v, _ | ⟨z, r⟩⟩⟩⟩
    · rfl
    · exact absurd rfl c
    · have : ¬ wView = wGet := by decide
      simp [evOf, this]
    · have : ¬ wView = wPut := by decide
      simp [evOf, this]
    · rfl
theorem parts_put (st : Sc) (r : List ByteArray) : partsSc st (wPut :: r) = doPut st r := by
  rw [partsSc_ev (show ¬ (wPut :: r).getD 0 ⟨#[]⟩ = wView from (show ¬ wPut = wView by decide))]
  unfold doPut ofNode
  rcases r with _ | ⟨n, _ | ⟨k, _ | ⟨v, _ | ⟨z, r⟩⟩⟩⟩
  · rfl
  · have a0 : ¬ wPut = wDeliver := by decide
    have a1 : ¬ wPut = wDrop := by decide
    have a2 : ¬ wPut = wCopy := by decide
    have a3 : ¬ wPut = wAdopt := by decide
    have a4 : ¬ wPut = wFall := by decide
    simp [evOf, a0, a1, a2, a3, a4]
  · have : ¬ wPut = wGet := by decide
    simp [evOf, this]
  · by_cases h : rdB n = true
    · simp [evOf, h]
    · simp [evOf, h]
  · simp [evOf]
theorem parts_get (st : Sc) (r : List ByteArray) : partsSc st (wGet :: r) = doGet st r := by
  rw [partsSc_ev (show ¬ (wGet :: r).getD 0 ⟨#[]⟩ = wView from (show ¬ wGet = wView by decide))]
  unfold doGet ofNode
  rcases r with _ | ⟨n, _ | ⟨k, _ | ⟨v, _ | ⟨z, r⟩⟩⟩⟩
  · rfl
  · have a0 : ¬ wGet = wDeliver := by decide
    have a1 : ¬ wGet = wDrop := by decide
    have a2 : ¬ wGet = wCopy := by decide
    have a3 : ¬ wGet = wAdopt := by decide
    have a4 : ¬ wGet = wFall := by decide
    simp [evOf, a0, a1, a2, a3, a4]
  · by_cases h : rdB n = true
    · simp [evOf, h]
    · simp [evOf, h]
  · have : ¬ wGet = wPut := by decide
    simp [evOf, this]
  · simp [evOf]
/-- A word of five: the event of a line of two parts. -/
theorem evOf_len {w : ByteArray} {r : List ByteArray} (h1 : ¬ w = wPut) (h2 : ¬ w = wGet) (h : ¬ r.length = 1) : evOf (w :: r) = none := by
  rcases r with _ | ⟨n, _ | ⟨k, _ | ⟨v, _ | ⟨z, r⟩⟩⟩⟩
  · rfl
  · exact absurd rfl h
  · simp [evOf, h2]
  · simp [evOf, h1]
  · rfl
theorem parts_msg (st : Sc) (r : List ByteArray) {w : ByteArray} {k : Int} (hw : (w = wDeliver ∧ k = 2) ∨ (w = wDrop ∧ k = 3) ∨ (w = wCopy ∧ k = 4)) : partsSc st (w :: r) = doMsg k st r := by
  have n0 : ¬ w = wView ∧ ¬ w = wPut ∧ ¬ w = wGet := by rcases hw with ⟨rfl, _⟩ | ⟨rfl, _⟩ | ⟨rfl, _⟩ <;> decide
  rw [partsSc_ev (show ¬ (w :: r).getD 0 ⟨#[]⟩ = wView from n0.1)]
  unfold doMsg ofMsg
  by_cases c : r.length = 1
  · rw [if_pos c]
    obtain ⟨n, rfl⟩ := List.length_eq_one_iff.1 c
    rcases hw with ⟨rfl, rfl⟩ | ⟨rfl, rfl⟩ | ⟨rfl, rfl⟩
    · by_cases h : rdB n = true <;> simp [evOf, h]
    · have a0 : ¬ wDrop = wDeliver := by decide
      by_cases h : rdB n = true <;> simp [evOf, h, a0]
    · have a0 : ¬ wCopy = wDeliver := by decide
      have a1 : ¬ wCopy = wDrop := by decide
      by_cases h : rdB n = true <;> simp [evOf, h, a0, a1]
  · rw [if_neg c, evOf_len n0.2.1 n0.2.2 c]
theorem parts_node (st : Sc) (r : List ByteArray) {w : ByteArray} {k : Int} (hw : (w = wAdopt ∧ k = 5) ∨ (w = wFall ∧ k = 6)) : partsSc st (w :: r) = doNode k st r := by
  have n0 : ¬ w = wView ∧ ¬ w = wPut ∧ ¬ w = wGet := by rcases hw with ⟨rfl, _⟩ | ⟨rfl, _⟩ <;> decide
  rw [partsSc_ev (show ¬ (w :: r).getD 0 ⟨#[]⟩ = wView from n0.1)]
  unfold doNode ofNode
  by_cases c : r.length = 1
  · rw [if_pos c]
    obtain ⟨n, rfl⟩ := List.length_eq_one_iff.1 c
    rcases hw with ⟨rfl, rfl⟩ | ⟨rfl, rfl⟩
    · have a0 : ¬ wAdopt = wDeliver := by decide
      have a1 : ¬ wAdopt = wDrop := by decide
      have a2 : ¬ wAdopt = wCopy := by decide
      by_cases h : rdB n = true <;> simp [evOf, h, a0, a1, a2]
    · have a0 : ¬ wFall = wDeliver := by decide
      have a1 : ¬ wFall = wDrop := by decide
      have a2 : ¬ wFall = wCopy := by decide
      have a3 : ¬ wFall = wAdopt := by decide
      by_cases h : rdB n = true <;> simp [evOf, h, a0, a1, a2, a3]
  · rw [if_neg c, evOf_len n0.2.1 n0.2.2 c]
theorem parts_other (st : Sc) (r : List ByteArray) {w : ByteArray} (a0 : ¬ w = wView) (a1 : ¬ w = wPut) (a2 : ¬ w = wGet) (a3 : ¬ w = wDeliver) (a4 : ¬ w = wDrop) (a5 : ¬ w = wCopy) (a6 : ¬ w = wAdopt) (a7 : ¬ w = wFall) : partsSc st (w :: r) = none := by
  rw [partsSc_ev (show ¬ (w :: r).getD 0 ⟨#[]⟩ = wView from a0)]
  by_cases c : r.length = 1
  · obtain ⟨n, rfl⟩ := List.length_eq_one_iff.1 c
    simp [evOf, a3, a4, a5, a6, a7]
  · rw [evOf_len a1 a2 c]
theorem remark_byte (s : ByteArray) : (decide (1 ≤ s.size) && byt s 0 == 35) = (byt s 0 == 35) := by
  by_cases h : 1 ≤ s.size
  · rw [decide_eq_true h, Bool.true_and]
  · have e : byt s 0 = 0 := by
      unfold byt
      have h2 : s.size = 0 := by omega
      rw [List.getElem?_eq_none (by simp [h2])]
      rfl
    rw [e]
    simp

set_option maxRecDepth 100000 in
theorem isRemark_any (p : List ByteArray) (ap : Option Addr) (cp : Nat) (w : World) (hpl : p.length ≤ 10) (hp : RdQ w ap p) :
    Calls Tryd.prog 43 #[.slice ap p.length cp] w fun e w' => e = .returned (.bool (remark p)) ∧ Below w.heap.size w w' := by
  cases p with
  | nil =>
    go_enter Tryd.func43, Tryd.ntmps43
    go_wp2
    go_ret
    exact ⟨rfl, Below.refl _ _⟩
  | cons x r =>
    obtain ⟨g, o, rfl, hg, hc⟩ := hp 0 (by simp)
    have x0 : w.cell? ⟨g, o, none⟩ = some (.string x) := hc
    have RES := hide1 (show remark (x :: r) = (decide (1 ≤ x.size) && byt x 0 == 35) by rw [remark_byte]; rfl)
    have C := hide1 (fun w' => hasPre_any x w')
    obtain ⟨n, hn⟩ : ∃ n, n = (x :: r).length := ⟨_, rfl⟩
    have k1 : (0 : Int) < (n : Int) := by rw [hn, List.length_cons]; omega
    have k2 : ((n : Int) == 0) = false := by simp; omega
    rw [← hn, RES.out]
    generalize (decide (1 ≤ x.size) && byt x 0 == 35) = z at C
    clear hp hpl hc hn RES
    go_enter Tryd.func43, Tryd.ntmps43
    go_wp2_with fail
    refine (C.out _).mono ?_
    rintro e w' ⟨rfl, rfl⟩
    go_wp2
    go_ret
    exact ⟨rfl, Below.refl _ _⟩
end Go.Proofs.YtelmchifpgaibaaDoor
