/- Ballots, plain: voices, notes; what a voice hears; what is picked; how many are most. -/
import Derived.Test.YtmejdblobikclaaPlain
namespace Go.Proofs.Ytmejdblobikclaa
open Go.RowKit
set_option linter.unusedVariables false

/-- A voice: Promised, Taken, Value. -/
structure Vo where
  p : Int
  t : Int
  v : ByteArray
/-- A note: Kind, From, To, Ballot, Taken, Value. -/
structure Nt where
  k : Int
  f : Int
  o : Int
  b : Int
  t : Int
  v : ByteArray
def okVo (x : Vo) : Prop := (0 ≤ x.p ∧ x.p ≤ 10000) ∧ (0 ≤ x.t ∧ x.t ≤ x.p) ∧ x.v.size ≤ 40 ∧ (0 < x.t ∨ x.v.toList = [])
instance (x : Vo) : Decidable (okVo x) := by unfold okVo; infer_instance
def zeroNt : Nt := ⟨0, 0, 0, 0, 0, ⟨#[]⟩⟩
def zeroVo : Vo := ⟨0, 0, ⟨#[]⟩⟩
theorem okVo_zero : okVo zeroVo := ⟨⟨by decide, by decide⟩, ⟨by decide, by decide⟩, by decide, .inr (by show (⟨#[]⟩ : ByteArray).toList = []; rw [ByteArray.toList_eq])⟩
/-- What may be heard at all. -/
def fitN (x : Vo) (m : Nt) : Prop := okVo x ∧ (1 ≤ m.b ∧ m.b ≤ 10000) ∧ m.v.size ≤ 40
instance (x : Vo) (m : Nt) : Decidable (fitN x m) := by unfold fitN; infer_instance
/-- What a voice answers to a note. -/
def hearA (x : Vo) (m : Nt) : Vo × Nt × Bool :=
  if fitN x m then
    if m.k = 1 ∧ x.p < m.b then (⟨m.b, x.t, x.v⟩, ⟨2, m.o, m.f, m.b, x.t, x.v⟩, true)
    else if m.k = 3 ∧ x.p ≤ m.b then (⟨m.b, m.b, m.v⟩, ⟨4, m.o, m.f, m.b, 0, m.v⟩, true)
    else (x, zeroNt, false)
  else (x, zeroNt, false)
theorem hear_ask {x : Vo} {m : Nt} (h : fitN x m) (h1 : m.k = 1 ∧ x.p < m.b) : hearA x m = (⟨m.b, x.t, x.v⟩, ⟨2, m.o, m.f, m.b, x.t, x.v⟩, true) := by
  unfold hearA
  rw [if_pos h, if_pos h1]
theorem hear_take {x : Vo} {m : Nt} (h : fitN x m) (h2 : m.k = 3 ∧ x.p ≤ m.b) : hearA x m = (⟨m.b, m.b, m.v⟩, ⟨4, m.o, m.f, m.b, 0, m.v⟩, true) := by
  unfold hearA
  rw [if_pos h, if_neg (by omega), if_pos h2]
theorem hear_else {x : Vo} {m : Nt} (h1 : ¬ (m.k = 1 ∧ x.p < m.b)) (h2 : ¬ (m.k = 3 ∧ x.p ≤ m.b)) : hearA x m = (x, zeroNt, false) := by
  unfold hearA
  rw [if_neg h1, if_neg h2]
  split <;> rfl
theorem hear_no {x : Vo} {m : Nt} (h : ¬ fitN x m) : hearA x m = (x, zeroNt, false) := by
  unfold hearA
  rw [if_neg h]
/-- A voice never promises less than it did, nor takes what is below; it stays right; what it tells is of the note. -/
theorem hear_law (x : Vo) (m : Nt) (h : okVo x) : okVo (hearA x m).1 ∧ x.p ≤ (hearA x m).1.p ∧ x.t ≤ (hearA x m).1.t ∧ ((hearA x m).2.2 = false → (hearA x m).1 = x) ∧
    ((hearA x m).2.2 = true → (hearA x m).2.1.b = m.b ∧ (hearA x m).2.1.o = m.f ∧ (hearA x m).1.p = m.b ∧ (m.k = 3 → (hearA x m).1.t = m.b ∧ (hearA x m).1.v = m.v)) := by
  obtain ⟨⟨a1, a2⟩, ⟨a3, a4⟩, a5, a6⟩ := h
  by_cases c : fitN x m
  · obtain ⟨_, ⟨b1, b2⟩, b3⟩ := id c
    by_cases c1 : m.k = 1 ∧ x.p < m.b
    · rw [hear_ask c c1]
      refine ⟨⟨⟨by show 0 ≤ m.b; omega, by show m.b ≤ 10000; omega⟩, ⟨a3, by show x.t ≤ m.b; omega⟩, a5, a6⟩, by show x.p ≤ m.b; omega, Int.le_refl _, (fun e => by cases e), fun _ => ⟨rfl, rfl, rfl, fun e => ?_⟩⟩
      omega
    · by_cases c2 : m.k = 3 ∧ x.p ≤ m.b
      · rw [hear_take c c2]
        exact ⟨⟨⟨by show 0 ≤ m.b; omega, by show m.b ≤ 10000; omega⟩, ⟨by show 0 ≤ m.b; omega, Int.le_refl _⟩, b3, .inl (by show 0 < m.b; omega)⟩, by show x.p ≤ m.b; omega, by show x.t ≤ m.b; omega, (fun e => by cases e), fun _ => ⟨rfl, rfl, rfl, fun _ => ⟨rfl, rfl⟩⟩⟩
      · rw [hear_else c1 c2]
        exact ⟨⟨⟨a1, a2⟩, ⟨a3, a4⟩, a5, a6⟩, Int.le_refl _, Int.le_refl _, fun _ => rfl, fun e => by cases e⟩
  · rw [hear_no c]
    exact ⟨⟨⟨a1, a2⟩, ⟨a3, a4⟩, a5, a6⟩, Int.le_refl _, Int.le_refl _, fun _ => rfl, fun e => by cases e⟩
/-- What was met: the greatest Taken of the promises told, and its Value. -/
def pickN (a : Int × ByteArray) (n : Nt) : Int × ByteArray := if n.k = 2 ∧ a.1 < n.t then (n.t, n.v) else a
def pickS (l : List Nt) (own : ByteArray) : Int × ByteArray := l.foldl pickN (0, own)
theorem pickS_next {l : List Nt} {own : ByteArray} {i : Nat} (h : i < l.length) : pickS (l.take (i + 1)) own = pickN (pickS (l.take i) own) l[i] := by
  unfold pickS
  rw [List.take_succ_eq_append_getElem h, List.foldl_append]
  rfl
theorem pick_facts (l : List Nt) (own : ByteArray) : ∀ i, i ≤ l.length → 0 ≤ (pickS (l.take i) own).1 ∧ ((pickS (l.take i) own).1 = 0 → (pickS (l.take i) own).2 = own) ∧ (∀ j (hj : j < l.length), j < i → l[j].k = 2 → l[j].t ≤ (pickS (l.take i) own).1) ∧ ((pickS (l.take i) own).1 ≠ 0 → ∃ j, ∃ (hj : j < l.length), j < i ∧ l[j].k = 2 ∧ l[j].t = (pickS (l.take i) own).1 ∧ l[j].v = (pickS (l.take i) own).2)
  | 0, _ => ⟨Int.le_refl _, fun _ => rfl, fun j _ h => by omega, fun h => absurd rfl h⟩
  | i + 1, hi => by
    obtain ⟨h1, h2, h3, h4⟩ := pick_facts l own i (by omega)
    rw [pickS_next (by omega)]
    generalize pickS (l.take i) own = a at *
    unfold pickN
    by_cases c : l[i].k = 2 ∧ a.1 < l[i].t
    · rw [if_pos c]
      refine ⟨by show 0 ≤ l[i].t; omega, fun e => ?_, fun j hj hji hk => ?_, fun _ => ⟨i, by omega, by omega, c.1, rfl, rfl⟩⟩
      · have e : l[i].t = 0 := e
        omega
      · by_cases e : j < i
        · have := h3 j hj e hk
          show l[j].t ≤ l[i].t
          omega
        · obtain rfl : j = i := by omega
          exact Int.le_refl _
    · rw [if_neg c]
      refine ⟨h1, h2, fun j hj hji hk => ?_, fun e => ?_⟩
      · by_cases e : j < i
        · exact h3 j hj e hk
        · obtain rfl : j = i := by omega
          omega
      · obtain ⟨j, hj, a1, a2⟩ := h4 e
        exact ⟨j, hj, by omega, a2⟩
/-- How many of n are most of them. -/
def mostI (n : Int) : Int := if n < 0 then 0 else n / 2 + 1
end Go.Proofs.Ytmejdblobikclaa
