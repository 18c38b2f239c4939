/- Sketches, plain: right ones, a key's places, counts one more, half of all. -/
import Derived.Test.YthigmdocfjhdlaaTabH
namespace Go.Proofs.Ythigmdocfjhdlaa

/-- A right sketch. -/
def OkK (l : List Int) (ad : Int) : Prop := l.length = 48 ∧ 0 ≤ ad ∧ ad ≤ 99 ∧ ∀ i (h : i < l.length), 0 ≤ l[i] ∧ l[i] ≤ 15
/-- A key's place in a row. -/
def atK (key : ByteArray) (row : Nat) : Nat := row * 16 + hashN key (row : Int) % 16
theorem atK_lt (key : ByteArray) (row : Nat) (h : row < 3) : atK key row < 48 := by unfold atK; omega
/-- What lies at a place. -/
def gK (l : List Int) (k : Nat) : Int := l.getD k 0
theorem gK_get (l : List Int) (k : Nat) (h : k < l.length) : l[k] = gK l k := by simp [gK, h]
theorem gK_set (l : List Int) (k j : Nat) (v : Int) (hk : k < l.length) : gK (l.set k v) j = if k = j then v else gK l j := by
  unfold gK
  rw [List.getD_eq_getElem?_getD, List.getD_eq_getElem?_getD, List.getElem?_set]
  by_cases e : k = j
  · subst e; simp [hk]
  · simp [e]
/-- One more, 15 at most. -/
def bump (l : List Int) (k : Nat) : List Int := l.set k (min (gK l k + 1) 15)
theorem bump_length (l : List Int) (k : Nat) : (bump l k).length = l.length := by simp [bump]
/-- Counted in the first rows. -/
def addK (l : List Int) (key : ByteArray) : Nat → List Int
  | 0 => l
  | r + 1 => bump (addK l key r) (atK key r)
theorem addK_length (l : List Int) (key : ByteArray) : ∀ r, (addK l key r).length = l.length
  | 0 => rfl
  | r + 1 => by rw [addK, bump_length, addK_length l key r]
def halfK (l : List Int) : List Int := l.map fun n => n / 2
theorem halfK_length (l : List Int) : (halfK l).length = l.length := by simp [halfK]
/-- The least of the first rows. -/
def leastK (l : List Int) (key : ByteArray) : Nat → Int
  | 0 => 15
  | r + 1 => min (leastK l key r) (gK l (atK key r))
/-- What CountKey answers at a right sketch. -/
def cntK (l : List Int) (ad : Int) (key : ByteArray) : List Int × Int := if ad + 1 = 100 then (halfK (addK l key 3), 0) else (addK l key 3, ad + 1)
def InK15 (l : List Int) : Prop := ∀ i (h : i < l.length), 0 ≤ l[i] ∧ l[i] ≤ 15
theorem InK15.g {l : List Int} (h : InK15 l) (k : Nat) : 0 ≤ gK l k ∧ gK l k ≤ 15 := by
  by_cases hk : k < l.length
  · rw [← gK_get l k hk]; exact h k hk
  · simp [gK, Nat.le_of_not_lt hk]
theorem inK15_of {l : List Int} (h : ∀ k, 0 ≤ gK l k ∧ gK l k ≤ 15) : InK15 l := fun i hi => by rw [gK_get l i hi]; exact h i
theorem InK15.bump {l : List Int} (h : InK15 l) (k : Nat) : InK15 (bump l k) := by
  intro i hi
  have hi' : i < l.length := by rwa [bump_length] at hi
  have := h.g k
  simp only [Go.Proofs.Ythigmdocfjhdlaa.bump, List.getElem_set]
  split
  · omega
  · exact h i hi'
theorem InK15.add {l : List Int} (h : InK15 l) (key : ByteArray) : ∀ r, InK15 (addK l key r)
  | 0 => h
  | r + 1 => (h.add key r).bump _
theorem InK15.half {l : List Int} (h : InK15 l) : InK15 (halfK l) := by
  intro i hi
  have hi' : i < l.length := by rwa [halfK_length] at hi
  have := h i hi'
  simp only [halfK, List.getElem_map]
  omega
theorem OkK.in15 {l : List Int} {ad : Int} (h : OkK l ad) : InK15 l := h.2.2.2
theorem OkK.cnt {l : List Int} {ad : Int} (h : OkK l ad) (key : ByteArray) : OkK (cntK l ad key).1 (cntK l ad key).2 := by
  obtain ⟨h1, h2, h3, h4⟩ := h
  unfold cntK
  split
  · exact ⟨by rw [halfK_length, addK_length, h1], by omega, by omega, (InK15.add h4 key 3).half⟩
  · exact ⟨by rw [addK_length, h1], by dsimp only; omega, by dsimp only; omega, InK15.add h4 key 3⟩
theorem OkK.half {l : List Int} {ad : Int} (h : OkK l ad) : OkK (halfK l) ad := ⟨by rw [halfK_length, h.1], h.2.1, h.2.2.1, h.in15.half⟩
open Classical in
/-- What the makers answer, right or not. -/
noncomputable def cntR (l : List Int) (ad : Int) (key : ByteArray) : List Int × Int := if OkK l ad then cntK l ad key else (l, ad)
open Classical in
noncomputable def halR (l : List Int) (ad : Int) : List Int × Int := if OkK l ad then (halfK l, ad) else (l, ad)
open Classical in
noncomputable def gueR (l : List Int) (ad : Int) (key : ByteArray) : Int := if OkK l ad then leastK l key 3 else 0
theorem cntR_yes {l : List Int} {ad : Int} {key : ByteArray} (h : OkK l ad) : cntR l ad key = cntK l ad key := if_pos h
theorem cntR_no {l : List Int} {ad : Int} {key : ByteArray} (h : ¬ OkK l ad) : cntR l ad key = (l, ad) := if_neg h
theorem halR_yes {l : List Int} {ad : Int} (h : OkK l ad) : halR l ad = (halfK l, ad) := if_pos h
theorem halR_no {l : List Int} {ad : Int} (h : ¬ OkK l ad) : halR l ad = (l, ad) := if_neg h
theorem gueR_yes {l : List Int} {ad : Int} {key : ByteArray} (h : OkK l ad) : gueR l ad key = leastK l key 3 := if_pos h
theorem gueR_no {l : List Int} {ad : Int} {key : ByteArray} (h : ¬ OkK l ad) : gueR l ad key = 0 := if_neg h
theorem cntR_length (l : List Int) (ad : Int) (key : ByteArray) : (cntR l ad key).1.length = l.length := by
  by_cases h : OkK l ad
  · rw [cntR_yes h]
    unfold cntK
    split
    · rw [halfK_length, addK_length]
    · rw [addK_length]
  · rw [cntR_no h]
theorem halR_length (l : List Int) (ad : Int) : (halR l ad).1.length = l.length := by
  by_cases h : OkK l ad
  · rw [halR_yes h, halfK_length]
  · rw [halR_no h]
end Go.Proofs.Ythigmdocfjhdlaa
