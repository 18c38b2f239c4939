/- Seeking a key among cells, plain and by the model. -/
import Derived.Test.YtenmpciimocggaaGreatXHH
import Derived.Test.YtenmpciimocggaaGreatXC
import Derived.Test.YtenmpciimocggaaGreatRoom
import Derived.Deep.Cut
namespace Go.Proofs.YtenmpciimocggaaGreat
open Go.RowKit

/-- What one cell on the way says: found here, not there at all, or go on. -/
def stepS (l : List Ce) (key : ByteArray) (p : Nat) : Option (Option Nat) :=
  match l[p]? with
  | some x => if x.key.toList = key.toList ∧ 0 ≤ x.h then some (some p) else if x.key.toList = [] ∧ x.h = -1 then some none else none
  | none => some none
def seekD (l : List Ce) (key : ByteArray) (p : Nat) : Nat → Nat → Option Nat
  | _, 0 => none
  | i, d + 1 => match stepS l key ((p + i) % l.length) with
    | some r => r
    | none => seekD l key p (i + 1) d
/-- The place of a key among cells. -/
def seekC (l : List Ce) (key : ByteArray) : Option Nat := seekD l key (hashN key 0 % l.length) 0 l.length
def optI : Option Nat → Int
  | none => -1
  | some k => (k : Int)
theorem seekD_lt {l : List Ce} {key : ByteArray} {p : Nat} : ∀ (d i k : Nat), seekD l key p i d = some k → k < l.length
  | 0, _, _, h => by cases h
  | d + 1, i, k, h => by
    rw [seekD] at h
    have hs : ∀ r, stepS l key ((p + i) % l.length) = some (some r) → r < l.length := by
      intro r hr
      unfold stepS at hr
      split at hr
      · rename_i x hx
        split at hr
        · injection hr with hr; injection hr with hr; rw [← hr]; exact (List.getElem?_eq_some_iff.1 hx).1
        · split at hr <;> cases hr
      · cases hr
    split at h
    · rename_i r hr; subst h; exact hs k hr
    · exact seekD_lt d (i + 1) k h

theorem l04Size_any (n : Nat) (w : World) : Calls Tryz.prog 35 #[.int .i64 (n : Int)] w fun e w' => ∃ x : Bool, e = .returned (.bool x) ∧ (x = true ↔ n = 4 ∨ n = 8 ∨ n = 16 ∨ n = 32 ∨ n = 64) ∧ w = w' := by
  by_cases c1 : n = 4
  · subst c1
    go_enter Tryz.func35, Tryz.ntmps35
    go_wp2
    go_ret
    first | exact ⟨true, rfl, by simp, rfl⟩ | exact .inr ⟨rfl, by simp, rfl⟩
  · by_cases c2 : n = 8
    · subst c2
      go_enter Tryz.func35, Tryz.ntmps35
      go_wp2
      go_ret
      exact ⟨true, rfl, by simp, rfl⟩
    · by_cases c3 : n = 16
      · subst c3
        go_enter Tryz.func35, Tryz.ntmps35
        go_wp2
        go_ret
        exact ⟨true, rfl, by simp, rfl⟩
      · by_cases c4 : n = 32
        · subst c4
          go_enter Tryz.func35, Tryz.ntmps35
          go_wp2
          go_ret
          exact ⟨true, rfl, by simp, rfl⟩
        · by_cases c5 : n = 64
          · subst c5
            go_enter Tryz.func35, Tryz.ntmps35
            go_wp2
            go_ret
            exact ⟨true, rfl, by simp, rfl⟩
          · have q1 : ((n : Int) == 4) = false := by simp; omega
            have q2 : ((n : Int) == 8) = false := by simp; omega
            have q3 : ((n : Int) == 16) = false := by simp; omega
            have q4 : ((n : Int) == 32) = false := by simp; omega
            have q5 : ((n : Int) == 64) = false := by simp; omega
            have HN := hide1 (show ¬ (n = 4 ∨ n = 8 ∨ n = 16 ∨ n = 32 ∨ n = 64) by omega)
            clear c1 c2 c3 c4 c5
            go_enter Tryz.func35, Tryz.ntmps35
            go_wp2
            go_ret
            first | exact ⟨false, rfl, ⟨(fun h => by cases h), fun h => absurd h HN.out⟩, rfl⟩ | exact .inl ⟨rfl, HN.out, rfl⟩

end Go.Proofs.YtenmpciimocggaaGreat
namespace Go.Proofs.YtenmpciimocggaaGreat
open Go.RowKit

/-- A cell without a key that nobody took. -/
def isNone (x : Ce) : Prop := x.key.toList = [] ∧ x.h = -1
/-- What is asked of cell i. -/
def okC (l : List Ce) (i : Nat) (x : Ce) : Prop := (x.key.toList = [] → x.h = -1 ∨ x.h = -2) ∧ (x.key.toList ≠ [] → x.key.size ≤ 12 ∧ 0 ≤ x.h ∧ seekC l x.key = some i)
/-- Cells are right by themselves. -/
def RightC (l : List Ce) (need : Bool) : Prop := (∀ i (h : i < l.length), okC l i l[i]) ∧ (need = true → ∃ i, ∃ h : i < l.length, isNone l[i])

end Go.Proofs.YtenmpciimocggaaGreat
namespace Go.Proofs.YtenmpciimocggaaGreat
open Go.RowKit

/-- What is asked of cell i of Old. -/
def okOld (l : List Ce) (mv : Int) (i : Nat) (x : Ce) : Prop := ((i : Int) < mv → x.key.toList = [] ∧ x.h = -2) ∧ (x.key.toList ≠ [] → seekC l x.key = none)
/-- A table is right. -/
structure OkT (l o : List Ce) (mv : Int) : Prop where
  size : l.length = 4 ∨ l.length = 8 ∨ l.length = 16 ∨ l.length = 32 ∨ l.length = 64
  half : o.length = 0 ∨ 2 * o.length = l.length
  moved : 0 ≤ mv ∧ mv ≤ (o.length : Int)
  cells : RightC l true
  olds : RightC o false
  old : ∀ i (h : i < o.length), okOld l mv i o[i]

end Go.Proofs.YtenmpciimocggaaGreat
namespace Go.Proofs.YtenmpciimocggaaGreat
open Go.RowKit

/-- The handle of a key, in cells or old ones. -/
def seekT (l o : List Ce) (key : ByteArray) : Option Int :=
  match seekC l key with
  | some k => (l[k]?).map (·.h)
  | none => match seekC o key with
    | some k => (o[k]?).map (·.h)
    | none => none
/-- What SeekKey answers. -/
def SeekA (l o : List Ce) (mv : Int) (key : ByteArray) (h : Int) (t : Bool) : Prop := (t = true ∧ OkT l o mv ∧ key.toList ≠ [] ∧ seekT l o key = some h) ∨ (t = false ∧ h = 0 ∧ ¬ (OkT l o mv ∧ key.toList ≠ [] ∧ ∃ x, seekT l o key = some x))
theorem SeekA.det {l o : List Ce} {mv : Int} {key : ByteArray} {h h' : Int} {t t' : Bool} (x : SeekA l o mv key h t) (y : SeekA l o mv key h' t') : h = h' ∧ t = t' := by
  rcases x with ⟨rfl, x1, x2, x3⟩ | ⟨rfl, rfl, x1⟩ <;> rcases y with ⟨rfl, y1, y2, y3⟩ | ⟨rfl, rfl, y1⟩
  · rw [x3] at y3; injection y3 with y3; exact ⟨y3, rfl⟩
  · exact absurd ⟨x1, x2, h, x3⟩ y1
  · exact absurd ⟨y1, y2, h', y3⟩ x1
  · exact ⟨rfl, rfl⟩

end Go.Proofs.YtenmpciimocggaaGreat
