/- Seeking a key, by the program. -/
import Derived.Test.YtenmpciimocggaaXE
import Derived.ScopeJumps
import Derived.WalkMore
import Derived.BigQuiet
namespace Go.Proofs.Ytenmpciimocggaa
open Go.RowKit

/-- A scope whose label is jumped to from ahead of it. -/
theorem wp_scope_fwd {P : Program} {a : Act} {w : World} {Q : Exit → Act → World → Prop} {c rest : Code} (l : Nat) (hf : findLabel c l = some rest)
    (h : ∀ Q1 : Exit → Act → World → Prop, (∀ a w, Q .ret a w → Q1 .ret a w) → (∀ a w, Q .normal a w → Q1 .normal a w) → (∀ a w, rest.wp P (Exit.noGoto Q) a w → Q1 (.goto l) a w) → c.wp P Q1 a w) : (Code.scope c).wp P Q a w := by
  refine wp_scope_jumps l (fun a w => rest.wp P (Exit.noGoto Q) a w) (fun _ _ => 0) hf ?_ ?_
  · exact h _ (fun _ _ x => x) (fun _ _ x => x) (fun _ _ x => ⟨rfl, x⟩)
  · intro a w hj
    refine Code.wp_mono ?_ hj
    intro e a w x
    cases e <;> first | exact x | exact x.elim

end Go.Proofs.Ytenmpciimocggaa
namespace Go.Proofs.Ytenmpciimocggaa
open Go.RowKit

theorem sizeFits_any (n : Int) (w : World) : Calls Try.prog 36 #[.int .i64 n] w fun e w' => ∃ x : Bool, e = .returned (.bool x) ∧ (x = true ↔ n = 4 ∨ n = 8 ∨ n = 16 ∨ n = 32 ∨ n = 64) ∧ w = w' := by
  by_cases c0 : n = 4
  · subst c0
    go_enter Try.func36, Try.ntmps36
    go_wp2
    go_ret
    first | exact ⟨true, rfl, by simp, rfl⟩ | exact .inr ⟨rfl, by simp, rfl⟩
  · have q0 : (n == 4) = false := by simpa using c0
    by_cases c1 : n = 8
    · subst c1
      clear c0
      go_enter Try.func36, Try.ntmps36
      go_wp2
      go_ret
      first | exact ⟨true, rfl, by simp, rfl⟩ | exact .inr ⟨rfl, by simp, rfl⟩
    · have q1 : (n == 8) = false := by simpa using c1
      by_cases c2 : n = 16
      · subst c2
        clear c0
        clear c1
        go_enter Try.func36, Try.ntmps36
        go_wp2
        go_ret
        first | exact ⟨true, rfl, by simp, rfl⟩ | exact .inr ⟨rfl, by simp, rfl⟩
      · have q2 : (n == 16) = false := by simpa using c2
        by_cases c3 : n = 32
        · subst c3
          clear c0
          clear c1
          clear c2
          go_enter Try.func36, Try.ntmps36
          go_wp2
          go_ret
          first | exact ⟨true, rfl, by simp, rfl⟩ | exact .inr ⟨rfl, by simp, rfl⟩
        · have q3 : (n == 32) = false := by simpa using c3
          by_cases c4 : n = 64
          · subst c4
            clear c0
            clear c1
            clear c2
            clear c3
            go_enter Try.func36, Try.ntmps36
            go_wp2
            go_ret
            first | exact ⟨true, rfl, by simp, rfl⟩ | exact .inr ⟨rfl, by simp, rfl⟩
          · have q4 : (n == 64) = false := by simpa using c4
            have HN := hide1 (show ¬ (n = 4 ∨ n = 8 ∨ n = 16 ∨ n = 32 ∨ n = 64) by omega)
            clear c0 c1 c2 c3 c4
            go_enter Try.func36, Try.ntmps36
            go_wp2
            go_ret
            first | exact ⟨false, rfl, ⟨(fun h => by cases h), fun h => absurd h HN.out⟩, rfl⟩ | exact .inl ⟨rfl, HN.out, rfl⟩

theorem specSize_any (n : Int) (w : World) : Calls Try.prog 32 #[.int .i64 n] w fun e w' => ∃ x : Bool, e = .returned (.bool x) ∧ (x = true ↔ n = 4 ∨ n = 8 ∨ n = 16 ∨ n = 32 ∨ n = 64) ∧ w = w' := by
  by_cases c0 : n = 4
  · subst c0
    go_enter Try.func32, Try.ntmps32
    go_wp2
    go_ret
    first | exact ⟨true, rfl, by simp, rfl⟩ | exact .inr ⟨rfl, by simp, rfl⟩
  · have q0 : (n == 4) = false := by simpa using c0
    by_cases c1 : n = 8
    · subst c1
      clear c0
      go_enter Try.func32, Try.ntmps32
      go_wp2
      go_ret
      first | exact ⟨true, rfl, by simp, rfl⟩ | exact .inr ⟨rfl, by simp, rfl⟩
    · have q1 : (n == 8) = false := by simpa using c1
      by_cases c2 : n = 16
      · subst c2
        clear c0
        clear c1
        go_enter Try.func32, Try.ntmps32
        go_wp2
        go_ret
        first | exact ⟨true, rfl, by simp, rfl⟩ | exact .inr ⟨rfl, by simp, rfl⟩
      · have q2 : (n == 16) = false := by simpa using c2
        by_cases c3 : n = 32
        · subst c3
          clear c0
          clear c1
          clear c2
          go_enter Try.func32, Try.ntmps32
          go_wp2
          go_ret
          first | exact ⟨true, rfl, by simp, rfl⟩ | exact .inr ⟨rfl, by simp, rfl⟩
        · have q3 : (n == 32) = false := by simpa using c3
          by_cases c4 : n = 64
          · subst c4
            clear c0
            clear c1
            clear c2
            clear c3
            go_enter Try.func32, Try.ntmps32
            go_wp2
            go_ret
            first | exact ⟨true, rfl, by simp, rfl⟩ | exact .inr ⟨rfl, by simp, rfl⟩
          · have q4 : (n == 64) = false := by simpa using c4
            have HN := hide1 (show ¬ (n = 4 ∨ n = 8 ∨ n = 16 ∨ n = 32 ∨ n = 64) by omega)
            clear c0 c1 c2 c3 c4
            go_enter Try.func32, Try.ntmps32
            go_wp2
            go_ret
            first | exact ⟨false, rfl, ⟨(fun h => by cases h), fun h => absurd h HN.out⟩, rfl⟩ | exact .inl ⟨rfl, HN.out, rfl⟩

/-- A key that an entry may have. -/
def keyOk (k : ByteArray) : Bool := decide (1 ≤ k.size) && decide (k.size ≤ 12)
theorem keyOk_iff (k : ByteArray) : keyOk k = true ↔ 1 ≤ k.size ∧ k.size ≤ 12 := by simp [keyOk]
theorem size_toList (k : ByteArray) : k.toList.length = k.size := by rw [ByteArray.toList_eq]; simp
theorem keyOk_ne {k : ByteArray} (h : keyOk k = true) : k.toList ≠ [] := by
  intro e
  have := size_toList k
  rw [e] at this
  have := (keyOk_iff k).1 h
  simp at *
  omega
theorem size_pos {k : ByteArray} (h : k.toList ≠ []) : 1 ≤ k.size := by
  have := size_toList k
  have := List.length_pos_iff.2 h
  omega

end Go.Proofs.Ytenmpciimocggaa
namespace Go.Proofs.Ytenmpciimocggaa
open Go.RowKit

theorem optI_eq {a : Option Nat} {i : Nat} : optI a = (i : Int) ↔ a = some i := by
  cases a with
  | none => simp [optI]
  | some k => simp [optI]; omega
theorem optI_neg {a : Option Nat} : optI a = -1 ↔ a = none := by
  cases a with
  | none => simp [optI]
  | some k => simp [optI]
theorem fit_small {l : List Ce} (h : FitC l) (i : Nat) (hi : i < l.length) : l[i].key.size ≤ 12 := by
  rcases h i hi with ⟨e, _⟩ | ⟨_, e, _⟩
  · have := size_toList l[i].key
    rw [e] at this
    simp at this
    omega
  · exact e

end Go.Proofs.Ytenmpciimocggaa
namespace Go.Proofs.Ytenmpciimocggaa
open Go.RowKit

theorem below_dr {B : Nat} {a w : World} (h : Below B a w) (q : Nat) : Below B a (w.drewN q) := by
  induction q generalizing w with
  | zero => exact h
  | succ q ih => exact (ih h).drew

end Go.Proofs.Ytenmpciimocggaa
