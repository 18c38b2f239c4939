/- Rows of spots marked, and looked at for the marks. -/
import Derived.Test.YtdgpencendphbaaDoorSpt
namespace Go.Proofs.YtdgpencendphbaaDoor
open Go.RowKit
set_option linter.unusedVariables false

/-- The cell that is marked from k on. -/
def patP (k : Nat) : Sp := ((k : Int), (k : Int) + 1)
def patPs (k : Nat) : Nat → List Sp
  | 0 => []
  | n + 1 => patPs k n ++ [patP (k + 2 * n)]
theorem patPs_length (k n : Nat) : (patPs k n).length = n := by
  induction n with
  | zero => rfl
  | succ n ih => simp [patPs, ih]
theorem patPs_at (k : Nat) : ∀ (n i : Nat) (h : i < (patPs k n).length), (patPs k n)[i] = patP (k + 2 * i)
  | 0, i, h => by simp [patPs] at h
  | n + 1, i, h => by
    by_cases e : i < (patPs k n).length
    · simp only [patPs]; rw [List.getElem_append_left e]; exact patPs_at k n i e
    · simp only [patPs]
      rw [List.getElem_append_right (by omega)]
      have : i = n := by rw [patPs_length] at e h; omega
      subst this
      simp
/-- A row whose first cells are marked. -/
def mk2P (k : Nat) (xs : List Value) : Nat → List Value
  | 0 => xs
  | i + 1 => ((mk2P k xs i).set (i * 2) (.int .i64 (patP (k + 2 * i)).1)).set (i * 2 + 1) (.int .i64 (patP (k + 2 * i)).2)
theorem mk2P_length (k : Nat) (xs : List Value) : ∀ i, (mk2P k xs i).length = xs.length
  | 0 => rfl
  | i + 1 => by simp only [mk2P, List.length_set]; exact mk2P_length k xs i
theorem mk2P_eq (k : Nat) (xs : List Value) : ∀ i, i * 2 ≤ xs.length → mk2P k xs i = sps (patPs k i) ++ xs.drop (i * 2)
  | 0, _ => rfl
  | i + 1, h => by
    have hl := mk2P_length k xs i
    rw [mk2P, set2P _ _ _ _ (by omega), mk2P_eq k xs i (by omega), patPs, sps_append]
    have hs : (sps (patPs k i)).length = i * 2 := by rw [sps_length, patPs_length]
    rw [List.take_left' hs, List.drop_append, List.drop_eq_nil_of_le (by omega), hs, List.nil_append, List.drop_drop]
    rw [show i * 2 + (i * 2 + 2 - i * 2) = (i + 1) * 2 by omega]
    rfl
theorem mk2P_all (k n : Nat) (xs : List Value) (h : xs.length = n * 2) : mk2P k xs n = sps (patPs k n) := by
  rw [mk2P_eq k xs n (by omega), List.drop_eq_nil_of_le (by omega), List.append_nil]

set_option maxRecDepth 100000 in
set_option maxHeartbeats 1000000 in
theorem markSpotS_any (v : Value) (n k : Nat) (xs : List Value) (base : Nat) (w : World) (hn : n ≤ 1048576) (hk : k ≤ 33554432) (hk0 : 0 < k) (hown : w.ownsRow base 57 2 v n xs) :
    Calls Tryd.prog 52 #[v, .int .i64 k] w fun e w' => e = .returned (.int .i64 ((k : Int) + 2 * (n : Int))) ∧ w'.ownsRow base 57 2 v n (sps (patPs k n)) ∧ w.grownBy w' v.ownBlock := by
  have hxl := hown.1
  rcases hown.2 with ⟨rfl, rfl⟩ | ⟨g, cap, cur, rfl, hbg, hgg, _⟩
  · go_enter Tryd.func52, Tryd.ntmps52
    go_wp2
    refine wp_loop_rounds 1 ?_
    rw [rounds_succ]
    go_wp2
    go_ret
    exact ⟨by simp, by have : xs = [] := List.eq_nil_of_length_eq_zero (by omega); subst this; exact hown, World.grownBy.refl _ _⟩
  · have hgl := (Array.getElem?_eq_some_iff.1 hgg).1
    have HO := hide1 hown
    have HX := hide1 hxl
    clear hgg hown hxl
    go_enter Tryd.func52, Tryd.ntmps52
    go_wp2
    go_loopw [1, 5] (fun kv iv wr => ∃ i kk : Nat, i ≤ n ∧ iv = .int .i64 (i : Int) ∧ kv = .int .i64 (kk : Int) ∧ Hid (kk = k + 2 * i) ∧ 0 < kk ∧ kk ≤ 67108864 ∧ wr.ownsRow base 57 2 (.slice (some ⟨g, 0, none⟩) n cap) n (mk2P k xs i) ∧ w.grownBy wr (some g)) (fun _ iv _ => n - (intOf iv).toNat)
    case atStart => exact ⟨0, k, by omega, rfl, rfl, rfl, hk0, by omega, HO.out, World.grownBy.refl _ _⟩
    case round =>
      obtain ⟨i, kk, hi, rfl, rfl, hkk, hkp, hkm, hown1, hbel⟩ := hrel
      have hbs := hbel.size
      by_cases hlt : i < n
      · have k1 : (i : Int) < (n : Int) := by omega
        have o2 := hown1
        have B2 := hide1 hbel
        clear hown1 hbel
        obtain ⟨u2, x2⟩ := own_some o2 (i * 2) (by omega)
        obtain ⟨u3, x3⟩ := own_some o2 (i * 2 + 1) (by omega)
        have f2 := o2.frozenAt (i * 2)
        have f3 := o2.frozenAt (i * 2 + 1)
        have ST5 := hide1 (World.ownsRow.stored (World.ownsRow.stored o2 (i * 2) (.int .i64 (kk : Int))).1 (i * 2 + 1) (.int .i64 ((kk : Int) + 1))).1
        have B5 := hide1 (gset (gset B2.out (i * 2) (.int .i64 (kk : Int))) (i * 2 + 1) (.int .i64 ((kk : Int) + 1)))
        clear o2 B2
        go_wp2
        go_roundw
        case rel =>
          refine ⟨i + 1, kk + 2, by omega, by go_num, by go_num, ?_, by omega, by have := hkk.out; omega, ?_, B5.out⟩
          · show kk + 2 = k + 2 * (i + 1); have := hkk.out; omega
          · have st := ST5.out
            rw [hkk.out] at st
            rw [hkk.out]
            exact st
        case measure => simp [intOf]; omega
      · obtain rfl : i = n := by omega
        go_wp2
        go_ret
        rw [mk2P_all k i xs HX.out] at hown1
        exact ⟨by rw [hkk.out]; simp, hown1, hbel⟩

set_option maxRecDepth 100000 in
set_option maxHeartbeats 1000000 in
theorem heldSpotS_any (ao : Option Addr) (n ca k : Nat) (w : World) (hn : n ≤ 1048576) (hk : k ≤ 33554432) (hk0 : 0 < k) (hA : RdP w ao (patPs k n)) :
    Calls Tryd.prog 53 #[.slice ao n ca, .int .i64 k] w fun e w' => e = .returned (.int .i64 ((k : Int) + 2 * (n : Int))) ∧ Below w.heap.size w w' := by
  have HA := hide1 hA
  clear hA
  go_enter Tryd.func53, Tryd.ntmps53
  go_wp2
  go_loopw [1, 5] (fun kv iv wr => ∃ i kk : Nat, i ≤ n ∧ iv = .int .i64 (i : Int) ∧ kv = .int .i64 (kk : Int) ∧ Hid (kk = k + 2 * i) ∧ 0 < kk ∧ kk ≤ 67108864 ∧ Below w.heap.size w wr) (fun _ iv _ => n - (intOf iv).toNat)
  case atStart => exact ⟨0, k, by omega, rfl, rfl, rfl, hk0, by omega, Below.refl _ _⟩
  case round =>
    obtain ⟨i, kk, hi, rfl, rfl, hkk, hkp, hkm, hbel⟩ := hrel
    have hbs := hbel.size
    by_cases hlt : i < n
    · have k1 : (i : Int) < (n : Int) := by omega
      obtain ⟨g, rfl, hg, h1⟩ := HA.out.at i (by rw [patPs_length]; exact hlt)
      rw [patPs_at, ← hkk.out] at h1
      obtain ⟨x2, x3⟩ := h1.below hbel hg
      simp only [patP] at x2 x3
      clear h1
      have e2 : ((kk : Int) != (kk : Int)) = false := by simp
      have e3 : ((kk : Int) + 1 != (kk : Int) + 1) = false := by simp
      go_wp2
      go_roundw
      case rel => exact ⟨i + 1, kk + 2, by omega, by go_num, by go_num, by show kk + 2 = k + 2 * (i + 1); have := hkk.out; omega, by omega, by have := hkk.out; omega, hbel⟩
      case measure => simp [intOf]; omega
    · obtain rfl : i = n := by omega
      go_wp2
      go_ret
      exact ⟨by rw [hkk.out]; simp, hbel⟩
end Go.Proofs.YtdgpencendphbaaDoor
