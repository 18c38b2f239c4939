/- The contracts of the functions that mark rows of a table's cells, and look for the marks. -/
import Derived.Test.YtahglnojllkjdaaTabE
namespace Go.Proofs.Ytahglnojllkjdaa
open Go.RowKit

/-- The cell that is marked from k on. -/
def patC (k : Nat) : Ce := ⟨mkT k, (k : Int) + 1⟩
def patCs (k : Nat) : Nat → List Ce
  | 0 => []
  | n + 1 => patCs k n ++ [patC (k + 2 * n)]
theorem patCs_length (k n : Nat) : (patCs k n).length = n := by
  induction n with
  | zero => rfl
  | succ n ih => simp [patCs, ih]
theorem patCs_at (k : Nat) : ∀ (n i : Nat) (h : i < (patCs k n).length), (patCs k n)[i] = patC (k + 2 * i)
  | 0, i, h => by simp [patCs] at h
  | n + 1, i, h => by
    by_cases e : i < (patCs k n).length
    · simp only [patCs]; rw [List.getElem_append_left e]; exact patCs_at k n i e
    · simp only [patCs]
      rw [List.getElem_append_right (by omega)]
      have : i = n := by rw [patCs_length] at e h; omega
      subst this
      simp
/-- A row whose first cells are marked. -/
def mk2 (k : Nat) (xs : List Value) : Nat → List Value
  | 0 => xs
  | i + 1 => ((mk2 k xs i).set (i * 2) (.string (patC (k + 2 * i)).key)).set (i * 2 + 1) (.int .i64 (patC (k + 2 * i)).h)
theorem mk2_length (k : Nat) (xs : List Value) : ∀ i, (mk2 k xs i).length = xs.length
  | 0 => rfl
  | i + 1 => by simp only [mk2, List.length_set]; exact mk2_length k xs i
theorem mk2_eq (k : Nat) (xs : List Value) : ∀ i, i * 2 ≤ xs.length → mk2 k xs i = ces (patCs k i) ++ xs.drop (i * 2)
  | 0, _ => rfl
  | i + 1, h => by
    have hl := mk2_length k xs i
    rw [mk2, set2 _ _ _ _ (by omega), mk2_eq k xs i (by omega), patCs, ces_append]
    have hs : (ces (patCs k i)).length = i * 2 := by rw [ces_length, patCs_length]
    rw [List.take_left' hs, List.drop_append, List.drop_eq_nil_of_le (by omega), hs, List.nil_append, List.drop_drop]
    rw [show i * 2 + (i * 2 + 2 - i * 2) = (i + 1) * 2 by omega]
    rfl
theorem mk2_all (k n : Nat) (xs : List Value) (h : xs.length = n * 2) : mk2 k xs n = ces (patCs k n) := by
  rw [mk2_eq k xs n (by omega), List.drop_eq_nil_of_le (by omega), List.append_nil]

set_option maxRecDepth 100000 in
set_option maxHeartbeats 1000000 in
theorem markCellS_any (v : Value) (n k : Nat) (xs : List Value) (base : Nat) (w : World) (hn : n ≤ 1048576) (hk : k ≤ 4194304) (hk0 : 0 < k) (hown : w.ownsRow base 65 2 v n xs) :
    Calls Try.prog 48 #[v, .int .i64 k] w fun e w' => e = .returned (.int .i64 ((k : Int) + 2 * (n : Int))) ∧ w'.ownsRow base 65 2 v n (ces (patCs k n)) ∧ w.grownBy w' v.ownBlock := by
  have hxl := hown.1
  rcases hown.2 with ⟨rfl, rfl⟩ | ⟨g, cap, cur, rfl, hbg, hgg, _⟩
  · go_enter Try.func48, Try.ntmps48
    go_wp2
    refine wp_loop_rounds 1 ?_
    rw [rounds_succ]
    go_wp2
    go_ret
    exact ⟨by simp, by have : xs = [] := List.eq_nil_of_length_eq_zero (by omega); subst this; exact hown, World.grownBy.refl _ _⟩
  · have hgl := (Array.getElem?_eq_some_iff.1 hgg).1
    have HO := hide1 hown
    have HX := hide1 hxl
    clear hgg hown hxl
    go_enter Try.func48, Try.ntmps48
    go_wp2
    go_loopw [1, 5] (fun kv iv wr => ∃ i kk : Nat, i ≤ n ∧ iv = .int .i64 (i : Int) ∧ kv = .int .i64 (kk : Int) ∧ Hid (kk = k + 2 * i) ∧ 0 < kk ∧ kk ≤ 10485760 ∧ wr.ownsRow base 65 2 (.slice (some ⟨g, 0, none⟩) n cap) n (mk2 k xs i) ∧ w.grownBy wr (some g)) (fun _ iv _ => n - (intOf iv).toNat)
    case atStart => exact ⟨0, k, by omega, rfl, rfl, rfl, hk0, by omega, HO.out, World.grownBy.refl _ _⟩
    case round =>
      obtain ⟨i, kk, hi, rfl, rfl, hkk, hkp, hkm, hown1, hbel⟩ := hrel
      have hbs := hbel.size
      by_cases hlt : i < n
      · have k1 : (i : Int) < (n : Int) := by omega
        have C2 := hide1 (fun (w : World) => markText_any kk w (by omega) (by omega))
        have ST := hide1 hown1
        have B1 := hide1 hbel
        clear hown1 hbel
        go_wp2_with fail
        refine (C2.out _).mono ?_
        rintro e w2 ⟨rfl, hb2⟩
        have o2 := own_kept ST.out hb2
        have B2 := hide1 (B1.out.trans (gnew hb2))
        obtain ⟨u2, x2⟩ := own_some o2 (i * 2) (by omega)
        obtain ⟨u3, x3⟩ := own_some o2 (i * 2 + 1) (by omega)
        have f2 := o2.frozenAt (i * 2)
        have f3 := o2.frozenAt (i * 2 + 1)
        obtain ⟨z2, hz2⟩ : ∃ z, z = mkT kk := ⟨_, rfl⟩
        rw [← hz2]
        have Z2 := hide1 hz2
        have ST5 := hide1 (World.ownsRow.stored (World.ownsRow.stored o2 (i * 2) (.string z2)).1 (i * 2 + 1) (.int .i64 ((kk : Int) + 1))).1
        have B5 := hide1 (gset (gset B2.out (i * 2) (.string z2)) (i * 2 + 1) (.int .i64 ((kk : Int) + 1)))
        clear o2 hb2 hz2 ST B1 B2 C2
        go_wp2
        go_roundw
        case rel =>
          refine ⟨i + 1, kk + 2, by omega, by go_num, by go_num, ?_, by omega, by have := hkk.out; omega, ?_, B5.out⟩
          · show kk + 2 = k + 2 * (i + 1); have := hkk.out; omega
          · have st := ST5.out
            rw [Z2.out, hkk.out] at st
            rw [Z2.out, hkk.out]
            exact st
        case measure => simp [intOf]; omega
      · obtain rfl : i = n := by omega
        go_wp2
        go_ret
        rw [mk2_all k i xs HX.out] at hown1
        exact ⟨by rw [hkk.out]; simp, hown1, hbel⟩

set_option maxRecDepth 100000 in
set_option maxHeartbeats 1000000 in
theorem heldCellS_any (ao : Option Addr) (n ca k : Nat) (w : World) (hn : n ≤ 1048576) (hk : k ≤ 4194304) (hk0 : 0 < k) (hA : RdC w ao (patCs k n)) :
    Calls Try.prog 49 #[.slice ao n ca, .int .i64 k] w fun e w' => e = .returned (.int .i64 ((k : Int) + 2 * (n : Int))) ∧ Below w.heap.size w w' := by
  have HA := hide1 hA
  clear hA
  go_enter Try.func49, Try.ntmps49
  go_wp2
  go_loopw [1, 5] (fun kv iv wr => ∃ i kk : Nat, i ≤ n ∧ iv = .int .i64 (i : Int) ∧ kv = .int .i64 (kk : Int) ∧ Hid (kk = k + 2 * i) ∧ 0 < kk ∧ kk ≤ 10485760 ∧ Below w.heap.size w wr) (fun _ iv _ => n - (intOf iv).toNat)
  case atStart => exact ⟨0, k, by omega, rfl, rfl, rfl, hk0, by omega, Below.refl _ _⟩
  case round =>
    obtain ⟨i, kk, hi, rfl, rfl, hkk, hkp, hkm, hbel⟩ := hrel
    have hbs := hbel.size
    by_cases hlt : i < n
    · have k1 : (i : Int) < (n : Int) := by omega
      obtain ⟨g, rfl, hg, h1⟩ := HA.out.at i (by rw [patCs_length]; exact hlt)
      rw [patCs_at, ← hkk.out] at h1
      obtain ⟨x2, x3⟩ := h1.below hbel hg
      simp only [patC] at x2 x3
      obtain ⟨z2, hz2⟩ : ∃ z, z = mkT kk := ⟨_, rfl⟩
      have C2 := hide1 (fun (w : World) => show Calls Try.prog 67 #[.int .i64 (kk : Int)] w (fun e w' => e = .returned (.string z2) ∧ Below w.heap.size w w') by rw [hz2]; exact markText_any kk w (by omega) (by omega))
      rw [← hz2] at x2
      clear hz2 h1
      have e2 : (z2.toList == z2.toList) = true := by simp
      have e3 : ((kk : Int) + 1 != (kk : Int) + 1) = false := by simp
      have hgr : g < wr.heap.size := Nat.lt_of_lt_of_le hg hbs
      go_wp2
      go_region_held3 (fun w' => w'.cell? ⟨g, i * 2, none⟩ = some (.string z2) ∧ w'.cell? ⟨g, i * 2 + 1, none⟩ = some (.int .i64 ((kk : Int) + 1))) (first | go_keep | exact ⟨(hb2.cell hgr).trans x2, (hb2.cell hgr).trans x3⟩) ((go_at_call 67; refine (C2.out _).mono ?_; rintro e w2 ⟨rfl, hb2⟩))
      have y3 : w2.cell? ⟨g, i * 2 + 1, none⟩ = some (.int .i64 ((kk : Int) + 1)) := (hb2.cell hgr).trans x3
      have hb3 := hide1 (hbel.trans ((Below.refl _ _).drew.trans (hb2.mono hbel.size)))
      clear hb2 x2 x3 C2
      go_wp2
      go_roundw
      case rel => exact ⟨i + 1, kk + 2, by omega, by go_num, by go_num, by show kk + 2 = k + 2 * (i + 1); have := hkk.out; omega, by omega, by have := hkk.out; omega, hb3.out⟩
      case measure => simp [intOf]; omega
    · obtain rfl : i = n := by omega
      go_wp2
      go_ret
      exact ⟨by rw [hkk.out]; simp, hbel⟩
end Go.Proofs.Ytahglnojllkjdaa
