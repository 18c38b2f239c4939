/- The contracts of the statements' functions that mark rows of slots and look whether the marks are held. -/
import Derived.Test.YtjbcmendifoklaaArenaE
import Derived.Test.YtjbcmendifoklaaMark
namespace Go.Proofs.Ytjbcmendifoklaa
open Go.RowKit

theorem own_kept {w w' : World} {base n size : Nat} {e : TypeId} {v : Value} {xs : List Value} (h : w.ownsRow base e size v n xs) (hB : Below w.heap.size w w') : w'.ownsRow base e size v n xs := by
  refine ⟨h.1, ?_⟩
  rcases h.2 with h2 | ⟨g, cap, cur, hv, hg, hh, r⟩
  · exact .inl h2
  · exact .inr ⟨g, cap, cur, hv, hg, by rw [hB.block g (Array.getElem?_eq_some_iff.1 hh).1]; exact hh, r⟩
theorem own_some {w : World} {base n size g cap : Nat} {e : TypeId} {xs : List Value} (h : w.ownsRow base e size (.slice (some ⟨g, 0, none⟩) n cap) n xs) (j : Nat) (hj : j < n * size) : ∃ u, w.cell? ⟨g, j, none⟩ = some u :=
  ⟨xs[j]'(by have := h.1; omega), (h.cellAt j hj).trans (List.getElem?_eq_getElem _)⟩

theorem gset {w w' : World} {g : Nat} (h : w.grownBy w' (some g)) (j : Nat) (u : Value) : w.grownBy (w'.setCell ⟨g, j, none⟩ u) (some g) :=
  ⟨h.os, h.tape, h.output, by have := h.size; simpa using this, fun k hk hne => by rw [Below.heap_setCell _ _ _ _ (fun e => hne (by rw [e]))]; exact h.block k hk hne⟩
theorem gnew {w w' : World} {r : Option Nat} (h : Below w.heap.size w w') : w.grownBy w' r := ⟨h.os, h.tape, h.output, h.size, fun k hk _ => h.block k hk⟩
theorem gbelow {w w' : World} {r : Option Nat} {B : Nat} (h : w.grownBy w' r) (hB : ∀ g, r = some g → B ≤ g) (hs : B ≤ w.heap.size) : Below B w w' :=
  ⟨h.os, h.tape, h.output, h.size, fun k hk => h.block k (by omega) (fun e => by have := hB k e.symm; omega)⟩

/-- The slot that is marked from k on. -/
def patS (k : Nat) : Sl := ⟨(k : Int), (((k : Int) + 1) % 3 == 0), mkT (k + 2), mkT (k + 3), (k : Int) + 4⟩
def patL (k : Nat) : Nat → List Sl
  | 0 => []
  | n + 1 => patL k n ++ [patS (k + 5 * n)]
theorem patL_length (k n : Nat) : (patL k n).length = n := by
  induction n with
  | zero => rfl
  | succ n ih => simp [patL, ih]
theorem patL_at (k : Nat) : ∀ (n i : Nat) (h : i < (patL k n).length), (patL k n)[i] = patS (k + 5 * i)
  | 0, i, h => by simp [patL] at h
  | n + 1, i, h => by
    by_cases e : i < (patL k n).length
    · simp only [patL]; rw [List.getElem_append_left e]; exact patL_at k n i e
    · simp only [patL]
      rw [List.getElem_append_right (by omega)]
      have : i = n := by rw [patL_length] at e h; omega
      subst this
      simp
/-- A row whose first slots are marked. -/
def mk5 (k : Nat) (xs : List Value) : Nat → List Value
  | 0 => xs
  | i + 1 => (((((mk5 k xs i).set (i * 5) (.int .i64 (patS (k + 5 * i)).gen)).set (i * 5 + 1) (.bool (patS (k + 5 * i)).used)).set (i * 5 + 2) (.string (patS (k + 5 * i)).key)).set (i * 5 + 3) (.string (patS (k + 5 * i)).val)).set (i * 5 + 4) (.int .i64 (patS (k + 5 * i)).next)
theorem set5 (xs : List Value) (m : Nat) (a b c d e : Value) (h : m + 5 ≤ xs.length) : ((((xs.set m a).set (m + 1) b).set (m + 2) c).set (m + 3) d).set (m + 4) e = xs.take m ++ [a, b, c, d, e] ++ xs.drop (m + 5) := by
  refine List.ext_getElem? fun j => ?_
  simp only [List.getElem?_set, List.length_set]
  rcases Nat.lt_or_ge j m with h1 | h1
  · rw [if_neg (by omega), if_neg (by omega), if_neg (by omega), if_neg (by omega), if_neg (by omega), List.append_assoc, List.getElem?_append_left (by simp; omega), List.getElem?_take_of_lt h1]
  · rcases Nat.lt_or_ge j (m + 5) with h2 | h2
    · obtain ⟨q, rfl⟩ : ∃ q, j = m + q := ⟨j - m, by omega⟩
      rw [List.append_assoc, List.getElem?_append_right (by simp; omega)]
      have hl : (xs.take m).length = m := by simp; omega
      rw [hl, Nat.add_sub_cancel_left]
      match q, h2 with
      | 0, _ => simp; omega
      | 1, _ => simp; omega
      | 2, _ => simp; omega
      | 3, _ => simp; omega
      | 4, _ => simp; omega
      | q + 5, h => omega
    · rw [if_neg (by omega), if_neg (by omega), if_neg (by omega), if_neg (by omega), if_neg (by omega), List.getElem?_append_right (by simp; omega)]
      have hl : (xs.take m ++ [a, b, c, d, e]).length = m + 5 := by simp; omega
      rw [hl, List.getElem?_drop]
      congr 1
      omega
theorem mk5_length (k : Nat) (xs : List Value) : ∀ i, (mk5 k xs i).length = xs.length
  | 0 => rfl
  | i + 1 => by simp only [mk5, List.length_set]; exact mk5_length k xs i
theorem mk5_eq (k : Nat) (xs : List Value) : ∀ i, i * 5 ≤ xs.length → mk5 k xs i = sls (patL k i) ++ xs.drop (i * 5)
  | 0, _ => rfl
  | i + 1, h => by
    have hl := mk5_length k xs i
    rw [mk5, set5 _ _ _ _ _ _ _ (by omega), mk5_eq k xs i (by omega), patL, sls_append]
    have hs : (sls (patL k i)).length = i * 5 := by rw [sls_length, patL_length]
    rw [List.take_left' hs, List.drop_append, List.drop_eq_nil_of_le (by omega), hs, List.nil_append, List.drop_drop]
    rw [show i * 5 + (i * 5 + 5 - i * 5) = (i + 1) * 5 by omega]
    rfl
theorem mk5_all (k n : Nat) (xs : List Value) (h : xs.length = n * 5) : mk5 k xs n = sls (patL k n) := by
  rw [mk5_eq k xs n (by omega), List.drop_eq_nil_of_le (by omega), List.append_nil]

/-- What an own row holds is read there. -/
theorem rdA_of_own {w : World} {base ca : Nat} {e : TypeId} {ao : Option Addr} {l : List Sl} (h : w.ownsRow base e 5 (.slice ao l.length ca) l.length (sls l)) : RdA w ao l := by
  rcases h.2 with ⟨hv, h0⟩ | ⟨g, cap, cur, hv, _, hh, _⟩
  · exact .inl (List.eq_nil_of_length_eq_zero h0)
  · simp only [Value.slice.injEq] at hv
    obtain ⟨rfl, _, rfl⟩ := hv
    refine .inr ⟨g, rfl, (Array.getElem?_eq_some_iff.1 hh).1, fun i hi => ?_⟩
    have at5 : ∀ j, j < 5 → w.cell? ⟨g, i * 5 + j, none⟩ = (slC l[i])[j]? := fun j hj => (h.cellAt (i * 5 + j) (by omega)).trans (sls_at l i j hi hj)
    exact ⟨at5 0 (by omega), at5 1 (by omega), at5 2 (by omega), at5 3 (by omega), at5 4 (by omega)⟩

set_option maxRecDepth 100000 in
set_option maxHeartbeats 1000000 in
theorem markSlotS_any (v : Value) (n k : Nat) (xs : List Value) (base : Nat) (w : World) (hn : n ≤ 1048576) (hk : k ≤ 1048576) (hk0 : 0 < k) (hown : w.ownsRow base 47 5 v n xs) :
    Calls Try.prog 32 #[v, .int .i64 k] w fun e w' => e = .returned (.int .i64 ((k : Int) + 5 * (n : Int))) ∧ w'.ownsRow base 47 5 v n (sls (patL k n)) ∧ w.grownBy w' v.ownBlock := by
  have hxl := hown.1
  rcases hown.2 with ⟨rfl, rfl⟩ | ⟨g, cap, cur, rfl, hbg, hgg, _⟩
  · go_enter Try.func32, Try.ntmps32
    go_wp2
    refine wp_loop_rounds 1 ?_
    rw [rounds_succ]
    go_wp2
    go_ret
    exact ⟨by simp, by have : xs = [] := List.eq_nil_of_length_eq_zero (by omega); subst this; exact hown, World.grownBy.refl _ _⟩
  · have hgl := (Array.getElem?_eq_some_iff.1 hgg).1
    have HO := hide1 hown
    have HX := hide1 hxl
    clear hgg hown hxl
    go_enter Try.func32, Try.ntmps32
    go_wp2
    go_loopw [1, 5] (fun kv iv wr => ∃ i kk : Nat, i ≤ n ∧ iv = .int .i64 (i : Int) ∧ kv = .int .i64 (kk : Int) ∧ Hid (kk = k + 5 * i) ∧ 0 < kk ∧ kk ≤ 10485760 ∧ wr.ownsRow base 47 5 (.slice (some ⟨g, 0, none⟩) n cap) n (mk5 k xs i) ∧ w.grownBy wr (some g)) (fun _ iv _ => n - (intOf iv).toNat)
    case atStart => exact ⟨0, k, by omega, rfl, rfl, rfl, hk0, by omega, HO.out, World.grownBy.refl _ _⟩
    case round =>
      obtain ⟨i, kk, hi, rfl, rfl, hkk, hkp, hkm, hown1, hbel⟩ := hrel
      have hbs := hbel.size
      by_cases hlt : i < n
      · have k1 : (i : Int) < (n : Int) := by omega
        obtain ⟨u0, x0⟩ := own_some hown1 (i * 5) (by omega)
        obtain ⟨u1, x1⟩ := own_some hown1 (i * 5 + 1) (by omega)
        have f0 := hown1.frozenAt (i * 5)
        have f1 := hown1.frozenAt (i * 5 + 1)
        obtain ⟨b, hb⟩ : ∃ b : Bool, (((kk : Int) + 1) % 3 == 0) = b := ⟨_, rfl⟩
        have HB := hide1 hb
        have C2 := hide1 (fun (z : Int) (w : World) (hz : z = (kk : Int) + 2) => show Calls Try.prog 47 #[.int .i64 z] w (fun e w' => e = .returned (.string (mkT (kk + 2))) ∧ Below w.heap.size w w') by subst hz; exact markText_any (kk + 2) w (by omega) (by omega))
        have C3 := hide1 (fun (z : Int) (w : World) (hz : z = (kk : Int) + 3) => show Calls Try.prog 47 #[.int .i64 z] w (fun e w' => e = .returned (.string (mkT (kk + 3))) ∧ Below w.heap.size w w') by subst hz; exact markText_any (kk + 3) w (by omega) (by omega))
        have st := (World.ownsRow.stored (World.ownsRow.stored hown1 (i * 5) (.int .i64 (kk : Int))).1 (i * 5 + 1) (.bool b)).1
        have ST := hide1 st
        clear hown1 st
        have B1 := hide1 (gset (gset hbel (i * 5) (.int .i64 (kk : Int))) (i * 5 + 1) (.bool b))
        go_wp2_with fail
        refine (C2.out _ _ (by omega)).mono ?_
        rintro e w2 ⟨rfl, hb2⟩
        have o2 := own_kept ST.out hb2
        have B2 := hide1 (B1.out.trans (gnew hb2))
        obtain ⟨u2, x2⟩ := own_some o2 (i * 5 + 2) (by omega)
        have f2 := o2.frozenAt (i * 5 + 2)
        obtain ⟨z2, hz2⟩ : ∃ z, z = mkT (kk + 2) := ⟨_, rfl⟩
        rw [← hz2]
        have Z2 := hide1 hz2
        have ST3 := hide1 (World.ownsRow.stored o2 (i * 5 + 2) (.string z2)).1
        have B3 := hide1 (gset B2.out (i * 5 + 2) (.string z2))
        clear o2 hb2 hz2 ST B1 B2 x0 x1 f0 f1 C2
        go_wp2_with fail
        refine (C3.out _ _ (by omega)).mono ?_
        rintro e w3 ⟨rfl, hb3⟩
        have o3 := own_kept ST3.out hb3
        have B4 := hide1 (B3.out.trans (gnew hb3))
        obtain ⟨u3, x3⟩ := own_some o3 (i * 5 + 3) (by omega)
        obtain ⟨u4, x4⟩ := own_some o3 (i * 5 + 4) (by omega)
        have f3 := o3.frozenAt (i * 5 + 3)
        have f4 := o3.frozenAt (i * 5 + 4)
        obtain ⟨z3, hz3⟩ : ∃ z, z = mkT (kk + 3) := ⟨_, rfl⟩
        rw [← hz3]
        have Z3 := hide1 hz3
        have ST5 := hide1 (World.ownsRow.stored (World.ownsRow.stored o3 (i * 5 + 3) (.string z3)).1 (i * 5 + 4) (.int .i64 ((kk : Int) + 1 + 1 + 1 + 1))).1
        have B5 := hide1 (gset (gset B4.out (i * 5 + 3) (.string z3)) (i * 5 + 4) (.int .i64 ((kk : Int) + 1 + 1 + 1 + 1)))
        clear o3 hb3 hz3 ST3 B3 B4 C3 x2 f2
        go_wp2
        go_roundw
        case rel =>
          refine ⟨i + 1, kk + 5, by omega, by go_num, by go_num, ?_, by omega, by have := hkk.out; omega, ?_, B5.out⟩
          · show kk + 5 = k + 5 * (i + 1); have := hkk.out; omega
          · have e4 : (kk : Int) + 1 + 1 + 1 + 1 = (kk : Int) + 4 := by omega
            have st := ST5.out
            rw [e4, Z2.out, Z3.out, ← HB.out, hkk.out] at st
            rw [e4, Z3.out, hkk.out]
            exact st
        case measure => simp [intOf]; omega
      · obtain rfl : i = n := by omega
        go_wp2
        go_ret
        rw [mk5_all k i xs HX.out] at hown1
        exact ⟨by rw [hkk.out]; simp, hown1, hbel⟩

set_option maxRecDepth 100000 in
set_option maxHeartbeats 1000000 in
theorem heldSlotS_any (ao : Option Addr) (n ca k : Nat) (w : World) (hn : n ≤ 1048576) (hk : k ≤ 1048576) (hk0 : 0 < k) (hA : RdA w ao (patL k n)) :
    Calls Try.prog 33 #[.slice ao n ca, .int .i64 k] w fun e w' => e = .returned (.int .i64 ((k : Int) + 5 * (n : Int))) ∧ Below w.heap.size w w' := by
  have HA := hide1 hA
  clear hA
  go_enter Try.func33, Try.ntmps33
  go_wp2
  go_loopw [1, 5] (fun kv iv wr => ∃ i kk : Nat, i ≤ n ∧ iv = .int .i64 (i : Int) ∧ kv = .int .i64 (kk : Int) ∧ Hid (kk = k + 5 * i) ∧ 0 < kk ∧ kk ≤ 10485760 ∧ Below w.heap.size w wr) (fun _ iv _ => n - (intOf iv).toNat)
  case atStart => exact ⟨0, k, by omega, rfl, rfl, rfl, hk0, by omega, Below.refl _ _⟩
  case round =>
    obtain ⟨i, kk, hi, rfl, rfl, hkk, hkp, hkm, hbel⟩ := hrel
    have hbs := hbel.size
    by_cases hlt : i < n
    · have k1 : (i : Int) < (n : Int) := by omega
      obtain ⟨g, rfl, hg, h1⟩ := HA.out.at i (by rw [patL_length]; exact hlt)
      rw [patL_at, ← hkk.out] at h1
      obtain ⟨x0, x1, x2, x3, x4⟩ := h1.below hbel hg
      simp only [patS] at x0 x1 x2 x3 x4
      obtain ⟨b, hb⟩ : ∃ b : Bool, (((kk : Int) + 1) % 3 == 0) = b := ⟨_, rfl⟩
      rw [hb] at x1
      rw [show (kk : Int) + 4 = (kk : Int) + 1 + 1 + 1 + 1 by omega] at x4
      have e1 : (b != b) = false := by simp
      have e0 : ((kk : Int) != (kk : Int)) = false := by simp
      obtain ⟨z2, hz2⟩ : ∃ z, z = mkT (kk + 2) := ⟨_, rfl⟩
      obtain ⟨z3, hz3⟩ : ∃ z, z = mkT (kk + 3) := ⟨_, rfl⟩
      have C2 := hide1 (fun (z : Int) (w : World) (hz : z = (kk : Int) + 2) => show Calls Try.prog 47 #[.int .i64 z] w (fun e w' => e = .returned (.string z2) ∧ Below w.heap.size w w') by subst hz; rw [hz2]; exact markText_any (kk + 2) w (by omega) (by omega))
      have C3 := hide1 (fun (z : Int) (w : World) (hz : z = (kk : Int) + 3) => show Calls Try.prog 47 #[.int .i64 z] w (fun e w' => e = .returned (.string z3) ∧ Below w.heap.size w w') by subst hz; rw [hz3]; exact markText_any (kk + 3) w (by omega) (by omega))
      rw [← hz2] at x2
      rw [← hz3] at x3
      clear hz2 hz3 h1
      have e2 : (z2.toList == z2.toList) = true := by simp
      have e3 : (z3.toList == z3.toList) = true := by simp
      have hgr : g < wr.heap.size := Nat.lt_of_lt_of_le hg hbs
      go_wp2
      go_region_held3 (fun w' => w'.cell? ⟨g, i * 5 + 2, none⟩ = some (.string z2) ∧ w'.cell? ⟨g, i * 5 + 3, none⟩ = some (.string z3) ∧ w'.cell? ⟨g, i * 5 + 4, none⟩ = some (.int .i64 ((kk : Int) + 1 + 1 + 1 + 1))) (first | go_keep | exact ⟨(hb2.cell hgr).trans x2, (hb2.cell hgr).trans x3, (hb2.cell hgr).trans x4⟩) ((go_at_call 47; refine (C2.out _ _ (by omega)).mono ?_; rintro e w2 ⟨rfl, hb2⟩))
      have y3 : w2.cell? ⟨g, i * 5 + 3, none⟩ = some (.string z3) := (hb2.cell hgr).trans x3
      have y4 : w2.cell? ⟨g, i * 5 + 4, none⟩ = some (.int .i64 ((kk : Int) + 1 + 1 + 1 + 1)) := (hb2.cell hgr).trans x4
      have hgr2 : g < w2.heap.size := Nat.lt_of_lt_of_le hgr hb2.size
      have hb3 := hide1 (hbel.trans ((Below.refl _ _).drew.trans (hb2.mono hbel.size)))
      clear hb2 x0 x1 x2 x3 x4 C2
      go_wp2
      go_region_held3 (fun w' => w'.cell? ⟨g, i * 5 + 3, none⟩ = some (.string z3) ∧ w'.cell? ⟨g, i * 5 + 4, none⟩ = some (.int .i64 ((kk : Int) + 1 + 1 + 1 + 1))) (first | go_keep | exact ⟨(hb4.cell hgr2).trans y3, (hb4.cell hgr2).trans y4⟩) ((go_at_call 47; refine (C3.out _ _ (by omega)).mono ?_; rintro e w4 ⟨rfl, hb4⟩))
      have z4 : w4.cell? ⟨g, i * 5 + 4, none⟩ = some (.int .i64 ((kk : Int) + 1 + 1 + 1 + 1)) := (hb4.cell hgr2).trans y4
      have hb5 := hide1 (hb3.out.trans ((Below.refl _ _).drew.trans (hb4.mono hb3.out.size)))
      clear hb4 y3 y4 C3
      go_wp2
      go_roundw
      case rel => exact ⟨i + 1, kk + 5, by omega, by go_num, by go_num, by show kk + 5 = k + 5 * (i + 1); have := hkk.out; omega, by omega, by have := hkk.out; omega, hb5.out⟩
      case measure => simp [intOf]; omega
    · obtain rfl : i = n := by omega
      go_wp2
      go_ret
      exact ⟨by rw [hkk.out]; simp, hbel⟩
end Go.Proofs.Ytjbcmendifoklaa
