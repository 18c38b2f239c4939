/- Rows of voices marked, and looked at for the marks. -/
import Derived.Test.YtgehdgmllilmgaaYR
import Derived.Test.YtgehdgmllilmgaaYM
import Derived.Test.YtgehdgmllilmgaaYA
import Derived.Deep.RegionHeld3
import Derived.Test.YtgehdgmllilmgaaYO
import Derived.Test.YtgehdgmllilmgaaYQ
namespace Go.Proofs.Ytgehdgmllilmgaa
open Go.RowKit
set_option linter.unusedVariables false

def mV (q : Nat) : Vo := ⟨(q : Int), (q : Int) + 1, mkT (q + 2)⟩
theorem mark_atVoice (z : Int) (n : Nat) (w : World) (hz : z = (n : Int)) (hn : n ≤ 9223372036854775807) (h0 : 0 < n) : Calls Try.prog 62 #[.int .i64 z] w fun e w' => e = .returned (.string (mkT n)) ∧ Below w.heap.size w w' := by subst hz; exact markText_any n w hn h0

set_option maxRecDepth 100000 in
set_option maxHeartbeats 2000000 in
theorem markVoiceS_any (v : Value) (n k : Nat) (xs : List Value) (base : Nat) (w : World) (hn : n ≤ 1048576) (hk : k ≤ 33554432) (hk0 : 0 < k) (hown : w.ownsRow base 43 3 v n xs) :
    Calls Try.prog 51 #[v, .int .i64 k] w fun e w' => e = .returned (.int .i64 ((k : Int) + 3 * (n : Int))) ∧ w'.ownsRow base 43 3 v n (rowG voC (patG mV 3 k n)) ∧ w.grownBy w' v.ownBlock := by
  have hxl := hown.1
  rcases hown.2 with ⟨rfl, rfl⟩ | ⟨g, cap, cur, rfl, hbg, hgg, _⟩
  · go_enter Try.func51, Try.ntmps51
    go_wp2
    refine wp_loop_rounds 1 ?_
    rw [rounds_succ]
    go_wp2
    go_ret
    exact ⟨by simp, by have : xs = [] := List.eq_nil_of_length_eq_zero (by omega); subst this; exact hown, World.grownBy.refl _ _⟩
  · have hgl := (Array.getElem?_eq_some_iff.1 hgg).1
    have HO := hide1 hown
    have HX := hide1 hxl
    clear hgg hown hxl
    go_enter Try.func51, Try.ntmps51
    go_wp2
    go_loopw [1, 5] (fun kv iv wr => ∃ i kk : Nat, i ≤ n ∧ iv = .int .i64 (i : Int) ∧ kv = .int .i64 (kk : Int) ∧ Hid (kk = k + 3 * i) ∧ 0 < kk ∧ kk ≤ 67108864 ∧ wr.ownsRow base 43 3 (.slice (some ⟨g, 0, none⟩) n cap) n (mkG mV 3 k voC 3 xs i) ∧ w.grownBy wr (some g)) (fun _ iv _ => n - (intOf iv).toNat)
    case atStart => exact ⟨0, k, by omega, rfl, rfl, rfl, hk0, by omega, by rw [mkG_zero]; exact HO.out, World.grownBy.refl _ _⟩
    case round =>
      obtain ⟨i, kk, hi, rfl, rfl, hkk, hkp, hkm, hown1, hbel⟩ := hrel
      have hbs := hbel.size
      by_cases hlt : i < n
      · have k1 : (i : Int) < (n : Int) := by omega
        have C2 := hide1 (fun (z : Int) (w : World) (hz : z = ((kk + 2 : Nat) : Int)) => mark_atVoice z (kk + 2) w hz (by omega) (by omega))
        have o1 := hown1
        have B1 := hide1 hbel
        clear hown1 hbel
        obtain ⟨u0, x0⟩ := own_some o1 (i * 3) (by omega)
        have f0 := o1.frozenAt (i * 3)
        obtain ⟨u1, x1⟩ := own_some o1 (i * 3 + 1) (by omega)
        have f1 := o1.frozenAt (i * 3 + 1)
        have ST := hide1 (World.ownsRow.stored (World.ownsRow.stored o1 (i * 3) (.int .i64 ((kk : Int)))).1 (i * 3 + 1) (.int .i64 ((kk : Int) + 1))).1
        have G1 := hide1 (gset (gset B1.out (i * 3) (.int .i64 ((kk : Int)))) (i * 3 + 1) (.int .i64 ((kk : Int) + 1)))
        clear o1 B1
        go_wp2_with fail
        clear x0 f0
        clear x1 f1
        refine (C2.out _ _ (by omega)).mono ?_
        rintro e w2 ⟨rfl, hb2⟩
        have o2 := own_kept ST.out hb2
        have B2 := hide1 (G1.out.trans (gnew hb2))
        obtain ⟨u, x⟩ := own_some o2 (i * 3 + 2) (by omega)
        have f := o2.frozenAt (i * 3 + 2)
        obtain ⟨z2, hz2⟩ : ∃ z, z = mkT (kk + 2) := ⟨_, rfl⟩
        rw [← hz2]
        have Z2 := hide1 hz2
        have ST5 := hide1 (World.ownsRow.stored o2 (i * 3 + 2) (.string z2)).1
        have B5 := hide1 (gset B2.out (i * 3 + 2) (.string z2))
        clear o2 hb2 hz2 ST G1 B2 C2
        go_wp2
        go_roundw
        case rel =>
          refine ⟨i + 1, kk + 3, by omega, by go_num, by go_num, ?_, by omega, by have := hkk.out; omega, ?_, B5.out⟩
          · show kk + 3 = k + 3 * (i + 1); have := hkk.out; omega
          · have st := ST5.out
            have hn2 := mkG_next (enc := voC) (kk := 3) mV 3 k encV xs i (by have := HX.out; omega)
            rw [← hn2, ← hkk.out]
            rw [Z2.out] at st ⊢
            exact st
        case measure => simp [intOf]; omega
      · obtain rfl : i = n := by omega
        go_wp2
        go_ret
        rw [mkG_all _ _ _ encV xs i HX.out] at hown1
        exact ⟨by rw [hkk.out]; simp, hown1, hbel⟩

set_option maxRecDepth 100000 in
set_option maxHeartbeats 2000000 in
theorem heldVoiceS_any (ao : Option Addr) (n ca k : Nat) (w : World) (hn : n ≤ 1048576) (hk : k ≤ 33554432) (hk0 : 0 < k) (hA : RdG voC 3 w ao (patG mV 3 k n)) :
    Calls Try.prog 55 #[.slice ao n ca, .int .i64 k] w fun e w' => e = .returned (.int .i64 ((k : Int) + 3 * (n : Int))) ∧ Below w.heap.size w w' := by
  have HA := hide1 hA
  clear hA
  go_enter Try.func55, Try.ntmps55
  go_wp2
  go_loopw [1, 5] (fun kv iv wr => ∃ i kk : Nat, i ≤ n ∧ iv = .int .i64 (i : Int) ∧ kv = .int .i64 (kk : Int) ∧ Hid (kk = k + 3 * i) ∧ 0 < kk ∧ kk ≤ 67108864 ∧ Below w.heap.size w wr) (fun _ iv _ => n - (intOf iv).toNat)
  case atStart => exact ⟨0, k, by omega, rfl, rfl, rfl, hk0, by omega, Below.refl _ _⟩
  case round =>
    obtain ⟨i, kk, hi, rfl, rfl, hkk, hkp, hkm, hbel⟩ := hrel
    have hbs := hbel.size
    by_cases hlt : i < n
    · have k1 : (i : Int) < (n : Int) := by omega
      obtain ⟨g, q, rfl, hg, h1⟩ := HA.out i (by rw [patG_length]; exact hlt)
      rw [patG_at, ← hkk.out] at h1
      have hgr : g < wr.heap.size := Nat.lt_of_lt_of_le hg hbs
      obtain ⟨z2, hz2⟩ : ∃ z, z = mkT (kk + 2) := ⟨_, rfl⟩
      have x0 : wr.cell? ⟨g, q + i * 3, none⟩ = some (.int .i64 ((kk : Int))) := (hbel.cell (p := ⟨g, q + i * 3 + 0, none⟩) hg).trans (h1 0 (by omega))
      have x1 : wr.cell? ⟨g, q + i * 3 + 1, none⟩ = some (.int .i64 ((kk : Int) + 1)) := (hbel.cell (p := ⟨g, q + i * 3 + 1, none⟩) hg).trans (h1 1 (by omega))
      have x2 : wr.cell? ⟨g, q + i * 3 + 2, none⟩ = some (.string z2) := by rw [hz2]; exact (hbel.cell (p := ⟨g, q + i * 3 + 2, none⟩) hg).trans (h1 2 (by omega))
      have C2 := hide1 (fun (z : Int) (w : World) (hz : z = ((kk + 2 : Nat) : Int)) => show Calls Try.prog 62 #[.int .i64 z] w (fun e w' => e = .returned (.string z2) ∧ Below w.heap.size w w') by rw [hz2]; exact mark_atVoice z (kk + 2) w hz (by omega) (by omega))
      clear hz2 h1
      have e0 : (z2.toList == z2.toList) = true := by simp
      have e1 : ((kk : Int) != (kk : Int)) = false := by simp
      have e2 : ((kk : Int) + 1 != (kk : Int) + 1) = false := by simp
      go_wp2
      go_region_held3 (fun w' => w'.cell? ⟨g, q + i * 3 + 2, none⟩ = some (.string z2)) (first | go_keep | exact (hb2.cell hgr).trans x2) ((go_at_call 62; refine (C2.out _ _ (by omega)).mono ?_; rintro e w2 ⟨rfl, hb2⟩))
      have hb3 := hide1 (hbel.trans ((Below.refl _ _).drew.trans (hb2.mono hbel.size)))
      clear hb2 C2 x0 x1 x2
      go_wp2
      go_roundw
      case rel => exact ⟨i + 1, kk + 3, by omega, by go_num, by go_num, by show kk + 3 = k + 3 * (i + 1); have := hkk.out; omega, by omega, by have := hkk.out; omega, hb3.out⟩
      case measure => simp [intOf]; omega
    · obtain rfl : i = n := by omega
      go_wp2
      go_ret
      exact ⟨by rw [hkk.out]; simp, hbel⟩
end Go.Proofs.Ytgehdgmllilmgaa
namespace Go.Proofs.Ytgehdgmllilmgaa
open Go.RowKit
set_option linter.unusedVariables false

def mN (q : Nat) : Nt := ⟨(q : Int), (q : Int) + 1, (q : Int) + 1 + 1, (q : Int) + 1 + 1 + 1, (q : Int) + 1 + 1 + 1 + 1, mkT (q + 5)⟩
theorem mark_atNote (z : Int) (n : Nat) (w : World) (hz : z = (n : Int)) (hn : n ≤ 9223372036854775807) (h0 : 0 < n) : Calls Try.prog 62 #[.int .i64 z] w fun e w' => e = .returned (.string (mkT n)) ∧ Below w.heap.size w w' := by subst hz; exact markText_any n w hn h0

set_option maxRecDepth 100000 in
set_option maxHeartbeats 2000000 in
theorem markNoteS_any (v : Value) (n k : Nat) (xs : List Value) (base : Nat) (w : World) (hn : n ≤ 1048576) (hk : k ≤ 33554432) (hk0 : 0 < k) (hown : w.ownsRow base 111 6 v n xs) :
    Calls Try.prog 53 #[v, .int .i64 k] w fun e w' => e = .returned (.int .i64 ((k : Int) + 6 * (n : Int))) ∧ w'.ownsRow base 111 6 v n (rowG ntC (patG mN 6 k n)) ∧ w.grownBy w' v.ownBlock := by
  have hxl := hown.1
  rcases hown.2 with ⟨rfl, rfl⟩ | ⟨g, cap, cur, rfl, hbg, hgg, _⟩
  · go_enter Try.func53, Try.ntmps53
    go_wp2
    refine wp_loop_rounds 1 ?_
    rw [rounds_succ]
    go_wp2
    go_ret
    exact ⟨by simp, by have : xs = [] := List.eq_nil_of_length_eq_zero (by omega); subst this; exact hown, World.grownBy.refl _ _⟩
  · have hgl := (Array.getElem?_eq_some_iff.1 hgg).1
    have HO := hide1 hown
    have HX := hide1 hxl
    clear hgg hown hxl
    go_enter Try.func53, Try.ntmps53
    go_wp2
    go_loopw [1, 5] (fun kv iv wr => ∃ i kk : Nat, i ≤ n ∧ iv = .int .i64 (i : Int) ∧ kv = .int .i64 (kk : Int) ∧ Hid (kk = k + 6 * i) ∧ 0 < kk ∧ kk ≤ 67108864 ∧ wr.ownsRow base 111 6 (.slice (some ⟨g, 0, none⟩) n cap) n (mkG mN 6 k ntC 6 xs i) ∧ w.grownBy wr (some g)) (fun _ iv _ => n - (intOf iv).toNat)
    case atStart => exact ⟨0, k, by omega, rfl, rfl, rfl, hk0, by omega, by rw [mkG_zero]; exact HO.out, World.grownBy.refl _ _⟩
    case round =>
      obtain ⟨i, kk, hi, rfl, rfl, hkk, hkp, hkm, hown1, hbel⟩ := hrel
      have hbs := hbel.size
      by_cases hlt : i < n
      · have k1 : (i : Int) < (n : Int) := by omega
        have C2 := hide1 (fun (z : Int) (w : World) (hz : z = ((kk + 5 : Nat) : Int)) => mark_atNote z (kk + 5) w hz (by omega) (by omega))
        have o1 := hown1
        have B1 := hide1 hbel
        clear hown1 hbel
        obtain ⟨u0, x0⟩ := own_some o1 (i * 6) (by omega)
        have f0 := o1.frozenAt (i * 6)
        obtain ⟨u1, x1⟩ := own_some o1 (i * 6 + 1) (by omega)
        have f1 := o1.frozenAt (i * 6 + 1)
        obtain ⟨u2, x2⟩ := own_some o1 (i * 6 + 2) (by omega)
        have f2 := o1.frozenAt (i * 6 + 2)
        obtain ⟨u3, x3⟩ := own_some o1 (i * 6 + 3) (by omega)
        have f3 := o1.frozenAt (i * 6 + 3)
        obtain ⟨u4, x4⟩ := own_some o1 (i * 6 + 4) (by omega)
        have f4 := o1.frozenAt (i * 6 + 4)
        have ST := hide1 (World.ownsRow.stored (World.ownsRow.stored (World.ownsRow.stored (World.ownsRow.stored (World.ownsRow.stored o1 (i * 6) (.int .i64 ((kk : Int)))).1 (i * 6 + 1) (.int .i64 ((kk : Int) + 1))).1 (i * 6 + 2) (.int .i64 ((kk : Int) + 1 + 1))).1 (i * 6 + 3) (.int .i64 ((kk : Int) + 1 + 1 + 1))).1 (i * 6 + 4) (.int .i64 ((kk : Int) + 1 + 1 + 1 + 1))).1
        have G1 := hide1 (gset (gset (gset (gset (gset B1.out (i * 6) (.int .i64 ((kk : Int)))) (i * 6 + 1) (.int .i64 ((kk : Int) + 1))) (i * 6 + 2) (.int .i64 ((kk : Int) + 1 + 1))) (i * 6 + 3) (.int .i64 ((kk : Int) + 1 + 1 + 1))) (i * 6 + 4) (.int .i64 ((kk : Int) + 1 + 1 + 1 + 1)))
        clear o1 B1
        go_wp2_with fail
        clear x0 f0
        clear x1 f1
        clear x2 f2
        clear x3 f3
        clear x4 f4
        refine (C2.out _ _ (by omega)).mono ?_
        rintro e w2 ⟨rfl, hb2⟩
        have o2 := own_kept ST.out hb2
        have B2 := hide1 (G1.out.trans (gnew hb2))
        obtain ⟨u, x⟩ := own_some o2 (i * 6 + 5) (by omega)
        have f := o2.frozenAt (i * 6 + 5)
        obtain ⟨z2, hz2⟩ : ∃ z, z = mkT (kk + 5) := ⟨_, rfl⟩
        rw [← hz2]
        have Z2 := hide1 hz2
        have ST5 := hide1 (World.ownsRow.stored o2 (i * 6 + 5) (.string z2)).1
        have B5 := hide1 (gset B2.out (i * 6 + 5) (.string z2))
        clear o2 hb2 hz2 ST G1 B2 C2
        go_wp2
        go_roundw
        case rel =>
          refine ⟨i + 1, kk + 6, by omega, by go_num, by go_num, ?_, by omega, by have := hkk.out; omega, ?_, B5.out⟩
          · show kk + 6 = k + 6 * (i + 1); have := hkk.out; omega
          · have st := ST5.out
            have hn2 := mkG_next (enc := ntC) (kk := 6) mN 6 k encN xs i (by have := HX.out; omega)
            rw [← hn2, ← hkk.out]
            rw [Z2.out] at st ⊢
            exact st
        case measure => simp [intOf]; omega
      · obtain rfl : i = n := by omega
        go_wp2
        go_ret
        rw [mkG_all _ _ _ encN xs i HX.out] at hown1
        exact ⟨by rw [hkk.out]; simp, hown1, hbel⟩

set_option maxRecDepth 100000 in
set_option maxHeartbeats 2000000 in
theorem heldNoteS_any (ao : Option Addr) (n ca k : Nat) (w : World) (hn : n ≤ 1048576) (hk : k ≤ 33554432) (hk0 : 0 < k) (hA : RdG ntC 6 w ao (patG mN 6 k n)) :
    Calls Try.prog 57 #[.slice ao n ca, .int .i64 k] w fun e w' => e = .returned (.int .i64 ((k : Int) + 6 * (n : Int))) ∧ Below w.heap.size w w' := by
  have HA := hide1 hA
  clear hA
  go_enter Try.func57, Try.ntmps57
  go_wp2
  go_loopw [1, 5] (fun kv iv wr => ∃ i kk : Nat, i ≤ n ∧ iv = .int .i64 (i : Int) ∧ kv = .int .i64 (kk : Int) ∧ Hid (kk = k + 6 * i) ∧ 0 < kk ∧ kk ≤ 67108864 ∧ Below w.heap.size w wr) (fun _ iv _ => n - (intOf iv).toNat)
  case atStart => exact ⟨0, k, by omega, rfl, rfl, rfl, hk0, by omega, Below.refl _ _⟩
  case round =>
    obtain ⟨i, kk, hi, rfl, rfl, hkk, hkp, hkm, hbel⟩ := hrel
    have hbs := hbel.size
    by_cases hlt : i < n
    · have k1 : (i : Int) < (n : Int) := by omega
      obtain ⟨g, q, rfl, hg, h1⟩ := HA.out i (by rw [patG_length]; exact hlt)
      rw [patG_at, ← hkk.out] at h1
      have hgr : g < wr.heap.size := Nat.lt_of_lt_of_le hg hbs
      obtain ⟨z2, hz2⟩ : ∃ z, z = mkT (kk + 5) := ⟨_, rfl⟩
      have x0 : wr.cell? ⟨g, q + i * 6, none⟩ = some (.int .i64 ((kk : Int))) := (hbel.cell (p := ⟨g, q + i * 6 + 0, none⟩) hg).trans (h1 0 (by omega))
      have x1 : wr.cell? ⟨g, q + i * 6 + 1, none⟩ = some (.int .i64 ((kk : Int) + 1)) := (hbel.cell (p := ⟨g, q + i * 6 + 1, none⟩) hg).trans (h1 1 (by omega))
      have x2 : wr.cell? ⟨g, q + i * 6 + 2, none⟩ = some (.int .i64 ((kk : Int) + 1 + 1)) := (hbel.cell (p := ⟨g, q + i * 6 + 2, none⟩) hg).trans (h1 2 (by omega))
      have x3 : wr.cell? ⟨g, q + i * 6 + 3, none⟩ = some (.int .i64 ((kk : Int) + 1 + 1 + 1)) := (hbel.cell (p := ⟨g, q + i * 6 + 3, none⟩) hg).trans (h1 3 (by omega))
      have x4 : wr.cell? ⟨g, q + i * 6 + 4, none⟩ = some (.int .i64 ((kk : Int) + 1 + 1 + 1 + 1)) := (hbel.cell (p := ⟨g, q + i * 6 + 4, none⟩) hg).trans (h1 4 (by omega))
      have x5 : wr.cell? ⟨g, q + i * 6 + 5, none⟩ = some (.string z2) := by rw [hz2]; exact (hbel.cell (p := ⟨g, q + i * 6 + 5, none⟩) hg).trans (h1 5 (by omega))
      have C2 := hide1 (fun (z : Int) (w : World) (hz : z = ((kk + 5 : Nat) : Int)) => show Calls Try.prog 62 #[.int .i64 z] w (fun e w' => e = .returned (.string z2) ∧ Below w.heap.size w w') by rw [hz2]; exact mark_atNote z (kk + 5) w hz (by omega) (by omega))
      clear hz2 h1
      have e0 : (z2.toList == z2.toList) = true := by simp
      have e1 : ((kk : Int) != (kk : Int)) = false := by simp
      have e2 : ((kk : Int) + 1 != (kk : Int) + 1) = false := by simp
      have e3 : ((kk : Int) + 1 + 1 != (kk : Int) + 1 + 1) = false := by simp
      have e4 : ((kk : Int) + 1 + 1 + 1 != (kk : Int) + 1 + 1 + 1) = false := by simp
      have e5 : ((kk : Int) + 1 + 1 + 1 + 1 != (kk : Int) + 1 + 1 + 1 + 1) = false := by simp
      go_wp2
      go_region_held3 (fun w' => w'.cell? ⟨g, q + i * 6 + 5, none⟩ = some (.string z2)) (first | go_keep | exact (hb2.cell hgr).trans x5) ((go_at_call 62; refine (C2.out _ _ (by omega)).mono ?_; rintro e w2 ⟨rfl, hb2⟩))
      have hb3 := hide1 (hbel.trans ((Below.refl _ _).drew.trans (hb2.mono hbel.size)))
      clear hb2 C2 x0 x1 x2 x3 x4 x5
      go_wp2
      go_roundw
      case rel => exact ⟨i + 1, kk + 6, by omega, by go_num, by go_num, by show kk + 6 = k + 6 * (i + 1); have := hkk.out; omega, by omega, by have := hkk.out; omega, hb3.out⟩
      case measure => simp [intOf]; omega
    · obtain rfl : i = n := by omega
      go_wp2
      go_ret
      exact ⟨by rw [hkk.out]; simp, hbel⟩
end Go.Proofs.Ytgehdgmllilmgaa
namespace Go.Proofs.Ytgehdgmllilmgaa
open Go.RowKit
set_option linter.unusedVariables false

def mH (q : Nat) : Hp := ⟨(q : Int), (q : Int) + 1, (q : Int) + 1 + 1, mkT (q + 3)⟩
theorem mark_atHappen (z : Int) (n : Nat) (w : World) (hz : z = (n : Int)) (hn : n ≤ 9223372036854775807) (h0 : 0 < n) : Calls Try.prog 62 #[.int .i64 z] w fun e w' => e = .returned (.string (mkT n)) ∧ Below w.heap.size w w' := by subst hz; exact markText_any n w hn h0

set_option maxRecDepth 100000 in
set_option maxHeartbeats 2000000 in
theorem markHappenS_any (v : Value) (n k : Nat) (xs : List Value) (base : Nat) (w : World) (hn : n ≤ 1048576) (hk : k ≤ 33554432) (hk0 : 0 < k) (hown : w.ownsRow base 40 4 v n xs) :
    Calls Try.prog 31 #[v, .int .i64 k] w fun e w' => e = .returned (.int .i64 ((k : Int) + 4 * (n : Int))) ∧ w'.ownsRow base 40 4 v n (rowG hpC (patG mH 4 k n)) ∧ w.grownBy w' v.ownBlock := by
  have hxl := hown.1
  rcases hown.2 with ⟨rfl, rfl⟩ | ⟨g, cap, cur, rfl, hbg, hgg, _⟩
  · go_enter Try.func31, Try.ntmps31
    go_wp2
    refine wp_loop_rounds 1 ?_
    rw [rounds_succ]
    go_wp2
    go_ret
    exact ⟨by simp, by have : xs = [] := List.eq_nil_of_length_eq_zero (by omega); subst this; exact hown, World.grownBy.refl _ _⟩
  · have hgl := (Array.getElem?_eq_some_iff.1 hgg).1
    have HO := hide1 hown
    have HX := hide1 hxl
    clear hgg hown hxl
    go_enter Try.func31, Try.ntmps31
    go_wp2
    go_loopw [1, 5] (fun kv iv wr => ∃ i kk : Nat, i ≤ n ∧ iv = .int .i64 (i : Int) ∧ kv = .int .i64 (kk : Int) ∧ Hid (kk = k + 4 * i) ∧ 0 < kk ∧ kk ≤ 67108864 ∧ wr.ownsRow base 40 4 (.slice (some ⟨g, 0, none⟩) n cap) n (mkG mH 4 k hpC 4 xs i) ∧ w.grownBy wr (some g)) (fun _ iv _ => n - (intOf iv).toNat)
    case atStart => exact ⟨0, k, by omega, rfl, rfl, rfl, hk0, by omega, by rw [mkG_zero]; exact HO.out, World.grownBy.refl _ _⟩
    case round =>
      obtain ⟨i, kk, hi, rfl, rfl, hkk, hkp, hkm, hown1, hbel⟩ := hrel
      have hbs := hbel.size
      by_cases hlt : i < n
      · have k1 : (i : Int) < (n : Int) := by omega
        have C2 := hide1 (fun (z : Int) (w : World) (hz : z = ((kk + 3 : Nat) : Int)) => mark_atHappen z (kk + 3) w hz (by omega) (by omega))
        have o1 := hown1
        have B1 := hide1 hbel
        clear hown1 hbel
        obtain ⟨u0, x0⟩ := own_some o1 (i * 4) (by omega)
        have f0 := o1.frozenAt (i * 4)
        obtain ⟨u1, x1⟩ := own_some o1 (i * 4 + 1) (by omega)
        have f1 := o1.frozenAt (i * 4 + 1)
        obtain ⟨u2, x2⟩ := own_some o1 (i * 4 + 2) (by omega)
        have f2 := o1.frozenAt (i * 4 + 2)
        have ST := hide1 (World.ownsRow.stored (World.ownsRow.stored (World.ownsRow.stored o1 (i * 4) (.int .i64 ((kk : Int)))).1 (i * 4 + 1) (.int .i64 ((kk : Int) + 1))).1 (i * 4 + 2) (.int .i64 ((kk : Int) + 1 + 1))).1
        have G1 := hide1 (gset (gset (gset B1.out (i * 4) (.int .i64 ((kk : Int)))) (i * 4 + 1) (.int .i64 ((kk : Int) + 1))) (i * 4 + 2) (.int .i64 ((kk : Int) + 1 + 1)))
        clear o1 B1
        go_wp2_with fail
        clear x0 f0
        clear x1 f1
        clear x2 f2
        refine (C2.out _ _ (by omega)).mono ?_
        rintro e w2 ⟨rfl, hb2⟩
        have o2 := own_kept ST.out hb2
        have B2 := hide1 (G1.out.trans (gnew hb2))
        obtain ⟨u, x⟩ := own_some o2 (i * 4 + 3) (by omega)
        have f := o2.frozenAt (i * 4 + 3)
        obtain ⟨z2, hz2⟩ : ∃ z, z = mkT (kk + 3) := ⟨_, rfl⟩
        rw [← hz2]
        have Z2 := hide1 hz2
        have ST5 := hide1 (World.ownsRow.stored o2 (i * 4 + 3) (.string z2)).1
        have B5 := hide1 (gset B2.out (i * 4 + 3) (.string z2))
        clear o2 hb2 hz2 ST G1 B2 C2
        go_wp2
        go_roundw
        case rel =>
          refine ⟨i + 1, kk + 4, by omega, by go_num, by go_num, ?_, by omega, by have := hkk.out; omega, ?_, B5.out⟩
          · show kk + 4 = k + 4 * (i + 1); have := hkk.out; omega
          · have st := ST5.out
            have hn2 := mkG_next (enc := hpC) (kk := 4) mH 4 k encH xs i (by have := HX.out; omega)
            rw [← hn2, ← hkk.out]
            rw [Z2.out] at st ⊢
            exact st
        case measure => simp [intOf]; omega
      · obtain rfl : i = n := by omega
        go_wp2
        go_ret
        rw [mkG_all _ _ _ encH xs i HX.out] at hown1
        exact ⟨by rw [hkk.out]; simp, hown1, hbel⟩

end Go.Proofs.Ytgehdgmllilmgaa
namespace Go.Proofs.Ytgehdgmllilmgaa
open Go.RowKit
set_option linter.unusedVariables false

theorem iz_row (l : List Int) : iz l = rowG izE l := by
  induction l with
  | nil => rfl
  | cons x l ih => show Value.int .i64 x :: iz l = Value.int .i64 x :: rowG izE l; rw [ih]
theorem sc_row (l : List ByteArray) : sc l = rowG txE l := by
  induction l with
  | nil => rfl
  | cons x l ih => show Value.string x :: sc l = Value.string x :: rowG txE l; rw [ih]
theorem rdZ_G {w : World} {a : Option Addr} {l : List Int} (h : RdG izE 1 w a l) : RdZ w a l := by
  intro i hi
  obtain ⟨b, o, h1, h2, h3⟩ := h i hi
  refine ⟨b, o, h1, h2, ?_⟩
  have := h3 0 (by omega)
  rw [Nat.mul_one, Nat.add_zero] at this
  exact this
theorem rdQ_G {w : World} {a : Option Addr} {l : List ByteArray} (h : RdG txE 1 w a l) : RdQ w a l := by
  intro i hi
  obtain ⟨b, o, h1, h2, h3⟩ := h i hi
  refine ⟨b, o, h1, h2, ?_⟩
  have := h3 0 (by omega)
  rw [Nat.mul_one, Nat.add_zero] at this
  exact this
/-- How many numbers the marks of a try take. -/
def tsz (y : Ty) : Nat := 5 + 6 * y.ps.length + y.tk.length
/-- A try that is marked from q on. -/
def mkY (q : Nat) (y : Ty) : Ty := ⟨(q : Int), (q : Int) + 1, mkT (q + 2), patG mN 6 (q + 3) y.ps.length, (((q + 3 + 6 * y.ps.length : Nat) : Int) % 3 == 0), patZ (q + 4 + 6 * y.ps.length) y.tk.length, (((q + 4 + 6 * y.ps.length + y.tk.length : Nat) : Int) % 3 == 0)⟩
def kAt (q : Nat) (L : List Tm) (i : Nat) : Nat := q + ((L.take i).map (fun t => tsz t.y)).sum
theorem kAt_zero (q : Nat) (L : List Tm) : kAt q L 0 = q := by simp [kAt]
theorem kAt_next (q : Nat) (L : List Tm) {i : Nat} {t : Tm} (h : L[i]? = some t) : kAt q L (i + 1) = kAt q L i + tsz t.y := by
  obtain ⟨hi, rfl⟩ := List.getElem?_eq_some_iff.1 h
  unfold kAt
  rw [List.take_succ_eq_append_getElem hi, List.map_append, List.sum_append]
  simp
  omega
theorem kAt_le (q : Nat) (L : List Tm) (m : Nat) (h : ∀ t ∈ L, tsz t.y ≤ m) : ∀ i, i ≤ L.length → kAt q L i ≤ q + i * m
  | 0, _ => by rw [kAt_zero]; omega
  | i + 1, hi => by
    have hq : L[i]? = some L[i] := List.getElem?_eq_getElem (by omega)
    rw [kAt_next q L hq]
    have := kAt_le q L m h i (by omega)
    have := h L[i] (List.getElem_mem _)
    rw [Nat.add_mul]
    omega
/-- Tries of which the first i are marked. -/
def mkL (q : Nat) (L : List Tm) (i : Nat) : List Tm := L.mapIdx (fun j t => if j < i then { t with y := mkY (kAt q L j) t.y } else t)
theorem mkL_length (q : Nat) (L : List Tm) (i : Nat) : (mkL q L i).length = L.length := by simp [mkL]
theorem mkL_zero (q : Nat) (L : List Tm) : mkL q L 0 = L := by
  refine List.ext_getElem? fun j => ?_
  unfold mkL
  rw [List.getElem?_mapIdx]
  cases L[j]? with
  | none => rfl
  | some t => simp
theorem mkL_at (q : Nat) (L : List Tm) (i : Nat) : (mkL q L i)[i]? = L[i]? := by
  unfold mkL
  rw [List.getElem?_mapIdx]
  cases L[i]? with
  | none => rfl
  | some t => simp
theorem mkL_lt (q : Nat) (L : List Tm) {i j : Nat} {t : Tm} (h : j < i) (ht : L[j]? = some t) : (mkL q L i)[j]? = some { t with y := mkY (kAt q L j) t.y } := by
  unfold mkL
  rw [List.getElem?_mapIdx, ht]
  simp [h]
theorem mkL_next (q : Nat) (L : List Tm) {i : Nat} {t : Tm} (h : L[i]? = some t) : (mkL q L i).set i { t with y := mkY (kAt q L i) t.y } = mkL q L (i + 1) := by
  refine List.ext_getElem? fun j => ?_
  have hi : i < (mkL q L i).length := by rw [mkL_length]; exact (List.getElem?_eq_some_iff.1 h).1
  rw [getL_set hi]
  unfold mkL
  rw [List.getElem?_mapIdx, List.getElem?_mapIdx]
  by_cases e : j = i
  · subst e
    rw [if_pos rfl, h]
    simp
  · rw [if_neg e]
    cases L[j]? with
    | none => rfl
    | some u =>
      simp only [Option.map_some]
      by_cases e1 : j < i
      · rw [if_pos e1, if_pos (by omega)]
      · rw [if_neg e1, if_neg (by omega)]
theorem set_same {xs : List Value} {m : Nat} {v : Value} (h : xs[m]? = some v) : xs.set m v = xs := by
  obtain ⟨hm, rfl⟩ := List.getElem?_eq_some_iff.1 h
  exact List.set_getElem_self hm
/-- Five of a try's seven cells are stored, the others are what they were. -/
theorem set5of7 {L : List Tm} {i : Nat} {t u : Tm} (hq : L[i]? = some t) (hp : tmC u = [.int .i64 u.y.i, .int .i64 u.y.b, .string u.y.v, .slice t.pa t.y.ps.length t.pc, .bool u.y.as, .slice t.ka t.y.tk.length t.kc, .bool u.y.ch]) :
    (((((rowG tmC L).set (i * 7) (.int .i64 u.y.i)).set (i * 7 + 1) (.int .i64 u.y.b)).set (i * 7 + 2) (.string u.y.v)).set (i * 7 + 4) (.bool u.y.as)).set (i * 7 + 6) (.bool u.y.ch) = rowG tmC (L.set i u) := by
  obtain ⟨hi, rfl⟩ := List.getElem?_eq_some_iff.1 hq
  have h3 := rowG_at tmC 7 encT.len L i 3 hi (by decide)
  have h5 := rowG_at tmC 7 encT.len L i 5 hi (by decide)
  rw [rowG_set tmC 7 encT.len L i u hi, hp]
  have e3 : ((((rowG tmC L).set (i * 7) (.int .i64 u.y.i)).set (i * 7 + 1) (.int .i64 u.y.b)).set (i * 7 + 2) (.string u.y.v))[i * 7 + 3]? = some (.slice L[i].pa L[i].y.ps.length L[i].pc) := by
    rw [List.getElem?_set_ne (by omega), List.getElem?_set_ne (by omega), List.getElem?_set_ne (by omega), h3]
    rfl
  have e5 : (((((rowG tmC L).set (i * 7) (.int .i64 u.y.i)).set (i * 7 + 1) (.int .i64 u.y.b)).set (i * 7 + 2) (.string u.y.v)).set (i * 7 + 4) (.bool u.y.as))[i * 7 + 5]? = some (.slice L[i].ka L[i].y.tk.length L[i].kc) := by
    rw [List.getElem?_set_ne (by omega), List.getElem?_set_ne (by omega), List.getElem?_set_ne (by omega), List.getElem?_set_ne (by omega), h5]
    rfl
  show _ = (((((((rowG tmC L).set (i * 7) (.int .i64 u.y.i)).set (i * 7 + 1) (.int .i64 u.y.b)).set (i * 7 + 2) (.string u.y.v)).set (i * 7 + 3) _).set (i * 7 + 4) (.bool u.y.as)).set (i * 7 + 5) _).set (i * 7 + 6) (.bool u.y.ch)
  rw [set_same e3, set_same e5]
end Go.Proofs.Ytgehdgmllilmgaa
