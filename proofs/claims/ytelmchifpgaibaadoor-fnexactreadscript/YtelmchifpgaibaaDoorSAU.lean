/- Rows of events marked, and looked at for the marks. -/
import Derived.Test.YtelmchifpgaibaaDoorSAL
import Derived.Test.YtelmchifpgaibaaDoorSAP
import Derived.Test.YtelmchifpgaibaaDoorSAB
import Derived.Deep.RegionHeld3
import Derived.Deep.SlicePairs
import Derived.Lib.SmallJoins
import Derived.ProofKit
import Derived.OpenShut
namespace Go.Proofs.YtelmchifpgaibaaDoor
open Go.RowKit
set_option linter.unusedVariables false

def mEv (q : Nat) : Ev := ⟨(q : Int), (q : Int) + 1, (q : Int) + 1 + 1, (q : Int) + 1 + 1 + 1, mkT (q + 4), mkT (q + 5)⟩
theorem mark_atEvent (z : Int) (n : Nat) (w : World) (hz : z = (n : Int)) (hn : n ≤ 9223372036854775807) (h0 : 0 < n) : Calls Tryd.prog 22 #[.int .i64 z] w fun e w' => e = .returned (.string (mkT n)) ∧ Below w.heap.size w w' := by subst hz; exact markText_any n w hn h0

set_option maxRecDepth 100000 in
set_option maxHeartbeats 2000000 in
theorem markEventS_any (v : Value) (n k : Nat) (xs : List Value) (base : Nat) (w : World) (hn : n ≤ 1048576) (hk : k ≤ 33554432) (hk0 : 0 < k) (hown : w.ownsRow base 40 6 v n xs) :
    Calls Tryd.prog 9 #[v, .int .i64 k] w fun e w' => e = .returned (.int .i64 ((k : Int) + 6 * (n : Int))) ∧ w'.ownsRow base 40 6 v n (rowG evC (patG mEv 6 k n)) ∧ w.grownBy w' v.ownBlock := by
  have hxl := hown.1
  rcases hown.2 with ⟨rfl, rfl⟩ | ⟨g, cap, cur, rfl, hbg, hgg, _⟩
  · go_enter Tryd.func9, Tryd.ntmps9
    go_wp2
    refine wp_loop_rounds 1 ?_
    rw [rounds_succ]
    go_wp2
    go_ret
    exact ⟨by simp, by have : xs = [] := List.eq_nil_of_length_eq_zero (by omega); subst this; exact hown, World.grownBy.refl _ _⟩
  · have hgl := (Array.getElem?_eq_some_iff.1 hgg).1
    have HO := hide1 hown
    have HX := hide1 hxl
    clear hgg hown hxl
    go_enter Tryd.func9, Tryd.ntmps9
    go_wp2
    go_loopw [1, 5] (fun kv iv wr => ∃ i kk : Nat, i ≤ n ∧ iv = .int .i64 (i : Int) ∧ kv = .int .i64 (kk : Int) ∧ Hid (kk = k + 6 * i) ∧ 0 < kk ∧ kk ≤ 67108864 ∧ Hid (wr.ownsRow base 40 6 (.slice (some ⟨g, 0, none⟩) n cap) n (mkG mEv 6 k evC 6 xs i)) ∧ Hid (w.grownBy wr (some g))) (fun _ iv _ => n - (intOf iv).toNat)
    case atStart => exact ⟨0, k, by omega, rfl, rfl, rfl, hk0, by omega, hide1 (by rw [mkG_zero]; exact HO.out), hide1 (World.grownBy.refl _ _)⟩
    case round =>
      obtain ⟨i, kk, hi, rfl, rfl, hkk, hkp, hkm, OW, BW⟩ := hrel
      by_cases hlt : i < n
      · have k1 : (i : Int) < (n : Int) := by omega
        obtain ⟨u0, x0⟩ := own_some OW.out (i * 6) (by omega)
        have f0 := OW.out.frozenAt (i * 6)
        have OW0 := hide1 (World.ownsRow.stored OW.out (i * 6) (.int .i64 ((kk : Int)))).1
        have BW0 := hide1 (gset BW.out (i * 6) (.int .i64 ((kk : Int))))
        obtain ⟨u1, x1⟩ := own_some OW0.out (i * 6 + 1) (by omega)
        have f1 := OW0.out.frozenAt (i * 6 + 1)
        have OW1 := hide1 (World.ownsRow.stored OW0.out (i * 6 + 1) (.int .i64 ((kk : Int) + 1))).1
        have BW1 := hide1 (gset BW0.out (i * 6 + 1) (.int .i64 ((kk : Int) + 1)))
        obtain ⟨u2, x2⟩ := own_some OW1.out (i * 6 + 2) (by omega)
        have f2 := OW1.out.frozenAt (i * 6 + 2)
        have OW2 := hide1 (World.ownsRow.stored OW1.out (i * 6 + 2) (.int .i64 ((kk : Int) + 1 + 1))).1
        have BW2 := hide1 (gset BW1.out (i * 6 + 2) (.int .i64 ((kk : Int) + 1 + 1)))
        obtain ⟨u3, x3⟩ := own_some OW2.out (i * 6 + 3) (by omega)
        have f3 := OW2.out.frozenAt (i * 6 + 3)
        have OW3 := hide1 (World.ownsRow.stored OW2.out (i * 6 + 3) (.int .i64 ((kk : Int) + 1 + 1 + 1))).1
        have BW3 := hide1 (gset BW2.out (i * 6 + 3) (.int .i64 ((kk : Int) + 1 + 1 + 1)))
        have C4 := hide1 (fun (z : Int) (w : World) (hz : z = ((kk + 4 : Nat) : Int)) => mark_atEvent z (kk + 4) w hz (by omega) (by omega))
        go_wp2_with fail
        refine (C4.out _ _ (by omega)).mono ?_
        rintro e v4 ⟨rfl, hb4⟩
        have P4 := hide1 (own_kept OW3.out hb4)
        have D4 := hide1 (BW3.out.trans (gnew hb4))
        obtain ⟨u4, x4⟩ := own_some P4.out (i * 6 + 4) (by omega)
        have f4 := P4.out.frozenAt (i * 6 + 4)
        obtain ⟨z4, hz4⟩ : ∃ z, z = mkT (kk + 4) := ⟨_, rfl⟩
        rw [← hz4]
        have Z4 := hide1 hz4
        have OW4 := hide1 (World.ownsRow.stored P4.out (i * 6 + 4) (.string z4)).1
        have BW4 := hide1 (gset D4.out (i * 6 + 4) (.string z4))
        clear hb4 hz4 C4 P4 D4
        have C5 := hide1 (fun (z : Int) (w : World) (hz : z = ((kk + 5 : Nat) : Int)) => mark_atEvent z (kk + 5) w hz (by omega) (by omega))
        go_wp2_with fail
        refine (C5.out _ _ (by omega)).mono ?_
        rintro e v5 ⟨rfl, hb5⟩
        have P5 := hide1 (own_kept OW4.out hb5)
        have D5 := hide1 (BW4.out.trans (gnew hb5))
        obtain ⟨u5, x5⟩ := own_some P5.out (i * 6 + 5) (by omega)
        have f5 := P5.out.frozenAt (i * 6 + 5)
        obtain ⟨z5, hz5⟩ : ∃ z, z = mkT (kk + 5) := ⟨_, rfl⟩
        rw [← hz5]
        have Z5 := hide1 hz5
        have OW5 := hide1 (World.ownsRow.stored P5.out (i * 6 + 5) (.string z5)).1
        have BW5 := hide1 (gset D5.out (i * 6 + 5) (.string z5))
        clear hb5 hz5 C5 P5 D5
        go_wp2
        go_roundw
        case rel =>
          refine ⟨i + 1, kk + 6, by omega, by go_num, by go_num, ?_, by omega, by have := hkk.out; omega, ?_, BW5⟩
          · show kk + 6 = k + 6 * (i + 1); have := hkk.out; omega
          · have st := OW5.out
            have hn2 := mkG_next (enc := evC) (kk := 6) mEv 6 k encEv xs i (by have := HX.out; omega)
            rw [← hn2, ← hkk.out]
            have e9 : ((((((mkG mEv 6 k evC 6 xs i).set (i * 6) (.int .i64 ((kk : Int)))).set (i * 6 + 1) (.int .i64 ((kk : Int) + 1))).set (i * 6 + 2) (.int .i64 ((kk : Int) + 1 + 1))).set (i * 6 + 3) (.int .i64 ((kk : Int) + 1 + 1 + 1))).set (i * 6 + 4) (.string z4)).set (i * 6 + 5) (.string z5) = setL (mkG mEv 6 k evC 6 xs i) (i * 6) (evC (mEv kk)) := by
              rw [Z4.out, Z5.out]
              rfl
            rw [← e9]
            exact hide1 st
        case measure => simp [intOf]; omega
      · obtain rfl : i = n := by omega
        go_wp2
        go_ret
        have hown1 := OW.out
        rw [mkG_all _ _ _ encEv xs i HX.out] at hown1
        exact ⟨by rw [hkk.out]; simp, hown1, BW.out⟩

set_option maxRecDepth 100000 in
set_option maxHeartbeats 2000000 in
theorem heldEventS_any (ao : Option Addr) (n ca k : Nat) (w : World) (hn : n ≤ 1048576) (hk : k ≤ 33554432) (hk0 : 0 < k) (hA : RdG evC 6 w ao (patG mEv 6 k n)) :
    Calls Tryd.prog 11 #[.slice ao n ca, .int .i64 k] w fun e w' => e = .returned (.int .i64 ((k : Int) + 6 * (n : Int))) ∧ Below w.heap.size w w' := by
  have HA := hide1 hA
  clear hA
  go_enter Tryd.func11, Tryd.ntmps11
  go_wp2
  go_loopw [1, 5] (fun kv iv wr => ∃ i kk : Nat, i ≤ n ∧ iv = .int .i64 (i : Int) ∧ kv = .int .i64 (kk : Int) ∧ Hid (kk = k + 6 * i) ∧ 0 < kk ∧ kk ≤ 67108864 ∧ Hid (Below w.heap.size w wr)) (fun _ iv _ => n - (intOf iv).toNat)
  case atStart => exact ⟨0, k, by omega, rfl, rfl, rfl, hk0, by omega, hide1 (Below.refl _ _)⟩
  case round =>
    obtain ⟨i, kk, hi, rfl, rfl, hkk, hkp, hkm, BB⟩ := hrel
    by_cases hlt : i < n
    · have k1 : (i : Int) < (n : Int) := by omega
      obtain ⟨g, q, rfl, hg, h1⟩ := HA.out i (by rw [patG_length]; exact hlt)
      rw [patG_at, ← hkk.out] at h1
      have hgr : g < wr.heap.size := Nat.lt_of_lt_of_le hg BB.out.size
      have M0 := hide1 (show w.cell? ⟨g, q + i * 6, none⟩ = some (.int .i64 ((kk : Int))) from h1 0 (by omega))
      have e0 : ((kk : Int) != (kk : Int)) = false := by simp
      have M1 := hide1 (show w.cell? ⟨g, q + i * 6 + 1, none⟩ = some (.int .i64 ((kk : Int) + 1)) from h1 1 (by omega))
      have e1 : ((kk : Int) + 1 != (kk : Int) + 1) = false := by simp
      have M2 := hide1 (show w.cell? ⟨g, q + i * 6 + 2, none⟩ = some (.int .i64 ((kk : Int) + 1 + 1)) from h1 2 (by omega))
      have e2 : ((kk : Int) + 1 + 1 != (kk : Int) + 1 + 1) = false := by simp
      have M3 := hide1 (show w.cell? ⟨g, q + i * 6 + 3, none⟩ = some (.int .i64 ((kk : Int) + 1 + 1 + 1)) from h1 3 (by omega))
      have e3 : ((kk : Int) + 1 + 1 + 1 != (kk : Int) + 1 + 1 + 1) = false := by simp
      obtain ⟨z4, hz4⟩ : ∃ z, z = mkT (kk + 4) := ⟨_, rfl⟩
      have C4 := hide1 (fun (z : Int) (w : World) (hz : z = ((kk + 4 : Nat) : Int)) => show Calls Tryd.prog 22 #[.int .i64 z] w (fun e w' => e = .returned (.string z4) ∧ Below w.heap.size w w') by rw [hz4]; exact mark_atEvent z (kk + 4) w hz (by omega) (by omega))
      have M4 := hide1 (show w.cell? ⟨g, q + i * 6 + 4, none⟩ = some (.string z4) by rw [hz4]; exact h1 4 (by omega))
      have e4 : (z4.toList == z4.toList) = true := by simp
      clear hz4
      obtain ⟨z5, hz5⟩ : ∃ z, z = mkT (kk + 5) := ⟨_, rfl⟩
      have C5 := hide1 (fun (z : Int) (w : World) (hz : z = ((kk + 5 : Nat) : Int)) => show Calls Tryd.prog 22 #[.int .i64 z] w (fun e w' => e = .returned (.string z5) ∧ Below w.heap.size w w') by rw [hz5]; exact mark_atEvent z (kk + 5) w hz (by omega) (by omega))
      have M5 := hide1 (show w.cell? ⟨g, q + i * 6 + 5, none⟩ = some (.string z5) by rw [hz5]; exact h1 5 (by omega))
      have e5 : (z5.toList == z5.toList) = true := by simp
      clear hz5
      clear h1
      have x0 : wr.cell? ⟨g, q + i * 6, none⟩ = some (.int .i64 ((kk : Int))) := (BB.out.cell (p := ⟨g, q + i * 6, none⟩) hg).trans M0.out
      have x1 : wr.cell? ⟨g, q + i * 6 + 1, none⟩ = some (.int .i64 ((kk : Int) + 1)) := (BB.out.cell (p := ⟨g, q + i * 6 + 1, none⟩) hg).trans M1.out
      have x2 : wr.cell? ⟨g, q + i * 6 + 2, none⟩ = some (.int .i64 ((kk : Int) + 1 + 1)) := (BB.out.cell (p := ⟨g, q + i * 6 + 2, none⟩) hg).trans M2.out
      have x3 : wr.cell? ⟨g, q + i * 6 + 3, none⟩ = some (.int .i64 ((kk : Int) + 1 + 1 + 1)) := (BB.out.cell (p := ⟨g, q + i * 6 + 3, none⟩) hg).trans M3.out
      have x4 : wr.cell? ⟨g, q + i * 6 + 4, none⟩ = some (.string z4) := (BB.out.cell (p := ⟨g, q + i * 6 + 4, none⟩) hg).trans M4.out
      have lg4 : g < wr.heap.size := Nat.lt_of_lt_of_le hg BB.out.size
      go_wp2
      go_region_held3 (fun w' => w'.cell? ⟨g, q + i * 6 + 4, none⟩ = some (.string z4)) (first | go_keep | exact (hb4.cell lg4).trans x4) ((go_at_call 22; refine (C4.out _ _ (by omega)).mono ?_; rintro e v4 ⟨rfl, hb4⟩))
      have BB4 := hide1 (BB.out.trans ((Below.refl _ _).drew.trans (hb4.mono BB.out.size)))
      clear x4 hb4
      have x5 : v4.cell? ⟨g, q + i * 6 + 5, none⟩ = some (.string z5) := (BB4.out.cell (p := ⟨g, q + i * 6 + 5, none⟩) hg).trans M5.out
      have lg5 : g < v4.heap.size := Nat.lt_of_lt_of_le hg BB4.out.size
      go_wp2
      go_region_held3 (fun w' => w'.cell? ⟨g, q + i * 6 + 5, none⟩ = some (.string z5)) (first | go_keep | exact (hb5.cell lg5).trans x5) ((go_at_call 22; refine (C5.out _ _ (by omega)).mono ?_; rintro e v5 ⟨rfl, hb5⟩))
      have BB5 := hide1 (BB4.out.trans ((Below.refl _ _).drew.trans (hb5.mono BB4.out.size)))
      clear x5 hb5
      go_wp2
      go_roundw
      case rel => exact ⟨i + 1, kk + 6, by omega, by go_num, by go_num, by show kk + 6 = k + 6 * (i + 1); have := hkk.out; omega, by omega, by have := hkk.out; omega, BB5⟩
      case measure => simp [intOf]; omega
    · obtain rfl : i = n := by omega
      go_wp2
      go_ret
      exact ⟨by rw [hkk.out]; simp, BB.out⟩
end Go.Proofs.YtelmchifpgaibaaDoor
namespace Go.Proofs.YtelmchifpgaibaaDoor
open Go.ChangeShapes Go.WideShapes Go.ChangeAt Go.RowKit Go.Deep Go.Joins
set_option linter.unusedVariables false

set_option maxRecDepth 100000 in
theorem eqEvent_same (x : Ev) (w : World) : Calls Tryd.prog 20 #[.agg #[.int .i64 x.k, .int .i64 x.n, .int .i64 x.pl, .int .i64 x.op, .string x.key, .string x.val], .agg #[.int .i64 x.k, .int .i64 x.n, .int .i64 x.pl, .int .i64 x.op, .string x.key, .string x.val]] w fun e w' => e = .returned (.bool true) ∧ Below w.heap.size w w' := by
  have q0 : (x.k != x.k) = false := by simp
  have q1 : (x.n != x.n) = false := by simp
  have q2 : (x.pl != x.pl) = false := by simp
  have q3 : (x.op != x.op) = false := by simp
  obtain ⟨t4, r4⟩ := tx_eq x.key
  obtain ⟨t5, r5⟩ := tx_eq x.val
  obtain ⟨k, n, pl, op, key, val⟩ := x
  dsimp only at *
  go_enter Tryd.func20, Tryd.ntmps20
  go_wp2
  go_ret
  exact ⟨rfl, by go_grown⟩

set_option maxRecDepth 100000 in
set_option maxHeartbeats 400000 in
theorem eqEventS_same (a b : Option Addr) (l : List Ev) (ca cb : Nat) (w : World) (hl : l.length ≤ 1048576) (ha : RdG evC 6 w a l) (hb : RdG evC 6 w b l) :
    Calls Tryd.prog 7 #[.slice a l.length ca, .slice b l.length cb] w fun e w' => e = .returned (.bool true) ∧ Below w.heap.size w w' := by
  have HA := hide1 ha
  have HB := hide1 hb
  clear ha hb
  have q0 : ((l.length : Int) != (l.length : Int)) = false := by simp
  go_enter Tryd.func7, Tryd.ntmps7
  go_wp2
  go_loopw [5] (fun iv wr => ∃ i : Nat, i ≤ l.length ∧ iv = .int .i64 (i : Int) ∧ Below w.heap.size w wr) (fun iv _ => l.length - (intOf iv).toNat)
  case atStart => exact ⟨0, by omega, rfl, Below.refl _ _⟩
  case round =>
    obtain ⟨i, hi, rfl, hbel⟩ := hrel
    by_cases hlt : i < l.length
    · have k1 : (i : Int) < (l.length : Int) := by omega
      obtain ⟨b1, o1, rfl, hg1, h1⟩ := HA.out i hlt
      obtain ⟨b2, o2, rfl, hg2, h2⟩ := HB.out i hlt
      have x0 : wr.cell? ⟨b1, o1 + i * 6, none⟩ = some (.int .i64 l[i].k) := (hbel.cell (p := ⟨b1, o1 + i * 6, none⟩) hg1).trans (h1 0 (by omega))
      have x1 : wr.cell? ⟨b1, o1 + i * 6 + 1, none⟩ = some (.int .i64 l[i].n) := (hbel.cell (p := ⟨b1, o1 + i * 6 + 1, none⟩) hg1).trans (h1 1 (by omega))
      have x2 : wr.cell? ⟨b1, o1 + i * 6 + 2, none⟩ = some (.int .i64 l[i].pl) := (hbel.cell (p := ⟨b1, o1 + i * 6 + 2, none⟩) hg1).trans (h1 2 (by omega))
      have x3 : wr.cell? ⟨b1, o1 + i * 6 + 3, none⟩ = some (.int .i64 l[i].op) := (hbel.cell (p := ⟨b1, o1 + i * 6 + 3, none⟩) hg1).trans (h1 3 (by omega))
      have x4 : wr.cell? ⟨b1, o1 + i * 6 + 4, none⟩ = some (.string l[i].key) := (hbel.cell (p := ⟨b1, o1 + i * 6 + 4, none⟩) hg1).trans (h1 4 (by omega))
      have x5 : wr.cell? ⟨b1, o1 + i * 6 + 5, none⟩ = some (.string l[i].val) := (hbel.cell (p := ⟨b1, o1 + i * 6 + 5, none⟩) hg1).trans (h1 5 (by omega))
      have y0 : wr.cell? ⟨b2, o2 + i * 6, none⟩ = some (.int .i64 l[i].k) := (hbel.cell (p := ⟨b2, o2 + i * 6, none⟩) hg2).trans (h2 0 (by omega))
      have y1 : wr.cell? ⟨b2, o2 + i * 6 + 1, none⟩ = some (.int .i64 l[i].n) := (hbel.cell (p := ⟨b2, o2 + i * 6 + 1, none⟩) hg2).trans (h2 1 (by omega))
      have y2 : wr.cell? ⟨b2, o2 + i * 6 + 2, none⟩ = some (.int .i64 l[i].pl) := (hbel.cell (p := ⟨b2, o2 + i * 6 + 2, none⟩) hg2).trans (h2 2 (by omega))
      have y3 : wr.cell? ⟨b2, o2 + i * 6 + 3, none⟩ = some (.int .i64 l[i].op) := (hbel.cell (p := ⟨b2, o2 + i * 6 + 3, none⟩) hg2).trans (h2 3 (by omega))
      have y4 : wr.cell? ⟨b2, o2 + i * 6 + 4, none⟩ = some (.string l[i].key) := (hbel.cell (p := ⟨b2, o2 + i * 6 + 4, none⟩) hg2).trans (h2 4 (by omega))
      have y5 : wr.cell? ⟨b2, o2 + i * 6 + 5, none⟩ = some (.string l[i].val) := (hbel.cell (p := ⟨b2, o2 + i * 6 + 5, none⟩) hg2).trans (h2 5 (by omega))
      have cc := hide1 (fun w => eqEvent_same l[i] w)
      have hw1 : b1 < wr.heap.size := Nat.lt_of_lt_of_le hg1 hbel.size
      have hw2 : b2 < wr.heap.size := Nat.lt_of_lt_of_le hg2 hbel.size
      clear h1 h2
      generalize l[i] = s at *
      go_wp2
      go_region_held3 (fun w' => w'.cell? ⟨b1, o1 + i * 6, none⟩ = some (.int .i64 s.k) ∧ w'.cell? ⟨b1, o1 + i * 6 + 1, none⟩ = some (.int .i64 s.n) ∧ w'.cell? ⟨b1, o1 + i * 6 + 2, none⟩ = some (.int .i64 s.pl) ∧ w'.cell? ⟨b1, o1 + i * 6 + 3, none⟩ = some (.int .i64 s.op) ∧ w'.cell? ⟨b1, o1 + i * 6 + 4, none⟩ = some (.string s.key) ∧ w'.cell? ⟨b1, o1 + i * 6 + 5, none⟩ = some (.string s.val) ∧ w'.cell? ⟨b2, o2 + i * 6, none⟩ = some (.int .i64 s.k) ∧ w'.cell? ⟨b2, o2 + i * 6 + 1, none⟩ = some (.int .i64 s.n) ∧ w'.cell? ⟨b2, o2 + i * 6 + 2, none⟩ = some (.int .i64 s.pl) ∧ w'.cell? ⟨b2, o2 + i * 6 + 3, none⟩ = some (.int .i64 s.op) ∧ w'.cell? ⟨b2, o2 + i * 6 + 4, none⟩ = some (.string s.key) ∧ w'.cell? ⟨b2, o2 + i * 6 + 5, none⟩ = some (.string s.val)) (first | go_keep | exact ⟨x0, x1, x2, x3, x4, x5, y0, y1, y2, y3, y4, y5⟩ | exact ⟨(hb2.cell hw1).trans x0, (hb2.cell hw1).trans x1, (hb2.cell hw1).trans x2, (hb2.cell hw1).trans x3, (hb2.cell hw1).trans x4, (hb2.cell hw1).trans x5, (hb2.cell hw2).trans y0, (hb2.cell hw2).trans y1, (hb2.cell hw2).trans y2, (hb2.cell hw2).trans y3, (hb2.cell hw2).trans y4, (hb2.cell hw2).trans y5⟩) ((go_at_call 20; refine (cc.out _).mono ?_; rintro e w2 ⟨rfl, hb2⟩))
      go_wp2
      go_roundw
      case rel => exact ⟨i + 1, by omega, by go_num, hbel.trans ((Below.refl _ _).drew.trans (hb2.mono hbel.size))⟩
      case measure => simp [intOf]; omega
    · go_wp2
      go_ret
      exact ⟨rfl, hbel⟩

def wfEvent (s : Ev) : Prop := (-9223372036854775808 ≤ s.k ∧ s.k ≤ 9223372036854775807) ∧ (-9223372036854775808 ≤ s.n ∧ s.n ≤ 9223372036854775807) ∧ (-9223372036854775808 ≤ s.pl ∧ s.pl ≤ 9223372036854775807) ∧ (-9223372036854775808 ≤ s.op ∧ s.op ≤ 9223372036854775807) ∧ s.key.size ≤ maxLen ∧ s.val.size ≤ maxLen
instance : Inhabited Ev := ⟨(⟨0, 0, 0, 0, ⟨#[]⟩, ⟨#[]⟩⟩ : Ev)⟩
end Go.Proofs.YtelmchifpgaibaaDoor
