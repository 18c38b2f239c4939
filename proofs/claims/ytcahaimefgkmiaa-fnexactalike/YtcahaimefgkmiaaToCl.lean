/- Rows of calls in the statements' words. -/
import Derived.Test.YtcahaimefgkmiaaClM
import Derived.Deep.RegionHeld3
import Derived.Deep.SlicePairs
import Derived.Lib.SmallJoins
import Derived.ProofKit
import Derived.OpenShut
namespace Go.Proofs.Ytcahaimefgkmiaa
open Go.ChangeShapes Go.WideShapes Go.ChangeAt Go.RowKit Go.Deep Go.Joins
set_option linter.unusedVariables false

set_option maxRecDepth 100000 in
theorem toCall_any (x : Cl) (w : World) : Calls Try.prog 10 #[.agg #[.int .i64 x.op, .string x.key, .string x.val, .int .i64 x.wh, .int .i64 x.dn, .int .i64 x.vr, .int .i64 x.ep, .int .i64 x.nu, .string x.gt]] w fun e w' => e = .returned (.agg #[.int .i64 x.op, .string x.key, .string x.val, .int .i64 x.wh, .int .i64 x.dn, .int .i64 x.vr, .int .i64 x.ep, .int .i64 x.nu, .string x.gt]) ∧ Below w.heap.size w w' := by
  go_enter Try.func10, Try.ntmps10
  go_wp2
  go_returns
  exact ⟨rfl, by go_grown⟩

set_option maxRecDepth 100000 in
theorem eqCall_same (x : Cl) (w : World) : Calls Try.prog 34 #[.agg #[.int .i64 x.op, .string x.key, .string x.val, .int .i64 x.wh, .int .i64 x.dn, .int .i64 x.vr, .int .i64 x.ep, .int .i64 x.nu, .string x.gt], .agg #[.int .i64 x.op, .string x.key, .string x.val, .int .i64 x.wh, .int .i64 x.dn, .int .i64 x.vr, .int .i64 x.ep, .int .i64 x.nu, .string x.gt]] w fun e w' => e = .returned (.bool true) ∧ Below w.heap.size w w' := by
  have q0 : (x.op != x.op) = false := by simp
  have q3 : (x.wh != x.wh) = false := by simp
  have q4 : (x.dn != x.dn) = false := by simp
  have q5 : (x.vr != x.vr) = false := by simp
  have q6 : (x.ep != x.ep) = false := by simp
  have q7 : (x.nu != x.nu) = false := by simp
  obtain ⟨t1, r1⟩ := tx_eq x.key
  obtain ⟨t2, r2⟩ := tx_eq x.val
  obtain ⟨t8, r8⟩ := tx_eq x.gt
  obtain ⟨op, key, val, wh, dn, vr, ep, nu, gt⟩ := x
  dsimp only at *
  go_enter Try.func34, Try.ntmps34
  go_wp2
  go_ret
  exact ⟨rfl, by go_grown⟩

set_option maxRecDepth 100000 in
theorem szCall_any (x : Cl) (left : Nat) (w : World) (hk : x.key.size ≤ 9223372036854775807 ∧ x.val.size ≤ 9223372036854775807 ∧ x.gt.size ≤ 9223372036854775807) (hl : left ≤ 1048576) :
    Calls Try.prog 8 #[.agg #[.int .i64 x.op, .string x.key, .string x.val, .int .i64 x.wh, .int .i64 x.dn, .int .i64 x.vr, .int .i64 x.ep, .int .i64 x.nu, .string x.gt], .int .i64 (left : Int)] w fun e w' => (e = .returned (.int .i64 (-1)) ∨ ∃ r : Nat, e = .returned (.int .i64 (r : Int)) ∧ r + x.key.size + x.val.size + x.gt.size = left) ∧ Below w.heap.size w w' := by
  by_cases c0 : x.key.size ≤ left
  · have q0 : decide ((left : Int) - (x.key.size : Int) < 0) = false := decide_eq_false (by omega)
    have n0 : ¬ ((left : Int) - (x.key.size : Int) < 0) := by omega
    by_cases c1 : x.key.size + x.val.size ≤ left
    · have q1 : decide ((left : Int) - (x.key.size : Int) - (x.val.size : Int) < 0) = false := decide_eq_false (by omega)
      have n1 : ¬ ((left : Int) - (x.key.size : Int) - (x.val.size : Int) < 0) := by omega
      by_cases c2 : x.key.size + x.val.size + x.gt.size ≤ left
      · have q2 : decide ((left : Int) - (x.key.size : Int) - (x.val.size : Int) - (x.gt.size : Int) < 0) = false := decide_eq_false (by omega)
        have n2 : ¬ ((left : Int) - (x.key.size : Int) - (x.val.size : Int) - (x.gt.size : Int) < 0) := by omega
        go_enter Try.func8, Try.ntmps8
        go_wp2
        go_ret
        exact ⟨.inr ⟨left - x.key.size - x.val.size - x.gt.size, by show Ending.returned (.int .i64 ((left : Int) - (x.key.size : Int) - (x.val.size : Int) - (x.gt.size : Int))) = _; rw [show ((left - x.key.size - x.val.size - x.gt.size : Nat) : Int) = (left : Int) - (x.key.size : Int) - (x.val.size : Int) - (x.gt.size : Int) by omega], by omega⟩, by go_grown⟩
      · have q2 : decide ((left : Int) - (x.key.size : Int) - (x.val.size : Int) - (x.gt.size : Int) < 0) = true := decide_eq_true (by omega)
        have n2 : (left : Int) - (x.key.size : Int) - (x.val.size : Int) - (x.gt.size : Int) < 0 := by omega
        go_enter Try.func8, Try.ntmps8
        go_wp2
        go_ret
        exact ⟨.inl rfl, by go_grown⟩
    · have q1 : decide ((left : Int) - (x.key.size : Int) - (x.val.size : Int) < 0) = true := decide_eq_true (by omega)
      have n1 : (left : Int) - (x.key.size : Int) - (x.val.size : Int) < 0 := by omega
      go_enter Try.func8, Try.ntmps8
      go_wp2
      go_ret
      exact ⟨.inl rfl, by go_grown⟩
  · have q0 : decide ((left : Int) - (x.key.size : Int) < 0) = true := decide_eq_true (by omega)
    have n0 : (left : Int) - (x.key.size : Int) < 0 := by omega
    go_enter Try.func8, Try.ntmps8
    go_wp2
    go_ret
    exact ⟨.inl rfl, by go_grown⟩

set_option maxRecDepth 100000 in
set_option maxHeartbeats 400000 in
theorem toCallS_any (ao : Option Addr) (l : List Cl) (ca : Nat) (w : World) (hl : l.length ≤ 1048576) (hA : RdG clC 9 w ao l) :
    Calls Try.prog 14 #[.slice ao l.length ca] w fun e w' => ∃ b c, e = .returned (.slice b l.length c) ∧ w'.ownsRow w.heap.size 26 9 (.slice b l.length c) l.length (rowG clC l) ∧ Below w.heap.size w w' := by
  obtain ⟨i0, hi, hz0, hz1, hz2⟩ := info_parts Try.infoCl
  have HA := hide1 hA
  clear hA
  go_enter Try.func14, Try.ntmps14
  go_wp2_with (at_make; (refine wpList_make_full _ rfl _ _ 32 rfl w.heap.size 26 i0 (.agg #[.int .i64 0, .string ⟨#[]⟩, .string ⟨#[]⟩, .int .i64 0, .int .i64 0, .int .i64 0, .int .i64 0, .int .i64 0, .string ⟨#[]⟩]) 9 Try.underlying32 hi hz0 hz1 _ _ _ _ l.length rfl rfl rfl rfl (by rw [hz2]; omega) (by unfold maxLen; omega) (Nat.le_refl _) ?_; intro w0 hown0 hg0))
  rw [show (madeCells (.agg #[.int .i64 0, .string ⟨#[]⟩, .string ⟨#[]⟩, .int .i64 0, .int .i64 0, .int .i64 0, .int .i64 0, .int .i64 0, .string ⟨#[]⟩] : Value).cells (l.length * 9)).toList = rowG clC (List.replicate l.length (⟨0, ⟨#[]⟩, ⟨#[]⟩, 0, 0, 0, 0, 0, ⟨#[]⟩⟩ : Cl)) from madeG encCl (by decide) (⟨0, ⟨#[]⟩, ⟨#[]⟩, 0, 0, 0, 0, 0, ⟨#[]⟩⟩ : Cl) l.length] at hown0
  have HO := hide1 hown0
  clear hown0
  go_loopw [4] (fun iv wr => ∃ i : Nat, i ≤ l.length ∧ iv = .int .i64 (i : Int) ∧ wr.ownsRow w.heap.size 26 9 (.slice (some ⟨w.heap.size, 0, none⟩) l.length l.length) l.length (rowG clC (l.take i ++ List.replicate (l.length - i) (⟨0, ⟨#[]⟩, ⟨#[]⟩, 0, 0, 0, 0, 0, ⟨#[]⟩⟩ : Cl))) ∧ Below w.heap.size w wr) (fun iv _ => l.length - (intOf iv).toNat)
  case atStart => exact ⟨0, by omega, rfl, by simpa using HO.out, Below.grown (Below.refl _ _) hg0 (Nat.le_refl _) (by intro k hk; cases hk)⟩
  case round =>
    obtain ⟨i, hi, rfl, hown, hbel⟩ := hrel
    by_cases hlt : i < l.length
    · have k1 : (i : Int) < (l.length : Int) := by omega
      obtain ⟨b, o, rfl, hb, h1⟩ := HA.out i hlt
      have x0 : wr.cell? ⟨b, o + i * 9, none⟩ = some (.int .i64 l[i].op) := (hbel.cell (p := ⟨b, o + i * 9, none⟩) hb).trans (h1 0 (by omega))
      have x1 : wr.cell? ⟨b, o + i * 9 + 1, none⟩ = some (.string l[i].key) := (hbel.cell (p := ⟨b, o + i * 9 + 1, none⟩) hb).trans (h1 1 (by omega))
      have x2 : wr.cell? ⟨b, o + i * 9 + 2, none⟩ = some (.string l[i].val) := (hbel.cell (p := ⟨b, o + i * 9 + 2, none⟩) hb).trans (h1 2 (by omega))
      have x3 : wr.cell? ⟨b, o + i * 9 + 3, none⟩ = some (.int .i64 l[i].wh) := (hbel.cell (p := ⟨b, o + i * 9 + 3, none⟩) hb).trans (h1 3 (by omega))
      have x4 : wr.cell? ⟨b, o + i * 9 + 4, none⟩ = some (.int .i64 l[i].dn) := (hbel.cell (p := ⟨b, o + i * 9 + 4, none⟩) hb).trans (h1 4 (by omega))
      have x5 : wr.cell? ⟨b, o + i * 9 + 5, none⟩ = some (.int .i64 l[i].vr) := (hbel.cell (p := ⟨b, o + i * 9 + 5, none⟩) hb).trans (h1 5 (by omega))
      have x6 : wr.cell? ⟨b, o + i * 9 + 6, none⟩ = some (.int .i64 l[i].ep) := (hbel.cell (p := ⟨b, o + i * 9 + 6, none⟩) hb).trans (h1 6 (by omega))
      have x7 : wr.cell? ⟨b, o + i * 9 + 7, none⟩ = some (.int .i64 l[i].nu) := (hbel.cell (p := ⟨b, o + i * 9 + 7, none⟩) hb).trans (h1 7 (by omega))
      have x8 : wr.cell? ⟨b, o + i * 9 + 8, none⟩ = some (.string l[i].gt) := (hbel.cell (p := ⟨b, o + i * 9 + 8, none⟩) hb).trans (h1 8 (by omega))
      have cc := hide1 (fun w => toCall_any l[i] w)
      generalize hs : l[i] = s at *
      have HS := hide1 hs
      clear h1 hs
      have HO1 := hide1 hown
      clear hown
      go_wp2_with fail
      refine (cc.out _).mono ?_
      rintro e w2 ⟨rfl, hb2⟩
      have o2 := own_kept HO1.out hb2
      obtain ⟨u0, y0⟩ := own_some o2 (i * 9) (by omega)
      obtain ⟨u1, y1⟩ := own_some o2 (i * 9 + 1) (by omega)
      obtain ⟨u2, y2⟩ := own_some o2 (i * 9 + 2) (by omega)
      obtain ⟨u3, y3⟩ := own_some o2 (i * 9 + 3) (by omega)
      obtain ⟨u4, y4⟩ := own_some o2 (i * 9 + 4) (by omega)
      obtain ⟨u5, y5⟩ := own_some o2 (i * 9 + 5) (by omega)
      obtain ⟨u6, y6⟩ := own_some o2 (i * 9 + 6) (by omega)
      obtain ⟨u7, y7⟩ := own_some o2 (i * 9 + 7) (by omega)
      obtain ⟨u8, y8⟩ := own_some o2 (i * 9 + 8) (by omega)
      have f0 := o2.frozenAt (i * 9)
      have f1 := o2.frozenAt (i * 9 + 1)
      have f2 := o2.frozenAt (i * 9 + 2)
      have f3 := o2.frozenAt (i * 9 + 3)
      have f4 := o2.frozenAt (i * 9 + 4)
      have f5 := o2.frozenAt (i * 9 + 5)
      have f6 := o2.frozenAt (i * 9 + 6)
      have f7 := o2.frozenAt (i * 9 + 7)
      have f8 := o2.frozenAt (i * 9 + 8)
      have O2 := hide1 o2
      clear o2
      go_wp2
      go_roundw
      case rel =>
        refine ⟨i + 1, by omega, by go_num, ?_, below_putG (clC s) (i * 9) (hbel.trans (hb2.mono hbel.size)) (Nat.le_refl _)⟩
        rw [← fillG l (⟨0, ⟨#[]⟩, ⟨#[]⟩, 0, 0, 0, 0, 0, ⟨#[]⟩⟩ : Cl) s i hlt HS.out, rowG_set clC 9 encCl.len _ _ _ (by simp; omega)]
        exact own_putG (clC s) (i * 9) O2.out
      case measure => simp [intOf]; omega
    · obtain rfl : i = l.length := by omega
      go_wp2
      go_ret
      exact ⟨_, _, rfl, by simpa using hown, hbel⟩

set_option maxRecDepth 100000 in
set_option maxHeartbeats 400000 in
theorem szCallS_any (ao : Option Addr) (l : List Cl) (ca left0 : Nat) (w : World) (hl0 : left0 ≤ 1048576) (hl : l.length ≤ 9223372036854775807) (hA : RdG clC 9 w ao l) (hS : ∀ i (h : i < l.length), l[i].key.size ≤ 9223372036854775807 ∧ l[i].val.size ≤ 9223372036854775807 ∧ l[i].gt.size ≤ 9223372036854775807) :
    Calls Try.prog 12 #[.slice ao l.length ca, .int .i64 (left0 : Int)] w fun e w' => (e = .returned (.int .i64 (-1)) ∨ ∃ r : Nat, e = .returned (.int .i64 (r : Int)) ∧ r ≤ left0 ∧ l.length ≤ left0 ∧ ∀ i (h : i < l.length), l[i].key.size ≤ 1048576 ∧ l[i].val.size ≤ 1048576 ∧ l[i].gt.size ≤ 1048576) ∧ Below w.heap.size w w' := by
  by_cases c0 : l.length ≤ left0
  · have q0 : decide ((left0 : Int) - (l.length : Int) < 0) = false := by simp; omega
    have HA := hide1 hA
    have HS := hide1 hS
    clear hA hS
    go_enter Try.func12, Try.ntmps12
    go_wp2
    go_loopw [1, 5] (fun lv iv wr => ∃ i left : Nat, i ≤ l.length ∧ iv = .int .i64 (i : Int) ∧ lv = .int .i64 (left : Int) ∧ left ≤ left0 ∧ Hid (∀ j (h : j < l.length), j < i → l[j].key.size ≤ 1048576 ∧ l[j].val.size ≤ 1048576 ∧ l[j].gt.size ≤ 1048576) ∧ Below w.heap.size w wr) (fun _ iv _ => l.length - (intOf iv).toNat)
    case atStart => exact ⟨0, left0 - l.length, by omega, rfl, by rw [show ((left0 - l.length : Nat) : Int) = (left0 : Int) - (l.length : Int) by omega], by omega, fun j _ h => by omega, Below.refl _ _⟩
    case round =>
      obtain ⟨i, left, hi, rfl, rfl, hle, hdone, hbel⟩ := hrel
      by_cases hlt : i < l.length
      · have k1 : (i : Int) < (l.length : Int) := by omega
        obtain ⟨b, o, rfl, hb, h1⟩ := HA.out i hlt
        have x0 : wr.cell? ⟨b, o + i * 9, none⟩ = some (.int .i64 l[i].op) := (hbel.cell (p := ⟨b, o + i * 9, none⟩) hb).trans (h1 0 (by omega))
        have x1 : wr.cell? ⟨b, o + i * 9 + 1, none⟩ = some (.string l[i].key) := (hbel.cell (p := ⟨b, o + i * 9 + 1, none⟩) hb).trans (h1 1 (by omega))
        have x2 : wr.cell? ⟨b, o + i * 9 + 2, none⟩ = some (.string l[i].val) := (hbel.cell (p := ⟨b, o + i * 9 + 2, none⟩) hb).trans (h1 2 (by omega))
        have x3 : wr.cell? ⟨b, o + i * 9 + 3, none⟩ = some (.int .i64 l[i].wh) := (hbel.cell (p := ⟨b, o + i * 9 + 3, none⟩) hb).trans (h1 3 (by omega))
        have x4 : wr.cell? ⟨b, o + i * 9 + 4, none⟩ = some (.int .i64 l[i].dn) := (hbel.cell (p := ⟨b, o + i * 9 + 4, none⟩) hb).trans (h1 4 (by omega))
        have x5 : wr.cell? ⟨b, o + i * 9 + 5, none⟩ = some (.int .i64 l[i].vr) := (hbel.cell (p := ⟨b, o + i * 9 + 5, none⟩) hb).trans (h1 5 (by omega))
        have x6 : wr.cell? ⟨b, o + i * 9 + 6, none⟩ = some (.int .i64 l[i].ep) := (hbel.cell (p := ⟨b, o + i * 9 + 6, none⟩) hb).trans (h1 6 (by omega))
        have x7 : wr.cell? ⟨b, o + i * 9 + 7, none⟩ = some (.int .i64 l[i].nu) := (hbel.cell (p := ⟨b, o + i * 9 + 7, none⟩) hb).trans (h1 7 (by omega))
        have x8 : wr.cell? ⟨b, o + i * 9 + 8, none⟩ = some (.string l[i].gt) := (hbel.cell (p := ⟨b, o + i * 9 + 8, none⟩) hb).trans (h1 8 (by omega))
        have m1 := HS.out i hlt
        have cc := hide1 (fun w => szCall_any l[i] left w m1 (by omega))
        generalize hs : l[i] = s at *
        have HSS := hide1 hs
        clear h1 hs
        go_wp2_with fail
        refine (cc.out _).mono ?_
        rintro e w2 ⟨hr, hb2⟩
        have B2 := hide1 (hbel.trans (hb2.mono hbel.size))
        rcases hr with rfl | ⟨r, rfl, hr⟩
        · go_wp2
          go_ret
          exact ⟨.inl rfl, B2.out⟩
        · have q : decide ((r : Int) < 0) = false := by simp
          have HR := hide1 hr
          have hr2 : r ≤ left0 := by omega
          clear hr m1
          go_wp2
          go_roundw
          case rel => exact ⟨i + 1, r, by omega, by go_num, rfl, hr2, (fun j h hj => by
            by_cases e : j < i
            · exact hdone.out j h e
            · obtain rfl : j = i := by omega
              have := HR.out
              rw [HSS.out]
              omega), B2.out⟩
          case measure => simp [intOf]; omega
      · go_wp2
        go_ret
        exact ⟨.inr ⟨left, rfl, hle, c0, fun j h => hdone.out j h (by omega)⟩, hbel⟩
  · have q0 : decide ((left0 : Int) - (l.length : Int) < 0) = true := by simp; omega
    clear hA hS
    go_enter Try.func12, Try.ntmps12
    go_wp2
    go_ret
    exact ⟨.inl rfl, Below.refl _ _⟩

set_option maxRecDepth 100000 in
set_option maxHeartbeats 400000 in
theorem eqCallS_same (a b : Option Addr) (l : List Cl) (ca cb : Nat) (w : World) (hl : l.length ≤ 1048576) (ha : RdG clC 9 w a l) (hb : RdG clC 9 w b l) :
    Calls Try.prog 16 #[.slice a l.length ca, .slice b l.length cb] w fun e w' => e = .returned (.bool true) ∧ Below w.heap.size w w' := by
  have HA := hide1 ha
  have HB := hide1 hb
  clear ha hb
  have q0 : ((l.length : Int) != (l.length : Int)) = false := by simp
  go_enter Try.func16, Try.ntmps16
  go_wp2
  go_loopw [5] (fun iv wr => ∃ i : Nat, i ≤ l.length ∧ iv = .int .i64 (i : Int) ∧ Below w.heap.size w wr) (fun iv _ => l.length - (intOf iv).toNat)
  case atStart => exact ⟨0, by omega, rfl, Below.refl _ _⟩
  case round =>
    obtain ⟨i, hi, rfl, hbel⟩ := hrel
    by_cases hlt : i < l.length
    · have k1 : (i : Int) < (l.length : Int) := by omega
      obtain ⟨b1, o1, rfl, hg1, h1⟩ := HA.out i hlt
      obtain ⟨b2, o2, rfl, hg2, h2⟩ := HB.out i hlt
      have x0 : wr.cell? ⟨b1, o1 + i * 9, none⟩ = some (.int .i64 l[i].op) := (hbel.cell (p := ⟨b1, o1 + i * 9, none⟩) hg1).trans (h1 0 (by omega))
      have x1 : wr.cell? ⟨b1, o1 + i * 9 + 1, none⟩ = some (.string l[i].key) := (hbel.cell (p := ⟨b1, o1 + i * 9 + 1, none⟩) hg1).trans (h1 1 (by omega))
      have x2 : wr.cell? ⟨b1, o1 + i * 9 + 2, none⟩ = some (.string l[i].val) := (hbel.cell (p := ⟨b1, o1 + i * 9 + 2, none⟩) hg1).trans (h1 2 (by omega))
      have x3 : wr.cell? ⟨b1, o1 + i * 9 + 3, none⟩ = some (.int .i64 l[i].wh) := (hbel.cell (p := ⟨b1, o1 + i * 9 + 3, none⟩) hg1).trans (h1 3 (by omega))
      have x4 : wr.cell? ⟨b1, o1 + i * 9 + 4, none⟩ = some (.int .i64 l[i].dn) := (hbel.cell (p := ⟨b1, o1 + i * 9 + 4, none⟩) hg1).trans (h1 4 (by omega))
      have x5 : wr.cell? ⟨b1, o1 + i * 9 + 5, none⟩ = some (.int .i64 l[i].vr) := (hbel.cell (p := ⟨b1, o1 + i * 9 + 5, none⟩) hg1).trans (h1 5 (by omega))
      have x6 : wr.cell? ⟨b1, o1 + i * 9 + 6, none⟩ = some (.int .i64 l[i].ep) := (hbel.cell (p := ⟨b1, o1 + i * 9 + 6, none⟩) hg1).trans (h1 6 (by omega))
      have x7 : wr.cell? ⟨b1, o1 + i * 9 + 7, none⟩ = some (.int .i64 l[i].nu) := (hbel.cell (p := ⟨b1, o1 + i * 9 + 7, none⟩) hg1).trans (h1 7 (by omega))
      have x8 : wr.cell? ⟨b1, o1 + i * 9 + 8, none⟩ = some (.string l[i].gt) := (hbel.cell (p := ⟨b1, o1 + i * 9 + 8, none⟩) hg1).trans (h1 8 (by omega))
      have y0 : wr.cell? ⟨b2, o2 + i * 9, none⟩ = some (.int .i64 l[i].op) := (hbel.cell (p := ⟨b2, o2 + i * 9, none⟩) hg2).trans (h2 0 (by omega))
      have y1 : wr.cell? ⟨b2, o2 + i * 9 + 1, none⟩ = some (.string l[i].key) := (hbel.cell (p := ⟨b2, o2 + i * 9 + 1, none⟩) hg2).trans (h2 1 (by omega))
      have y2 : wr.cell? ⟨b2, o2 + i * 9 + 2, none⟩ = some (.string l[i].val) := (hbel.cell (p := ⟨b2, o2 + i * 9 + 2, none⟩) hg2).trans (h2 2 (by omega))
      have y3 : wr.cell? ⟨b2, o2 + i * 9 + 3, none⟩ = some (.int .i64 l[i].wh) := (hbel.cell (p := ⟨b2, o2 + i * 9 + 3, none⟩) hg2).trans (h2 3 (by omega))
      have y4 : wr.cell? ⟨b2, o2 + i * 9 + 4, none⟩ = some (.int .i64 l[i].dn) := (hbel.cell (p := ⟨b2, o2 + i * 9 + 4, none⟩) hg2).trans (h2 4 (by omega))
      have y5 : wr.cell? ⟨b2, o2 + i * 9 + 5, none⟩ = some (.int .i64 l[i].vr) := (hbel.cell (p := ⟨b2, o2 + i * 9 + 5, none⟩) hg2).trans (h2 5 (by omega))
      have y6 : wr.cell? ⟨b2, o2 + i * 9 + 6, none⟩ = some (.int .i64 l[i].ep) := (hbel.cell (p := ⟨b2, o2 + i * 9 + 6, none⟩) hg2).trans (h2 6 (by omega))
      have y7 : wr.cell? ⟨b2, o2 + i * 9 + 7, none⟩ = some (.int .i64 l[i].nu) := (hbel.cell (p := ⟨b2, o2 + i * 9 + 7, none⟩) hg2).trans (h2 7 (by omega))
      have y8 : wr.cell? ⟨b2, o2 + i * 9 + 8, none⟩ = some (.string l[i].gt) := (hbel.cell (p := ⟨b2, o2 + i * 9 + 8, none⟩) hg2).trans (h2 8 (by omega))
      have cc := hide1 (fun w => eqCall_same l[i] w)
      have hw1 : b1 < wr.heap.size := Nat.lt_of_lt_of_le hg1 hbel.size
      have hw2 : b2 < wr.heap.size := Nat.lt_of_lt_of_le hg2 hbel.size
      clear h1 h2
      generalize l[i] = s at *
      go_wp2
      go_region_held3 (fun w' => w'.cell? ⟨b1, o1 + i * 9, none⟩ = some (.int .i64 s.op) ∧ w'.cell? ⟨b1, o1 + i * 9 + 1, none⟩ = some (.string s.key) ∧ w'.cell? ⟨b1, o1 + i * 9 + 2, none⟩ = some (.string s.val) ∧ w'.cell? ⟨b1, o1 + i * 9 + 3, none⟩ = some (.int .i64 s.wh) ∧ w'.cell? ⟨b1, o1 + i * 9 + 4, none⟩ = some (.int .i64 s.dn) ∧ w'.cell? ⟨b1, o1 + i * 9 + 5, none⟩ = some (.int .i64 s.vr) ∧ w'.cell? ⟨b1, o1 + i * 9 + 6, none⟩ = some (.int .i64 s.ep) ∧ w'.cell? ⟨b1, o1 + i * 9 + 7, none⟩ = some (.int .i64 s.nu) ∧ w'.cell? ⟨b1, o1 + i * 9 + 8, none⟩ = some (.string s.gt) ∧ w'.cell? ⟨b2, o2 + i * 9, none⟩ = some (.int .i64 s.op) ∧ w'.cell? ⟨b2, o2 + i * 9 + 1, none⟩ = some (.string s.key) ∧ w'.cell? ⟨b2, o2 + i * 9 + 2, none⟩ = some (.string s.val) ∧ w'.cell? ⟨b2, o2 + i * 9 + 3, none⟩ = some (.int .i64 s.wh) ∧ w'.cell? ⟨b2, o2 + i * 9 + 4, none⟩ = some (.int .i64 s.dn) ∧ w'.cell? ⟨b2, o2 + i * 9 + 5, none⟩ = some (.int .i64 s.vr) ∧ w'.cell? ⟨b2, o2 + i * 9 + 6, none⟩ = some (.int .i64 s.ep) ∧ w'.cell? ⟨b2, o2 + i * 9 + 7, none⟩ = some (.int .i64 s.nu) ∧ w'.cell? ⟨b2, o2 + i * 9 + 8, none⟩ = some (.string s.gt)) (first | go_keep | exact ⟨x0, x1, x2, x3, x4, x5, x6, x7, x8, y0, y1, y2, y3, y4, y5, y6, y7, y8⟩ | exact ⟨(hb2.cell hw1).trans x0, (hb2.cell hw1).trans x1, (hb2.cell hw1).trans x2, (hb2.cell hw1).trans x3, (hb2.cell hw1).trans x4, (hb2.cell hw1).trans x5, (hb2.cell hw1).trans x6, (hb2.cell hw1).trans x7, (hb2.cell hw1).trans x8, (hb2.cell hw2).trans y0, (hb2.cell hw2).trans y1, (hb2.cell hw2).trans y2, (hb2.cell hw2).trans y3, (hb2.cell hw2).trans y4, (hb2.cell hw2).trans y5, (hb2.cell hw2).trans y6, (hb2.cell hw2).trans y7, (hb2.cell hw2).trans y8⟩) ((go_at_call 34; refine (cc.out _).mono ?_; rintro e w2 ⟨rfl, hb2⟩))
      go_wp2
      go_roundw
      case rel => exact ⟨i + 1, by omega, by go_num, hbel.trans ((Below.refl _ _).drew.trans (hb2.mono hbel.size))⟩
      case measure => simp [intOf]; omega
    · go_wp2
      go_ret
      exact ⟨rfl, hbel⟩

def wfCall (s : Cl) : Prop := (-9223372036854775808 ≤ s.op ∧ s.op ≤ 9223372036854775807) ∧ s.key.size ≤ maxLen ∧ s.val.size ≤ maxLen ∧ (-9223372036854775808 ≤ s.wh ∧ s.wh ≤ 9223372036854775807) ∧ (-9223372036854775808 ≤ s.dn ∧ s.dn ≤ 9223372036854775807) ∧ (-9223372036854775808 ≤ s.vr ∧ s.vr ≤ 9223372036854775807) ∧ (-9223372036854775808 ≤ s.ep ∧ s.ep ≤ 9223372036854775807) ∧ (-9223372036854775808 ≤ s.nu ∧ s.nu ≤ 9223372036854775807) ∧ s.gt.size ≤ maxLen
set_option maxRecDepth 100000 in
theorem open_callE {H : Type} {enc : TypeId × Value → H} {w : World} {base fuel : Nat} {sp : Nat → Bool} {held : Bool} {cs : List Value} {x : DataW H × List MemPlace} (h : DataW.trod enc Try.prog w base sp held fuel 23 cs = some x) :
    ∃ s : Cl, cs = clC s ∧ wfCall s := by
  obtain ⟨xs, n, _, _, hlen, hxl, hf⟩ := DataW.trod_struct Try.underlying23 h
  have hc : Try.prog.cellsOf 23 = 9 := by kernel_rfl
  rw [hc] at hlen
  match xs, hxl, cs, hlen with
  | [p0, p1, p2, p3, p4, p5, p6, p7, p8], _, [v0, v1, v2, v3, v4, v5, v6, v7, v8], _ =>
    have g0 := hf 0 _ rfl
    have g1 := hf 1 _ rfl
    have g2 := hf 2 _ rfl
    have g3 := hf 3 _ rfl
    have g4 := hf 4 _ rfl
    have g5 := hf 5 _ rfl
    have g6 := hf 6 _ rfl
    have g7 := hf 7 _ rfl
    have g8 := hf 8 _ rfl
    have ci : Try.prog.cellsOf 3 = 1 := by kernel_rfl
    have cst : Try.prog.cellsOf 9 = 1 := by kernel_rfl
    simp [ci, cst] at g0 g1 g2 g3 g4 g5 g6 g7 g8
    obtain ⟨n0, e0, _, w0⟩ := DataW.trod_int Try.underlying3 g0
    obtain ⟨n1, e1, _, w1⟩ := DataW.trod_string Try.underlying9 g1
    obtain ⟨n2, e2, _, w2⟩ := DataW.trod_string Try.underlying9 g2
    obtain ⟨n3, e3, _, w3⟩ := DataW.trod_int Try.underlying3 g3
    obtain ⟨n4, e4, _, w4⟩ := DataW.trod_int Try.underlying3 g4
    obtain ⟨n5, e5, _, w5⟩ := DataW.trod_int Try.underlying3 g5
    obtain ⟨n6, e6, _, w6⟩ := DataW.trod_int Try.underlying3 g6
    obtain ⟨n7, e7, _, w7⟩ := DataW.trod_int Try.underlying3 g7
    obtain ⟨n8, e8, _, w8⟩ := DataW.trod_string Try.underlying9 g8
    simp at e0 e1 e2 e3 e4 e5 e6 e7 e8
    subst e0 e1 e2 e3 e4 e5 e6 e7 e8
    exact ⟨⟨n0, n1, n2, n3, n4, n5, n6, n7, n8⟩, rfl, bounds_i64 w0, w1, w2, bounds_i64 w3, bounds_i64 w4, bounds_i64 w5, bounds_i64 w6, bounds_i64 w7, w8⟩
instance : Inhabited Cl := ⟨(⟨0, ⟨#[]⟩, ⟨#[]⟩, 0, 0, 0, 0, 0, ⟨#[]⟩⟩ : Cl)⟩
set_option maxRecDepth 100000 in
theorem open_callsE {H : Type} {enc : TypeId × Value → H} {w : World} {base fuel : Nat} {sp : Nat → Bool} {held : Bool} {cs : List Value} {x : DataW H × List MemPlace} (h : DataW.trod enc Try.prog w base sp held fuel 29 cs = some x) :
    ∃ (ao : Option Addr) (l : List Cl) (ca : Nat), cs = [.slice ao l.length ca] ∧ RdG clC 9 w ao l ∧ l.length ≤ maxLen ∧ ∀ s ∈ l, wfCall s := by
  rcases open_slice Try.underlying29 h with ⟨rfl, _⟩ | ⟨a, len, cap, m, n, D, Pl, rfl, hb, hl, hm, hmm, _, hx⟩
  · exact ⟨none, [], 0, rfl, RdG.nil _ _, Nat.zero_le _, fun i hi => by simp at hi⟩
  have hlm : len ≤ m := by rw [hmm]; split <;> omega
  have hc : Try.prog.cellsOf 23 = 9 := by kernel_rfl
  refine open_rowG (P := wfCall) encCl (by decide) (.inr (Nat.le_trans hl hm)) hlm (fun i hi => ?_)
  obtain ⟨cs', h1, h2⟩ := hx i hi
  rw [hc] at h1
  obtain ⟨_, hlen, hcell⟩ := World.cells?_some h1
  obtain ⟨s, rfl, hw⟩ := open_callE h2
  exact ⟨s, hw, fun j hj => hcell j (by omega)⟩
set_option maxRecDepth 100000 in
theorem open_calls {H : Type} {enc : TypeId × Value → H} {w : World} {r : Reach} {b0 base : Nat} {sp : Nat → Bool} {held : Bool} {v : Value} {d : DataW H} {p : List MemPlace} (hv : Value.okWide Try.prog w r b0 29 v) (h : DataW.Trod enc Try.prog w base sp held 29 v d p) :
    ∃ (ao : Option Addr) (l : List Cl) (ca : Nat), v = .slice ao l.length ca ∧ RdG clC 9 w ao l ∧ l.length ≤ maxLen ∧ ∀ s ∈ l, wfCall s := by
  obtain ⟨a0, len0, cap0, rfl⟩ := okWide_slice Try.underlying29 hv
  obtain ⟨n, h0⟩ := h
  obtain ⟨ao, l, ca, e0, hR, hl, hw⟩ := open_callsE h0
  simp [Value.cells] at e0
  obtain ⟨rfl, rfl, rfl⟩ := e0
  exact ⟨_, l, _, rfl, hR, hl, hw⟩

end Go.Proofs.Ytcahaimefgkmiaa
