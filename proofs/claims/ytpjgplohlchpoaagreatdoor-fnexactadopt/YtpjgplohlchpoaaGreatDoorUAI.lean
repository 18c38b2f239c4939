/- The program's without. -/
import Derived.Test.YtpjgplohlchpoaaGreatDoorUAH
import Derived.Test.YtpjgplohlchpoaaGreatDoorUAF
import Derived.Deep.RegionHeld3
import Derived.Deep.SlicePairs
import Derived.Lib.SmallJoins
import Derived.ProofKit
import Derived.OpenShut
namespace Go.Proofs.YtpjgplohlchpoaaGreatDoor
open Go.RowKit
set_option linter.unusedVariables false

set_option maxRecDepth 100000 in
set_option maxHeartbeats 2000000 in
theorem implWithout_any (a : Option Addr) (l : List Int) (ca : Nat) (x : Int) (w : World) (hl : l.length ≤ 1000000) (hA : RdZ w a l) :
    Calls Tryz.prog 78 #[.slice a l.length ca, .int .i64 x] w fun e w' => ∃ b c, e = .returned (.slice b (wthV l x).length c) ∧ OwnK w' w.heap.size b c (wthV l x) ∧ Below w.heap.size w w' := by
  obtain ⟨i0, hi0, hz0, hz1, hz2⟩ := info_parts Tryz.infoZ
  have HA := hide1 hA
  have O0 := hide1 (own_emptyZ w w.heap.size (Nat.le_refl _))
  have B0 := hide1 ((Below.refl w.heap.size w).alloc (Nat.le_refl _) (.cells #[] 3))
  clear hA
  go_enter Tryz.func78, Tryz.ntmps78
  go_wp2
  generalize (w.alloc (.cells #[] 3)) = u at O0 B0 ⊢
  go_loopw [5, 11] (fun ov iv wr => ∃ (i : Nat) (b : Option Addr) (c : Nat), i ≤ l.length ∧ iv = .int .i64 (i : Int) ∧ ov = .slice b (wthV (l.take i) x).length c ∧ Hid (OwnK wr w.heap.size b c (wthV (l.take i) x)) ∧ Hid (Below w.heap.size w wr)) (fun _ iv _ => l.length - (intOf iv).toNat)
  case atStart => exact ⟨0, _, _, Nat.zero_le _, rfl, rfl, O0, B0⟩
  case round =>
    obtain ⟨i, b, c, hi, rfl, rfl, HO, BB⟩ := hrel
    by_cases hlt : i < l.length
    · have k1 : (i : Int) < (l.length : Int) := by omega
      have k0 : (0 : Int) ≤ (i : Int) := by omega
      obtain ⟨g, o, hab, hg, hc⟩ := HA.out i hlt
      have x0 : wr.cell? ⟨g, o + i, none⟩ = some (.int .i64 l[i]) := (BB.out.cell (p := ⟨g, o + i, none⟩) hg).trans hc
      have NX := hide1 (wth_next hlt x)
      have hle : (wthV (l.take i) x).length ≤ 1000000 := Nat.le_trans (wth_le _ _) (by rw [List.length_take]; omega)
      generalize l[i] = y at *
      generalize wthV (l.take i) x = acc at *
      subst hab
      clear hc
      by_cases cy : y = x
      · rw [if_pos cy, List.append_nil] at NX
        have q : (y != x) = false := by simp [cy]
        clear cy
        go_wp2
        go_roundw
        case rel => exact ⟨i + 1, b, c, by omega, by go_num, by rw [NX.out], by rw [NX.out]; exact HO, BB⟩
        case measure => simp [intOf]; omega
      · rw [if_neg cy] at NX
        have q : (y != x) = true := by simp [cy]
        have hown : wr.ownsRow w.heap.size 3 1 (.slice b acc.length c) acc.length (iz acc) := HO.out
        have hs2 : w.heap.size ≤ wr.heap.size := BB.out.size
        clear cy HO
        go_wp2_with (at_builtin; (refine wpList_push1 rfl _ _ 22 rfl w.heap.size 3 i0 (.int .i64 0) 8 Tryz.underlying22 hi0 hz0 hz1 hz2 rfl (by decide) _ acc.length (iz acc) rfl hown (.int .i64 y) rfl rfl (by omega) hs2 ?_; intro v' w7 hown' hb'))
        go_roundw
        case rel =>
          have h8 : w7.ownsRow w.heap.size 3 1 v' (acc.length + 1) (iz (acc ++ [y])) := by rw [iz_append]; exact hown'
          obtain ⟨b', c', rfl, h9, _⟩ := own_iz h8
          exact ⟨i + 1, b', c', by omega, by go_num, by rw [NX.out], by rw [NX.out]; exact hide1 h9, hide1 (BB.out.trans hb')⟩
        case measure => simp [intOf]; omega
    · obtain rfl : i = l.length := by omega
      have k1 : ¬ ((l.length : Int) < (l.length : Int)) := by omega
      rw [List.take_length] at HO ⊢
      go_wp2
      go_ret
      exact ⟨b, c, rfl, HO.out, BB.out⟩
end Go.Proofs.YtpjgplohlchpoaaGreatDoor
namespace Go.Proofs.YtpjgplohlchpoaaGreatDoor
open Go.ChangeShapes Go.WideShapes Go.ChangeAt Go.RowKit Go.Deep Go.Joins
set_option linter.unusedVariables false

set_option maxRecDepth 100000 in
theorem toItem_any (x : Im) (w : World) : Calls Tryz.prog 50 #[.agg #[.string x.k, .string x.v, .int .i64 x.n]] w fun e w' => e = .returned (.agg #[.string x.k, .string x.v, .int .i64 x.n]) ∧ Below w.heap.size w w' := by
  go_enter Tryz.func50, Tryz.ntmps50
  go_wp2
  go_returns
  exact ⟨rfl, by go_grown⟩

set_option maxRecDepth 100000 in
theorem eqItem_same (x : Im) (w : World) : Calls Tryz.prog 62 #[.agg #[.string x.k, .string x.v, .int .i64 x.n], .agg #[.string x.k, .string x.v, .int .i64 x.n]] w fun e w' => e = .returned (.bool true) ∧ Below w.heap.size w w' := by
  have q2 : (x.n != x.n) = false := by simp
  obtain ⟨t0, r0⟩ := tx_eq x.k
  obtain ⟨t1, r1⟩ := tx_eq x.v
  obtain ⟨k, v, n⟩ := x
  dsimp only at *
  go_enter Tryz.func62, Tryz.ntmps62
  go_wp2
  go_ret
  exact ⟨rfl, by go_grown⟩

set_option maxRecDepth 100000 in
theorem szItem_any (x : Im) (left : Nat) (w : World) (hk : x.k.size ≤ 9223372036854775807 ∧ x.v.size ≤ 9223372036854775807) (hl : left ≤ 1048576) :
    Calls Tryz.prog 44 #[.agg #[.string x.k, .string x.v, .int .i64 x.n], .int .i64 (left : Int)] w fun e w' => (e = .returned (.int .i64 (-1)) ∨ ∃ r : Nat, e = .returned (.int .i64 (r : Int)) ∧ r + x.k.size + x.v.size = left) ∧ Below w.heap.size w w' := by
  by_cases c0 : x.k.size ≤ left
  · have q0 : decide ((left : Int) - (x.k.size : Int) < 0) = false := decide_eq_false (by omega)
    have n0 : ¬ ((left : Int) - (x.k.size : Int) < 0) := by omega
    by_cases c1 : x.k.size + x.v.size ≤ left
    · have q1 : decide ((left : Int) - (x.k.size : Int) - (x.v.size : Int) < 0) = false := decide_eq_false (by omega)
      have n1 : ¬ ((left : Int) - (x.k.size : Int) - (x.v.size : Int) < 0) := by omega
      go_enter Tryz.func44, Tryz.ntmps44
      go_wp2
      go_ret
      exact ⟨.inr ⟨left - x.k.size - x.v.size, by show Ending.returned (.int .i64 ((left : Int) - (x.k.size : Int) - (x.v.size : Int))) = _; rw [show ((left - x.k.size - x.v.size : Nat) : Int) = (left : Int) - (x.k.size : Int) - (x.v.size : Int) by omega], by omega⟩, by go_grown⟩
    · have q1 : decide ((left : Int) - (x.k.size : Int) - (x.v.size : Int) < 0) = true := decide_eq_true (by omega)
      have n1 : (left : Int) - (x.k.size : Int) - (x.v.size : Int) < 0 := by omega
      go_enter Tryz.func44, Tryz.ntmps44
      go_wp2
      go_ret
      exact ⟨.inl rfl, by go_grown⟩
  · have q0 : decide ((left : Int) - (x.k.size : Int) < 0) = true := decide_eq_true (by omega)
    have n0 : (left : Int) - (x.k.size : Int) < 0 := by omega
    go_enter Tryz.func44, Tryz.ntmps44
    go_wp2
    go_ret
    exact ⟨.inl rfl, by go_grown⟩

set_option maxRecDepth 100000 in
set_option maxHeartbeats 400000 in
theorem toItemS_any (ao : Option Addr) (l : List Im) (ca : Nat) (w : World) (hl : l.length ≤ 1048576) (hA : RdG imC 3 w ao l) :
    Calls Tryz.prog 28 #[.slice ao l.length ca] w fun e w' => ∃ b c, e = .returned (.slice b l.length c) ∧ w'.ownsRow w.heap.size 34 3 (.slice b l.length c) l.length (rowG imC l) ∧ Below w.heap.size w w' := by
  obtain ⟨i0, hi, hz0, hz1, hz2⟩ := info_parts Tryz.infoIm
  have HA := hide1 hA
  clear hA
  go_enter Tryz.func28, Tryz.ntmps28
  go_wp2_with (at_make; (refine wpList_make_full _ rfl _ _ 33 rfl w.heap.size 34 i0 (.agg #[.string ⟨#[]⟩, .string ⟨#[]⟩, .int .i64 0]) 3 Tryz.underlying33 hi hz0 hz1 _ _ _ _ l.length rfl rfl rfl rfl (by rw [hz2]; omega) (by unfold maxLen; omega) (Nat.le_refl _) ?_; intro w0 hown0 hg0))
  rw [show (madeCells (.agg #[.string ⟨#[]⟩, .string ⟨#[]⟩, .int .i64 0] : Value).cells (l.length * 3)).toList = rowG imC (List.replicate l.length (⟨⟨#[]⟩, ⟨#[]⟩, 0⟩ : Im)) from madeG encIm (by decide) (⟨⟨#[]⟩, ⟨#[]⟩, 0⟩ : Im) l.length] at hown0
  have HO := hide1 hown0
  clear hown0
  go_loopw [4] (fun iv wr => ∃ i : Nat, i ≤ l.length ∧ iv = .int .i64 (i : Int) ∧ wr.ownsRow w.heap.size 34 3 (.slice (some ⟨w.heap.size, 0, none⟩) l.length l.length) l.length (rowG imC (l.take i ++ List.replicate (l.length - i) (⟨⟨#[]⟩, ⟨#[]⟩, 0⟩ : Im))) ∧ Below w.heap.size w wr) (fun iv _ => l.length - (intOf iv).toNat)
  case atStart => exact ⟨0, by omega, rfl, by simpa using HO.out, Below.grown (Below.refl _ _) hg0 (Nat.le_refl _) (by intro k hk; cases hk)⟩
  case round =>
    obtain ⟨i, hi, rfl, hown, hbel⟩ := hrel
    by_cases hlt : i < l.length
    · have k1 : (i : Int) < (l.length : Int) := by omega
      obtain ⟨b, o, rfl, hb, h1⟩ := HA.out i hlt
      have x0 : wr.cell? ⟨b, o + i * 3, none⟩ = some (.string l[i].k) := (hbel.cell (p := ⟨b, o + i * 3, none⟩) hb).trans (h1 0 (by omega))
      have x1 : wr.cell? ⟨b, o + i * 3 + 1, none⟩ = some (.string l[i].v) := (hbel.cell (p := ⟨b, o + i * 3 + 1, none⟩) hb).trans (h1 1 (by omega))
      have x2 : wr.cell? ⟨b, o + i * 3 + 2, none⟩ = some (.int .i64 l[i].n) := (hbel.cell (p := ⟨b, o + i * 3 + 2, none⟩) hb).trans (h1 2 (by omega))
      have cc := hide1 (fun w => toItem_any l[i] w)
      generalize hs : l[i] = s at *
      have HS := hide1 hs
      clear h1 hs
      have HO1 := hide1 hown
      clear hown
      go_wp2_with fail
      refine (cc.out _).mono ?_
      rintro e w2 ⟨rfl, hb2⟩
      have o2 := own_kept HO1.out hb2
      obtain ⟨u0, y0⟩ := own_some o2 (i * 3) (by omega)
      obtain ⟨u1, y1⟩ := own_some o2 (i * 3 + 1) (by omega)
      obtain ⟨u2, y2⟩ := own_some o2 (i * 3 + 2) (by omega)
      have f0 := o2.frozenAt (i * 3)
      have f1 := o2.frozenAt (i * 3 + 1)
      have f2 := o2.frozenAt (i * 3 + 2)
      have O2 := hide1 o2
      clear o2
      go_wp2
      go_roundw
      case rel =>
        refine ⟨i + 1, by omega, by go_num, ?_, below_putG (imC s) (i * 3) (hbel.trans (hb2.mono hbel.size)) (Nat.le_refl _)⟩
        rw [← fillG l (⟨⟨#[]⟩, ⟨#[]⟩, 0⟩ : Im) s i hlt HS.out, rowG_set imC 3 encIm.len _ _ _ (by simp; omega)]
        exact own_putG (imC s) (i * 3) O2.out
      case measure => simp [intOf]; omega
    · obtain rfl : i = l.length := by omega
      go_wp2
      go_ret
      exact ⟨_, _, rfl, by simpa using hown, hbel⟩

set_option maxRecDepth 100000 in
set_option maxHeartbeats 400000 in
theorem szItemS_any (ao : Option Addr) (l : List Im) (ca left0 : Nat) (w : World) (hl0 : left0 ≤ 1048576) (hl : l.length ≤ 9223372036854775807) (hA : RdG imC 3 w ao l) (hS : ∀ i (h : i < l.length), l[i].k.size ≤ 9223372036854775807 ∧ l[i].v.size ≤ 9223372036854775807) :
    Calls Tryz.prog 19 #[.slice ao l.length ca, .int .i64 (left0 : Int)] w fun e w' => (e = .returned (.int .i64 (-1)) ∨ ∃ r : Nat, e = .returned (.int .i64 (r : Int)) ∧ r ≤ left0 ∧ l.length ≤ left0 ∧ ∀ i (h : i < l.length), l[i].k.size ≤ 1048576 ∧ l[i].v.size ≤ 1048576) ∧ Below w.heap.size w w' := by
  by_cases c0 : l.length ≤ left0
  · have q0 : decide ((left0 : Int) - (l.length : Int) < 0) = false := by simp; omega
    have HA := hide1 hA
    have HS := hide1 hS
    clear hA hS
    go_enter Tryz.func19, Tryz.ntmps19
    go_wp2
    go_loopw [1, 5] (fun lv iv wr => ∃ i left : Nat, i ≤ l.length ∧ iv = .int .i64 (i : Int) ∧ lv = .int .i64 (left : Int) ∧ left ≤ left0 ∧ Hid (∀ j (h : j < l.length), j < i → l[j].k.size ≤ 1048576 ∧ l[j].v.size ≤ 1048576) ∧ Below w.heap.size w wr) (fun _ iv _ => l.length - (intOf iv).toNat)
    case atStart => exact ⟨0, left0 - l.length, by omega, rfl, by rw [show ((left0 - l.length : Nat) : Int) = (left0 : Int) - (l.length : Int) by omega], by omega, fun j _ h => by omega, Below.refl _ _⟩
    case round =>
      obtain ⟨i, left, hi, rfl, rfl, hle, hdone, hbel⟩ := hrel
      by_cases hlt : i < l.length
      · have k1 : (i : Int) < (l.length : Int) := by omega
        obtain ⟨b, o, rfl, hb, h1⟩ := HA.out i hlt
        have x0 : wr.cell? ⟨b, o + i * 3, none⟩ = some (.string l[i].k) := (hbel.cell (p := ⟨b, o + i * 3, none⟩) hb).trans (h1 0 (by omega))
        have x1 : wr.cell? ⟨b, o + i * 3 + 1, none⟩ = some (.string l[i].v) := (hbel.cell (p := ⟨b, o + i * 3 + 1, none⟩) hb).trans (h1 1 (by omega))
        have x2 : wr.cell? ⟨b, o + i * 3 + 2, none⟩ = some (.int .i64 l[i].n) := (hbel.cell (p := ⟨b, o + i * 3 + 2, none⟩) hb).trans (h1 2 (by omega))
        have m1 := HS.out i hlt
        have cc := hide1 (fun w => szItem_any l[i] left w m1 (by omega))
        generalize hs : l[i] = s at *
        have HSS := hide1 hs
        clear h1 hs
        go_wp2_with fail
        refine (cc.out _).mono ?_
        rintro e w2 ⟨hr, hb2⟩
        have B2 := hide1 (hbel.trans (hb2.mono hbel.size))
        rcases hr with rfl | ⟨r, rfl, hr⟩
        · go_wp2
          go_ret
          exact ⟨.inl rfl, B2.out⟩
        · have q : decide ((r : Int) < 0) = false := by simp
          have HR := hide1 hr
          have hr2 : r ≤ left0 := by omega
          clear hr m1
          go_wp2
          go_roundw
          case rel => exact ⟨i + 1, r, by omega, by go_num, rfl, hr2, (fun j h hj => by
            by_cases e : j < i
            · exact hdone.out j h e
            · obtain rfl : j = i := by omega
              have := HR.out
              rw [HSS.out]
              omega), B2.out⟩
          case measure => simp [intOf]; omega
      · go_wp2
        go_ret
        exact ⟨.inr ⟨left, rfl, hle, c0, fun j h => hdone.out j h (by omega)⟩, hbel⟩
  · have q0 : decide ((left0 : Int) - (l.length : Int) < 0) = true := by simp; omega
    clear hA hS
    go_enter Tryz.func19, Tryz.ntmps19
    go_wp2
    go_ret
    exact ⟨.inl rfl, Below.refl _ _⟩

set_option maxRecDepth 100000 in
set_option maxHeartbeats 400000 in
theorem eqItemS_same (a b : Option Addr) (l : List Im) (ca cb : Nat) (w : World) (hl : l.length ≤ 1048576) (ha : RdG imC 3 w a l) (hb : RdG imC 3 w b l) :
    Calls Tryz.prog 35 #[.slice a l.length ca, .slice b l.length cb] w fun e w' => e = .returned (.bool true) ∧ Below w.heap.size w w' := by
  have HA := hide1 ha
  have HB := hide1 hb
  clear ha hb
  have q0 : ((l.length : Int) != (l.length : Int)) = false := by simp
  go_enter Tryz.func35, Tryz.ntmps35
  go_wp2
  go_loopw [5] (fun iv wr => ∃ i : Nat, i ≤ l.length ∧ iv = .int .i64 (i : Int) ∧ Below w.heap.size w wr) (fun iv _ => l.length - (intOf iv).toNat)
  case atStart => exact ⟨0, by omega, rfl, Below.refl _ _⟩
  case round =>
    obtain ⟨i, hi, rfl, hbel⟩ := hrel
    by_cases hlt : i < l.length
    · have k1 : (i : Int) < (l.length : Int) := by omega
      obtain ⟨b1, o1, rfl, hg1, h1⟩ := HA.out i hlt
      obtain ⟨b2, o2, rfl, hg2, h2⟩ := HB.out i hlt
      have x0 : wr.cell? ⟨b1, o1 + i * 3, none⟩ = some (.string l[i].k) := (hbel.cell (p := ⟨b1, o1 + i * 3, none⟩) hg1).trans (h1 0 (by omega))
      have x1 : wr.cell? ⟨b1, o1 + i * 3 + 1, none⟩ = some (.string l[i].v) := (hbel.cell (p := ⟨b1, o1 + i * 3 + 1, none⟩) hg1).trans (h1 1 (by omega))
      have x2 : wr.cell? ⟨b1, o1 + i * 3 + 2, none⟩ = some (.int .i64 l[i].n) := (hbel.cell (p := ⟨b1, o1 + i * 3 + 2, none⟩) hg1).trans (h1 2 (by omega))
      have y0 : wr.cell? ⟨b2, o2 + i * 3, none⟩ = some (.string l[i].k) := (hbel.cell (p := ⟨b2, o2 + i * 3, none⟩) hg2).trans (h2 0 (by omega))
      have y1 : wr.cell? ⟨b2, o2 + i * 3 + 1, none⟩ = some (.string l[i].v) := (hbel.cell (p := ⟨b2, o2 + i * 3 + 1, none⟩) hg2).trans (h2 1 (by omega))
      have y2 : wr.cell? ⟨b2, o2 + i * 3 + 2, none⟩ = some (.int .i64 l[i].n) := (hbel.cell (p := ⟨b2, o2 + i * 3 + 2, none⟩) hg2).trans (h2 2 (by omega))
      have cc := hide1 (fun w => eqItem_same l[i] w)
      have hw1 : b1 < wr.heap.size := Nat.lt_of_lt_of_le hg1 hbel.size
      have hw2 : b2 < wr.heap.size := Nat.lt_of_lt_of_le hg2 hbel.size
      clear h1 h2
      generalize l[i] = s at *
      go_wp2
      go_region_held3 (fun w' => w'.cell? ⟨b1, o1 + i * 3, none⟩ = some (.string s.k) ∧ w'.cell? ⟨b1, o1 + i * 3 + 1, none⟩ = some (.string s.v) ∧ w'.cell? ⟨b1, o1 + i * 3 + 2, none⟩ = some (.int .i64 s.n) ∧ w'.cell? ⟨b2, o2 + i * 3, none⟩ = some (.string s.k) ∧ w'.cell? ⟨b2, o2 + i * 3 + 1, none⟩ = some (.string s.v) ∧ w'.cell? ⟨b2, o2 + i * 3 + 2, none⟩ = some (.int .i64 s.n)) (first | go_keep | exact ⟨x0, x1, x2, y0, y1, y2⟩ | exact ⟨(hb2.cell hw1).trans x0, (hb2.cell hw1).trans x1, (hb2.cell hw1).trans x2, (hb2.cell hw2).trans y0, (hb2.cell hw2).trans y1, (hb2.cell hw2).trans y2⟩) ((go_at_call 62; refine (cc.out _).mono ?_; rintro e w2 ⟨rfl, hb2⟩))
      go_wp2
      go_roundw
      case rel => exact ⟨i + 1, by omega, by go_num, hbel.trans ((Below.refl _ _).drew.trans (hb2.mono hbel.size))⟩
      case measure => simp [intOf]; omega
    · go_wp2
      go_ret
      exact ⟨rfl, hbel⟩

def wfItem (s : Im) : Prop := s.k.size ≤ maxLen ∧ s.v.size ≤ maxLen ∧ (-9223372036854775808 ≤ s.n ∧ s.n ≤ 9223372036854775807)
set_option maxRecDepth 100000 in
theorem open_itemE {H : Type} {enc : TypeId × Value → H} {w : World} {base fuel : Nat} {sp : Nat → Bool} {held : Bool} {cs : List Value} {x : DataW H × List MemPlace} (h : DataW.trod enc Tryz.prog w base sp held fuel 25 cs = some x) :
    ∃ s : Im, cs = imC s ∧ wfItem s := by
  obtain ⟨xs, n, _, _, hlen, hxl, hf⟩ := DataW.trod_struct Tryz.underlying25 h
  have hc : Tryz.prog.cellsOf 25 = 3 := by kernel_rfl
  rw [hc] at hlen
  match xs, hxl, cs, hlen with
  | [p0, p1, p2], _, [v0, v1, v2], _ =>
    have g0 := hf 0 _ rfl
    have g1 := hf 1 _ rfl
    have g2 := hf 2 _ rfl
    have ci : Tryz.prog.cellsOf 3 = 1 := by kernel_rfl
    have cst : Tryz.prog.cellsOf 9 = 1 := by kernel_rfl
    simp [ci, cst] at g0 g1 g2
    obtain ⟨n0, e0, _, w0⟩ := DataW.trod_string Tryz.underlying9 g0
    obtain ⟨n1, e1, _, w1⟩ := DataW.trod_string Tryz.underlying9 g1
    obtain ⟨n2, e2, _, w2⟩ := DataW.trod_int Tryz.underlying3 g2
    simp at e0 e1 e2
    subst e0 e1 e2
    exact ⟨⟨n0, n1, n2⟩, rfl, w0, w1, bounds_i64 w2⟩
instance : Inhabited Im := ⟨(⟨⟨#[]⟩, ⟨#[]⟩, 0⟩ : Im)⟩
set_option maxRecDepth 100000 in
theorem open_itemsE {H : Type} {enc : TypeId × Value → H} {w : World} {base fuel : Nat} {sp : Nat → Bool} {held : Bool} {cs : List Value} {x : DataW H × List MemPlace} (h : DataW.trod enc Tryz.prog w base sp held fuel 23 cs = some x) :
    ∃ (ao : Option Addr) (l : List Im) (ca : Nat), cs = [.slice ao l.length ca] ∧ RdG imC 3 w ao l ∧ l.length ≤ maxLen ∧ ∀ s ∈ l, wfItem s := by
  rcases open_slice Tryz.underlying23 h with ⟨rfl, _⟩ | ⟨a, len, cap, m, n, D, Pl, rfl, hb, hl, hm, hmm, _, hx⟩
  · exact ⟨none, [], 0, rfl, RdG.nil _ _, Nat.zero_le _, fun i hi => by simp at hi⟩
  have hlm : len ≤ m := by rw [hmm]; split <;> omega
  have hc : Tryz.prog.cellsOf 25 = 3 := by kernel_rfl
  refine open_rowG (P := wfItem) encIm (by decide) (.inr (Nat.le_trans hl hm)) hlm (fun i hi => ?_)
  obtain ⟨cs', h1, h2⟩ := hx i hi
  rw [hc] at h1
  obtain ⟨_, hlen, hcell⟩ := World.cells?_some h1
  obtain ⟨s, rfl, hw⟩ := open_itemE h2
  exact ⟨s, hw, fun j hj => hcell j (by omega)⟩
set_option maxRecDepth 100000 in
theorem open_items {H : Type} {enc : TypeId × Value → H} {w : World} {r : Reach} {b0 base : Nat} {sp : Nat → Bool} {held : Bool} {v : Value} {d : DataW H} {p : List MemPlace} (hv : Value.okWide Tryz.prog w r b0 23 v) (h : DataW.Trod enc Tryz.prog w base sp held 23 v d p) :
    ∃ (ao : Option Addr) (l : List Im) (ca : Nat), v = .slice ao l.length ca ∧ RdG imC 3 w ao l ∧ l.length ≤ maxLen ∧ ∀ s ∈ l, wfItem s := by
  obtain ⟨a0, len0, cap0, rfl⟩ := okWide_slice Tryz.underlying23 hv
  obtain ⟨n, h0⟩ := h
  obtain ⟨ao, l, ca, e0, hR, hl, hw⟩ := open_itemsE h0
  simp [Value.cells] at e0
  obtain ⟨rfl, rfl, rfl⟩ := e0
  exact ⟨_, l, _, rfl, hR, hl, hw⟩

end Go.Proofs.YtpjgplohlchpoaaGreatDoor
namespace Go.Proofs.YtpjgplohlchpoaaGreatDoor
open Go.ChangeShapes Go.WideShapes Go.ChangeAt Go.RowKit
set_option maxRecDepth 100000 in
theorem open_item {H : Type} {enc : TypeId × Value → H} {w : World} {r : Reach} {b0 base : Nat} {sp : Nat → Bool} {held : Bool} {v : Value} {d : DataW H} {p : List MemPlace} (hv : Value.okWide Tryz.prog w r b0 25 v) (h : DataW.Trod enc Tryz.prog w base sp held 25 v d p) :
    ∃ x : Im, v = .agg #[.string x.k, .string x.v, .int .i64 x.n] ∧ wfItem x := by
  obtain ⟨cs, rfl, hsz⟩ := okWide_struct Tryz.underlying25 hv
  obtain ⟨fuel, hf⟩ := h
  obtain ⟨s, hs, hw⟩ := open_itemE hf
  exact ⟨s, by obtain ⟨cl⟩ := cs; have e : cl = imC s := hs; rw [e]; rfl, hw⟩
end Go.Proofs.YtpjgplohlchpoaaGreatDoor
