/- Rows of elements of several cells that are marked one behind another, plain. -/
import Derived.Test.YtbkhhkknhbddeaaDoorRowH
import Derived.Test.YtbkhhkknhbddeaaDoorImM
import Derived.Deep.RegionHeld3
import Derived.Deep.SlicePairs
import Derived.Lib.SmallJoins
import Derived.ProofKit
import Derived.OpenShut
import Derived.Test.YtbkhhkknhbddeaaDoorMark
import Derived.Deep.DeepCutAuto
namespace Go.Proofs.YtbkhhkknhbddeaaDoor
open Go.RowKit
set_option linter.unusedVariables false

section
variable {α : Type} {enc : α → List Value} {kk : Nat} (m : Nat → α) (s k : Nat)
/-- The elements that are marked from k on, s numbers each. -/
def patG (n : Nat) : List α := (List.range n).map (fun i => m (k + s * i))
theorem patG_length (n : Nat) : (patG m s k n).length = n := by simp [patG]
theorem patG_at (n i : Nat) (h : i < (patG m s k n).length) : (patG m s k n)[i] = m (k + s * i) := by simp [patG]
theorem patG_next (n : Nat) : patG m s k (n + 1) = patG m s k n ++ [m (k + s * n)] := by simp [patG, List.range_succ]
/-- A row whose first elements are marked. -/
def mkG (enc : α → List Value) (kk : Nat) (xs : List Value) (i : Nat) : List Value := rowG enc (patG m s k i) ++ xs.drop (i * kk)
theorem mkG_zero (xs : List Value) : mkG m s k enc kk xs 0 = xs := by simp [mkG, patG, rowG]
theorem mkG_length (E : EncK enc kk) (xs : List Value) (i : Nat) (h : i * kk ≤ xs.length) : (mkG m s k enc kk xs i).length = xs.length := by
  unfold mkG
  rw [List.length_append, rowG_length enc kk E.len, patG_length, List.length_drop]
  omega
theorem mkG_next (E : EncK enc kk) (xs : List Value) (i : Nat) (h : i * kk + kk ≤ xs.length) : setL (mkG m s k enc kk xs i) (i * kk) (enc (m (k + s * i))) = mkG m s k enc kk xs (i + 1) := by
  have hl : (rowG enc (patG m s k i)).length = i * kk := by rw [rowG_length enc kk E.len, patG_length]
  rw [setL_eq _ _ _ (by rw [mkG_length m s k E xs i (by omega), E.len]; omega), E.len]
  unfold mkG
  rw [List.take_left' hl, List.drop_append, List.drop_eq_nil_of_le (by omega), hl, List.nil_append, List.drop_drop, patG_next, rowG_join, show i * kk + (i * kk + kk - i * kk) = (i + 1) * kk by rw [Nat.add_mul]; omega]
  simp [rowG]
theorem mkG_all (E : EncK enc kk) (xs : List Value) (n : Nat) (h : xs.length = n * kk) : mkG m s k enc kk xs n = rowG enc (patG m s k n) := by
  unfold mkG
  rw [List.drop_eq_nil_of_le (by omega), List.append_nil]
end
end Go.Proofs.YtbkhhkknhbddeaaDoor
namespace Go.Proofs.YtbkhhkknhbddeaaDoor
open Go.ChangeShapes Go.WideShapes Go.ChangeAt Go.RowKit Go.Deep Go.Joins
set_option linter.unusedVariables false

set_option maxRecDepth 100000 in
theorem toItem_any (x : Im) (w : World) : Calls Tryd.prog 65 #[.agg #[.string x.k, .string x.v, .int .i64 x.n]] w fun e w' => e = .returned (.agg #[.string x.k, .string x.v, .int .i64 x.n]) ∧ Below w.heap.size w w' := by
  go_enter Tryd.func65, Tryd.ntmps65
  go_wp2
  go_returns
  exact ⟨rfl, by go_grown⟩

set_option maxRecDepth 100000 in
theorem eqItem_same (x : Im) (w : World) : Calls Tryd.prog 66 #[.agg #[.string x.k, .string x.v, .int .i64 x.n], .agg #[.string x.k, .string x.v, .int .i64 x.n]] w fun e w' => e = .returned (.bool true) ∧ Below w.heap.size w w' := by
  have q2 : (x.n != x.n) = false := by simp
  obtain ⟨t0, r0⟩ := tx_eq x.k
  obtain ⟨t1, r1⟩ := tx_eq x.v
  obtain ⟨k, v, n⟩ := x
  dsimp only at *
  go_enter Tryd.func66, Tryd.ntmps66
  go_wp2
  go_ret
  exact ⟨rfl, by go_grown⟩

set_option maxRecDepth 100000 in
theorem szItem_any (x : Im) (left : Nat) (w : World) (hk : x.k.size ≤ 9223372036854775807 ∧ x.v.size ≤ 9223372036854775807) (hl : left ≤ 1048576) :
    Calls Tryd.prog 64 #[.agg #[.string x.k, .string x.v, .int .i64 x.n], .int .i64 (left : Int)] w fun e w' => (e = .returned (.int .i64 (-1)) ∨ ∃ r : Nat, e = .returned (.int .i64 (r : Int)) ∧ r + x.k.size + x.v.size = left) ∧ Below w.heap.size w w' := by
  by_cases c0 : x.k.size ≤ left
  · have q0 : decide ((left : Int) - (x.k.size : Int) < 0) = false := decide_eq_false (by omega)
    have n0 : ¬ ((left : Int) - (x.k.size : Int) < 0) := by omega
    by_cases c1 : x.k.size + x.v.size ≤ left
    · have q1 : decide ((left : Int) - (x.k.size : Int) - (x.v.size : Int) < 0) = false := decide_eq_false (by omega)
      have n1 : ¬ ((left : Int) - (x.k.size : Int) - (x.v.size : Int) < 0) := by omega
      go_enter Tryd.func64, Tryd.ntmps64
      go_wp2
      go_ret
      exact ⟨.inr ⟨left - x.k.size - x.v.size, by show Ending.returned (.int .i64 ((left : Int) - (x.k.size : Int) - (x.v.size : Int))) = _; rw [show ((left - x.k.size - x.v.size : Nat) : Int) = (left : Int) - (x.k.size : Int) - (x.v.size : Int) by omega], by omega⟩, by go_grown⟩
    · have q1 : decide ((left : Int) - (x.k.size : Int) - (x.v.size : Int) < 0) = true := decide_eq_true (by omega)
      have n1 : (left : Int) - (x.k.size : Int) - (x.v.size : Int) < 0 := by omega
      go_enter Tryd.func64, Tryd.ntmps64
      go_wp2
      go_ret
      exact ⟨.inl rfl, by go_grown⟩
  · have q0 : decide ((left : Int) - (x.k.size : Int) < 0) = true := decide_eq_true (by omega)
    have n0 : (left : Int) - (x.k.size : Int) < 0 := by omega
    go_enter Tryd.func64, Tryd.ntmps64
    go_wp2
    go_ret
    exact ⟨.inl rfl, by go_grown⟩

set_option maxRecDepth 100000 in
set_option maxHeartbeats 400000 in
theorem toItemS_any (ao : Option Addr) (l : List Im) (ca : Nat) (w : World) (hl : l.length ≤ 1048576) (hA : RdG imC 3 w ao l) :
    Calls Tryd.prog 46 #[.slice ao l.length ca] w fun e w' => ∃ b c, e = .returned (.slice b l.length c) ∧ w'.ownsRow w.heap.size 51 3 (.slice b l.length c) l.length (rowG imC l) ∧ Below w.heap.size w w' := by
  obtain ⟨i0, hi, hz0, hz1, hz2⟩ := info_parts Tryd.infoIm
  have HA := hide1 hA
  clear hA
  go_enter Tryd.func46, Tryd.ntmps46
  go_wp2_with (at_make; (refine wpList_make_full _ rfl _ _ 24 rfl w.heap.size 51 i0 (.agg #[.string ⟨#[]⟩, .string ⟨#[]⟩, .int .i64 0]) 3 Tryd.underlying24 hi hz0 hz1 _ _ _ _ l.length rfl rfl rfl rfl (by rw [hz2]; omega) (by unfold maxLen; omega) (Nat.le_refl _) ?_; intro w0 hown0 hg0))
  rw [show (madeCells (.agg #[.string ⟨#[]⟩, .string ⟨#[]⟩, .int .i64 0] : Value).cells (l.length * 3)).toList = rowG imC (List.replicate l.length (⟨⟨#[]⟩, ⟨#[]⟩, 0⟩ : Im)) from madeG encIm (by decide) (⟨⟨#[]⟩, ⟨#[]⟩, 0⟩ : Im) l.length] at hown0
  have HO := hide1 hown0
  clear hown0
  go_loopw [4] (fun iv wr => ∃ i : Nat, i ≤ l.length ∧ iv = .int .i64 (i : Int) ∧ wr.ownsRow w.heap.size 51 3 (.slice (some ⟨w.heap.size, 0, none⟩) l.length l.length) l.length (rowG imC (l.take i ++ List.replicate (l.length - i) (⟨⟨#[]⟩, ⟨#[]⟩, 0⟩ : Im))) ∧ Below w.heap.size w wr) (fun iv _ => l.length - (intOf iv).toNat)
  case atStart => exact ⟨0, by omega, rfl, by simpa using HO.out, Below.grown (Below.refl _ _) hg0 (Nat.le_refl _) (by intro k hk; cases hk)⟩
  case round =>
    obtain ⟨i, hi, rfl, hown, hbel⟩ := hrel
    by_cases hlt : i < l.length
    · have k1 : (i : Int) < (l.length : Int) := by omega
      obtain ⟨b, o, rfl, hb, h1⟩ := HA.out i hlt
      have x0 : wr.cell? ⟨b, o + i * 3, none⟩ = some (.string l[i].k) := (hbel.cell (p := ⟨b, o + i * 3, none⟩) hb).trans (h1 0 (by omega))
      have x1 : wr.cell? ⟨b, o + i * 3 + 1, none⟩ = some (.string l[i].v) := (hbel.cell (p := ⟨b, o + i * 3 + 1, none⟩) hb).trans (h1 1 (by omega))
      have x2 : wr.cell? ⟨b, o + i * 3 + 2, none⟩ = some (.int .i64 l[i].n) := (hbel.cell (p := ⟨b, o + i * 3 + 2, none⟩) hb).trans (h1 2 (by omega))
      have cc := hide1 (fun w => toItem_any l[i] w)
      generalize hs : l[i] = s at *
      have HS := hide1 hs
      clear h1 hs
      have HO1 := hide1 hown
      clear hown
      go_wp2_with fail
      refine (cc.out _).mono ?_
      rintro e w2 ⟨rfl, hb2⟩
      have o2 := own_kept HO1.out hb2
      obtain ⟨u0, y0⟩ := own_some o2 (i * 3) (by omega)
      obtain ⟨u1, y1⟩ := own_some o2 (i * 3 + 1) (by omega)
      obtain ⟨u2, y2⟩ := own_some o2 (i * 3 + 2) (by omega)
      have f0 := o2.frozenAt (i * 3)
      have f1 := o2.frozenAt (i * 3 + 1)
      have f2 := o2.frozenAt (i * 3 + 2)
      have O2 := hide1 o2
      clear o2
      go_wp2
      go_roundw
      case rel =>
        refine ⟨i + 1, by omega, by go_num, ?_, below_putG (imC s) (i * 3) (hbel.trans (hb2.mono hbel.size)) (Nat.le_refl _)⟩
        rw [← fillG l (⟨⟨#[]⟩, ⟨#[]⟩, 0⟩ : Im) s i hlt HS.out, rowG_set imC 3 encIm.len _ _ _ (by simp; omega)]
        exact own_putG (imC s) (i * 3) O2.out
      case measure => simp [intOf]; omega
    · obtain rfl : i = l.length := by omega
      go_wp2
      go_ret
      exact ⟨_, _, rfl, by simpa using hown, hbel⟩

set_option maxRecDepth 100000 in
set_option maxHeartbeats 400000 in
theorem szItemS_any (ao : Option Addr) (l : List Im) (ca left0 : Nat) (w : World) (hl0 : left0 ≤ 1048576) (hl : l.length ≤ 9223372036854775807) (hA : RdG imC 3 w ao l) (hS : ∀ i (h : i < l.length), l[i].k.size ≤ 9223372036854775807 ∧ l[i].v.size ≤ 9223372036854775807) :
    Calls Tryd.prog 42 #[.slice ao l.length ca, .int .i64 (left0 : Int)] w fun e w' => (e = .returned (.int .i64 (-1)) ∨ ∃ r : Nat, e = .returned (.int .i64 (r : Int)) ∧ r ≤ left0 ∧ l.length ≤ left0 ∧ ∀ i (h : i < l.length), l[i].k.size ≤ 1048576 ∧ l[i].v.size ≤ 1048576) ∧ Below w.heap.size w w' := by
  by_cases c0 : l.length ≤ left0
  · have q0 : decide ((left0 : Int) - (l.length : Int) < 0) = false := by simp; omega
    have HA := hide1 hA
    have HS := hide1 hS
    clear hA hS
    go_enter Tryd.func42, Tryd.ntmps42
    go_wp2
    go_loopw [1, 5] (fun lv iv wr => ∃ i left : Nat, i ≤ l.length ∧ iv = .int .i64 (i : Int) ∧ lv = .int .i64 (left : Int) ∧ left ≤ left0 ∧ Hid (∀ j (h : j < l.length), j < i → l[j].k.size ≤ 1048576 ∧ l[j].v.size ≤ 1048576) ∧ Below w.heap.size w wr) (fun _ iv _ => l.length - (intOf iv).toNat)
    case atStart => exact ⟨0, left0 - l.length, by omega, rfl, by rw [show ((left0 - l.length : Nat) : Int) = (left0 : Int) - (l.length : Int) by omega], by omega, fun j _ h => by omega, Below.refl _ _⟩
    case round =>
      obtain ⟨i, left, hi, rfl, rfl, hle, hdone, hbel⟩ := hrel
      by_cases hlt : i < l.length
      · have k1 : (i : Int) < (l.length : Int) := by omega
        obtain ⟨b, o, rfl, hb, h1⟩ := HA.out i hlt
        have x0 : wr.cell? ⟨b, o + i * 3, none⟩ = some (.string l[i].k) := (hbel.cell (p := ⟨b, o + i * 3, none⟩) hb).trans (h1 0 (by omega))
        have x1 : wr.cell? ⟨b, o + i * 3 + 1, none⟩ = some (.string l[i].v) := (hbel.cell (p := ⟨b, o + i * 3 + 1, none⟩) hb).trans (h1 1 (by omega))
        have x2 : wr.cell? ⟨b, o + i * 3 + 2, none⟩ = some (.int .i64 l[i].n) := (hbel.cell (p := ⟨b, o + i * 3 + 2, none⟩) hb).trans (h1 2 (by omega))
        have m1 := HS.out i hlt
        have cc := hide1 (fun w => szItem_any l[i] left w m1 (by omega))
        generalize hs : l[i] = s at *
        have HSS := hide1 hs
        clear h1 hs
        go_wp2_with fail
        refine (cc.out _).mono ?_
        rintro e w2 ⟨hr, hb2⟩
        have B2 := hide1 (hbel.trans (hb2.mono hbel.size))
        rcases hr with rfl | ⟨r, rfl, hr⟩
        · go_wp2
          go_ret
          exact ⟨.inl rfl, B2.out⟩
        · have q : decide ((r : Int) < 0) = false := by simp
          have HR := hide1 hr
          have hr2 : r ≤ left0 := by omega
          clear hr m1
          go_wp2
          go_roundw
          case rel => exact ⟨i + 1, r, by omega, by go_num, rfl, hr2, (fun j h hj => by
            by_cases e : j < i
            · exact hdone.out j h e
            · obtain rfl : j = i := by omega
              have := HR.out
              rw [HSS.out]
              omega), B2.out⟩
          case measure => simp [intOf]; omega
      · go_wp2
        go_ret
        exact ⟨.inr ⟨left, rfl, hle, c0, fun j h => hdone.out j h (by omega)⟩, hbel⟩
  · have q0 : decide ((left0 : Int) - (l.length : Int) < 0) = true := by simp; omega
    clear hA hS
    go_enter Tryd.func42, Tryd.ntmps42
    go_wp2
    go_ret
    exact ⟨.inl rfl, Below.refl _ _⟩

set_option maxRecDepth 100000 in
set_option maxHeartbeats 400000 in
theorem eqItemS_same (a b : Option Addr) (l : List Im) (ca cb : Nat) (w : World) (hl : l.length ≤ 1048576) (ha : RdG imC 3 w a l) (hb : RdG imC 3 w b l) :
    Calls Tryd.prog 47 #[.slice a l.length ca, .slice b l.length cb] w fun e w' => e = .returned (.bool true) ∧ Below w.heap.size w w' := by
  have HA := hide1 ha
  have HB := hide1 hb
  clear ha hb
  have q0 : ((l.length : Int) != (l.length : Int)) = false := by simp
  go_enter Tryd.func47, Tryd.ntmps47
  go_wp2
  go_loopw [5] (fun iv wr => ∃ i : Nat, i ≤ l.length ∧ iv = .int .i64 (i : Int) ∧ Below w.heap.size w wr) (fun iv _ => l.length - (intOf iv).toNat)
  case atStart => exact ⟨0, by omega, rfl, Below.refl _ _⟩
  case round =>
    obtain ⟨i, hi, rfl, hbel⟩ := hrel
    by_cases hlt : i < l.length
    · have k1 : (i : Int) < (l.length : Int) := by omega
      obtain ⟨b1, o1, rfl, hg1, h1⟩ := HA.out i hlt
      obtain ⟨b2, o2, rfl, hg2, h2⟩ := HB.out i hlt
      have x0 : wr.cell? ⟨b1, o1 + i * 3, none⟩ = some (.string l[i].k) := (hbel.cell (p := ⟨b1, o1 + i * 3, none⟩) hg1).trans (h1 0 (by omega))
      have x1 : wr.cell? ⟨b1, o1 + i * 3 + 1, none⟩ = some (.string l[i].v) := (hbel.cell (p := ⟨b1, o1 + i * 3 + 1, none⟩) hg1).trans (h1 1 (by omega))
      have x2 : wr.cell? ⟨b1, o1 + i * 3 + 2, none⟩ = some (.int .i64 l[i].n) := (hbel.cell (p := ⟨b1, o1 + i * 3 + 2, none⟩) hg1).trans (h1 2 (by omega))
      have y0 : wr.cell? ⟨b2, o2 + i * 3, none⟩ = some (.string l[i].k) := (hbel.cell (p := ⟨b2, o2 + i * 3, none⟩) hg2).trans (h2 0 (by omega))
      have y1 : wr.cell? ⟨b2, o2 + i * 3 + 1, none⟩ = some (.string l[i].v) := (hbel.cell (p := ⟨b2, o2 + i * 3 + 1, none⟩) hg2).trans (h2 1 (by omega))
      have y2 : wr.cell? ⟨b2, o2 + i * 3 + 2, none⟩ = some (.int .i64 l[i].n) := (hbel.cell (p := ⟨b2, o2 + i * 3 + 2, none⟩) hg2).trans (h2 2 (by omega))
      have cc := hide1 (fun w => eqItem_same l[i] w)
      have hw1 : b1 < wr.heap.size := Nat.lt_of_lt_of_le hg1 hbel.size
      have hw2 : b2 < wr.heap.size := Nat.lt_of_lt_of_le hg2 hbel.size
      clear h1 h2
      generalize l[i] = s at *
      go_wp2
      go_region_held3 (fun w' => w'.cell? ⟨b1, o1 + i * 3, none⟩ = some (.string s.k) ∧ w'.cell? ⟨b1, o1 + i * 3 + 1, none⟩ = some (.string s.v) ∧ w'.cell? ⟨b1, o1 + i * 3 + 2, none⟩ = some (.int .i64 s.n) ∧ w'.cell? ⟨b2, o2 + i * 3, none⟩ = some (.string s.k) ∧ w'.cell? ⟨b2, o2 + i * 3 + 1, none⟩ = some (.string s.v) ∧ w'.cell? ⟨b2, o2 + i * 3 + 2, none⟩ = some (.int .i64 s.n)) (first | go_keep | exact ⟨x0, x1, x2, y0, y1, y2⟩ | exact ⟨(hb2.cell hw1).trans x0, (hb2.cell hw1).trans x1, (hb2.cell hw1).trans x2, (hb2.cell hw2).trans y0, (hb2.cell hw2).trans y1, (hb2.cell hw2).trans y2⟩) ((go_at_call 66; refine (cc.out _).mono ?_; rintro e w2 ⟨rfl, hb2⟩))
      go_wp2
      go_roundw
      case rel => exact ⟨i + 1, by omega, by go_num, hbel.trans ((Below.refl _ _).drew.trans (hb2.mono hbel.size))⟩
      case measure => simp [intOf]; omega
    · go_wp2
      go_ret
      exact ⟨rfl, hbel⟩

def wfItem (s : Im) : Prop := s.k.size ≤ maxLen ∧ s.v.size ≤ maxLen ∧ (-9223372036854775808 ≤ s.n ∧ s.n ≤ 9223372036854775807)
set_option maxRecDepth 100000 in
theorem open_itemE {H : Type} {enc : TypeId × Value → H} {w : World} {base fuel : Nat} {sp : Nat → Bool} {held : Bool} {cs : List Value} {x : DataW H × List MemPlace} (h : DataW.trod enc Tryd.prog w base sp held fuel 89 cs = some x) :
    ∃ s : Im, cs = imC s ∧ wfItem s := by
  obtain ⟨xs, n, _, _, hlen, hxl, hf⟩ := DataW.trod_struct Tryd.underlying89 h
  have hc : Tryd.prog.cellsOf 89 = 3 := by kernel_rfl
  rw [hc] at hlen
  match xs, hxl, cs, hlen with
  | [p0, p1, p2], _, [v0, v1, v2], _ =>
    have g0 := hf 0 _ rfl
    have g1 := hf 1 _ rfl
    have g2 := hf 2 _ rfl
    have ci : Tryd.prog.cellsOf 3 = 1 := by kernel_rfl
    have cst : Tryd.prog.cellsOf 9 = 1 := by kernel_rfl
    simp [ci, cst] at g0 g1 g2
    obtain ⟨n0, e0, _, w0⟩ := DataW.trod_string Tryd.underlying9 g0
    obtain ⟨n1, e1, _, w1⟩ := DataW.trod_string Tryd.underlying9 g1
    obtain ⟨n2, e2, _, w2⟩ := DataW.trod_int Tryd.underlying3 g2
    simp at e0 e1 e2
    subst e0 e1 e2
    exact ⟨⟨n0, n1, n2⟩, rfl, w0, w1, bounds_i64 w2⟩
instance : Inhabited Im := ⟨(⟨⟨#[]⟩, ⟨#[]⟩, 0⟩ : Im)⟩
set_option maxRecDepth 100000 in
theorem open_itemsE {H : Type} {enc : TypeId × Value → H} {w : World} {base fuel : Nat} {sp : Nat → Bool} {held : Bool} {cs : List Value} {x : DataW H × List MemPlace} (h : DataW.trod enc Tryd.prog w base sp held fuel 37 cs = some x) :
    ∃ (ao : Option Addr) (l : List Im) (ca : Nat), cs = [.slice ao l.length ca] ∧ RdG imC 3 w ao l ∧ l.length ≤ maxLen ∧ ∀ s ∈ l, wfItem s := by
  rcases open_slice Tryd.underlying37 h with ⟨rfl, _⟩ | ⟨a, len, cap, m, n, D, Pl, rfl, hb, hl, hm, hmm, _, hx⟩
  · exact ⟨none, [], 0, rfl, RdG.nil _ _, Nat.zero_le _, fun i hi => by simp at hi⟩
  have hlm : len ≤ m := by rw [hmm]; split <;> omega
  have hc : Tryd.prog.cellsOf 89 = 3 := by kernel_rfl
  refine open_rowG (P := wfItem) encIm (by decide) (.inr (Nat.le_trans hl hm)) hlm (fun i hi => ?_)
  obtain ⟨cs', h1, h2⟩ := hx i hi
  rw [hc] at h1
  obtain ⟨_, hlen, hcell⟩ := World.cells?_some h1
  obtain ⟨s, rfl, hw⟩ := open_itemE h2
  exact ⟨s, hw, fun j hj => hcell j (by omega)⟩
set_option maxRecDepth 100000 in
theorem open_items {H : Type} {enc : TypeId × Value → H} {w : World} {r : Reach} {b0 base : Nat} {sp : Nat → Bool} {held : Bool} {v : Value} {d : DataW H} {p : List MemPlace} (hv : Value.okWide Tryd.prog w r b0 37 v) (h : DataW.Trod enc Tryd.prog w base sp held 37 v d p) :
    ∃ (ao : Option Addr) (l : List Im) (ca : Nat), v = .slice ao l.length ca ∧ RdG imC 3 w ao l ∧ l.length ≤ maxLen ∧ ∀ s ∈ l, wfItem s := by
  obtain ⟨a0, len0, cap0, rfl⟩ := okWide_slice Tryd.underlying37 hv
  obtain ⟨n, h0⟩ := h
  obtain ⟨ao, l, ca, e0, hR, hl, hw⟩ := open_itemsE h0
  simp [Value.cells] at e0
  obtain ⟨rfl, rfl, rfl⟩ := e0
  exact ⟨_, l, _, rfl, hR, hl, hw⟩

end Go.Proofs.YtbkhhkknhbddeaaDoor
namespace Go.Proofs.YtbkhhkknhbddeaaDoor
open Go.RowKit
set_option linter.unusedVariables false

def mIm (q : Nat) : Im := ⟨mkT (q + 0), mkT (q + 1), (q : Int) + 1 + 1⟩
theorem mark_atItem (z : Int) (n : Nat) (w : World) (hz : z = (n : Int)) (hn : n ≤ 9223372036854775807) (h0 : 0 < n) : Calls Tryd.prog 67 #[.int .i64 z] w fun e w' => e = .returned (.string (mkT n)) ∧ Below w.heap.size w w' := by subst hz; exact markText_any n w hn h0

set_option maxRecDepth 100000 in
set_option maxHeartbeats 2000000 in
theorem markItemS_any (v : Value) (n k : Nat) (xs : List Value) (base : Nat) (w : World) (hn : n ≤ 1048576) (hk : k ≤ 33554432) (hk0 : 0 < k) (hown : w.ownsRow base 51 3 v n xs) :
    Calls Tryd.prog 48 #[v, .int .i64 k] w fun e w' => e = .returned (.int .i64 ((k : Int) + 3 * (n : Int))) ∧ w'.ownsRow base 51 3 v n (rowG imC (patG mIm 3 k n)) ∧ w.grownBy w' v.ownBlock := by
  have hxl := hown.1
  rcases hown.2 with ⟨rfl, rfl⟩ | ⟨g, cap, cur, rfl, hbg, hgg, _⟩
  · go_enter Tryd.func48, Tryd.ntmps48
    go_wp2
    refine wp_loop_rounds 1 ?_
    rw [rounds_succ]
    go_wp2
    go_ret
    exact ⟨by simp, by have : xs = [] := List.eq_nil_of_length_eq_zero (by omega); subst this; exact hown, World.grownBy.refl _ _⟩
  · have hgl := (Array.getElem?_eq_some_iff.1 hgg).1
    have HO := hide1 hown
    have HX := hide1 hxl
    clear hgg hown hxl
    go_enter Tryd.func48, Tryd.ntmps48
    go_wp2
    go_loopw [1, 5] (fun kv iv wr => ∃ i kk : Nat, i ≤ n ∧ iv = .int .i64 (i : Int) ∧ kv = .int .i64 (kk : Int) ∧ Hid (kk = k + 3 * i) ∧ 0 < kk ∧ kk ≤ 67108864 ∧ Hid (wr.ownsRow base 51 3 (.slice (some ⟨g, 0, none⟩) n cap) n (mkG mIm 3 k imC 3 xs i)) ∧ Hid (w.grownBy wr (some g))) (fun _ iv _ => n - (intOf iv).toNat)
    case atStart => exact ⟨0, k, by omega, rfl, rfl, rfl, hk0, by omega, hide1 (by rw [mkG_zero]; exact HO.out), hide1 (World.grownBy.refl _ _)⟩
    case round =>
      obtain ⟨i, kk, hi, rfl, rfl, hkk, hkp, hkm, OW, BW⟩ := hrel
      by_cases hlt : i < n
      · have k1 : (i : Int) < (n : Int) := by omega
        have C0 := hide1 (fun (z : Int) (w : World) (hz : z = ((kk + 0 : Nat) : Int)) => mark_atItem z (kk + 0) w hz (by omega) (by omega))
        go_wp2_with fail
        refine (C0.out _ _ (by omega)).mono ?_
        rintro e v0 ⟨rfl, hb0⟩
        have P0 := hide1 (own_kept OW.out hb0)
        have D0 := hide1 (BW.out.trans (gnew hb0))
        obtain ⟨u0, x0⟩ := own_some P0.out (i * 3) (by omega)
        have f0 := P0.out.frozenAt (i * 3)
        obtain ⟨z0, hz0⟩ : ∃ z, z = mkT (kk + 0) := ⟨_, rfl⟩
        rw [← hz0]
        have Z0 := hide1 hz0
        have OW0 := hide1 (World.ownsRow.stored P0.out (i * 3) (.string z0)).1
        have BW0 := hide1 (gset D0.out (i * 3) (.string z0))
        clear hb0 hz0 C0 P0 D0
        have C1 := hide1 (fun (z : Int) (w : World) (hz : z = ((kk + 1 : Nat) : Int)) => mark_atItem z (kk + 1) w hz (by omega) (by omega))
        go_wp2_with fail
        refine (C1.out _ _ (by omega)).mono ?_
        rintro e v1 ⟨rfl, hb1⟩
        have P1 := hide1 (own_kept OW0.out hb1)
        have D1 := hide1 (BW0.out.trans (gnew hb1))
        obtain ⟨u1, x1⟩ := own_some P1.out (i * 3 + 1) (by omega)
        have f1 := P1.out.frozenAt (i * 3 + 1)
        obtain ⟨z1, hz1⟩ : ∃ z, z = mkT (kk + 1) := ⟨_, rfl⟩
        rw [← hz1]
        have Z1 := hide1 hz1
        have OW1 := hide1 (World.ownsRow.stored P1.out (i * 3 + 1) (.string z1)).1
        have BW1 := hide1 (gset D1.out (i * 3 + 1) (.string z1))
        clear hb1 hz1 C1 P1 D1
        obtain ⟨u2, x2⟩ := own_some OW1.out (i * 3 + 2) (by omega)
        have f2 := OW1.out.frozenAt (i * 3 + 2)
        have OW2 := hide1 (World.ownsRow.stored OW1.out (i * 3 + 2) (.int .i64 ((kk : Int) + 1 + 1))).1
        have BW2 := hide1 (gset BW1.out (i * 3 + 2) (.int .i64 ((kk : Int) + 1 + 1)))
        go_wp2
        go_roundw
        case rel =>
          refine ⟨i + 1, kk + 3, by omega, by go_num, by go_num, ?_, by omega, by have := hkk.out; omega, ?_, BW2⟩
          · show kk + 3 = k + 3 * (i + 1); have := hkk.out; omega
          · have st := OW2.out
            have hn2 := mkG_next (enc := imC) (kk := 3) mIm 3 k encIm xs i (by have := HX.out; omega)
            rw [← hn2, ← hkk.out]
            have e9 : (((mkG mIm 3 k imC 3 xs i).set (i * 3) (.string z0)).set (i * 3 + 1) (.string z1)).set (i * 3 + 2) (.int .i64 ((kk : Int) + 1 + 1)) = setL (mkG mIm 3 k imC 3 xs i) (i * 3) (imC (mIm kk)) := by
              rw [Z0.out, Z1.out]
              rfl
            rw [← e9]
            exact hide1 st
        case measure => simp [intOf]; omega
      · obtain rfl : i = n := by omega
        go_wp2
        go_ret
        have hown1 := OW.out
        rw [mkG_all _ _ _ encIm xs i HX.out] at hown1
        exact ⟨by rw [hkk.out]; simp, hown1, BW.out⟩

set_option maxRecDepth 100000 in
set_option maxHeartbeats 2000000 in
theorem heldItemS_any (ao : Option Addr) (n ca k : Nat) (w : World) (hn : n ≤ 1048576) (hk : k ≤ 33554432) (hk0 : 0 < k) (hA : RdG imC 3 w ao (patG mIm 3 k n)) :
    Calls Tryd.prog 49 #[.slice ao n ca, .int .i64 k] w fun e w' => e = .returned (.int .i64 ((k : Int) + 3 * (n : Int))) ∧ Below w.heap.size w w' := by
  have HA := hide1 hA
  clear hA
  go_enter Tryd.func49, Tryd.ntmps49
  go_wp2
  go_loopw [1, 5] (fun kv iv wr => ∃ i kk : Nat, i ≤ n ∧ iv = .int .i64 (i : Int) ∧ kv = .int .i64 (kk : Int) ∧ Hid (kk = k + 3 * i) ∧ 0 < kk ∧ kk ≤ 67108864 ∧ Hid (Below w.heap.size w wr)) (fun _ iv _ => n - (intOf iv).toNat)
  case atStart => exact ⟨0, k, by omega, rfl, rfl, rfl, hk0, by omega, hide1 (Below.refl _ _)⟩
  case round =>
    obtain ⟨i, kk, hi, rfl, rfl, hkk, hkp, hkm, BB⟩ := hrel
    by_cases hlt : i < n
    · have k1 : (i : Int) < (n : Int) := by omega
      obtain ⟨g, q, rfl, hg, h1⟩ := HA.out i (by rw [patG_length]; exact hlt)
      rw [patG_at, ← hkk.out] at h1
      have hgr : g < wr.heap.size := Nat.lt_of_lt_of_le hg BB.out.size
      obtain ⟨z0, hz0⟩ : ∃ z, z = mkT (kk + 0) := ⟨_, rfl⟩
      have C0 := hide1 (fun (z : Int) (w : World) (hz : z = ((kk + 0 : Nat) : Int)) => show Calls Tryd.prog 67 #[.int .i64 z] w (fun e w' => e = .returned (.string z0) ∧ Below w.heap.size w w') by rw [hz0]; exact mark_atItem z (kk + 0) w hz (by omega) (by omega))
      have M0 := hide1 (show w.cell? ⟨g, q + i * 3, none⟩ = some (.string z0) by rw [hz0]; exact h1 0 (by omega))
      have e0 : (z0.toList == z0.toList) = true := by simp
      clear hz0
      obtain ⟨z1, hz1⟩ : ∃ z, z = mkT (kk + 1) := ⟨_, rfl⟩
      have C1 := hide1 (fun (z : Int) (w : World) (hz : z = ((kk + 1 : Nat) : Int)) => show Calls Tryd.prog 67 #[.int .i64 z] w (fun e w' => e = .returned (.string z1) ∧ Below w.heap.size w w') by rw [hz1]; exact mark_atItem z (kk + 1) w hz (by omega) (by omega))
      have M1 := hide1 (show w.cell? ⟨g, q + i * 3 + 1, none⟩ = some (.string z1) by rw [hz1]; exact h1 1 (by omega))
      have e1 : (z1.toList == z1.toList) = true := by simp
      clear hz1
      have M2 := hide1 (show w.cell? ⟨g, q + i * 3 + 2, none⟩ = some (.int .i64 ((kk : Int) + 1 + 1)) from h1 2 (by omega))
      have e2 : ((kk : Int) + 1 + 1 != (kk : Int) + 1 + 1) = false := by simp
      clear h1
      have x0 : wr.cell? ⟨g, q + i * 3, none⟩ = some (.string z0) := (BB.out.cell (p := ⟨g, q + i * 3, none⟩) hg).trans M0.out
      have lg0 : g < wr.heap.size := Nat.lt_of_lt_of_le hg BB.out.size
      go_wp2
      go_region_held3 (fun w' => w'.cell? ⟨g, q + i * 3, none⟩ = some (.string z0)) (first | go_keep | exact (hb0.cell lg0).trans x0) ((go_at_call 67; refine (C0.out _ _ (by omega)).mono ?_; rintro e v0 ⟨rfl, hb0⟩))
      have BB0 := hide1 (BB.out.trans ((Below.refl _ _).drew.trans (hb0.mono BB.out.size)))
      clear x0 hb0
      have x1 : v0.cell? ⟨g, q + i * 3 + 1, none⟩ = some (.string z1) := (BB0.out.cell (p := ⟨g, q + i * 3 + 1, none⟩) hg).trans M1.out
      have lg1 : g < v0.heap.size := Nat.lt_of_lt_of_le hg BB0.out.size
      go_wp2
      go_region_held3 (fun w' => w'.cell? ⟨g, q + i * 3 + 1, none⟩ = some (.string z1)) (first | go_keep | exact (hb1.cell lg1).trans x1) ((go_at_call 67; refine (C1.out _ _ (by omega)).mono ?_; rintro e v1 ⟨rfl, hb1⟩))
      have BB1 := hide1 (BB0.out.trans ((Below.refl _ _).drew.trans (hb1.mono BB0.out.size)))
      clear x1 hb1
      have x2 : v1.cell? ⟨g, q + i * 3 + 2, none⟩ = some (.int .i64 ((kk : Int) + 1 + 1)) := (BB1.out.cell (p := ⟨g, q + i * 3 + 2, none⟩) hg).trans M2.out
      go_wp2
      go_roundw
      case rel => exact ⟨i + 1, kk + 3, by omega, by go_num, by go_num, by show kk + 3 = k + 3 * (i + 1); have := hkk.out; omega, by omega, by have := hkk.out; omega, BB1⟩
      case measure => simp [intOf]; omega
    · obtain rfl : i = n := by omega
      go_wp2
      go_ret
      exact ⟨by rw [hkk.out]; simp, BB.out⟩
end Go.Proofs.YtbkhhkknhbddeaaDoor
namespace Go.Proofs.YtbkhhkknhbddeaaDoor
open Go.ChangeShapes Go.WideShapes Go.ChangeAt Go.RowKit Go.Deep Go.Joins
set_option linter.unusedVariables false

set_option maxRecDepth 100000 in
set_option maxHeartbeats 1000000 in
theorem toMsg_any (k f o e n : Int) (l : List Im) (a : Option Addr) (ca : Nat) (w : World) (hl : l.length ≤ 1048576) (hA : RdG imC 3 w a l) :
    Calls Tryd.prog 18 #[.agg #[.int .i64 k, .int .i64 f, .int .i64 o, .int .i64 e, .int .i64 n, .slice a l.length ca]] w fun r w' => (∃ b c, r = .returned (.agg #[.int .i64 k, .int .i64 f, .int .i64 o, .int .i64 e, .int .i64 n, .slice b l.length c]) ∧ w'.ownsRow w.heap.size 51 3 (.slice b l.length c) l.length (rowG imC l)) ∧ Below w.heap.size w w' := by
  have CT := hide1 (fun w' (hb : Below w.heap.size w w') => toItemS_any a l ca w' hl (hA.later hb))
  have F := hide1 (blkN3 w #[.int .i64 k, .int .i64 f, .int .i64 o, .int .i64 e, .int .i64 n, .slice a l.length ca] #[.int .i64 0, .int .i64 0, .int .i64 0, .int .i64 0, .int .i64 0, .slice none 0 0] #[.int .i64 k, .int .i64 f, .int .i64 o, .int .i64 e, .int .i64 n, .slice none 0 0] 39 26 26)
  clear hA
  go_enter Tryd.func18, Tryd.ntmps18
  go_wp2_with fail
  generalize (((w.alloc (.cells #[.int .i64 k, .int .i64 f, .int .i64 o, .int .i64 e, .int .i64 n, .slice a l.length ca] 39)).alloc (.cells #[.int .i64 0, .int .i64 0, .int .i64 0, .int .i64 0, .int .i64 0, .slice none 0 0] 26)).alloc (.cells #[.int .i64 k, .int .i64 f, .int .i64 o, .int .i64 e, .int .i64 n, .slice none 0 0] 26)) = u at F ⊢
  obtain ⟨F0, F1, F2, F3⟩ := F.out
  refine (CT.out u F3).mono ?_
  rintro r w2 ⟨b, c, rfl, hO, hb2⟩
  obtain ⟨RB, hRB⟩ : ∃ G, G = w.heap.size + 1 := ⟨_, rfl⟩
  obtain ⟨OB, hOB⟩ : ∃ G, G = w.heap.size + 1 + 1 := ⟨_, rfl⟩
  have KR := hide1 (show Blk w2 RB 26 [.int .i64 0, .int .i64 0, .int .i64 0, .int .i64 0, .int .i64 0, .slice none 0 0] by rw [hRB]; exact F1.below hb2 F1.lt)
  have KO := hide1 (show Blk w2 OB 26 [.int .i64 k, .int .i64 f, .int .i64 o, .int .i64 e, .int .i64 n, .slice none 0 0] by rw [hOB]; exact F2.below hb2 F2.lt)
  have lO2 : w.heap.size + 1 + 1 < u.heap.size := F2.lt
  have OW := hide1 hO
  have BW := hide1 (F3.trans (hb2.mono F3.size))
  rw [← hOB, ← hRB]
  have hRO : RB ≠ OB := by omega
  have hRw : w.heap.size ≤ RB := by omega
  have hOw : w.heap.size ≤ OB := by omega
  have lRu : RB < u.heap.size := by omega
  have lOu : OB < u.heap.size := by omega
  have lwu : w.heap.size ≤ u.heap.size := by omega
  have r0 : w2.cell? ⟨RB, 0, none⟩ = some (.int .i64 0) := KR.out.cell 0
  have r1 : w2.cell? ⟨RB, 1, none⟩ = some (.int .i64 0) := KR.out.cell 1
  have r2 : w2.cell? ⟨RB, 2, none⟩ = some (.int .i64 0) := KR.out.cell 2
  have r3 : w2.cell? ⟨RB, 3, none⟩ = some (.int .i64 0) := KR.out.cell 3
  have r4 : w2.cell? ⟨RB, 4, none⟩ = some (.int .i64 0) := KR.out.cell 4
  have r5 : w2.cell? ⟨RB, 5, none⟩ = some (.slice none 0 0) := KR.out.cell 5
  have y0 : w2.cell? ⟨OB, 0, none⟩ = some (.int .i64 k) := KO.out.cell 0
  have y1 : w2.cell? ⟨OB, 1, none⟩ = some (.int .i64 f) := KO.out.cell 1
  have y2 : w2.cell? ⟨OB, 2, none⟩ = some (.int .i64 o) := KO.out.cell 2
  have y3 : w2.cell? ⟨OB, 3, none⟩ = some (.int .i64 e) := KO.out.cell 3
  have y4 : w2.cell? ⟨OB, 4, none⟩ = some (.int .i64 n) := KO.out.cell 4
  have y5 : w2.cell? ⟨OB, 5, none⟩ = some (.slice none 0 0) := KO.out.cell 5
  have rf : ∀ j, w2.frozen? ⟨RB, j, none⟩ = false := fun j => KR.out.froz j
  have yf : ∀ j, w2.frozen? ⟨OB, j, none⟩ = false := fun j => KO.out.froz j
  clear hO hb2 F F0 F1 F2 F3 CT hRB hOB
  go_wp2
  have hg9 : ∀ (z p q r s t v : Value), Below w.heap.size w (((((((w2.setCell ⟨OB, 5, none⟩ z).setCell ⟨RB, 0, none⟩ p).setCell ⟨RB, 1, none⟩ q).setCell ⟨RB, 2, none⟩ r).setCell ⟨RB, 3, none⟩ s).setCell ⟨RB, 4, none⟩ t).setCell ⟨RB, 5, none⟩ v) := fun z p q r s t v => ((((((BW.out.setCell (p := ⟨OB, 5, none⟩) hOw z).setCell (p := ⟨RB, 0, none⟩) hRw p).setCell (p := ⟨RB, 1, none⟩) hRw q).setCell (p := ⟨RB, 2, none⟩) hRw r).setCell (p := ⟨RB, 3, none⟩) hRw s).setCell (p := ⟨RB, 4, none⟩) hRw t).setCell (p := ⟨RB, 5, none⟩) hRw v
  refine bodyPost_ret (results_cell_row Tryd.results18 _ _ RB 26 #[.int .i64 k, .int .i64 f, .int .i64 o, .int .i64 e, .int .i64 n, .slice b l.length c] (0, 0) _ rfl (Blk.set (Blk.set (Blk.set (Blk.set (Blk.set (Blk.set (gblk (gset (World.grownBy.refl w2 (some OB)) 5 _) KR.out (by intro e; injection e; omega)) 0 _) 1 _) 2 _) 3 _) 4 _) 5 _) Tryd.underlying26 rfl (by kernel_rfl)) rfl ?_
  refine ⟨⟨b, c, rfl, ?_⟩, hg9 _ _ _ _ _ _ _⟩
  have gO := gset (World.grownBy.refl w2 (some OB)) 5 (.slice b l.length c)
  have o1 := gown gO OW.out (fun q hq e => by injection e with e; have := (OW.out.lt q hq).1; omega)
  have gR : ∀ (W : World) (p q r s t v : Value), W.grownBy ((((((W.setCell ⟨RB, 0, none⟩ p).setCell ⟨RB, 1, none⟩ q).setCell ⟨RB, 2, none⟩ r).setCell ⟨RB, 3, none⟩ s).setCell ⟨RB, 4, none⟩ t).setCell ⟨RB, 5, none⟩ v) (some RB) := fun W p q r s t v => gset (gset (gset (gset (gset (gset (World.grownBy.refl _ _) 0 p) 1 q) 2 r) 3 s) 4 t) 5 v
  exact own_base (gown (gR _ _ _ _ _ _ _) o1 (fun q hq e => by injection e with e; have := (o1.lt q hq).1; omega)) lwu

set_option maxRecDepth 100000 in
set_option maxHeartbeats 1000000 in
theorem eqMsg_same (k f o e n : Int) (l : List Im) (a b : Option Addr) (ca cb : Nat) (w : World) (hl : l.length ≤ 1048576) (hA : RdG imC 3 w a l) (hB : RdG imC 3 w b l) :
    Calls Tryd.prog 19 #[.agg #[.int .i64 k, .int .i64 f, .int .i64 o, .int .i64 e, .int .i64 n, .slice a l.length ca], .agg #[.int .i64 k, .int .i64 f, .int .i64 o, .int .i64 e, .int .i64 n, .slice b l.length cb]] w fun r w' => r = .returned (.bool true) ∧ Below w.heap.size w w' := by
  have F0 := hide1 (blkN2 w #[.int .i64 k, .int .i64 f, .int .i64 o, .int .i64 e, .int .i64 n, .slice a l.length ca] #[.int .i64 k, .int .i64 f, .int .i64 o, .int .i64 e, .int .i64 n, .slice b l.length cb] 26 26)
  have CN := hide1 (fun w' (h : Below w.heap.size w w') => eqItemS_same a b l ca cb w' hl (hA.later h) (hB.later h))
  clear hA hB
  have q0 : (k != k) = false := by simp
  have q1 : (f != f) = false := by simp
  have q2 : (o != o) = false := by simp
  have q3 : (e != e) = false := by simp
  have q4 : (n != n) = false := by simp
  go_enter Tryd.func19, Tryd.ntmps19
  go_wp2_with fail
  generalize ((w.alloc (.cells #[.int .i64 k, .int .i64 f, .int .i64 o, .int .i64 e, .int .i64 n, .slice a l.length ca] 26)).alloc (.cells #[.int .i64 k, .int .i64 f, .int .i64 o, .int .i64 e, .int .i64 n, .slice b l.length cb] 26)) = u at F0 ⊢
  refine (CN.out u F0.out.2.2).mono ?_
  rintro r w1 ⟨rfl, hb1⟩
  go_wp2
  go_ret
  exact ⟨rfl, F0.out.2.2.trans (hb1.mono F0.out.2.2.size)⟩
set_option maxRecDepth 100000 in
set_option maxHeartbeats 1000000 in
theorem szMsg_any (k f o e n : Int) (l : List Im) (a : Option Addr) (ca left : Nat) (w : World) (hl0 : left ≤ 1048576) (hl : l.length ≤ 9223372036854775807) (hA : RdG imC 3 w a l) (hS : ∀ i (h : i < l.length), l[i].k.size ≤ 9223372036854775807 ∧ l[i].v.size ≤ 9223372036854775807) :
    Calls Tryd.prog 16 #[.agg #[.int .i64 k, .int .i64 f, .int .i64 o, .int .i64 e, .int .i64 n, .slice a l.length ca], .int .i64 (left : Int)] w fun r w' => (r = .returned (.int .i64 (-1)) ∨ ∃ q : Nat, r = .returned (.int .i64 (q : Int)) ∧ q ≤ left ∧ l.length ≤ left ∧ ∀ i (h : i < l.length), l[i].k.size ≤ 1048576 ∧ l[i].v.size ≤ 1048576) ∧ Below w.heap.size w w' := by
  have F0 := hide1 ((Below.refl w.heap.size w).alloc (Nat.le_refl _) (.cells #[.int .i64 k, .int .i64 f, .int .i64 o, .int .i64 e, .int .i64 n, .slice a l.length ca] 39))
  have CN := hide1 (fun w' (h : Below w.heap.size w w') => szItemS_any a l ca left w' hl0 hl (hA.later h) hS)
  clear hA hS
  go_enter Tryd.func16, Tryd.ntmps16
  go_wp2_with fail
  generalize (w.alloc (.cells #[.int .i64 k, .int .i64 f, .int .i64 o, .int .i64 e, .int .i64 n, .slice a l.length ca] 39)) = u at F0 ⊢
  refine (CN.out u F0.out).mono ?_
  rintro r w1 ⟨hr, hb1⟩
  have B1 := hide1 (F0.out.trans (hb1.mono F0.out.size))
  clear hb1
  rcases hr with rfl | ⟨q, rfl, h1, h2, h3⟩
  · go_wp2
    go_ret
    exact ⟨.inl rfl, B1.out⟩
  · have qq : decide ((q : Int) < 0) = false := by simp
    have H3 := hide1 (And.intro h1 (And.intro h2 h3))
    clear h1 h2 h3
    go_wp2
    go_ret
    exact ⟨.inr ⟨q, rfl, H3.out⟩, B1.out⟩
set_option maxRecDepth 100000 in
/-- A message that came in. -/
theorem open_msg {H : Type} {enc : TypeId × Value → H} {w : World} {r : Reach} {b0 base : Nat} {sp : Nat → Bool} {held : Bool} {v : Value} {d : DataW H} {p : List MemPlace} (hv : Value.okWide Tryd.prog w r b0 39 v) (h : DataW.Trod enc Tryd.prog w base sp held 39 v d p) :
    ∃ (k f o e n : Int) (l : List Im) (a : Option Addr) (ca : Nat), v = .agg #[.int .i64 k, .int .i64 f, .int .i64 o, .int .i64 e, .int .i64 n, .slice a l.length ca] ∧ RdG imC 3 w a l ∧ l.length ≤ maxLen ∧ (∀ s ∈ l, wfItem s) ∧ (-9223372036854775808 ≤ k ∧ k ≤ 9223372036854775807) ∧ (-9223372036854775808 ≤ f ∧ f ≤ 9223372036854775807) ∧ (-9223372036854775808 ≤ o ∧ o ≤ 9223372036854775807) ∧ (-9223372036854775808 ≤ e ∧ e ≤ 9223372036854775807) ∧ (-9223372036854775808 ≤ n ∧ n ≤ 9223372036854775807) := by
  obtain ⟨cs, rfl, hsz⟩ := okWide_struct Tryd.underlying39 hv
  have hc : Tryd.prog.cellsOf 39 = 6 := by kernel_rfl
  rw [hc] at hsz
  obtain ⟨fuel, hf0⟩ := h
  obtain ⟨xs, n, _, _, hlen, hxl, hf⟩ := DataW.trod_struct Tryd.underlying39 hf0
  obtain ⟨cl⟩ := cs
  match xs, hxl, cl, hsz with
  | [q0, q1, q2, q3, q4, q5], _, [u0, u1, u2, u3, u4, u5], _ =>
    have g0 := hf 0 _ rfl
    have g1 := hf 1 _ rfl
    have g2 := hf 2 _ rfl
    have g3 := hf 3 _ rfl
    have g4 := hf 4 _ rfl
    have g5 := hf 5 _ rfl
    have ci : Tryd.prog.cellsOf 3 = 1 := by kernel_rfl
    have c5 : Tryd.prog.cellsOf 37 = 1 := by kernel_rfl
    simp [ci, c5, Value.cells] at g0 g1 g2 g3 g4 g5
    obtain ⟨n0, e0, _, w0⟩ := DataW.trod_int Tryd.underlying3 g0
    obtain ⟨n1, e1, _, w1⟩ := DataW.trod_int Tryd.underlying3 g1
    obtain ⟨n2, e2, _, w2⟩ := DataW.trod_int Tryd.underlying3 g2
    obtain ⟨n3, e3, _, w3⟩ := DataW.trod_int Tryd.underlying3 g3
    obtain ⟨n4, e4, _, w4⟩ := DataW.trod_int Tryd.underlying3 g4
    obtain ⟨a5, l5, k5, e5, r5, m5, f5⟩ := open_itemsE g5
    simp at e0 e1 e2 e3 e4 e5
    subst e0 e1 e2 e3 e4 e5
    exact ⟨n0, n1, n2, n3, n4, l5, a5, k5, rfl, r5, m5, f5, bounds_i64 w0, bounds_i64 w1, bounds_i64 w2, bounds_i64 w3, bounds_i64 w4⟩
end Go.Proofs.YtbkhhkknhbddeaaDoor
namespace Go.Proofs.YtbkhhkknhbddeaaDoor
open Go.RowKit
set_option linter.unusedVariables false

set_option maxRecDepth 100000 in
set_option maxHeartbeats 1000000 in
theorem markMsg_any (k f o e n : Int) (a : Option Addr) (len ca q : Nat) (xs : List Value) (base : Nat) (w : World) (hn : len ≤ 1048576) (hq : q ≤ 33554432) (hq0 : 0 < q) (hown : w.ownsRow base 51 3 (.slice a len ca) len xs) :
    Calls Tryd.prog 20 #[.agg #[.int .i64 k, .int .i64 f, .int .i64 o, .int .i64 e, .int .i64 n, .slice a len ca], .int .i64 (q : Int)] w fun r w' => r = .returned (.int .i64 ((q : Int) + 3 * (len : Int))) ∧ w'.ownsRow base 51 3 (.slice a len ca) len (rowG imC (patG mIm 3 q len)) ∧ w.grownBy w' (Value.slice a len ca).ownBlock := by
  have F0 := hide1 (And.intro (Blk.new w 26 #[.int .i64 k, .int .i64 f, .int .i64 o, .int .i64 e, .int .i64 n, .slice a len ca]) ((Below.refl w.heap.size w).alloc (Nat.le_refl _) (.cells #[.int .i64 k, .int .i64 f, .int .i64 o, .int .i64 e, .int .i64 n, .slice a len ca] 26)))
  have HO := hide1 hown
  clear hown
  go_enter Tryd.func20, Tryd.ntmps20
  go_upto_region 1 with fail
  generalize (w.alloc (.cells #[.int .i64 k, .int .i64 f, .int .i64 o, .int .i64 e, .int .i64 n, .slice a len ca] 26)) = u at F0 ⊢
  have y5 : u.cell? ⟨w.heap.size, 5, none⟩ = some (.slice a len ca) := F0.out.1.cell 5
  have O1 := hide1 (own_kept HO.out F0.out.2)
  go_wp2_with fail
  refine (markItemS_any (.slice a len ca) len q xs base u hn hq hq0 O1.out).mono ?_
  rintro r w1 ⟨rfl, ho, hg⟩
  have H1 := hide1 ho
  have G1 := hide1 (gtrans (gnew F0.out.2) hg)
  clear ho hg y5
  go_wp2
  go_ret
  exact ⟨rfl, H1.out, G1.out⟩
set_option maxRecDepth 100000 in
set_option maxHeartbeats 1000000 in
theorem heldMsg_any (k f o e n : Int) (a : Option Addr) (len ca q : Nat) (w : World) (hn : len ≤ 1048576) (hq : q ≤ 33554432) (hq0 : 0 < q) (hA : RdG imC 3 w a (patG mIm 3 q len)) :
    Calls Tryd.prog 21 #[.agg #[.int .i64 k, .int .i64 f, .int .i64 o, .int .i64 e, .int .i64 n, .slice a len ca], .int .i64 (q : Int)] w fun r w' => r = .returned (.int .i64 ((q : Int) + 3 * (len : Int))) ∧ Below w.heap.size w w' := by
  have F0 := hide1 (And.intro (Blk.new w 26 #[.int .i64 k, .int .i64 f, .int .i64 o, .int .i64 e, .int .i64 n, .slice a len ca]) ((Below.refl w.heap.size w).alloc (Nat.le_refl _) (.cells #[.int .i64 k, .int .i64 f, .int .i64 o, .int .i64 e, .int .i64 n, .slice a len ca] 26)))
  have HO := hide1 hA
  have q1 : ¬ ((q : Int) + 3 * (len : Int) < 0) := by omega
  clear hA
  go_enter Tryd.func21, Tryd.ntmps21
  go_upto_region 1 with fail
  generalize (w.alloc (.cells #[.int .i64 k, .int .i64 f, .int .i64 o, .int .i64 e, .int .i64 n, .slice a len ca] 26)) = u at F0 ⊢
  have y5 : u.cell? ⟨w.heap.size, 5, none⟩ = some (.slice a len ca) := F0.out.1.cell 5
  go_wp2_with fail
  refine (heldItemS_any a len ca q u hn hq hq0 (HO.out.later F0.out.2)).mono ?_
  rintro r w1 ⟨rfl, hb⟩
  have B1 := hide1 (F0.out.2.trans (hb.mono F0.out.2.size))
  clear hb y5
  go_wp2
  go_ret
  exact ⟨rfl, B1.out⟩
end Go.Proofs.YtbkhhkknhbddeaaDoor
