/- The contracts of the functions that cut a line at its blanks: at every line. -/
import Derived.Test.YtelmchifpgaibaaDoorSAA
import Derived.Test.YtelmchifpgaibaaDoorSAB
namespace Go.Proofs.YtelmchifpgaibaaDoor
open Go.RowKit

theorem Tryd.info9 : (Tryd.prog.info? 9).map (fun i => (i.zero, i.size, i.bytes)) = some (some (.string ⟨#[]⟩), 1, 16) := by kernel_rfl

/-- Where the next part begins, and the parts, once i places have been gone through. -/
def pS (s : ByteArray) : Nat → Nat × List ByteArray
  | 0 => (0, [])
  | i + 1 => if i < s.size ∧ byt s i ≠ 32 then pS s i else (i + 1, if (pS s i).1 < i then (pS s i).2 ++ [s.extract (pS s i).1 i] else (pS s i).2)
theorem pS_skip {s : ByteArray} {i b : Nat} {l : List ByteArray} (e : (b, l) = pS s i) (h : i < s.size) (hb : ¬ byt s i = 32) : (b, l) = pS s (i + 1) := by
  rw [pS, if_pos ⟨h, hb⟩, e]
theorem pS_part {s : ByteArray} {i b : Nat} {l : List ByteArray} (e : (b, l) = pS s i) (h : ¬ (i < s.size ∧ byt s i ≠ 32)) (hb : b < i) : (i + 1, l ++ [s.extract b i]) = pS s (i + 1) := by
  rw [pS, if_neg h, ← e, if_pos hb]
theorem pS_none {s : ByteArray} {i b : Nat} {l : List ByteArray} (e : (b, l) = pS s i) (h : ¬ (i < s.size ∧ byt s i ≠ 32)) (hb : ¬ b < i) : (i + 1, l) = pS s (i + 1) := by
  rw [pS, if_neg h, ← e, if_neg hb]
def plainTo (s : ByteArray) (n : Nat) : Prop := ∀ j, j < n → j < s.size → 32 ≤ byt s j ∧ byt s j ≤ 126
def plainB (s : ByteArray) : Bool := (List.range s.size).all fun j => decide (32 ≤ byt s j) && decide (byt s j ≤ 126)
theorem plainB_iff (s : ByteArray) : plainB s = true ↔ plainTo s s.size := by
  unfold plainB plainTo; simp [List.all_eq_true]
def partsB (s : ByteArray) : Bool := decide (s.size ≤ 600) && (plainB s && decide ((pS s (s.size + 1)).2.length ≤ 10))
def partsL (s : ByteArray) : List ByteArray := if partsB s = true then (pS s (s.size + 1)).2 else []
theorem partsL_le (s : ByteArray) : (partsL s).length ≤ 10 := by
  unfold partsL
  split
  · rename_i h; unfold partsB at h; simp at h; exact h.2.2
  · simp
theorem parts_no {s : ByteArray} (h : partsB s = false) : partsL s = [] := by unfold partsL; rw [h]; rfl
theorem parts_yes {s : ByteArray} (h : partsB s = true) : partsL s = (pS s (s.size + 1)).2 := by unfold partsL; rw [if_pos h]

set_option maxRecDepth 100000 in
set_option maxHeartbeats 800000 in
theorem specParts_any (s : ByteArray) (w : World) (hs : s.size ≤ 1048576) :
    Calls Tryd.prog 13 #[.string s] w fun e w' => ∃ v, e = .returned (.tuple #[v, .bool (partsB s)]) ∧ w'.ownsRow w.heap.size 9 1 v (partsL s).length (sc (partsL s)) ∧ Below w.heap.size w w' := by
  by_cases h : s.size ≤ 600
  · obtain ⟨i0, hi, hz0, hz1, hz2⟩ := info_parts Tryd.info9
    have q1 : decide ((600 : Int) < (s.size : Int)) = false := by simp; omega
    go_enter Tryd.func13, Tryd.ntmps13
    go_wp2
    go_loopw [4, 5, 6] (fun v bv iv wr => ∃ (i b : Nat) (l : List ByteArray), i ≤ s.size + 1 ∧ iv = .int .i64 (i : Int) ∧ bv = .int .i64 (b : Int) ∧ Hid ((b, l) = pS s i) ∧ b ≤ i ∧ l.length ≤ i ∧ wr.ownsRow w.heap.size 9 1 v l.length (sc l) ∧ Below w.heap.size w wr ∧ Hid (plainTo s i)) (fun _ _ iv _ => s.size + 1 - (intOf iv).toNat)
    case atStart => exact ⟨0, 0, [], by omega, rfl, rfl, rfl, by omega, by simp, owns_empty w _, (Below.refl _ _).alloc (Nat.le_refl _) _, fun j hj => by omega⟩
    case round =>
      obtain ⟨i, b, l, hi1, rfl, rfl, hp, hbi, hll, hown, hbel, hgood⟩ := hrel
      have hbs := hbel.size
      by_cases hle : i ≤ s.size
      · have hb := get_byt s
        by_cases hlt : i < s.size
        · have hb1 := byt_le s i
          by_cases c1 : byt s i < 32 ∨ 126 < byt s i
          · have hno : partsB s = false := by
              cases hpb : partsB s with
              | false => rfl
              | true =>
                unfold partsB at hpb
                simp only [Bool.and_eq_true] at hpb
                have := (plainB_iff s).1 hpb.2.1 i hlt hlt
                omega
            have N : Hid _ := hno
            clear hno
            by_cases c2 : byt s i < 32
            all_goals
              go_wp2
              go_ret2
              exact ⟨_, by rw [N.out]; rfl, by rw [parts_no N.out]; exact ⟨rfl, .inr ⟨wr.heap.size, 0, #[], rfl, hbs, heap_alloc_new wr _, Nat.le_refl _, Nat.zero_le _, rfl, rfl⟩⟩, hbel.alloc hbs _⟩
          · have hg' : Hid (plainTo s (i + 1)) := by
              intro j hj hj2
              by_cases c : j < i
              · exact hgood.out j c hj2
              · rw [show j = i by omega]; omega
            by_cases c2 : byt s i = 32
            · have c2' : (((byt s i : Nat) : Int) != 32) = false := by simp; omega
              have hcut : Hid _ := (show ¬ (i < s.size ∧ byt s i ≠ 32) from fun hh => hh.2 c2)
              have c4 : 32 ≤ byt s i := by omega
              have c5 : byt s i ≤ 126 := by omega
              clear c2
              by_cases c3 : b < i
              · go_wp2_with (at_builtin; (refine wpList_push1 rfl _ _ 31 rfl w.heap.size 9 i0 (.string ⟨#[]⟩) 16 Tryd.underlying31 hi hz0 hz1 hz2 rfl (by decide) _ l.length (sc l) rfl hown _ rfl rfl (by omega) hbs ?_; intro v' w1 hown' hb'))
                go_roundw
                case rel => exact ⟨i + 1, i + 1, l ++ [s.extract b i], by omega, by go_num, by go_num, pS_part hp.out hcut.out c3, by omega, by simp; omega, by rw [sc_append, List.length_append]; exact hown', hbel.trans hb', hg'⟩
                case measure => simp [intOf]; omega
              · go_wp2
                go_roundw
                case rel => exact ⟨i + 1, i + 1, l, by omega, by go_num, by go_num, pS_none hp.out hcut.out c3, by omega, by omega, hown, hbel, hg'⟩
                case measure => simp [intOf]; omega
            · have c2' : (((byt s i : Nat) : Int) != 32) = true := by simp; omega
              go_wp2
              go_roundw
              case rel => exact ⟨i + 1, b, l, by omega, by go_num, rfl, pS_skip hp.out hlt c2, by omega, by omega, hown, hbel, hg'⟩
              case measure => simp [intOf]; omega
        · have hcut : Hid _ := (show ¬ (i < s.size ∧ byt s i ≠ 32) from fun hh => hlt hh.1)
          have hg' : Hid (plainTo s (i + 1)) := fun j hj hj2 => hgood.out j (by omega) hj2
          by_cases c3 : b < i
          · go_wp2_with (at_builtin; (refine wpList_push1 rfl _ _ 31 rfl w.heap.size 9 i0 (.string ⟨#[]⟩) 16 Tryd.underlying31 hi hz0 hz1 hz2 rfl (by decide) _ l.length (sc l) rfl hown _ rfl rfl (by omega) hbs ?_; intro v' w1 hown' hb'))
            go_roundw
            case rel => exact ⟨i + 1, i + 1, l ++ [s.extract b i], by omega, by go_num, by go_num, pS_part hp.out hcut.out c3, by omega, by simp; omega, by rw [sc_append, List.length_append]; exact hown', hbel.trans hb', hg'⟩
            case measure => simp [intOf]; omega
          · go_wp2
            go_roundw
            case rel => exact ⟨i + 1, i + 1, l, by omega, by go_num, by go_num, pS_none hp.out hcut.out c3, by omega, by omega, hown, hbel, hg'⟩
            case measure => simp [intOf]; omega
      · obtain ⟨ao, cap, rfl⟩ := own_slice hown
        have hpl : Hid (plainB s = true) := (plainB_iff s).2 (fun j hj hj2 => hgood.out j (by omega) hj2)
        have hl : Hid (l = (pS s (s.size + 1)).2) := by have := hp.out; rw [show i = s.size + 1 by omega] at this; rw [← this]; rfl
        have hlen2 := hll
        by_cases c6 : l.length ≤ 10
        · have hy : Hid (partsB s = true) := by
            show partsB s = true
            unfold partsB; rw [hpl.out, ← hl.out]; simp [h, c6]
          go_wp2
          go_ret2
          exact ⟨_, by rw [hy.out]; rfl, by rw [parts_yes hy.out, ← hl.out]; exact hown, hbel⟩
        · have hy : Hid (partsB s = false) := by
            show partsB s = false
            unfold partsB; rw [hpl.out, ← hl.out]; simp; omega
          go_wp2
          go_ret2
          exact ⟨_, by rw [hy.out]; rfl, by rw [parts_no hy.out]; exact ⟨rfl, .inr ⟨wr.heap.size, 0, #[], rfl, hbs, heap_alloc_new wr _, Nat.le_refl _, Nat.zero_le _, rfl, rfl⟩⟩, hbel.alloc hbs _⟩
  · have hno : partsB s = false := by unfold partsB; simp; omega
    rw [hno, parts_no hno]
    have q1 : decide ((600 : Int) < (s.size : Int)) = true := by simp; omega
    go_enter Tryd.func13, Tryd.ntmps13
    go_wp2
    go_ret2
    exact ⟨_, rfl, owns_empty w _, (Below.refl _ _).alloc (Nat.le_refl _) _⟩

set_option maxHeartbeats 400000 in
theorem plainLine_any (s : ByteArray) (w : World) (hs : s.size ≤ 1048576) (b : Bool) (hb : plainB s = b) :
    Calls Tryd.prog 49 #[.string s] w fun e w' => e = .returned (.bool b) ∧ w = w' := by
  have HB : Hid _ := hb
  clear hb
  go_enter Tryd.func49, Tryd.ntmps49
  go_wp2
  go_loop [3] (fun iv => ∃ i : Nat, i ≤ s.size ∧ iv = .int .i64 (i : Int) ∧ Hid (plainTo s i)) (fun iv => s.size - (intOf iv).toNat)
  case atStart => exact ⟨0, by omega, rfl, fun j hj => by omega⟩
  case round =>
    obtain ⟨i, hi, rfl, hgood⟩ := hrel
    by_cases hlt : i < s.size
    · have hb := get_byt s
      have hb1 := byt_le s i
      by_cases c1 : byt s i < 32 ∨ 126 < byt s i
      · have hno : Hid (b = false) := by
          show b = false
          rw [← HB.out]
          cases hpb : plainB s with
          | false => rfl
          | true => have := (plainB_iff s).1 hpb i hlt hlt; omega
        by_cases c2 : byt s i < 32
        all_goals
          go_wp2
          go_ret
          exact ⟨by rw [hno.out]; rfl, rfl⟩
      · have hg' : Hid (plainTo s (i + 1)) := by
          intro j hj hj2
          by_cases c : j < i
          · exact hgood.out j c hj2
          · rw [show j = i by omega]; omega
        go_wp2
        go_round
        case rel => exact ⟨i + 1, by omega, by go_num, hg'⟩
        case measure => simp [intOf]; omega
    · have hy : Hid (b = true) := by
        show b = true
        rw [← HB.out]
        exact (plainB_iff s).2 (fun j hj hj2 => hgood.out j (by omega) hj2)
      go_wp2
      go_ret
      exact ⟨by rw [hy.out]; rfl, rfl⟩

set_option maxRecDepth 100000 in
set_option maxHeartbeats 800000 in
theorem implParts_any (s : ByteArray) (w : World) (hs : s.size ≤ 1048576) :
    Calls Tryd.prog 42 #[.string s] w fun e w' => ∃ v, e = .returned (.tuple #[v, .bool (partsB s)]) ∧ w'.ownsRow w.heap.size 9 1 v (partsL s).length (sc (partsL s)) ∧ Below w.heap.size w w' := by
  by_cases h : s.size ≤ 600
  · obtain ⟨i0, hi, hz0, hz1, hz2⟩ := info_parts Tryd.info9
    have q1 : decide ((600 : Int) < (s.size : Int)) = false := by simp; omega
    cases hpl0 : plainB s with
    | false =>
      have hno : partsB s = false := by unfold partsB; rw [hpl0]; simp
      rw [hno, parts_no hno]
      have C : Hid _ := fun w => plainLine_any s w hs false hpl0
      clear hpl0 hno
      go_enter Tryd.func42, Tryd.ntmps42
      go_wp2_with (go_at_call 49; refine (C.out _).mono ?_; rintro e w1 ⟨rfl, rfl⟩)
      go_ret2
      exact ⟨_, rfl, World.ownsRow_nil _ _ _ _, Below.refl _ _⟩
    | true =>
      have C : Hid _ := fun w => plainLine_any s w hs true hpl0
      have hpl : Hid _ := hpl0
      clear hpl0
      go_enter Tryd.func42, Tryd.ntmps42
      go_wp2_with (go_at_call 49; refine (C.out _).mono ?_; rintro e w1 ⟨rfl, rfl⟩)
      go_loopw [4, 5, 6] (fun v bv iv wr => ∃ (i b : Nat) (l : List ByteArray), i ≤ s.size + 1 ∧ iv = .int .i64 (i : Int) ∧ bv = .int .i64 (b : Int) ∧ Hid ((b, l) = pS s i) ∧ b ≤ i ∧ l.length ≤ i ∧ wr.ownsRow w.heap.size 9 1 v l.length (sc l) ∧ Below w.heap.size w wr) (fun _ _ iv _ => s.size + 1 - (intOf iv).toNat)
      case atStart => exact ⟨0, 0, [], by omega, rfl, rfl, rfl, by omega, by simp, World.ownsRow_nil _ _ _ _, Below.refl _ _⟩
      case round =>
        obtain ⟨i, b, l, hi1, rfl, rfl, hp, hbi, hll, hown, hbel⟩ := hrel
        have hbs := hbel.size
        by_cases hle : i ≤ s.size
        · have hb := get_byt s
          by_cases hlt : i < s.size ∧ ¬ byt s i = 32
          · obtain ⟨hlt, c2⟩ := hlt
            have hb1 := byt_le s i
            have c2' : (((byt s i : Nat) : Int) != 32) = true := by simp; omega
            go_wp2
            go_roundw
            case rel => exact ⟨i + 1, b, l, by omega, by go_num, rfl, pS_skip hp.out hlt c2, by omega, by omega, hown, hbel⟩
            case measure => simp [intOf]; omega
          · have hcut : Hid _ := hlt
            have c2' : i < s.size → (((byt s i : Nat) : Int) != 32) = false := fun hh => by
              have : byt s i = 32 := Classical.byContradiction fun k => hlt ⟨hh, k⟩
              simp; omega
            clear hlt
            by_cases hl2 : i < s.size
            · have c2'' := c2' hl2
              clear c2'
              by_cases c3 : b < i
              · go_wp2_with (first | (at_builtin; (refine wpList_push1 rfl _ _ 31 rfl w.heap.size 9 i0 (.string ⟨#[]⟩) 16 Tryd.underlying31 hi hz0 hz1 hz2 rfl (by decide) _ l.length (sc l) rfl (own_below hown hb1) _ rfl rfl (by omega) (Nat.le_trans hbs hb1.size) ?_; intro v' w2 hown' hb')) | (go_at_call 50; refine (newText_any _ _).mono ?_; rintro e w1 ⟨rfl, hb1⟩))
                go_roundw
                case rel => exact ⟨i + 1, i + 1, l ++ [s.extract b i], by omega, by go_num, by go_num, pS_part hp.out hcut.out c3, by omega, by simp; omega, by rw [sc_append, List.length_append]; exact hown', (hbel.trans (hb1.mono hbs)).trans hb'⟩
                case measure => simp [intOf]; omega
              · go_wp2
                go_roundw
                case rel => exact ⟨i + 1, i + 1, l, by omega, by go_num, by go_num, pS_none hp.out hcut.out c3, by omega, by omega, hown, hbel⟩
                case measure => simp [intOf]; omega
            · clear c2'
              by_cases c3 : b < i
              · go_wp2_with (first | (at_builtin; (refine wpList_push1 rfl _ _ 31 rfl w.heap.size 9 i0 (.string ⟨#[]⟩) 16 Tryd.underlying31 hi hz0 hz1 hz2 rfl (by decide) _ l.length (sc l) rfl (own_below hown hb1) _ rfl rfl (by omega) (Nat.le_trans hbs hb1.size) ?_; intro v' w2 hown' hb')) | (go_at_call 50; refine (newText_any _ _).mono ?_; rintro e w1 ⟨rfl, hb1⟩))
                go_roundw
                case rel => exact ⟨i + 1, i + 1, l ++ [s.extract b i], by omega, by go_num, by go_num, pS_part hp.out hcut.out c3, by omega, by simp; omega, by rw [sc_append, List.length_append]; exact hown', (hbel.trans (hb1.mono hbs)).trans hb'⟩
                case measure => simp [intOf]; omega
              · go_wp2
                go_roundw
                case rel => exact ⟨i + 1, i + 1, l, by omega, by go_num, by go_num, pS_none hp.out hcut.out c3, by omega, by omega, hown, hbel⟩
                case measure => simp [intOf]; omega
        · obtain ⟨ao, cap, rfl⟩ := own_slice hown
          have hl : Hid (l = (pS s (s.size + 1)).2) := by have := hp.out; rw [show i = s.size + 1 by omega] at this; rw [← this]; rfl
          by_cases c6 : l.length ≤ 10
          · have hy : Hid (partsB s = true) := by
              show partsB s = true
              unfold partsB; rw [hpl.out, ← hl.out]; simp [h, c6]
            go_wp2
            go_ret2
            exact ⟨_, by rw [hy.out]; rfl, by rw [parts_yes hy.out, ← hl.out]; exact hown, hbel⟩
          · have hy : Hid (partsB s = false) := by
              show partsB s = false
              unfold partsB; rw [hpl.out, ← hl.out]; simp; omega
            go_wp2
            go_ret2
            exact ⟨_, by rw [hy.out]; rfl, by rw [parts_no hy.out]; exact World.ownsRow_nil _ _ _ _, hbel⟩
  · have hno : partsB s = false := by unfold partsB; simp; omega
    rw [hno, parts_no hno]
    have q1 : decide ((600 : Int) < (s.size : Int)) = true := by simp; omega
    go_enter Tryd.func42, Tryd.ntmps42
    go_wp2
    go_ret2
    exact ⟨_, rfl, World.ownsRow_nil _ _ _ _, Below.refl _ _⟩
end Go.Proofs.YtelmchifpgaibaaDoor
