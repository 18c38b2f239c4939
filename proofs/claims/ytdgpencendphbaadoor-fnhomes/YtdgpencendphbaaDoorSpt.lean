/- Rows of spots: their cells, how they read, how they are compared. -/
import Derived.Test.YtdgpencendphbaaDoorRiP
import Derived.Test.YtdgpencendphbaaDoorGenB
import Derived.Deep.RegionHeld3
namespace Go.Proofs.YtdgpencendphbaaDoor
open Go.RowKit

/-- The cells of a table's cell, and of a row of them. -/
def spC (s : Sp) : List Value := [.int .i64 s.1, .int .i64 s.2]
def sps (l : List Sp) : List Value := l.flatMap spC
theorem spC_length (s : Sp) : (spC s).length = 2 := rfl
theorem sps_length (l : List Sp) : (sps l).length = l.length * 2 := by
  induction l with
  | nil => rfl
  | cons s l ih => rw [sps, List.flatMap_cons, List.length_append, spC_length, ← sps, ih, List.length_cons]; omega
theorem sps_append (l m : List Sp) : sps (l ++ m) = sps l ++ sps m := by simp [sps]
theorem sps_cons (s : Sp) (l : List Sp) : sps (s :: l) = spC s ++ sps l := rfl
theorem sps_at : ∀ (l : List Sp) (i j : Nat) (hi : i < l.length), j < 2 → (sps l)[i * 2 + j]? = (spC l[i])[j]?
  | s :: l, 0, j, _, hj => by rw [sps_cons, Nat.zero_mul, Nat.zero_add, List.getElem?_append_left (by rw [spC_length]; exact hj)]; rfl
  | s :: l, i + 1, j, hi, hj => by
    rw [sps_cons, List.getElem?_append_right (by rw [spC_length]; omega), spC_length, show (i + 1) * 2 + j - 2 = i * 2 + j by omega, sps_at l i j (by simpa using hi) hj]
    rfl
theorem sps_set : ∀ (l : List Sp) (i : Nat) (s : Sp), i < l.length → sps (l.set i s) = (sps l).take (i * 2) ++ spC s ++ (sps l).drop (i * 2 + 2)
  | t :: l, 0, s, _ => by
    rw [List.set_cons_zero, sps_cons, sps_cons, Nat.zero_mul, List.take_zero, List.nil_append, Nat.zero_add, List.drop_append_of_le_length (by rw [spC_length]; omega)]
    simp [spC]
  | t :: l, i + 1, s, hi => by
    rw [List.set_cons_succ, sps_cons, sps_cons, sps_set l i s (by simpa using hi)]
    have h1 : (spC t ++ sps l).take ((i + 1) * 2) = spC t ++ (sps l).take (i * 2) := by
      rw [List.take_append, spC_length, List.take_of_length_le (by rw [spC_length]; omega), show (i + 1) * 2 - 2 = i * 2 by omega]
    have h2 : (spC t ++ sps l).drop ((i + 1) * 2 + 2) = (sps l).drop (i * 2 + 2) := by
      rw [List.drop_append, spC_length, List.drop_eq_nil_of_le (by rw [spC_length]; omega), List.nil_append, show (i + 1) * 2 + 2 - 2 = i * 2 + 2 by omega]
    rw [h1, h2]
    simp [List.append_assoc]
theorem set2P (xs : List Value) (m : Nat) (a b : Value) (h : m + 2 ≤ xs.length) : (xs.set m a).set (m + 1) b = xs.take m ++ [a, b] ++ xs.drop (m + 2) := by
  refine List.ext_getElem? fun j => ?_
  simp only [List.getElem?_set, List.length_set]
  rcases Nat.lt_or_ge j m with h1 | h1
  · rw [if_neg (by omega), if_neg (by omega), List.append_assoc, List.getElem?_append_left (by simp; omega), List.getElem?_take_of_lt h1]
  · rcases Nat.lt_or_ge j (m + 2) with h2 | h2
    · obtain ⟨q, rfl⟩ : ∃ q, j = m + q := ⟨j - m, by omega⟩
      rw [List.append_assoc, List.getElem?_append_right (by simp; omega)]
      have hl : (xs.take m).length = m := by simp; omega
      rw [hl, Nat.add_sub_cancel_left]
      match q, h2 with
      | 0, _ => simp; omega
      | 1, _ => simp; omega
      | q + 2, h => omega
    · rw [if_neg (by omega), if_neg (by omega), List.getElem?_append_right (by simp; omega)]
      have hl : (xs.take m ++ [a, b]).length = m + 2 := by simp; omega
      rw [hl, List.getElem?_drop]
      congr 1
      omega
/-- A cell of a table as a value. -/
def spV (s : Sp) : Value := .agg #[.int .i64 s.1, .int .i64 s.2]
def eqSp (s t : Sp) : Bool := (s.1 == t.1) && (s.2 == t.2)
theorem eqSp_same (s : Sp) : eqSp s s = true := by simp [eqSp]
theorem eqSp_iff (s t : Sp) : eqSp s t = true ↔ s = t := by
  constructor
  · intro h
    simp only [eqSp, Bool.and_eq_true, beq_iff_eq] at h
    exact Prod.ext h.1 h.2
  · rintro rfl; exact eqSp_same s
/-- The two cells of cell i of a row. -/
def spotAt2 (w : World) (g i : Nat) (s : Sp) : Prop := w.cell? ⟨g, i * 2, none⟩ = some (.int .i64 s.1) ∧ w.cell? ⟨g, i * 2 + 1, none⟩ = some (.int .i64 s.2)
/-- A row of cells that reads as l. -/
def RdP (w : World) (a : Option Addr) (l : List Sp) : Prop := l = [] ∨ ∃ g, a = some ⟨g, 0, none⟩ ∧ g < w.heap.size ∧ ∀ i (h : i < l.length), spotAt2 w g i l[i]
theorem spotAt2.below {w w' : World} {B g i : Nat} {s : Sp} (h : spotAt2 w g i s) (hb : Below B w w') (hg : g < B) : spotAt2 w' g i s := ⟨(hb.cell hg).trans h.1, (hb.cell hg).trans h.2⟩
theorem RdP.later {w w' : World} {a : Option Addr} {l : List Sp} (h : RdP w a l) (hb : Below w.heap.size w w') : RdP w' a l := by
  rcases h with h | ⟨g, ha, hg, hc⟩
  · exact .inl h
  · exact .inr ⟨g, ha, Nat.lt_of_lt_of_le hg hb.size, fun i hi => (hc i hi).below hb hg⟩
theorem RdP.at {w : World} {a : Option Addr} {l : List Sp} (h : RdP w a l) (i : Nat) (hi : i < l.length) : ∃ g, a = some ⟨g, 0, none⟩ ∧ g < w.heap.size ∧ spotAt2 w g i l[i] := by
  rcases h with h | ⟨g, ha, hg, hc⟩
  · subst h; simp at hi
  · exact ⟨g, ha, hg, hc i hi⟩
theorem rdP_of_own {w : World} {base ca : Nat} {e : TypeId} {ao : Option Addr} {l : List Sp} (h : w.ownsRow base e 2 (.slice ao l.length ca) l.length (sps l)) : RdP w ao l := by
  by_cases h0 : l.length = 0
  · exact .inl (List.eq_nil_of_length_eq_zero h0)
  · rcases h.2 with ⟨hv, hn⟩ | ⟨g, cap, cur, hv, hb, hh, r⟩
    · omega
    · injection hv with h1 h2 h3
      subst h1
      refine .inr ⟨g, rfl, (Array.getElem?_eq_some_iff.1 hh).1, fun i hi => ?_⟩
      have at2 : ∀ j, j < 2 → w.cell? ⟨g, i * 2 + j, none⟩ = (spC l[i])[j]? := fun j hj => (h.cellAt (i * 2 + j) (by omega)).trans (sps_at l i j hi hj)
      exact ⟨at2 0 (by omega), at2 1 (by omega)⟩

set_option maxRecDepth 100000 in
theorem eqSpot_any (s t : Sp) (w : World) : Calls Tryd.prog 70 #[spV s, spV t] w fun e w' => e = .returned (.bool (eqSp s t)) ∧ Below w.heap.size w w' := by
  obtain ⟨k1, n1⟩ := s
  obtain ⟨k2, n2⟩ := t
  unfold spV eqSp
  rcases c2 : (k1 == k2) with _ | _
  · have d2 : (k1 != k2) = true := by rw [bne, c2]; rfl
    go_enter Tryd.func70, Tryd.ntmps70
    go_wp2
    go_ret
    exact ⟨rfl, below2 w _ _⟩
  · have d2 : (k1 != k2) = false := by rw [bne, c2]; rfl
    rcases c4 : (n1 == n2) with _ | _
    · have d4 : (n1 != n2) = true := by rw [bne, c4]; rfl
      go_enter Tryd.func70, Tryd.ntmps70
      go_wp2
      go_ret
      exact ⟨rfl, below2 w _ _⟩
    · have d4 : (n1 != n2) = false := by rw [bne, c4]; rfl
      go_enter Tryd.func70, Tryd.ntmps70
      go_wp2
      go_ret
      exact ⟨rfl, below2 w _ _⟩

set_option maxRecDepth 100000 in
set_option maxHeartbeats 400000 in
theorem eqSpotS_any (a b : Option Addr) (l m : List Sp) (ca cb : Nat) (w : World) (hl : l.length ≤ 1048576) (ha : RdP w a l) (hb : RdP w b m) :
    Calls Tryd.prog 51 #[.slice a l.length ca, .slice b m.length cb] w fun e w' => ∃ x : Bool, e = .returned (.bool x) ∧ (x = true ↔ l = m) ∧ Below w.heap.size w w' := by
  by_cases c0 : l.length = m.length
  · have q0 : ((l.length : Int) != (m.length : Int)) = false := by simp [c0]
    have HA := hide1 ha
    have HB := hide1 hb
    have C0 := hide1 c0
    clear ha hb c0
    go_enter Tryd.func51, Tryd.ntmps51
    go_wp2
    go_loopw [5] (fun iv wr => ∃ i : Nat, i ≤ l.length ∧ iv = .int .i64 (i : Int) ∧ Hid (∀ j, j < i → l[j]? = m[j]?) ∧ Below w.heap.size w wr) (fun iv _ => l.length - (intOf iv).toNat)
    case atStart => exact ⟨0, by omega, rfl, fun j hj => by omega, Below.refl _ _⟩
    case round =>
      obtain ⟨i, hi, rfl, hsame, hbel⟩ := hrel
      by_cases hlt : i < l.length
      · have hltm : i < m.length := by have := C0.out; omega
        obtain ⟨g, rfl, hg, h1⟩ := HA.out.at i hlt
        obtain ⟨g', rfl, hg', h2⟩ := HB.out.at i hltm
        obtain ⟨x0, x1⟩ := h1.below hbel hg
        obtain ⟨y0, y1⟩ := h2.below hbel hg'
        have k1 : (i : Int) < (l.length : Int) := by omega
        have k2 : (i : Int) < (m.length : Int) := by omega
        have cc := hide1 (fun w => eqSpot_any l[i] m[i] w)
        have hgw : g < wr.heap.size := Nat.lt_of_lt_of_le hg hbel.size
        have hgw' : g' < wr.heap.size := Nat.lt_of_lt_of_le hg' hbel.size
        have hse := hide1 (eqSp_iff l[i] m[i])
        have e1 := hide1 (List.getElem?_eq_getElem hlt)
        have e2 := hide1 (List.getElem?_eq_getElem hltm)
        generalize l[i] = s at *
        generalize m[i] = t at *
        rcases ce : eqSp s t with _ | _
        · have hne : Hid (s ≠ t) := hide1 (fun h => by rw [hse.out.2 h] at ce; cases ce)
          rw [ce] at cc
          clear hse ce
          unfold spV at cc
          go_wp2
          go_region_held3 (fun w' => w'.cell? ⟨g, i * 2, none⟩ = some (.int .i64 s.1) ∧ w'.cell? ⟨g, i * 2 + 1, none⟩ = some (.int .i64 s.2) ∧ w'.cell? ⟨g', i * 2, none⟩ = some (.int .i64 t.1) ∧ w'.cell? ⟨g', i * 2 + 1, none⟩ = some (.int .i64 t.2)) (first | go_keep | exact ⟨(hb2.cell hgw).trans x0, (hb2.cell hgw).trans x1, (hb2.cell hgw').trans y0, (hb2.cell hgw').trans y1⟩) ((go_at_call 70; refine (cc.out _).mono ?_; rintro e w2 ⟨rfl, hb2⟩))
          go_wp2
          go_ret
          refine ⟨false, rfl, ⟨(fun h => by cases h), fun h => ?_⟩, hbel.trans ((Below.refl _ _).drew.trans (hb2.mono hbel.size))⟩
          rw [h] at e1
          exact absurd (Option.some.inj (e1.out.symm.trans e2.out)) hne.out
        · have hee : Hid (s = t) := hide1 (hse.out.1 ce)
          rw [ce] at cc
          clear hse ce
          unfold spV at cc
          go_wp2
          go_region_held3 (fun w' => w'.cell? ⟨g, i * 2, none⟩ = some (.int .i64 s.1) ∧ w'.cell? ⟨g, i * 2 + 1, none⟩ = some (.int .i64 s.2) ∧ w'.cell? ⟨g', i * 2, none⟩ = some (.int .i64 t.1) ∧ w'.cell? ⟨g', i * 2 + 1, none⟩ = some (.int .i64 t.2)) (first | go_keep | exact ⟨(hb2.cell hgw).trans x0, (hb2.cell hgw).trans x1, (hb2.cell hgw').trans y0, (hb2.cell hgw').trans y1⟩) ((go_at_call 70; refine (cc.out _).mono ?_; rintro e w2 ⟨rfl, hb2⟩))
          go_wp2
          go_roundw
          case rel =>
            refine ⟨i + 1, by omega, by go_num, fun j hj => ?_, hbel.trans ((Below.refl _ _).drew.trans (hb2.mono hbel.size))⟩
            by_cases hj2 : j < i
            · exact hsame.out j hj2
            · rw [show j = i by omega, e1.out, e2.out, hee.out]
          case measure => simp [intOf]; omega
      · go_wp2
        go_ret
        refine ⟨true, rfl, ⟨fun _ => ?_, fun _ => rfl⟩, hbel⟩
        refine List.ext_getElem? fun j => ?_
        by_cases hj : j < i
        · exact hsame.out j hj
        · have := C0.out
          rw [List.getElem?_eq_none (by omega), List.getElem?_eq_none (by omega)]
  · have q0 : ((l.length : Int) != (m.length : Int)) = true := by simp; omega
    clear ha hb
    go_enter Tryd.func51, Tryd.ntmps51
    go_wp2
    go_ret
    exact ⟨false, rfl, by simp; intro h; exact c0 (by rw [h]), Below.refl _ _⟩
end Go.Proofs.YtdgpencendphbaaDoor
