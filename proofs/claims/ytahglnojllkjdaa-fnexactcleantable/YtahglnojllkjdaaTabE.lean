/- The contracts of the functions that compare cells of tables, and rows of them. -/
import Derived.Test.YtahglnojllkjdaaArenaM
import Derived.Test.YtahglnojllkjdaaTab
namespace Go.Proofs.Ytahglnojllkjdaa
open Go.RowKit

/-- A cell of a table as a value. -/
def ceV (s : Ce) : Value := .agg #[.string s.key, .int .i64 s.h]
def eqCe (s t : Ce) : Bool := (s.key.toList == t.key.toList) && (s.h == t.h)
theorem eqCe_same (s : Ce) : eqCe s s = true := by simp [eqCe]
theorem eqCe_iff (s t : Ce) : eqCe s t = true ↔ s = t := by
  constructor
  · intro h
    simp only [eqCe, Bool.and_eq_true, beq_iff_eq] at h
    cases s; cases t; simp at *
    exact ⟨bytes_eq h.1, h.2⟩
  · rintro rfl; exact eqCe_same s
/-- The two cells of cell i of a row. -/
def cellAt2 (w : World) (g i : Nat) (s : Ce) : Prop := w.cell? ⟨g, i * 2, none⟩ = some (.string s.key) ∧ w.cell? ⟨g, i * 2 + 1, none⟩ = some (.int .i64 s.h)
/-- A row of cells that reads as l. -/
def RdC (w : World) (a : Option Addr) (l : List Ce) : Prop := l = [] ∨ ∃ g, a = some ⟨g, 0, none⟩ ∧ g < w.heap.size ∧ ∀ i (h : i < l.length), cellAt2 w g i l[i]
theorem cellAt2.below {w w' : World} {B g i : Nat} {s : Ce} (h : cellAt2 w g i s) (hb : Below B w w') (hg : g < B) : cellAt2 w' g i s := ⟨(hb.cell hg).trans h.1, (hb.cell hg).trans h.2⟩
theorem RdC.later {w w' : World} {a : Option Addr} {l : List Ce} (h : RdC w a l) (hb : Below w.heap.size w w') : RdC w' a l := by
  rcases h with h | ⟨g, ha, hg, hc⟩
  · exact .inl h
  · exact .inr ⟨g, ha, Nat.lt_of_lt_of_le hg hb.size, fun i hi => (hc i hi).below hb hg⟩
theorem RdC.at {w : World} {a : Option Addr} {l : List Ce} (h : RdC w a l) (i : Nat) (hi : i < l.length) : ∃ g, a = some ⟨g, 0, none⟩ ∧ g < w.heap.size ∧ cellAt2 w g i l[i] := by
  rcases h with h | ⟨g, ha, hg, hc⟩
  · subst h; simp at hi
  · exact ⟨g, ha, hg, hc i hi⟩
theorem rdC_of_own {w : World} {base ca : Nat} {e : TypeId} {ao : Option Addr} {l : List Ce} (h : w.ownsRow base e 2 (.slice ao l.length ca) l.length (ces l)) : RdC w ao l := by
  by_cases h0 : l.length = 0
  · exact .inl (List.eq_nil_of_length_eq_zero h0)
  · rcases h.2 with ⟨hv, hn⟩ | ⟨g, cap, cur, hv, hb, hh, r⟩
    · omega
    · injection hv with h1 h2 h3
      subst h1
      refine .inr ⟨g, rfl, (Array.getElem?_eq_some_iff.1 hh).1, fun i hi => ?_⟩
      have at2 : ∀ j, j < 2 → w.cell? ⟨g, i * 2 + j, none⟩ = (ceC l[i])[j]? := fun j hj => (h.cellAt (i * 2 + j) (by omega)).trans (ces_at l i j hi hj)
      exact ⟨at2 0 (by omega), at2 1 (by omega)⟩

set_option maxRecDepth 100000 in
theorem eqCell_any (s t : Ce) (w : World) : Calls Try.prog 68 #[ceV s, ceV t] w fun e w' => e = .returned (.bool (eqCe s t)) ∧ Below w.heap.size w w' := by
  obtain ⟨k1, n1⟩ := s
  obtain ⟨k2, n2⟩ := t
  unfold ceV eqCe
  rcases c2 : (k1.toList == k2.toList) with _ | _
  · have d2 : (k1.toList != k2.toList) = true := by rw [bne, c2]; rfl
    go_enter Try.func68, Try.ntmps68
    go_wp2
    go_ret
    exact ⟨rfl, below2 w _ _⟩
  · have d2 : (k1.toList != k2.toList) = false := by rw [bne, c2]; rfl
    rcases c4 : (n1 == n2) with _ | _
    · have d4 : (n1 != n2) = true := by rw [bne, c4]; rfl
      go_enter Try.func68, Try.ntmps68
      go_wp2
      go_ret
      exact ⟨rfl, below2 w _ _⟩
    · have d4 : (n1 != n2) = false := by rw [bne, c4]; rfl
      go_enter Try.func68, Try.ntmps68
      go_wp2
      go_ret
      exact ⟨rfl, below2 w _ _⟩

set_option maxRecDepth 100000 in
set_option maxHeartbeats 400000 in
theorem eqCellS_any (a b : Option Addr) (l m : List Ce) (ca cb : Nat) (w : World) (hl : l.length ≤ 1048576) (ha : RdC w a l) (hb : RdC w b m) :
    Calls Try.prog 47 #[.slice a l.length ca, .slice b m.length cb] w fun e w' => ∃ x : Bool, e = .returned (.bool x) ∧ (x = true ↔ l = m) ∧ Below w.heap.size w w' := by
  by_cases c0 : l.length = m.length
  · have q0 : ((l.length : Int) != (m.length : Int)) = false := by simp [c0]
    have HA := hide1 ha
    have HB := hide1 hb
    have C0 := hide1 c0
    clear ha hb c0
    go_enter Try.func47, Try.ntmps47
    go_wp2
    go_loopw [5] (fun iv wr => ∃ i : Nat, i ≤ l.length ∧ iv = .int .i64 (i : Int) ∧ Hid (∀ j, j < i → l[j]? = m[j]?) ∧ Below w.heap.size w wr) (fun iv _ => l.length - (intOf iv).toNat)
    case atStart => exact ⟨0, by omega, rfl, fun j hj => by omega, Below.refl _ _⟩
    case round =>
      obtain ⟨i, hi, rfl, hsame, hbel⟩ := hrel
      by_cases hlt : i < l.length
      · have hltm : i < m.length := by have := C0.out; omega
        obtain ⟨g, rfl, hg, h1⟩ := HA.out.at i hlt
        obtain ⟨g', rfl, hg', h2⟩ := HB.out.at i hltm
        obtain ⟨x0, x1⟩ := h1.below hbel hg
        obtain ⟨y0, y1⟩ := h2.below hbel hg'
        have k1 : (i : Int) < (l.length : Int) := by omega
        have k2 : (i : Int) < (m.length : Int) := by omega
        have cc := hide1 (fun w => eqCell_any l[i] m[i] w)
        have hgw : g < wr.heap.size := Nat.lt_of_lt_of_le hg hbel.size
        have hgw' : g' < wr.heap.size := Nat.lt_of_lt_of_le hg' hbel.size
        have hse := hide1 (eqCe_iff l[i] m[i])
        have e1 := hide1 (List.getElem?_eq_getElem hlt)
        have e2 := hide1 (List.getElem?_eq_getElem hltm)
        generalize l[i] = s at *
        generalize m[i] = t at *
        rcases ce : eqCe s t with _ | _
        · have hne : Hid (s ≠ t) := hide1 (fun h => by rw [hse.out.2 h] at ce; cases ce)
          rw [ce] at cc
          clear hse ce
          unfold ceV at cc
          go_wp2
          go_region_held3 (fun w' => w'.cell? ⟨g, i * 2, none⟩ = some (.string s.key) ∧ w'.cell? ⟨g, i * 2 + 1, none⟩ = some (.int .i64 s.h) ∧ w'.cell? ⟨g', i * 2, none⟩ = some (.string t.key) ∧ w'.cell? ⟨g', i * 2 + 1, none⟩ = some (.int .i64 t.h)) (first | go_keep | exact ⟨(hb2.cell hgw).trans x0, (hb2.cell hgw).trans x1, (hb2.cell hgw').trans y0, (hb2.cell hgw').trans y1⟩) ((go_at_call 68; refine (cc.out _).mono ?_; rintro e w2 ⟨rfl, hb2⟩))
          go_wp2
          go_ret
          refine ⟨false, rfl, ⟨(fun h => by cases h), fun h => ?_⟩, hbel.trans ((Below.refl _ _).drew.trans (hb2.mono hbel.size))⟩
          rw [h] at e1
          exact absurd (Option.some.inj (e1.out.symm.trans e2.out)) hne.out
        · have hee : Hid (s = t) := hide1 (hse.out.1 ce)
          rw [ce] at cc
          clear hse ce
          unfold ceV at cc
          go_wp2
          go_region_held3 (fun w' => w'.cell? ⟨g, i * 2, none⟩ = some (.string s.key) ∧ w'.cell? ⟨g, i * 2 + 1, none⟩ = some (.int .i64 s.h) ∧ w'.cell? ⟨g', i * 2, none⟩ = some (.string t.key) ∧ w'.cell? ⟨g', i * 2 + 1, none⟩ = some (.int .i64 t.h)) (first | go_keep | exact ⟨(hb2.cell hgw).trans x0, (hb2.cell hgw).trans x1, (hb2.cell hgw').trans y0, (hb2.cell hgw').trans y1⟩) ((go_at_call 68; refine (cc.out _).mono ?_; rintro e w2 ⟨rfl, hb2⟩))
          go_wp2
          go_roundw
          case rel =>
            refine ⟨i + 1, by omega, by go_num, fun j hj => ?_, hbel.trans ((Below.refl _ _).drew.trans (hb2.mono hbel.size))⟩
            by_cases hj2 : j < i
            · exact hsame.out j hj2
            · rw [show j = i by omega, e1.out, e2.out, hee.out]
          case measure => simp [intOf]; omega
      · go_wp2
        go_ret
        refine ⟨true, rfl, ⟨fun _ => ?_, fun _ => rfl⟩, hbel⟩
        refine List.ext_getElem? fun j => ?_
        by_cases hj : j < i
        · exact hsame.out j hj
        · have := C0.out
          rw [List.getElem?_eq_none (by omega), List.getElem?_eq_none (by omega)]
  · have q0 : ((l.length : Int) != (m.length : Int)) = true := by simp; omega
    clear ha hb
    go_enter Try.func47, Try.ntmps47
    go_wp2
    go_ret
    exact ⟨false, rfl, by simp; intro h; exact c0 (by rw [h]), Below.refl _ _⟩
end Go.Proofs.Ytahglnojllkjdaa
