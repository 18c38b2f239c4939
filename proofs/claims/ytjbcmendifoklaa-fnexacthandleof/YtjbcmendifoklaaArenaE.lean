/- The contracts of the functions that compare slots and rows of them; and of the test of bounds. -/
import Derived.Test.YtjbcmendifoklaaProg
import Derived.Test.YtjbcmendifoklaaArena
import Derived.Test.YtjbcmendifoklaaKitD
import Derived.Deep.RegionHeld3
import Derived.Deep.RegionWith
import Derived.Deep.QuietTactic
import Derived.BigQuiet
import Derived.Handy
namespace Go.Proofs.Ytjbcmendifoklaa
open Go.RowKit

theorem in_any (x lo hi : Int) (w : World) : Calls Try.prog 29 #[.int .i64 x, .int .i64 lo, .int .i64 hi] w fun e w' => e = .returned (.bool (decide (lo ≤ x) && decide (x ≤ hi))) ∧ w = w' := by
  by_cases h1 : lo ≤ x
  · by_cases h2 : x ≤ hi
    all_goals
      go_enter Try.func29, Try.ntmps29
      go_wp2
      go_ret
      exact ⟨by simp [h1, h2], rfl⟩
  · have D := hide1 (decide_eq_false h1)
    go_enter Try.func29, Try.ntmps29
    go_wp2
    go_ret
    exact ⟨by rw [D.out]; rfl, rfl⟩

theorem below2 (w : World) (o p : Obj) : Below w.heap.size w ((w.alloc o).alloc p) := ((Below.refl _ _).alloc (Nat.le_refl _) _).alloc (by rw [World.size_alloc]; omega) _
/-- A slot as a value. -/
def slV (s : Sl) : Value := .agg #[.int .i64 s.gen, .bool s.used, .string s.key, .string s.val, .int .i64 s.next]
def eqSl (s t : Sl) : Bool := (s.gen == t.gen) && (s.used == t.used) && (s.key.toList == t.key.toList) && (s.val.toList == t.val.toList) && (s.next == t.next)
theorem eqSl_same (s : Sl) : eqSl s s = true := by simp [eqSl]
theorem bytes_eq {a b : ByteArray} (h : a.toList = b.toList) : a = b := by
  rw [ByteArray.toList_eq, ByteArray.toList_eq] at h
  cases a; cases b; simp at h; simp [h]
theorem eqSl_iff (s t : Sl) : eqSl s t = true ↔ s = t := by
  constructor
  · intro h
    simp only [eqSl, Bool.and_eq_true, beq_iff_eq] at h
    obtain ⟨⟨⟨⟨h1, h2⟩, h3⟩, h4⟩, h5⟩ := h
    cases s; cases t; simp at *
    exact ⟨h1, h2, bytes_eq h3, bytes_eq h4, h5⟩
  · rintro rfl; exact eqSl_same s

set_option maxRecDepth 100000 in
set_option maxHeartbeats 400000 in
theorem eqSlot_any (s t : Sl) (w : World) : Calls Try.prog 46 #[slV s, slV t] w fun e w' => e = .returned (.bool (eqSl s t)) ∧ Below w.heap.size w w' := by
  obtain ⟨g1, u1, k1, v1, n1⟩ := s
  obtain ⟨g2, u2, k2, v2, n2⟩ := t
  unfold slV eqSl
  rcases c0 : (g1 == g2) with _ | _
  · have d0 : (g1 != g2) = true := by rw [bne, c0]; rfl
    go_enter Try.func46, Try.ntmps46
    go_wp2
    go_ret
    exact ⟨rfl, below2 w _ _⟩
  · have d0 : (g1 != g2) = false := by rw [bne, c0]; rfl
    rcases c1 : (u1 == u2) with _ | _
    · have d1 : (u1 != u2) = true := by rw [bne, c1]; rfl
      go_enter Try.func46, Try.ntmps46
      go_wp2
      go_ret
      exact ⟨rfl, below2 w _ _⟩
    · have d1 : (u1 != u2) = false := by rw [bne, c1]; rfl
      rcases c2 : (k1.toList == k2.toList) with _ | _
      · have d2 : (k1.toList != k2.toList) = true := by rw [bne, c2]; rfl
        go_enter Try.func46, Try.ntmps46
        go_wp2
        go_ret
        exact ⟨rfl, below2 w _ _⟩
      · have d2 : (k1.toList != k2.toList) = false := by rw [bne, c2]; rfl
        rcases c3 : (v1.toList == v2.toList) with _ | _
        · have d3 : (v1.toList != v2.toList) = true := by rw [bne, c3]; rfl
          go_enter Try.func46, Try.ntmps46
          go_wp2
          go_ret
          exact ⟨rfl, below2 w _ _⟩
        · have d3 : (v1.toList != v2.toList) = false := by rw [bne, c3]; rfl
          rcases c4 : (n1 == n2) with _ | _
          · have d4 : (n1 != n2) = true := by rw [bne, c4]; rfl
            go_enter Try.func46, Try.ntmps46
            go_wp2
            go_ret
            exact ⟨rfl, below2 w _ _⟩
          · have d4 : (n1 != n2) = false := by rw [bne, c4]; rfl
            go_enter Try.func46, Try.ntmps46
            go_wp2
            go_ret
            exact ⟨rfl, below2 w _ _⟩

/-- The five cells of slot i of a row. -/
def slotAt (w : World) (g i : Nat) (s : Sl) : Prop :=
  w.cell? ⟨g, i * 5, none⟩ = some (.int .i64 s.gen) ∧ w.cell? ⟨g, i * 5 + 1, none⟩ = some (.bool s.used) ∧ w.cell? ⟨g, i * 5 + 2, none⟩ = some (.string s.key) ∧ w.cell? ⟨g, i * 5 + 3, none⟩ = some (.string s.val) ∧ w.cell? ⟨g, i * 5 + 4, none⟩ = some (.int .i64 s.next)
/-- A row of slots that reads as l. -/
def RdA (w : World) (a : Option Addr) (l : List Sl) : Prop := l = [] ∨ ∃ g, a = some ⟨g, 0, none⟩ ∧ g < w.heap.size ∧ ∀ i (h : i < l.length), slotAt w g i l[i]
theorem slotAt.below {w w' : World} {B g i : Nat} {s : Sl} (h : slotAt w g i s) (hb : Below B w w') (hg : g < B) : slotAt w' g i s :=
  ⟨(hb.cell hg).trans h.1, (hb.cell hg).trans h.2.1, (hb.cell hg).trans h.2.2.1, (hb.cell hg).trans h.2.2.2.1, (hb.cell hg).trans h.2.2.2.2⟩
theorem RdA.later {w w' : World} {a : Option Addr} {l : List Sl} (h : RdA w a l) (hb : Below w.heap.size w w') : RdA w' a l := by
  rcases h with h | ⟨g, ha, hg, hc⟩
  · exact .inl h
  · exact .inr ⟨g, ha, Nat.lt_of_lt_of_le hg hb.size, fun i hi => (hc i hi).below hb hg⟩
theorem RdA.at {w : World} {a : Option Addr} {l : List Sl} (h : RdA w a l) (i : Nat) (hi : i < l.length) : ∃ g, a = some ⟨g, 0, none⟩ ∧ g < w.heap.size ∧ slotAt w g i l[i] := by
  rcases h with h | ⟨g, ha, hg, hc⟩
  · subst h; simp at hi
  · exact ⟨g, ha, hg, hc i hi⟩

set_option maxRecDepth 100000 in
set_option maxHeartbeats 400000 in
theorem eqSlotS_any (a b : Option Addr) (l m : List Sl) (ca cb : Nat) (w : World) (hl : l.length ≤ 1048576) (ha : RdA w a l) (hb : RdA w b m) :
    Calls Try.prog 31 #[.slice a l.length ca, .slice b m.length cb] w fun e w' => ∃ x : Bool, e = .returned (.bool x) ∧ (x = true ↔ l = m) ∧ Below w.heap.size w w' := by
  by_cases c0 : l.length = m.length
  · have q0 : ((l.length : Int) != (m.length : Int)) = false := by simp [c0]
    have HA := hide1 ha
    have HB := hide1 hb
    have C0 := hide1 c0
    clear ha hb c0
    go_enter Try.func31, Try.ntmps31
    go_wp2
    go_loopw [5] (fun iv wr => ∃ i : Nat, i ≤ l.length ∧ iv = .int .i64 (i : Int) ∧ Hid (∀ j, j < i → l[j]? = m[j]?) ∧ Below w.heap.size w wr) (fun iv _ => l.length - (intOf iv).toNat)
    case atStart => exact ⟨0, by omega, rfl, fun j hj => by omega, Below.refl _ _⟩
    case round =>
      obtain ⟨i, hi, rfl, hsame, hbel⟩ := hrel
      by_cases hlt : i < l.length
      · have hltm : i < m.length := by have := C0.out; omega
        obtain ⟨g, rfl, hg, h1⟩ := HA.out.at i hlt
        obtain ⟨g', rfl, hg', h2⟩ := HB.out.at i hltm
        obtain ⟨x0, x1, x2, x3, x4⟩ := h1.below hbel hg
        obtain ⟨y0, y1, y2, y3, y4⟩ := h2.below hbel hg'
        have k1 : (i : Int) < (l.length : Int) := by omega
        have k2 : (i : Int) < (m.length : Int) := by omega
        have cc := hide1 (fun w => eqSlot_any l[i] m[i] w)
        have hgw : g < wr.heap.size := Nat.lt_of_lt_of_le hg hbel.size
        have hgw' : g' < wr.heap.size := Nat.lt_of_lt_of_le hg' hbel.size
        have hse := hide1 (eqSl_iff l[i] m[i])
        have e1 := hide1 (List.getElem?_eq_getElem hlt)
        have e2 := hide1 (List.getElem?_eq_getElem hltm)
        generalize l[i] = s at *
        generalize m[i] = t at *
        rcases ce : eqSl s t with _ | _
        · have hne : Hid (s ≠ t) := hide1 (fun h => by rw [hse.out.2 h] at ce; cases ce)
          rw [ce] at cc
          clear hse ce
          unfold slV at cc
          go_wp2
          go_region_held3 (fun w' => w'.cell? ⟨g, i * 5, none⟩ = some (.int .i64 s.gen) ∧ w'.cell? ⟨g, i * 5 + 1, none⟩ = some (.bool s.used) ∧ w'.cell? ⟨g, i * 5 + 2, none⟩ = some (.string s.key) ∧ w'.cell? ⟨g, i * 5 + 3, none⟩ = some (.string s.val) ∧ w'.cell? ⟨g, i * 5 + 4, none⟩ = some (.int .i64 s.next) ∧ w'.cell? ⟨g', i * 5, none⟩ = some (.int .i64 t.gen) ∧ w'.cell? ⟨g', i * 5 + 1, none⟩ = some (.bool t.used) ∧ w'.cell? ⟨g', i * 5 + 2, none⟩ = some (.string t.key) ∧ w'.cell? ⟨g', i * 5 + 3, none⟩ = some (.string t.val) ∧ w'.cell? ⟨g', i * 5 + 4, none⟩ = some (.int .i64 t.next)) (first | go_keep | exact (hb2.cell hgw).trans x0 | exact (hb2.cell hgw).trans x1 | exact (hb2.cell hgw).trans x2 | exact (hb2.cell hgw).trans x3 | exact (hb2.cell hgw).trans x4 | exact (hb2.cell hgw').trans y0 | exact (hb2.cell hgw').trans y1 | exact (hb2.cell hgw').trans y2 | exact (hb2.cell hgw').trans y3 | exact (hb2.cell hgw').trans y4 | exact ⟨(hb2.cell hgw).trans x0, (hb2.cell hgw).trans x1, (hb2.cell hgw).trans x2, (hb2.cell hgw).trans x3, (hb2.cell hgw).trans x4, (hb2.cell hgw').trans y0, (hb2.cell hgw').trans y1, (hb2.cell hgw').trans y2, (hb2.cell hgw').trans y3, (hb2.cell hgw').trans y4⟩) ((go_at_call 46; refine (cc.out _).mono ?_; rintro e w2 ⟨rfl, hb2⟩))
          go_wp2
          go_ret
          refine ⟨false, rfl, ⟨(fun h => by cases h), fun h => ?_⟩, hbel.trans ((Below.refl _ _).drew.trans (hb2.mono hbel.size))⟩
          rw [h] at e1
          exact absurd (Option.some.inj (e1.out.symm.trans e2.out)) hne.out
        · have hee : Hid (s = t) := hide1 (hse.out.1 ce)
          rw [ce] at cc
          clear hse ce
          unfold slV at cc
          go_wp2
          go_region_held3 (fun w' => w'.cell? ⟨g, i * 5, none⟩ = some (.int .i64 s.gen) ∧ w'.cell? ⟨g, i * 5 + 1, none⟩ = some (.bool s.used) ∧ w'.cell? ⟨g, i * 5 + 2, none⟩ = some (.string s.key) ∧ w'.cell? ⟨g, i * 5 + 3, none⟩ = some (.string s.val) ∧ w'.cell? ⟨g, i * 5 + 4, none⟩ = some (.int .i64 s.next) ∧ w'.cell? ⟨g', i * 5, none⟩ = some (.int .i64 t.gen) ∧ w'.cell? ⟨g', i * 5 + 1, none⟩ = some (.bool t.used) ∧ w'.cell? ⟨g', i * 5 + 2, none⟩ = some (.string t.key) ∧ w'.cell? ⟨g', i * 5 + 3, none⟩ = some (.string t.val) ∧ w'.cell? ⟨g', i * 5 + 4, none⟩ = some (.int .i64 t.next)) (first | go_keep | exact (hb2.cell hgw).trans x0 | exact (hb2.cell hgw).trans x1 | exact (hb2.cell hgw).trans x2 | exact (hb2.cell hgw).trans x3 | exact (hb2.cell hgw).trans x4 | exact (hb2.cell hgw').trans y0 | exact (hb2.cell hgw').trans y1 | exact (hb2.cell hgw').trans y2 | exact (hb2.cell hgw').trans y3 | exact (hb2.cell hgw').trans y4 | exact ⟨(hb2.cell hgw).trans x0, (hb2.cell hgw).trans x1, (hb2.cell hgw).trans x2, (hb2.cell hgw).trans x3, (hb2.cell hgw).trans x4, (hb2.cell hgw').trans y0, (hb2.cell hgw').trans y1, (hb2.cell hgw').trans y2, (hb2.cell hgw').trans y3, (hb2.cell hgw').trans y4⟩) ((go_at_call 46; refine (cc.out _).mono ?_; rintro e w2 ⟨rfl, hb2⟩))
          go_wp2
          go_roundw
          case rel =>
            refine ⟨i + 1, by omega, by go_num, fun j hj => ?_, hbel.trans ((Below.refl _ _).drew.trans (hb2.mono hbel.size))⟩
            by_cases hj2 : j < i
            · exact hsame.out j hj2
            · rw [show j = i by omega, e1.out, e2.out, hee.out]
          case measure => simp [intOf]; omega
      · go_wp2
        go_ret
        refine ⟨true, rfl, ⟨fun _ => ?_, fun _ => rfl⟩, hbel⟩
        refine List.ext_getElem? fun j => ?_
        by_cases hj : j < i
        · exact hsame.out j hj
        · have := C0.out
          rw [List.getElem?_eq_none (by omega), List.getElem?_eq_none (by omega)]
  · have q0 : ((l.length : Int) != (m.length : Int)) = true := by simp; omega
    clear ha hb
    go_enter Try.func31, Try.ntmps31
    go_wp2
    go_ret
    exact ⟨false, rfl, by simp; intro h; exact c0 (by rw [h]), Below.refl _ _⟩
end Go.Proofs.Ytjbcmendifoklaa
