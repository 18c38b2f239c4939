/- What a row of cells of a table is, plain. -/
import Derived.Test.YtenmpciimocggaaXA
import Derived.Test.YtenmpciimocggaaXB
import Derived.Test.YtenmpciimocggaaRoom
namespace Go.Proofs.Ytenmpciimocggaa

structure Ce where
  key : ByteArray
  h : Int

/-- The cells of a table's cell, and of a row of them. -/
def ceC (s : Ce) : List Value := [.string s.key, .int .i64 s.h]
def ces (l : List Ce) : List Value := l.flatMap ceC
theorem ceC_length (s : Ce) : (ceC s).length = 2 := rfl
theorem ces_length (l : List Ce) : (ces l).length = l.length * 2 := by
  induction l with
  | nil => rfl
  | cons s l ih => rw [ces, List.flatMap_cons, List.length_append, ceC_length, ← ces, ih, List.length_cons]; omega
theorem ces_append (l m : List Ce) : ces (l ++ m) = ces l ++ ces m := by simp [ces]
theorem ces_cons (s : Ce) (l : List Ce) : ces (s :: l) = ceC s ++ ces l := rfl
theorem ces_at : ∀ (l : List Ce) (i j : Nat) (hi : i < l.length), j < 2 → (ces l)[i * 2 + j]? = (ceC l[i])[j]?
  | s :: l, 0, j, _, hj => by rw [ces_cons, Nat.zero_mul, Nat.zero_add, List.getElem?_append_left (by rw [ceC_length]; exact hj)]; rfl
  | s :: l, i + 1, j, hi, hj => by
    rw [ces_cons, List.getElem?_append_right (by rw [ceC_length]; omega), ceC_length, show (i + 1) * 2 + j - 2 = i * 2 + j by omega, ces_at l i j (by simpa using hi) hj]
    rfl
theorem ces_set : ∀ (l : List Ce) (i : Nat) (s : Ce), i < l.length → ces (l.set i s) = (ces l).take (i * 2) ++ ceC s ++ (ces l).drop (i * 2 + 2)
  | t :: l, 0, s, _ => by
    rw [List.set_cons_zero, ces_cons, ces_cons, Nat.zero_mul, List.take_zero, List.nil_append, Nat.zero_add, List.drop_append_of_le_length (by rw [ceC_length]; omega)]
    simp [ceC]
  | t :: l, i + 1, s, hi => by
    rw [List.set_cons_succ, ces_cons, ces_cons, ces_set l i s (by simpa using hi)]
    have h1 : (ceC t ++ ces l).take ((i + 1) * 2) = ceC t ++ (ces l).take (i * 2) := by
      rw [List.take_append, ceC_length, List.take_of_length_le (by rw [ceC_length]; omega), show (i + 1) * 2 - 2 = i * 2 by omega]
    have h2 : (ceC t ++ ces l).drop ((i + 1) * 2 + 2) = (ces l).drop (i * 2 + 2) := by
      rw [List.drop_append, ceC_length, List.drop_eq_nil_of_le (by rw [ceC_length]; omega), List.nil_append, show (i + 1) * 2 + 2 - 2 = i * 2 + 2 by omega]
    rw [h1, h2]
    simp [List.append_assoc]
theorem set2 (xs : List Value) (m : Nat) (a b : Value) (h : m + 2 ≤ xs.length) : (xs.set m a).set (m + 1) b = xs.take m ++ [a, b] ++ xs.drop (m + 2) := by
  refine List.ext_getElem? fun j => ?_
  simp only [List.getElem?_set, List.length_set]
  rcases Nat.lt_or_ge j m with h1 | h1
  · rw [if_neg (by omega), if_neg (by omega), List.append_assoc, List.getElem?_append_left (by simp; omega), List.getElem?_take_of_lt h1]
  · rcases Nat.lt_or_ge j (m + 2) with h2 | h2
    · obtain ⟨q, rfl⟩ : ∃ q, j = m + q := ⟨j - m, by omega⟩
      rw [List.append_assoc, List.getElem?_append_right (by simp; omega)]
      have hl : (xs.take m).length = m := by simp; omega
      rw [hl, Nat.add_sub_cancel_left]
      match q, h2 with
      | 0, _ => simp; omega
      | 1, _ => simp; omega
      | q + 2, h => omega
    · rw [if_neg (by omega), if_neg (by omega), List.getElem?_append_right (by simp; omega)]
      have hl : (xs.take m ++ [a, b]).length = m + 2 := by simp; omega
      rw [hl, List.getElem?_drop]
      congr 1
      omega
end Go.Proofs.Ytenmpciimocggaa
namespace Go.Proofs.Ytenmpciimocggaa
open Go.RowKit

/-- A cell of a table as a value. -/
def ceV (s : Ce) : Value := .agg #[.string s.key, .int .i64 s.h]
def eqCe (s t : Ce) : Bool := (s.key.toList == t.key.toList) && (s.h == t.h)
theorem eqCe_same (s : Ce) : eqCe s s = true := by simp [eqCe]
theorem eqCe_iff (s t : Ce) : eqCe s t = true ↔ s = t := by
  constructor
  · intro h
    simp only [eqCe, Bool.and_eq_true, beq_iff_eq] at h
    cases s; cases t; simp at *
    exact ⟨bytes_eq h.1, h.2⟩
  · rintro rfl; exact eqCe_same s
/-- The two cells of cell i of a row. -/
def cellAt2 (w : World) (g i : Nat) (s : Ce) : Prop := w.cell? ⟨g, i * 2, none⟩ = some (.string s.key) ∧ w.cell? ⟨g, i * 2 + 1, none⟩ = some (.int .i64 s.h)
/-- A row of cells that reads as l. -/
def RdC (w : World) (a : Option Addr) (l : List Ce) : Prop := l = [] ∨ ∃ g, a = some ⟨g, 0, none⟩ ∧ g < w.heap.size ∧ ∀ i (h : i < l.length), cellAt2 w g i l[i]
theorem cellAt2.below {w w' : World} {B g i : Nat} {s : Ce} (h : cellAt2 w g i s) (hb : Below B w w') (hg : g < B) : cellAt2 w' g i s := ⟨(hb.cell hg).trans h.1, (hb.cell hg).trans h.2⟩
theorem RdC.later {w w' : World} {a : Option Addr} {l : List Ce} (h : RdC w a l) (hb : Below w.heap.size w w') : RdC w' a l := by
  rcases h with h | ⟨g, ha, hg, hc⟩
  · exact .inl h
  · exact .inr ⟨g, ha, Nat.lt_of_lt_of_le hg hb.size, fun i hi => (hc i hi).below hb hg⟩
theorem RdC.at {w : World} {a : Option Addr} {l : List Ce} (h : RdC w a l) (i : Nat) (hi : i < l.length) : ∃ g, a = some ⟨g, 0, none⟩ ∧ g < w.heap.size ∧ cellAt2 w g i l[i] := by
  rcases h with h | ⟨g, ha, hg, hc⟩
  · subst h; simp at hi
  · exact ⟨g, ha, hg, hc i hi⟩
theorem rdC_of_own {w : World} {base ca : Nat} {e : TypeId} {ao : Option Addr} {l : List Ce} (h : w.ownsRow base e 2 (.slice ao l.length ca) l.length (ces l)) : RdC w ao l := by
  by_cases h0 : l.length = 0
  · exact .inl (List.eq_nil_of_length_eq_zero h0)
  · rcases h.2 with ⟨hv, hn⟩ | ⟨g, cap, cur, hv, hb, hh, r⟩
    · omega
    · injection hv with h1 h2 h3
      subst h1
      refine .inr ⟨g, rfl, (Array.getElem?_eq_some_iff.1 hh).1, fun i hi => ?_⟩
      have at2 : ∀ j, j < 2 → w.cell? ⟨g, i * 2 + j, none⟩ = (ceC l[i])[j]? := fun j hj => (h.cellAt (i * 2 + j) (by omega)).trans (ces_at l i j hi hj)
      exact ⟨at2 0 (by omega), at2 1 (by omega)⟩

set_option maxRecDepth 100000 in
theorem eqCell_any (s t : Ce) (w : World) : Calls Try.prog 57 #[ceV s, ceV t] w fun e w' => e = .returned (.bool (eqCe s t)) ∧ Below w.heap.size w w' := by
  obtain ⟨k1, n1⟩ := s
  obtain ⟨k2, n2⟩ := t
  unfold ceV eqCe
  rcases c2 : (k1.toList == k2.toList) with _ | _
  · have d2 : (k1.toList != k2.toList) = true := by rw [bne, c2]; rfl
    go_enter Try.func57, Try.ntmps57
    go_wp2
    go_ret
    exact ⟨rfl, below2 w _ _⟩
  · have d2 : (k1.toList != k2.toList) = false := by rw [bne, c2]; rfl
    rcases c4 : (n1 == n2) with _ | _
    · have d4 : (n1 != n2) = true := by rw [bne, c4]; rfl
      go_enter Try.func57, Try.ntmps57
      go_wp2
      go_ret
      exact ⟨rfl, below2 w _ _⟩
    · have d4 : (n1 != n2) = false := by rw [bne, c4]; rfl
      go_enter Try.func57, Try.ntmps57
      go_wp2
      go_ret
      exact ⟨rfl, below2 w _ _⟩

set_option maxRecDepth 100000 in
set_option maxHeartbeats 400000 in
theorem eqCellS_any (a b : Option Addr) (l m : List Ce) (ca cb : Nat) (w : World) (hl : l.length ≤ 1048576) (ha : RdC w a l) (hb : RdC w b m) :
    Calls Try.prog 41 #[.slice a l.length ca, .slice b m.length cb] w fun e w' => ∃ x : Bool, e = .returned (.bool x) ∧ (x = true ↔ l = m) ∧ Below w.heap.size w w' := by
  by_cases c0 : l.length = m.length
  · have q0 : ((l.length : Int) != (m.length : Int)) = false := by simp [c0]
    have HA := hide1 ha
    have HB := hide1 hb
    have C0 := hide1 c0
    clear ha hb c0
    go_enter Try.func41, Try.ntmps41
    go_wp2
    go_loopw [5] (fun iv wr => ∃ i : Nat, i ≤ l.length ∧ iv = .int .i64 (i : Int) ∧ Hid (∀ j, j < i → l[j]? = m[j]?) ∧ Below w.heap.size w wr) (fun iv _ => l.length - (intOf iv).toNat)
    case atStart => exact ⟨0, by omega, rfl, fun j hj => by omega, Below.refl _ _⟩
    case round =>
      obtain ⟨i, hi, rfl, hsame, hbel⟩ := hrel
      by_cases hlt : i < l.length
      · have hltm : i < m.length := by have := C0.out; omega
        obtain ⟨g, rfl, hg, h1⟩ := HA.out.at i hlt
        obtain ⟨g', rfl, hg', h2⟩ := HB.out.at i hltm
        obtain ⟨x0, x1⟩ := h1.below hbel hg
        obtain ⟨y0, y1⟩ := h2.below hbel hg'
        have k1 : (i : Int) < (l.length : Int) := by omega
        have k2 : (i : Int) < (m.length : Int) := by omega
        have cc := hide1 (fun w => eqCell_any l[i] m[i] w)
        have hgw : g < wr.heap.size := Nat.lt_of_lt_of_le hg hbel.size
        have hgw' : g' < wr.heap.size := Nat.lt_of_lt_of_le hg' hbel.size
        have hse := hide1 (eqCe_iff l[i] m[i])
        have e1 := hide1 (List.getElem?_eq_getElem hlt)
        have e2 := hide1 (List.getElem?_eq_getElem hltm)
        generalize l[i] = s at *
        generalize m[i] = t at *
        rcases ce : eqCe s t with _ | _
        · have hne : Hid (s ≠ t) := hide1 (fun h => by rw [hse.out.2 h] at ce; cases ce)
          rw [ce] at cc
          clear hse ce
          unfold ceV at cc
          go_wp2
          go_region_held3 (fun w' => w'.cell? ⟨g, i * 2, none⟩ = some (.string s.key) ∧ w'.cell? ⟨g, i * 2 + 1, none⟩ = some (.int .i64 s.h) ∧ w'.cell? ⟨g', i * 2, none⟩ = some (.string t.key) ∧ w'.cell? ⟨g', i * 2 + 1, none⟩ = some (.int .i64 t.h)) (first | go_keep | exact ⟨(hb2.cell hgw).trans x0, (hb2.cell hgw).trans x1, (hb2.cell hgw').trans y0, (hb2.cell hgw').trans y1⟩) ((go_at_call 57; refine (cc.out _).mono ?_; rintro e w2 ⟨rfl, hb2⟩))
          go_wp2
          go_ret
          refine ⟨false, rfl, ⟨(fun h => by cases h), fun h => ?_⟩, hbel.trans ((Below.refl _ _).drew.trans (hb2.mono hbel.size))⟩
          rw [h] at e1
          exact absurd (Option.some.inj (e1.out.symm.trans e2.out)) hne.out
        · have hee : Hid (s = t) := hide1 (hse.out.1 ce)
          rw [ce] at cc
          clear hse ce
          unfold ceV at cc
          go_wp2
          go_region_held3 (fun w' => w'.cell? ⟨g, i * 2, none⟩ = some (.string s.key) ∧ w'.cell? ⟨g, i * 2 + 1, none⟩ = some (.int .i64 s.h) ∧ w'.cell? ⟨g', i * 2, none⟩ = some (.string t.key) ∧ w'.cell? ⟨g', i * 2 + 1, none⟩ = some (.int .i64 t.h)) (first | go_keep | exact ⟨(hb2.cell hgw).trans x0, (hb2.cell hgw).trans x1, (hb2.cell hgw').trans y0, (hb2.cell hgw').trans y1⟩) ((go_at_call 57; refine (cc.out _).mono ?_; rintro e w2 ⟨rfl, hb2⟩))
          go_wp2
          go_roundw
          case rel =>
            refine ⟨i + 1, by omega, by go_num, fun j hj => ?_, hbel.trans ((Below.refl _ _).drew.trans (hb2.mono hbel.size))⟩
            by_cases hj2 : j < i
            · exact hsame.out j hj2
            · rw [show j = i by omega, e1.out, e2.out, hee.out]
          case measure => simp [intOf]; omega
      · go_wp2
        go_ret
        refine ⟨true, rfl, ⟨fun _ => ?_, fun _ => rfl⟩, hbel⟩
        refine List.ext_getElem? fun j => ?_
        by_cases hj : j < i
        · exact hsame.out j hj
        · have := C0.out
          rw [List.getElem?_eq_none (by omega), List.getElem?_eq_none (by omega)]
  · have q0 : ((l.length : Int) != (m.length : Int)) = true := by simp; omega
    clear ha hb
    go_enter Try.func41, Try.ntmps41
    go_wp2
    go_ret
    exact ⟨false, rfl, by simp; intro h; exact c0 (by rw [h]), Below.refl _ _⟩
end Go.Proofs.Ytenmpciimocggaa
namespace Go.Proofs.Ytenmpciimocggaa
open Go.RowKit

/-- The cell that is marked from k on. -/
def patC (k : Nat) : Ce := ⟨mkT k, (k : Int) + 1⟩
def patCs (k : Nat) : Nat → List Ce
  | 0 => []
  | n + 1 => patCs k n ++ [patC (k + 2 * n)]
theorem patCs_length (k n : Nat) : (patCs k n).length = n := by
  induction n with
  | zero => rfl
  | succ n ih => simp [patCs, ih]
theorem patCs_at (k : Nat) : ∀ (n i : Nat) (h : i < (patCs k n).length), (patCs k n)[i] = patC (k + 2 * i)
  | 0, i, h => by simp [patCs] at h
  | n + 1, i, h => by
    by_cases e : i < (patCs k n).length
    · simp only [patCs]; rw [List.getElem_append_left e]; exact patCs_at k n i e
    · simp only [patCs]
      rw [List.getElem_append_right (by omega)]
      have : i = n := by rw [patCs_length] at e h; omega
      subst this
      simp
/-- A row whose first cells are marked. -/
def mk2 (k : Nat) (xs : List Value) : Nat → List Value
  | 0 => xs
  | i + 1 => ((mk2 k xs i).set (i * 2) (.string (patC (k + 2 * i)).key)).set (i * 2 + 1) (.int .i64 (patC (k + 2 * i)).h)
theorem mk2_length (k : Nat) (xs : List Value) : ∀ i, (mk2 k xs i).length = xs.length
  | 0 => rfl
  | i + 1 => by simp only [mk2, List.length_set]; exact mk2_length k xs i
theorem mk2_eq (k : Nat) (xs : List Value) : ∀ i, i * 2 ≤ xs.length → mk2 k xs i = ces (patCs k i) ++ xs.drop (i * 2)
  | 0, _ => rfl
  | i + 1, h => by
    have hl := mk2_length k xs i
    rw [mk2, set2 _ _ _ _ (by omega), mk2_eq k xs i (by omega), patCs, ces_append]
    have hs : (ces (patCs k i)).length = i * 2 := by rw [ces_length, patCs_length]
    rw [List.take_left' hs, List.drop_append, List.drop_eq_nil_of_le (by omega), hs, List.nil_append, List.drop_drop]
    rw [show i * 2 + (i * 2 + 2 - i * 2) = (i + 1) * 2 by omega]
    rfl
theorem mk2_all (k n : Nat) (xs : List Value) (h : xs.length = n * 2) : mk2 k xs n = ces (patCs k n) := by
  rw [mk2_eq k xs n (by omega), List.drop_eq_nil_of_le (by omega), List.append_nil]

set_option maxRecDepth 100000 in
set_option maxHeartbeats 1000000 in
theorem markCellS_any (v : Value) (n k : Nat) (xs : List Value) (base : Nat) (w : World) (hn : n ≤ 1048576) (hk : k ≤ 33554432) (hk0 : 0 < k) (hown : w.ownsRow base 93 2 v n xs) :
    Calls Try.prog 45 #[v, .int .i64 k] w fun e w' => e = .returned (.int .i64 ((k : Int) + 2 * (n : Int))) ∧ w'.ownsRow base 93 2 v n (ces (patCs k n)) ∧ w.grownBy w' v.ownBlock := by
  have hxl := hown.1
  rcases hown.2 with ⟨rfl, rfl⟩ | ⟨g, cap, cur, rfl, hbg, hgg, _⟩
  · go_enter Try.func45, Try.ntmps45
    go_wp2
    refine wp_loop_rounds 1 ?_
    rw [rounds_succ]
    go_wp2
    go_ret
    exact ⟨by simp, by have : xs = [] := List.eq_nil_of_length_eq_zero (by omega); subst this; exact hown, World.grownBy.refl _ _⟩
  · have hgl := (Array.getElem?_eq_some_iff.1 hgg).1
    have HO := hide1 hown
    have HX := hide1 hxl
    clear hgg hown hxl
    go_enter Try.func45, Try.ntmps45
    go_wp2
    go_loopw [1, 5] (fun kv iv wr => ∃ i kk : Nat, i ≤ n ∧ iv = .int .i64 (i : Int) ∧ kv = .int .i64 (kk : Int) ∧ Hid (kk = k + 2 * i) ∧ 0 < kk ∧ kk ≤ 67108864 ∧ wr.ownsRow base 93 2 (.slice (some ⟨g, 0, none⟩) n cap) n (mk2 k xs i) ∧ w.grownBy wr (some g)) (fun _ iv _ => n - (intOf iv).toNat)
    case atStart => exact ⟨0, k, by omega, rfl, rfl, rfl, hk0, by omega, HO.out, World.grownBy.refl _ _⟩
    case round =>
      obtain ⟨i, kk, hi, rfl, rfl, hkk, hkp, hkm, hown1, hbel⟩ := hrel
      have hbs := hbel.size
      by_cases hlt : i < n
      · have k1 : (i : Int) < (n : Int) := by omega
        have C2 := hide1 (fun (w : World) => markText_any kk w (by omega) (by omega))
        have ST := hide1 hown1
        have B1 := hide1 hbel
        clear hown1 hbel
        go_wp2_with fail
        refine (C2.out _).mono ?_
        rintro e w2 ⟨rfl, hb2⟩
        have o2 := own_kept ST.out hb2
        have B2 := hide1 (B1.out.trans (gnew hb2))
        obtain ⟨u2, x2⟩ := own_some o2 (i * 2) (by omega)
        obtain ⟨u3, x3⟩ := own_some o2 (i * 2 + 1) (by omega)
        have f2 := o2.frozenAt (i * 2)
        have f3 := o2.frozenAt (i * 2 + 1)
        obtain ⟨z2, hz2⟩ : ∃ z, z = mkT kk := ⟨_, rfl⟩
        rw [← hz2]
        have Z2 := hide1 hz2
        have ST5 := hide1 (World.ownsRow.stored (World.ownsRow.stored o2 (i * 2) (.string z2)).1 (i * 2 + 1) (.int .i64 ((kk : Int) + 1))).1
        have B5 := hide1 (gset (gset B2.out (i * 2) (.string z2)) (i * 2 + 1) (.int .i64 ((kk : Int) + 1)))
        clear o2 hb2 hz2 ST B1 B2 C2
        go_wp2
        go_roundw
        case rel =>
          refine ⟨i + 1, kk + 2, by omega, by go_num, by go_num, ?_, by omega, by have := hkk.out; omega, ?_, B5.out⟩
          · show kk + 2 = k + 2 * (i + 1); have := hkk.out; omega
          · have st := ST5.out
            rw [Z2.out, hkk.out] at st
            rw [Z2.out, hkk.out]
            exact st
        case measure => simp [intOf]; omega
      · obtain rfl : i = n := by omega
        go_wp2
        go_ret
        rw [mk2_all k i xs HX.out] at hown1
        exact ⟨by rw [hkk.out]; simp, hown1, hbel⟩

set_option maxRecDepth 100000 in
set_option maxHeartbeats 1000000 in
theorem heldCellS_any (ao : Option Addr) (n ca k : Nat) (w : World) (hn : n ≤ 1048576) (hk : k ≤ 33554432) (hk0 : 0 < k) (hA : RdC w ao (patCs k n)) :
    Calls Try.prog 49 #[.slice ao n ca, .int .i64 k] w fun e w' => e = .returned (.int .i64 ((k : Int) + 2 * (n : Int))) ∧ Below w.heap.size w w' := by
  have HA := hide1 hA
  clear hA
  go_enter Try.func49, Try.ntmps49
  go_wp2
  go_loopw [1, 5] (fun kv iv wr => ∃ i kk : Nat, i ≤ n ∧ iv = .int .i64 (i : Int) ∧ kv = .int .i64 (kk : Int) ∧ Hid (kk = k + 2 * i) ∧ 0 < kk ∧ kk ≤ 67108864 ∧ Below w.heap.size w wr) (fun _ iv _ => n - (intOf iv).toNat)
  case atStart => exact ⟨0, k, by omega, rfl, rfl, rfl, hk0, by omega, Below.refl _ _⟩
  case round =>
    obtain ⟨i, kk, hi, rfl, rfl, hkk, hkp, hkm, hbel⟩ := hrel
    have hbs := hbel.size
    by_cases hlt : i < n
    · have k1 : (i : Int) < (n : Int) := by omega
      obtain ⟨g, rfl, hg, h1⟩ := HA.out.at i (by rw [patCs_length]; exact hlt)
      rw [patCs_at, ← hkk.out] at h1
      obtain ⟨x2, x3⟩ := h1.below hbel hg
      simp only [patC] at x2 x3
      obtain ⟨z2, hz2⟩ : ∃ z, z = mkT kk := ⟨_, rfl⟩
      have C2 := hide1 (fun (w : World) => show Calls Try.prog 58 #[.int .i64 (kk : Int)] w (fun e w' => e = .returned (.string z2) ∧ Below w.heap.size w w') by rw [hz2]; exact markText_any kk w (by omega) (by omega))
      rw [← hz2] at x2
      clear hz2 h1
      have e2 : (z2.toList == z2.toList) = true := by simp
      have e3 : ((kk : Int) + 1 != (kk : Int) + 1) = false := by simp
      have hgr : g < wr.heap.size := Nat.lt_of_lt_of_le hg hbs
      go_wp2
      go_region_held3 (fun w' => w'.cell? ⟨g, i * 2, none⟩ = some (.string z2) ∧ w'.cell? ⟨g, i * 2 + 1, none⟩ = some (.int .i64 ((kk : Int) + 1))) (first | go_keep | exact ⟨(hb2.cell hgr).trans x2, (hb2.cell hgr).trans x3⟩) ((go_at_call 58; refine (C2.out _).mono ?_; rintro e w2 ⟨rfl, hb2⟩))
      have y3 : w2.cell? ⟨g, i * 2 + 1, none⟩ = some (.int .i64 ((kk : Int) + 1)) := (hb2.cell hgr).trans x3
      have hb3 := hide1 (hbel.trans ((Below.refl _ _).drew.trans (hb2.mono hbel.size)))
      clear hb2 x2 x3 C2
      go_wp2
      go_roundw
      case rel => exact ⟨i + 1, kk + 2, by omega, by go_num, by go_num, by show kk + 2 = k + 2 * (i + 1); have := hkk.out; omega, by omega, by have := hkk.out; omega, hb3.out⟩
      case measure => simp [intOf]; omega
    · obtain rfl : i = n := by omega
      go_wp2
      go_ret
      exact ⟨by rw [hkk.out]; simp, hbel⟩
end Go.Proofs.Ytenmpciimocggaa
namespace Go.Proofs.Ytenmpciimocggaa
open Go.RowKit

/-- A table as a value. -/
def tbV (co : Option Addr) (n c : Nat) (oo : Option Addr) (m d : Nat) (mv : Int) : Value := .agg #[.slice co n c, .slice oo m d, .int .i64 mv]

set_option maxRecDepth 100000 in
set_option maxHeartbeats 1000000 in
theorem eqTable_any (a b a' b' : Option Addr) (l m l' m' : List Ce) (ca cb ca' cb' : Nat) (va vb : Int) (w : World) (hl : l.length ≤ 1048576) (hl' : l'.length ≤ 1048576) (ha : RdC w a l) (hb : RdC w b m) (ha' : RdC w a' l') (hb' : RdC w b' m') :
    Calls Try.prog 20 #[tbV a l.length ca a' l'.length ca' va, tbV b m.length cb b' m'.length cb' vb] w fun e w' => ∃ x : Bool, e = .returned (.bool x) ∧ (x = true ↔ l = m ∧ l' = m' ∧ va = vb) ∧ Below w.heap.size w w' := by
  have C1 := hide1 (fun o1 o2 => eqCellS_any a b l m ca cb ((w.alloc o1).alloc o2) hl (ha.later (below2 w o1 o2)) (hb.later (below2 w o1 o2)))
  have C2 := hide1 (fun w1 (h : Below w.heap.size w w1) => eqCellS_any a' b' l' m' ca' cb' w1 hl' (ha'.later h) (hb'.later h))
  clear ha hb ha' hb'
  unfold tbV
  go_enter Try.func20, Try.ntmps20
  go_wp2_with fail
  refine (C1.out _ _).mono ?_
  rintro e w1 ⟨x, rfl, hx, hb1⟩
  have HX := hide1 hx
  have B1 := hide1 ((below2 w _ _).trans (hb1.mono (below2 w _ _).size))
  have p1 : w.heap.size < ((w.alloc (.cells #[.slice a l.length ca, .slice a' l'.length ca', .int .i64 va] 27)).alloc (.cells #[.slice b m.length cb, .slice b' m'.length cb', .int .i64 vb] 27)).heap.size := by simp only [World.size_alloc]; omega
  have p2 : w.heap.size + 1 < ((w.alloc (.cells #[.slice a l.length ca, .slice a' l'.length ca', .int .i64 va] 27)).alloc (.cells #[.slice b m.length cb, .slice b' m'.length cb', .int .i64 vb] 27)).heap.size := by simp only [World.size_alloc]; omega
  have bl1 : Hid (Blk w1 w.heap.size 27 [.slice a l.length ca, .slice a' l'.length ca', .int .i64 va]) := Blk.below (Blk.more (Blk.new w _ _) _) hb1 p1
  have bl2 : Hid (Blk w1 (w.heap.size + 1) 27 [.slice b m.length cb, .slice b' m'.length cb', .int .i64 vb]) := by
    have := Blk.new (w.alloc (.cells #[.slice a l.length ca, .slice a' l'.length ca', .int .i64 va] 27)) 27 #[.slice b m.length cb, .slice b' m'.length cb', .int .i64 vb]
    rw [World.size_alloc] at this
    exact this.below hb1 p2
  have x1 : w1.cell? ⟨w.heap.size, 1, none⟩ = some (.slice a' l'.length ca') := bl1.out.cell 1
  have y1 : w1.cell? ⟨w.heap.size + 1, 1, none⟩ = some (.slice b' m'.length cb') := bl2.out.cell 1
  clear hb1 hx p1 p2
  rcases x with _ | _
  · have HN := hide1 (show l ≠ m from fun h => by have := HX.out.2 h; cases this)
    clear HX
    go_wp2
    go_ret
    exact ⟨false, rfl, ⟨(fun h => by cases h), fun h => absurd h.1 HN.out⟩, B1.out⟩
  · have HE := hide1 (HX.out.1 rfl)
    clear HX
    go_wp2_with fail
    refine (C2.out w1 B1.out).mono ?_
    rintro e w2 ⟨x, rfl, hx, hb2⟩
    have HX := hide1 hx
    have B2 := hide1 (B1.out.trans (hb2.mono B1.out.size))
    have x2 : w2.cell? ⟨w.heap.size, 2, none⟩ = some (.int .i64 va) := (hb2.cell bl1.out.lt).trans (bl1.out.cell 2)
    have y2 : w2.cell? ⟨w.heap.size + 1, 2, none⟩ = some (.int .i64 vb) := (hb2.cell bl2.out.lt).trans (bl2.out.cell 2)
    clear hx hb2 x1 y1
    rcases x with _ | _
    · have HN := hide1 (show l' ≠ m' from fun h => by have := HX.out.2 h; cases this)
      clear HX
      go_wp2
      go_ret
      exact ⟨false, rfl, ⟨(fun h => by cases h), fun h => absurd h.2.1 HN.out⟩, B2.out⟩
    · have HE2 := hide1 (HX.out.1 rfl)
      clear HX
      rcases hq : (va == vb) with _ | _
      · have q : (va != vb) = true := by rw [bne, hq]; rfl
        have HF := hide1 (show va ≠ vb from fun h => by rw [h] at hq; simp at hq)
        clear hq
        go_wp2
        go_ret
        exact ⟨false, rfl, ⟨(fun h => by cases h), fun h => absurd h.2.2 HF.out⟩, B2.out⟩
      · have q : (va != vb) = false := by rw [bne, hq]; rfl
        have HF := hide1 (show va = vb by simpa using hq)
        clear hq
        go_wp2
        go_ret
        exact ⟨true, rfl, ⟨(fun _ => ⟨HE.out, HE2.out, HF.out⟩), fun _ => rfl⟩, B2.out⟩

/-- A cell that came in, two memory cells from a place on. -/
def cellO (w : World) (b o i : Nat) (s : Ce) : Prop := w.cell? ⟨b, o + i * 2, none⟩ = some (.string s.key) ∧ w.cell? ⟨b, o + i * 2 + 1, none⟩ = some (.int .i64 s.h)
/-- What came in as a row of cells. -/
def RdJ (w : World) (a : Option Addr) (l : List Ce) : Prop := ∀ i (h : i < l.length), ∃ b o, a = some ⟨b, o, none⟩ ∧ b < w.heap.size ∧ cellO w b o i l[i]
theorem cellO.below {w w' : World} {B b o i : Nat} {s : Ce} (h : cellO w b o i s) (hb : Below B w w') (hg : b < B) : cellO w' b o i s := ⟨(hb.cell hg).trans h.1, (hb.cell hg).trans h.2⟩
theorem RdJ.later {w w' : World} {a : Option Addr} {l : List Ce} (h : RdJ w a l) (hb : Below w.heap.size w w') : RdJ w' a l := by
  intro i hi
  obtain ⟨b, o, ha, hg, hc⟩ := h i hi
  exact ⟨b, o, ha, Nat.lt_of_lt_of_le hg hb.size, hc.below hb hg⟩

theorem own_set2 {w : World} {base n g cap : Nat} {e : TypeId} {L : List Ce} (h : w.ownsRow base e 2 (.slice (some ⟨g, 0, none⟩) n cap) n (ces L)) (hL : L.length = n) (i : Nat) (hi : i < n) (s : Ce) :
    ((w.setCell ⟨g, i * 2, none⟩ (.string s.key)).setCell ⟨g, i * 2 + 1, none⟩ (.int .i64 s.h)).ownsRow base e 2 (.slice (some ⟨g, 0, none⟩) n cap) n (ces (L.set i s)) := by
  have st := (World.ownsRow.stored (World.ownsRow.stored h (i * 2) (.string s.key)).1 (i * 2 + 1) (.int .i64 s.h)).1
  rw [set2 _ _ _ _ (by rw [ces_length]; omega)] at st
  rw [ces_set L i s (by omega)]
  exact st
theorem below_set2 {B g : Nat} {w w' : World} (h : Below B w w') (hg : B ≤ g) (i : Nat) (s : Ce) : Below B w ((w'.setCell ⟨g, i * 2, none⟩ (.string s.key)).setCell ⟨g, i * 2 + 1, none⟩ (.int .i64 s.h)) :=
  (h.setCell (p := ⟨g, i * 2, none⟩) hg _).setCell (p := ⟨g, i * 2 + 1, none⟩) hg _
/-- The zero cell. -/
def zC : Ce := ⟨⟨#[]⟩, 0⟩
theorem fill_set2 (l : List Ce) (z s : Ce) (i : Nat) (hi : i < l.length) (hs : l[i] = s) : (l.take i ++ List.replicate (l.length - i) z).set i s = l.take (i + 1) ++ List.replicate (l.length - (i + 1)) z := by
  have hl : (l.take i).length = i := by simp; omega
  rw [List.set_append_right _ _ (by omega), hl, Nat.sub_self, show l.length - i = (l.length - (i + 1)) + 1 by omega, List.replicate_succ, List.set_cons_zero, List.take_succ_eq_append_getElem hi, hs, List.append_assoc]
  rfl
theorem Try.infoCell : (Try.prog.info? 93).map (fun i => (i.zero, i.size, i.bytes)) = some (some (ceV zC), 2, 24) := by kernel_rfl
theorem made2 : ∀ n : Nat, (madeCells (ceV zC).cells (n * 2)).toList = ces (List.replicate n zC) := by
  intro n
  refine List.ext_getElem? fun j => ?_
  have hz : (ceV zC).cells = #[.string ⟨#[]⟩, .int .i64 0] := rfl
  by_cases hj : j < n * 2
  · have h5 : j % 2 < 2 := Nat.mod_lt _ (by decide)
    have hr := ces_at (List.replicate n zC) (j / 2) (j % 2) (by simp; omega) h5
    rw [show j / 2 * 2 + j % 2 = j by omega, List.getElem_replicate] at hr
    rw [hr, hz]
    simp only [madeCells, Array.getElem?_toList]
    rw [Array.getElem?_map, Array.getElem?_range, if_pos hj]
    simp only [Option.map_some]
    show some ((#[Value.string ⟨#[]⟩, .int .i64 0] : Array Value)[j % 2]!) = _
    generalize j % 2 = q at h5
    match q, h5 with
    | 0, _ => rfl
    | 1, _ => rfl
    | q + 2, h => omega
  · rw [List.getElem?_eq_none (by simp [madeCells]; omega), List.getElem?_eq_none (by rw [ces_length]; simp; omega)]

/-- What a row of cells asks to be looked at whole. -/
def smallC (l : List Ce) : Prop := l.length ≤ 1048576 ∧ ∀ i (h : i < l.length), l[i].key.size ≤ 1048576

end Go.Proofs.Ytenmpciimocggaa
namespace Go.Proofs.Ytenmpciimocggaa
open Go.RowKit

/-- Two rows lie apart. -/
def apart2 (u v : Value) : Prop := ∀ k, u.ownBlock = some k → v.ownBlock ≠ some k

set_option maxRecDepth 100000 in
theorem heldTable_any (ao a' : Option Addr) (n m ca ca' k : Nat) (mv : Int) (w : World) (hn : n ≤ 1048576) (hm : m ≤ 1048576) (hk : k ≤ 16777216) (hk0 : 0 < k) (hA : RdC w ao (patCs k n)) (hA' : RdC w a' (patCs (k + 2 * n) m)) :
    Calls Try.prog 29 #[tbV ao n ca a' m ca' mv, .int .i64 (k : Int)] w fun e w' => e = .returned (.int .i64 ((k : Int) + 2 * (n : Int) + 2 * (m : Int))) ∧ Below w.heap.size w w' := by
  have C1 := hide1 (fun o => heldCellS_any ao n ca k (w.alloc o) hn (by omega) hk0 (hA.later ((Below.refl _ _).alloc (Nat.le_refl _) o)))
  have C2 := hide1 (fun w1 (h : Below w.heap.size w w1) => heldCellS_any a' m ca' (k + 2 * n) w1 hm (by omega) (by omega) (hA'.later h))
  rw [show ((k + 2 * n : Nat) : Int) = (k : Int) + 2 * (n : Int) by omega] at C2
  have q : decide ((k : Int) + 2 * (n : Int) < 0) = false := by simp; omega
  have q2 : decide ((k : Int) + 2 * (n : Int) + 2 * (m : Int) < 0) = false := by simp; omega
  clear hA hA'
  unfold tbV
  go_enter Try.func29, Try.ntmps29
  go_wp2_with fail
  refine (C1.out _).mono ?_
  rintro e w1 ⟨rfl, hb1⟩
  have B1 := hide1 (((Below.refl _ _).alloc (Nat.le_refl _) _).trans (hb1.mono (show w.heap.size ≤ _ by rw [World.size_alloc]; omega)))
  have x1 : w1.cell? ⟨w.heap.size, 1, none⟩ = some (.slice a' m ca') := (Blk.below (Blk.new w 27 #[.slice ao n ca, .slice a' m ca', .int .i64 mv]) hb1 (by rw [World.size_alloc]; omega)).cell 1
  clear hb1
  go_wp2_with fail
  refine (C2.out w1 B1.out).mono ?_
  rintro e w2 ⟨rfl, hb2⟩
  go_wp2
  go_ret
  exact ⟨rfl, B1.out.trans (hb2.mono B1.out.size)⟩

theorem own_grown2 {w w' : World} {base n size : Nat} {e : TypeId} {v : Value} {xs : List Value} {r : Option Nat} (h : w.ownsRow base e size v n xs) (hg : w.grownBy w' r) (hne : ∀ k, v.ownBlock = some k → r ≠ some k) : w'.ownsRow base e size v n xs := by
  refine ⟨h.1, ?_⟩
  rcases h.2 with h2 | ⟨k, cap, cur, hv, hk, hh, q⟩
  · exact .inl h2
  · exact .inr ⟨k, cap, cur, hv, hk, by rw [hg.block k (Array.getElem?_eq_some_iff.1 hh).1 (fun e => hne k (by rw [hv]; rfl) e.symm)]; exact hh, q⟩

set_option maxRecDepth 100000 in
theorem markTable_any (ao a' : Option Addr) (n m ca ca' k : Nat) (mv : Int) (xs ys : List Value) (base base' : Nat) (w : World) (hn : n ≤ 1048576) (hm : m ≤ 1048576) (hk : k ≤ 16777216) (hk0 : 0 < k) (hown : w.ownsRow base 93 2 (.slice ao n ca) n xs) (hown' : w.ownsRow base' 93 2 (.slice a' m ca') m ys) (hap : apart2 (.slice ao n ca) (.slice a' m ca')) :
    Calls Try.prog 25 #[tbV ao n ca a' m ca' mv, .int .i64 (k : Int)] w fun e w' => e = .returned (.int .i64 ((k : Int) + 2 * (n : Int) + 2 * (m : Int))) ∧ w'.ownsRow base 93 2 (.slice ao n ca) n (ces (patCs k n)) ∧ w'.ownsRow base' 93 2 (.slice a' m ca') m (ces (patCs (k + 2 * n) m)) ∧ (∀ j, j < w.heap.size → (Value.slice ao n ca).ownBlock ≠ some j → (Value.slice a' m ca').ownBlock ≠ some j → w'.heap[j]? = w.heap[j]?) ∧ w'.os = w.os ∧ w'.tape = w.tape ∧ w'.output = w.output ∧ w.heap.size ≤ w'.heap.size := by
  have C1 := hide1 (fun o => markCellS_any (.slice ao n ca) n k xs base (w.alloc o) hn (by omega) hk0 (hown.alloc o))
  have C2 := hide1 (fun w1 (h : w1.ownsRow base' 93 2 (.slice a' m ca') m ys) => markCellS_any (.slice a' m ca') m (k + 2 * n) ys base' w1 hm (by omega) (by omega) h)
  rw [show ((k + 2 * n : Nat) : Int) = (k : Int) + 2 * (n : Int) by omega] at C2
  have HO := hide1 (fun o => hown'.alloc o)
  have hlt : Hid (∀ j, (Value.slice ao n ca).ownBlock = some j → j ≠ w.heap.size) := fun j hj => by have := (hown.lt j hj).2; omega
  have HAP := hide1 hap
  clear hown hown' hap
  unfold tbV
  go_enter Try.func25, Try.ntmps25
  go_wp2_with fail
  refine (C1.out _).mono ?_
  rintro e w1 ⟨rfl, ho1, hg1⟩
  have x1 : w1.cell? ⟨w.heap.size, 1, none⟩ = some (.slice a' m ca') := by
    have hb : Blk w1 w.heap.size 27 [.slice ao n ca, .slice a' m ca', .int .i64 mv] := (hg1.block w.heap.size (by rw [World.size_alloc]; omega) (fun e => hlt.out _ e.symm rfl)).trans (Blk.new w 27 #[.slice ao n ca, .slice a' m ca', .int .i64 mv])
    exact hb.cell 1
  have O2 := hide1 (own_grown2 (HO.out _) hg1 (fun j hj hj2 => HAP.out j hj2 hj))
  have O1 := hide1 ho1
  have G1 := hide1 hg1
  clear ho1 hg1
  go_wp2_with fail
  refine (C2.out w1 O2.out).mono ?_
  rintro e w2 ⟨rfl, ho2, hg2⟩
  have O3 := hide1 ho2
  have G2 := hide1 hg2
  have O4 := hide1 (own_grown2 O1.out hg2 (fun j hj hj2 => HAP.out j hj hj2))
  clear ho2 hg2
  go_wp2
  go_ret
  refine ⟨rfl, O4.out, O3.out, fun j hj h1 h2 => ?_, G2.out.os.trans G1.out.os, G2.out.tape.trans G1.out.tape, G2.out.output.trans G1.out.output, ?_⟩
  · have s1 := G1.out.size
    rw [World.size_alloc] at s1
    rw [G2.out.block j (by omega) (fun e => h2 e.symm), G1.out.block j (by rw [World.size_alloc]; omega) (fun e => h1 e.symm)]
    exact Below.heap_alloc w _ j hj
  · have s1 := G1.out.size
    have s2 := G2.out.size
    rw [World.size_alloc] at s1
    omega
end Go.Proofs.Ytenmpciimocggaa
