/- Rows of whole numbers: comparing, marking, holding, copying and sizing them, by the statements' functions. -/
import Derived.Test.YtelmchifpgaibaaDoorSAD
import Derived.Test.YtelmchifpgaibaaDoorSAE
namespace Go.Proofs.YtelmchifpgaibaaDoor
open Go.RowKit

/-- The cells of a row of whole numbers. -/
def iz (l : List Int) : List Value := l.map fun n => Value.int .i64 n
theorem iz_length (l : List Int) : (iz l).length = l.length := by simp [iz]
theorem iz_append (l m : List Int) : iz (l ++ m) = iz l ++ iz m := by simp [iz]
theorem iz_get (l : List Int) (i : Nat) (h : i < l.length) : (iz l)[i]? = some (.int .i64 l[i]) := by simp [iz, h]
theorem iz_set (l : List Int) (i : Nat) (n : Int) : iz (l.set i n) = (iz l).set i (.int .i64 n) := by simp [iz, List.map_set]
theorem iz_one (l : List Int) : ∀ u ∈ iz l, u.oneCell' = true := by
  intro u hu; obtain ⟨_, _, rfl⟩ := List.mem_map.1 hu; rfl
/-- A row that reads as these numbers. -/
def RdZ (w : World) (a : Option Addr) (l : List Int) : Prop := ∀ i (h : i < l.length), ∃ b o, a = some ⟨b, o, none⟩ ∧ b < w.heap.size ∧ w.cell? ⟨b, o + i, none⟩ = some (.int .i64 l[i])
theorem RdZ.later {w w' : World} {a : Option Addr} {l : List Int} (h : RdZ w a l) (hb : Below w.heap.size w w') : RdZ w' a l := by
  intro i hi
  obtain ⟨b, o, ha, hg, hc⟩ := h i hi
  exact ⟨b, o, ha, Nat.lt_of_lt_of_le hg hb.size, (hb.cell (p := ⟨b, o + i, none⟩) hg).trans hc⟩
theorem RdZ.below {w w' : World} {a : Option Addr} {l : List Int} {B : Nat} (h : RdZ w a l) (hb : Below B w w') (hB : ∀ b f, a = some ⟨b, f, none⟩ → l ≠ [] → b < B) : RdZ w' a l := by
  intro i hi
  obtain ⟨b, o, ha, hg, hc⟩ := h i hi
  exact ⟨b, o, ha, Nat.lt_of_lt_of_le hg hb.size, (hb.cell (p := ⟨b, o + i, none⟩) (hB b o ha (fun e => by subst e; simp at hi))).trans hc⟩
theorem RdZ.inB {w : World} {a : Option Addr} {l : List Int} {B : Nat} (h : RdZ w a l) (hB : w.heap.size ≤ B) : ∀ b f, a = some ⟨b, f, none⟩ → l ≠ [] → b < B := by
  intro b f ha hne
  obtain ⟨b', f', ha', hg, _⟩ := h 0 (List.length_pos_iff.2 hne)
  rw [ha] at ha'
  simp at ha'
  omega
theorem rdZ_of_own {w : World} {base n c : Nat} {e : TypeId} {ao : Option Addr} {l : List Int} (h : w.ownsRow base e 1 (.slice ao n c) n (iz l)) : RdZ w ao l := by
  intro i hi
  have hl : l.length = n := by have := h.1; rw [iz_length] at this; omega
  rcases h.2 with ⟨hv, h0⟩ | ⟨g, cap, cur, hv, _, hh, _⟩
  · omega
  · have hg : (Value.slice ao n c).ownBlock = some g := by rw [hv]; rfl
    simp only [Value.slice.injEq] at hv
    refine ⟨g, 0, hv.1, (Array.getElem?_eq_some_iff.1 hh).1, ?_⟩
    have := h.cells hg i _ (iz_get l i hi)
    rw [Addr.add_lit] at this
    exact this

set_option maxRecDepth 100000 in
set_option maxHeartbeats 400000 in
theorem eqIntS_any (a b : Option Addr) (l m : List Int) (ca cb : Nat) (w : World) (hl : l.length ≤ 1048576) (ha : RdZ w a l) (hb : RdZ w b m) :
    Calls Tryd.prog 19 #[.slice a l.length ca, .slice b m.length cb] w fun e w' => ∃ x : Bool, e = .returned (.bool x) ∧ (x = true ↔ l = m) ∧ Below w.heap.size w w' := by
  by_cases c0 : l.length = m.length
  · have q0 : ((l.length : Int) != (m.length : Int)) = false := by simp [c0]
    have HA := hide1 ha
    have HB := hide1 hb
    have C0 := hide1 c0
    clear ha hb c0
    go_enter Tryd.func19, Tryd.ntmps19
    go_wp2
    go_loopw [5] (fun iv wr => ∃ i : Nat, i ≤ l.length ∧ iv = .int .i64 (i : Int) ∧ Hid (∀ j, j < i → l[j]? = m[j]?) ∧ Below w.heap.size w wr) (fun iv _ => l.length - (intOf iv).toNat)
    case atStart => exact ⟨0, by omega, rfl, fun j hj => by omega, Below.refl _ _⟩
    case round =>
      obtain ⟨i, hi, rfl, hsame, hbel⟩ := hrel
      by_cases hlt : i < l.length
      · have hltm : i < m.length := by have := C0.out; omega
        obtain ⟨g, o, rfl, hg, h1⟩ := HA.out i hlt
        obtain ⟨g', o', rfl, hg', h2⟩ := HB.out i hltm
        have x0 := (hbel.cell (p := ⟨g, o + i, none⟩) hg).trans h1
        have y0 := (hbel.cell (p := ⟨g', o' + i, none⟩) hg').trans h2
        clear h1 h2
        have k1 : (i : Int) < (l.length : Int) := by omega
        have k2 : (i : Int) < (m.length : Int) := by omega
        have e1 := hide1 (List.getElem?_eq_getElem hlt)
        have e2 := hide1 (List.getElem?_eq_getElem hltm)
        generalize l[i] = s at *
        generalize m[i] = t at *
        by_cases ce : s = t
        · have q : (s != t) = false := by simp [ce]
          have CE := hide1 ce
          clear ce
          go_wp2_with fail
          go_quiet (fail)
          go_wp2
          go_roundw
          case rel =>
            refine ⟨i + 1, by omega, by go_num, fun j hj => ?_, below_drewN hbel _⟩
            by_cases hj2 : j < i
            · exact hsame.out j hj2
            · rw [show j = i by omega, e1.out, e2.out, CE.out]
          case measure => simp [intOf]; omega
        · have q : (s != t) = true := by simp [ce]
          have CE := hide1 ce
          clear ce
          go_wp2_with fail
          go_quiet (fail)
          go_wp2
          go_ret
          refine ⟨false, rfl, ⟨(fun h => by cases h), fun h => ?_⟩, below_drewN hbel _⟩
          rw [h] at e1
          exact absurd (Option.some.inj (e1.out.symm.trans e2.out)) CE.out
      · go_wp2
        go_ret
        refine ⟨true, rfl, ⟨fun _ => ?_, fun _ => rfl⟩, hbel⟩
        refine List.ext_getElem? fun j => ?_
        by_cases hj : j < i
        · exact hsame.out j hj
        · have := C0.out
          rw [List.getElem?_eq_none (by omega), List.getElem?_eq_none (by omega)]
  · have q0 : ((l.length : Int) != (m.length : Int)) = true := by simp; omega
    clear ha hb
    go_enter Tryd.func19, Tryd.ntmps19
    go_wp2
    go_ret
    exact ⟨false, rfl, by simp; intro h; exact c0 (by rw [h]), Below.refl _ _⟩

/-- Marks: numbers from k on. -/
def patZ (k n : Nat) : List Int := (List.range n).map fun i => ((k + i : Nat) : Int)
theorem patZ_length (k n : Nat) : (patZ k n).length = n := by simp [patZ]
theorem patZ_get (k n i : Nat) (h : i < n) : (patZ k n)[i]'(by rw [patZ_length]; exact h) = (k : Int) + (i : Int) := by simp [patZ]
theorem patZ_fill (k n i : Nat) (l : List Int) (hl : l.length = n) (hi : i < n) : ((patZ k n).take i ++ l.drop i).set i ((k : Int) + (i : Int)) = (patZ k n).take (i + 1) ++ l.drop (i + 1) := by
  have ht : ((patZ k n).take i).length = i := by rw [List.length_take, patZ_length]; omega
  rw [List.set_append_right _ _ (by omega), ht, Nat.sub_self, List.drop_eq_getElem_cons (by omega), List.set_cons_zero, List.take_succ_eq_append_getElem (by rw [patZ_length]; exact hi), patZ_get k n i hi, List.append_assoc]
  rfl

set_option maxRecDepth 100000 in
set_option maxHeartbeats 400000 in
theorem markIntS_any (ao : Option Addr) (c k base : Nat) (l : List Int) (w : World) (hn : l.length ≤ 1048576) (hk : k ≤ 67108864) (hown : w.ownsRow base 3 1 (.slice ao l.length c) l.length (iz l)) :
    Calls Tryd.prog 21 #[.slice ao l.length c, .int .i64 (k : Int)] w fun e w' => e = .returned (.int .i64 ((k : Int) + (l.length : Int))) ∧ w'.ownsRow base 3 1 (.slice ao l.length c) l.length (iz (patZ k l.length)) ∧ w.grownBy w' (Value.slice ao l.length c).ownBlock := by
  obtain ⟨n, hln⟩ : ∃ n, l.length = n := ⟨_, rfl⟩
  rw [hln] at hown hn ⊢
  rcases hown.2 with ⟨hv, h0⟩ | ⟨g, cap, cur, hv, hbg, hgg, _⟩
  · subst h0
    have e0 : l = [] := List.eq_nil_of_length_eq_zero hln
    simp only [Value.slice.injEq] at hv
    obtain ⟨rfl, _, rfl⟩ := hv
    have HO := hide1 hown
    clear hown hln
    go_enter Tryd.func21, Tryd.ntmps21
    go_wp2
    refine wp_loop_rounds 1 ?_
    rw [rounds_succ]
    go_wp2
    go_ret
    exact ⟨by simp, by rw [e0] at HO; exact HO.out, gnew (Below.refl _ _)⟩
  · simp only [Value.slice.injEq] at hv
    obtain ⟨rfl, _, rfl⟩ := hv
    have HO := hide1 hown
    have HL := hide1 hln
    clear hgg hown hln
    go_enter Tryd.func21, Tryd.ntmps21
    go_wp2
    go_loopw [1, 5] (fun kv iv wr => ∃ i : Nat, i ≤ n ∧ iv = .int .i64 (i : Int) ∧ kv = .int .i64 ((k : Int) + (i : Int)) ∧ wr.ownsRow base 3 1 (.slice (some ⟨g, 0, none⟩) n c) n (iz ((patZ k n).take i ++ l.drop i)) ∧ w.grownBy wr (some g)) (fun _ iv _ => n - (intOf iv).toNat)
    case atStart => exact ⟨0, by omega, rfl, by simp, by simpa using HO.out, gnew (Below.refl _ _)⟩
    case round =>
      obtain ⟨i, hi, rfl, rfl, hown1, hg1⟩ := hrel
      by_cases hlt : i < n
      · have k1 : (i : Int) < (n : Int) := by omega
        obtain ⟨u, x1⟩ := own_some hown1 i (by omega)
        have x2 := hown1.frozenAt i
        have HO1 := hide1 hown1
        have HG := hide1 hg1
        clear hown1 hg1
        go_wp2
        go_roundw
        case rel =>
          have st := (World.ownsRow.stored HO1.out i (.int .i64 ((k : Int) + (i : Int)))).1
          rw [← iz_set, patZ_fill k n i l HL.out hlt] at st
          exact ⟨i + 1, by omega, by go_num, by go_num, st, gset HG.out i _⟩
        case measure => simp [intOf]; omega
      · obtain rfl : i = n := by omega
        have HO1 := hide1 hown1
        have HG := hide1 hg1
        clear hown1 hg1
        go_wp2
        go_ret
        refine ⟨rfl, ?_, HG.out⟩
        have := HO1.out
        rw [List.drop_eq_nil_of_le (by have := HL.out; omega), List.append_nil, List.take_of_length_le (by rw [patZ_length]; omega)] at this
        exact this

set_option maxRecDepth 100000 in
set_option maxHeartbeats 400000 in
theorem heldIntS_any (ao : Option Addr) (n ca k : Nat) (w : World) (hn : n ≤ 1048576) (hk : k ≤ 67108864) (hA : RdZ w ao (patZ k n)) :
    Calls Tryd.prog 23 #[.slice ao n ca, .int .i64 (k : Int)] w fun e w' => e = .returned (.int .i64 ((k : Int) + (n : Int))) ∧ w' = w := by
  have HA := hide1 hA
  clear hA
  go_enter Tryd.func23, Tryd.ntmps23
  go_wp2
  go_loop [1, 5] (fun kv iv => ∃ i : Nat, i ≤ n ∧ iv = .int .i64 (i : Int) ∧ kv = .int .i64 ((k : Int) + (i : Int))) (fun _ iv => n - (intOf iv).toNat)
  case atStart => exact ⟨0, by omega, rfl, by simp⟩
  case round =>
    obtain ⟨i, hi, rfl, rfl⟩ := hrel
    by_cases hlt : i < n
    · obtain ⟨b, o, rfl, hb, hc⟩ := HA.out i (by rw [patZ_length]; exact hlt)
      rw [patZ_get k n i hlt] at hc
      have k1 : (i : Int) < (n : Int) := by omega
      have q : (((k : Int) + (i : Int)) != ((k : Int) + (i : Int))) = false := by simp
      go_wp2
      go_round
      case rel => exact ⟨i + 1, by omega, by go_num, by go_num⟩
      case measure => simp [intOf]; omega
    · obtain rfl : i = n := by omega
      go_wp2
      go_ret
      exact ⟨rfl, rfl⟩

theorem Tryd.infoZ : (Tryd.prog.info? 3).map (fun i => (i.zero, i.size, i.bytes)) = some (some (.int .i64 0), 1, 8) := by kernel_rfl
theorem madeZ : ∀ n : Nat, (madeCells (Value.int .i64 0).cells (n * 1)).toList = iz (List.replicate n 0) := by
  intro n
  refine List.ext_getElem? fun j => ?_
  by_cases hj : j < n
  · rw [iz_get _ j (by simpa using hj)]
    simp only [madeCells, Array.getElem?_toList]
    rw [Array.getElem?_map, Array.getElem?_range, if_pos (by omega)]
    simp only [Option.map_some, List.getElem_replicate]
    have : j % 1 = 0 := by omega
    show some ((#[Value.int .i64 0] : Array Value)[j % 1]!) = _
    rw [this]; rfl
  · rw [List.getElem?_eq_none (by simp [madeCells]; omega), List.getElem?_eq_none (by rw [iz_length]; simp; omega)]
theorem fill_setZ (l : List Int) (z s : Int) (i : Nat) (hi : i < l.length) (hs : l[i] = s) : (l.take i ++ List.replicate (l.length - i) z).set i s = l.take (i + 1) ++ List.replicate (l.length - (i + 1)) z := by
  have hl : (l.take i).length = i := by simp; omega
  rw [List.set_append_right _ _ (by omega), hl, Nat.sub_self, show l.length - i = (l.length - (i + 1)) + 1 by omega, List.replicate_succ, List.set_cons_zero, List.take_succ_eq_append_getElem hi, hs, List.append_assoc]
  rfl

end Go.Proofs.YtelmchifpgaibaaDoor
namespace Go.Proofs.YtelmchifpgaibaaDoor
open Go.RowKit
set_option linter.unusedVariables false

set_option maxRecDepth 100000 in
set_option maxHeartbeats 1000000 in
theorem specIn_any (ao : Option Addr) (L : List Int) (ca : Nat) (x : Int) (w : World) (hl : L.length ≤ 1048576) (hA : RdZ w ao L) :
    Calls Tryd.prog 31 #[.slice ao L.length ca, .int .i64 x] w fun e w' => e = .returned (.bool (decide (x ∈ L))) ∧ w = w' := by
  have HA := hide1 hA
  clear hA
  go_enter Tryd.func31, Tryd.ntmps31
  go_wp2
  go_loop [5] (fun iv => ∃ i : Nat, i ≤ L.length ∧ iv = .int .i64 (i : Int) ∧ Hid (∀ j (hj : j < i) (hl : j < L.length), L[j] ≠ x)) (fun iv => L.length - (intOf iv).toNat)
  case atStart => exact ⟨0, by omega, rfl, fun j hj _ => by omega⟩
  case round =>
    obtain ⟨i, hi, rfl, hn⟩ := hrel
    by_cases hlt : i < L.length
    · have k1 : (i : Int) < (L.length : Int) := by omega
      obtain ⟨b, o, rfl, hb, x1⟩ := HA.out i hlt
      by_cases c : L[i] = x
      · have HM := hide1 (show decide (x ∈ L) = true from decide_eq_true (c ▸ List.getElem_mem hlt))
        obtain ⟨z, hz, y1⟩ : ∃ z, (z == x) = true ∧ w.cell? ⟨b, o + i, none⟩ = some (.int .i64 z) := ⟨_, by simpa using c, x1⟩
        clear x1 c
        go_wp2
        go_ret
        exact ⟨by rw [HM.out]; rfl, rfl⟩
      · have HC := hide1 c
        obtain ⟨z, hz, y1⟩ : ∃ z, (z == x) = false ∧ w.cell? ⟨b, o + i, none⟩ = some (.int .i64 z) := ⟨_, by simpa using c, x1⟩
        clear x1 c
        go_wp2
        go_round
        case rel =>
          refine ⟨i + 1, by omega, by go_num, fun j hj hjl => ?_⟩
          by_cases e : j < i
          · exact hn.out j e hjl
          · obtain rfl : j = i := by omega
            exact HC.out
        case measure => simp [intOf]; omega
    · have HM := hide1 (show decide (x ∈ L) = false from decide_eq_false (fun h => by
        obtain ⟨j, hj, e⟩ := List.getElem_of_mem h
        exact hn.out j (by omega) hj e))
      go_wp2
      go_ret
      exact ⟨by rw [HM.out]; rfl, rfl⟩
end Go.Proofs.YtelmchifpgaibaaDoor
namespace Go.Proofs.YtelmchifpgaibaaDoor
open Go.RowKit
set_option linter.unusedVariables false

/-- Values laid one behind another. -/
def setL (xs : List Value) (m : Nat) : List Value → List Value
  | [] => xs
  | v :: vs => setL (xs.set m v) (m + 1) vs
theorem setL_length : ∀ (vs xs : List Value) (m : Nat), (setL xs m vs).length = xs.length
  | [], _, _ => rfl
  | v :: vs, xs, m => by rw [setL, setL_length vs]; simp
theorem setL_eq : ∀ (vs xs : List Value) (m : Nat), m + vs.length ≤ xs.length → setL xs m vs = xs.take m ++ vs ++ xs.drop (m + vs.length)
  | [], xs, m, _ => by simp [setL]
  | v :: vs, xs, m, h => by
    have hl : m < xs.length := by simp at h; omega
    rw [setL, setL_eq vs _ _ (by simp at h ⊢; omega)]
    have e1 : (xs.set m v).take (m + 1) = xs.take m ++ [v] := by
      rw [List.take_succ_eq_append_getElem (by simpa using hl), List.getElem_set_self, List.take_set_of_le (Nat.le_refl _)]
    have e2 : (xs.set m v).drop (m + 1 + vs.length) = xs.drop (m + (v :: vs).length) := by
      rw [List.drop_set_of_lt (by omega), List.length_cons]
      congr 1
      omega
    rw [e1, e2]
    simp [List.append_assoc]
section
variable {α : Type} (enc : α → List Value) (k : Nat)
/-- The cells of a row. -/
def rowG (l : List α) : List Value := l.flatMap enc
variable (hk : ∀ x, (enc x).length = k)
include hk
theorem rowG_length (l : List α) : (rowG enc l).length = l.length * k := by
  induction l with
  | nil => simp [rowG]
  | cons s l ih => rw [rowG, List.flatMap_cons, List.length_append, hk, ← rowG, ih, List.length_cons, Nat.add_mul]; omega
theorem rowG_at : ∀ (l : List α) (i j : Nat) (hi : i < l.length), j < k → (rowG enc l)[i * k + j]? = (enc l[i])[j]?
  | s :: l, 0, j, _, hj => by
    rw [rowG, List.flatMap_cons, Nat.zero_mul, Nat.zero_add, List.getElem?_append_left (by rw [hk]; exact hj)]
    rfl
  | s :: l, i + 1, j, hi, hj => by
    have e : (i + 1) * k + j = k + (i * k + j) := by rw [Nat.add_mul]; omega
    rw [rowG, List.flatMap_cons, e, List.getElem?_append_right (by rw [hk]; omega), hk, Nat.add_sub_cancel_left, ← rowG, rowG_at l i j (by simpa using hi) hj]
    rfl
theorem rowG_set : ∀ (l : List α) (i : Nat) (s : α), i < l.length → rowG enc (l.set i s) = setL (rowG enc l) (i * k) (enc s)
  | t :: l, 0, s, _ => by
    rw [setL_eq _ _ _ (by rw [rowG_length enc k hk, hk, List.length_cons, Nat.add_mul]; omega), Nat.zero_mul, hk]
    simp only [List.set_cons_zero, rowG, List.flatMap_cons, List.take_zero, List.nil_append, Nat.zero_add]
    rw [List.drop_append_of_le_length (by rw [hk]; omega), List.drop_eq_nil_of_le (by rw [hk]; omega), List.nil_append]
  | t :: l, i + 1, s, hi => by
    have hi' : i < l.length := by simpa using hi
    have hb : (i + 1) * k ≤ l.length * k := Nat.mul_le_mul_right k hi'
    have e0 : (i + 1) * k = k + i * k := by rw [Nat.add_mul]; omega
    have ih := rowG_set l i s hi'
    rw [setL_eq _ _ _ (by rw [rowG_length enc k hk, hk]; omega), hk] at ih
    rw [setL_eq _ _ _ (by rw [rowG_length enc k hk, hk, List.length_cons, Nat.add_mul l.length]; omega), hk, List.set_cons_succ]
    have u : ∀ l : List α, rowG enc (t :: l) = enc t ++ rowG enc l := fun l => rfl
    have t1 : (enc t).take (k + i * k) = enc t := List.take_of_length_le (by rw [hk]; omega)
    have d1 : (enc t).drop (k + i * k + k) = [] := List.drop_eq_nil_of_le (by rw [hk]; omega)
    have k1 : k + i * k - k = i * k := by omega
    have k2 : k + i * k + k - k = i * k + k := by omega
    rw [u, u, ih, e0, List.take_append, List.drop_append, hk, t1, d1, k1, k2, List.nil_append]
    simp [List.append_assoc]
omit hk in
theorem fillG (l : List α) (z s : α) (i : Nat) (hi : i < l.length) (hs : l[i] = s) : (l.take i ++ List.replicate (l.length - i) z).set i s = l.take (i + 1) ++ List.replicate (l.length - (i + 1)) z := by
  have hl : (l.take i).length = i := by simp; omega
  rw [List.set_append_right _ _ (by omega), hl, Nat.sub_self, show l.length - i = (l.length - (i + 1)) + 1 by omega, List.replicate_succ, List.set_cons_zero, List.take_succ_eq_append_getElem hi, hs, List.append_assoc]
  rfl
/-- Cells stored one behind another. -/
def _root_.Go.Proofs.YtelmchifpgaibaaDoor.putG (w : World) (g m : Nat) : List Value → World
  | [] => w
  | v :: vs => putG (w.setCell ⟨g, m, none⟩ v) g (m + 1) vs
end
theorem own_putG : ∀ (vs : List Value) {w : World} {base n g cap size : Nat} {e : TypeId} {xs : List Value} (m : Nat), w.ownsRow base e size (.slice (some ⟨g, 0, none⟩) n cap) n xs → (putG w g m vs).ownsRow base e size (.slice (some ⟨g, 0, none⟩) n cap) n (setL xs m vs)
  | [], _, _, _, _, _, _, _, _, _, h => h
  | v :: vs, w, base, n, g, cap, size, e, xs, m, h => own_putG vs (m + 1) (World.ownsRow.stored h m v).1
theorem below_putG : ∀ (vs : List Value) {B g : Nat} {w w' : World} (m : Nat), Below B w w' → B ≤ g → Below B w (putG w' g m vs)
  | [], _, _, _, _, _, h, _ => h
  | v :: vs, B, g, w, w', m, h, hg => below_putG vs (m + 1) (h.setCell (p := ⟨g, m, none⟩) hg v) hg
section
variable {α : Type} (enc : α → List Value) (k : Nat)
/-- A row that reads as these elements, from any place on. -/
def RdG (w : World) (a : Option Addr) (l : List α) : Prop := ∀ i (h : i < l.length), ∃ b o, a = some ⟨b, o, none⟩ ∧ b < w.heap.size ∧ ∀ j, j < k → w.cell? ⟨b, o + i * k + j, none⟩ = (enc l[i])[j]?
variable {enc k}
theorem RdG.later {w w' : World} {a : Option Addr} {l : List α} (h : RdG enc k w a l) (hb : Below w.heap.size w w') : RdG enc k w' a l := by
  intro i hi
  obtain ⟨b, o, ha, hg, hc⟩ := h i hi
  exact ⟨b, o, ha, Nat.lt_of_lt_of_le hg hb.size, fun j hj => (hb.cell (p := ⟨b, o + i * k + j, none⟩) hg).trans (hc j hj)⟩
theorem RdG.below {w w' : World} {a : Option Addr} {l : List α} {B : Nat} (h : RdG enc k w a l) (hb : Below B w w') (hB : ∀ b f, a = some ⟨b, f, none⟩ → l ≠ [] → b < B) : RdG enc k w' a l := by
  intro i hi
  obtain ⟨b, o, ha, hg, hc⟩ := h i hi
  exact ⟨b, o, ha, Nat.lt_of_lt_of_le hg hb.size, fun j hj => (hb.cell (p := ⟨b, o + i * k + j, none⟩) (hB b o ha (fun e => by subst e; simp at hi))).trans (hc j hj)⟩
theorem RdG.nil (w : World) (a : Option Addr) : RdG enc k w a [] := fun i hi => by simp at hi
theorem rdG_of_own (hk : ∀ x, (enc x).length = k) {w : World} {base ca n : Nat} {e : TypeId} {ao : Option Addr} {l : List α} (h : w.ownsRow base e k (.slice ao n ca) n (rowG enc l)) (hn : l.length = n) : RdG enc k w ao l := by
  intro i hi
  rcases h.2 with ⟨hv, h0⟩ | ⟨g, cap, cur, hv, _, hh, _⟩
  · omega
  · injection hv with h1 h2 h3
    subst h1
    refine ⟨g, 0, rfl, (Array.getElem?_eq_some_iff.1 hh).1, fun j hj => ?_⟩
    have hb : i * k + j < l.length * k := by
      have := Nat.mul_le_mul_right k (Nat.succ_le_of_lt hi)
      rw [Nat.succ_mul] at this
      omega
    rw [Nat.zero_add, h.cellAt (i * k + j) (by rw [← hn]; exact hb)]
    exact rowG_at enc k hk l i j hi hj
end
end Go.Proofs.YtelmchifpgaibaaDoor
