/- Rows of whole numbers: comparing, marking, holding, copying and sizing them, by the statements' functions. -/
import Derived.Test.YtcahaimefgkmiaaTA
import Derived.Test.YtcahaimefgkmiaaTC
import Derived.Test.YtcahaimefgkmiaaTB
import Derived.Deep.RegionLaw
import Derived.ArgAppend
import Derived.Deep.DeepCutAuto
namespace Go.Proofs.Ytcahaimefgkmiaa
open Go.RowKit

/-- The cells of a row of whole numbers. -/
def iz (l : List Int) : List Value := l.map fun n => Value.int .i64 n
theorem iz_length (l : List Int) : (iz l).length = l.length := by simp [iz]
theorem iz_append (l m : List Int) : iz (l ++ m) = iz l ++ iz m := by simp [iz]
theorem iz_get (l : List Int) (i : Nat) (h : i < l.length) : (iz l)[i]? = some (.int .i64 l[i]) := by simp [iz, h]
theorem iz_set (l : List Int) (i : Nat) (n : Int) : iz (l.set i n) = (iz l).set i (.int .i64 n) := by simp [iz, List.map_set]
theorem iz_one (l : List Int) : ∀ u ∈ iz l, u.oneCell' = true := by
  intro u hu; obtain ⟨_, _, rfl⟩ := List.mem_map.1 hu; rfl
/-- A row that reads as these numbers. -/
def RdZ (w : World) (a : Option Addr) (l : List Int) : Prop := ∀ i (h : i < l.length), ∃ b o, a = some ⟨b, o, none⟩ ∧ b < w.heap.size ∧ w.cell? ⟨b, o + i, none⟩ = some (.int .i64 l[i])
theorem RdZ.later {w w' : World} {a : Option Addr} {l : List Int} (h : RdZ w a l) (hb : Below w.heap.size w w') : RdZ w' a l := by
  intro i hi
  obtain ⟨b, o, ha, hg, hc⟩ := h i hi
  exact ⟨b, o, ha, Nat.lt_of_lt_of_le hg hb.size, (hb.cell (p := ⟨b, o + i, none⟩) hg).trans hc⟩
theorem RdZ.below {w w' : World} {a : Option Addr} {l : List Int} {B : Nat} (h : RdZ w a l) (hb : Below B w w') (hB : ∀ b f, a = some ⟨b, f, none⟩ → l ≠ [] → b < B) : RdZ w' a l := by
  intro i hi
  obtain ⟨b, o, ha, hg, hc⟩ := h i hi
  exact ⟨b, o, ha, Nat.lt_of_lt_of_le hg hb.size, (hb.cell (p := ⟨b, o + i, none⟩) (hB b o ha (fun e => by subst e; simp at hi))).trans hc⟩
theorem RdZ.inB {w : World} {a : Option Addr} {l : List Int} {B : Nat} (h : RdZ w a l) (hB : w.heap.size ≤ B) : ∀ b f, a = some ⟨b, f, none⟩ → l ≠ [] → b < B := by
  intro b f ha hne
  obtain ⟨b', f', ha', hg, _⟩ := h 0 (List.length_pos_iff.2 hne)
  rw [ha] at ha'
  simp at ha'
  omega
theorem rdZ_of_own {w : World} {base n c : Nat} {e : TypeId} {ao : Option Addr} {l : List Int} (h : w.ownsRow base e 1 (.slice ao n c) n (iz l)) : RdZ w ao l := by
  intro i hi
  have hl : l.length = n := by have := h.1; rw [iz_length] at this; omega
  rcases h.2 with ⟨hv, h0⟩ | ⟨g, cap, cur, hv, _, hh, _⟩
  · omega
  · have hg : (Value.slice ao n c).ownBlock = some g := by rw [hv]; rfl
    simp only [Value.slice.injEq] at hv
    refine ⟨g, 0, hv.1, (Array.getElem?_eq_some_iff.1 hh).1, ?_⟩
    have := h.cells hg i _ (iz_get l i hi)
    rw [Addr.add_lit] at this
    exact this

set_option maxRecDepth 100000 in
set_option maxHeartbeats 400000 in
theorem eqIntS_any (a b : Option Addr) (l m : List Int) (ca cb : Nat) (w : World) (hl : l.length ≤ 1048576) (ha : RdZ w a l) (hb : RdZ w b m) :
    Calls Try.prog 69 #[.slice a l.length ca, .slice b m.length cb] w fun e w' => ∃ x : Bool, e = .returned (.bool x) ∧ (x = true ↔ l = m) ∧ Below w.heap.size w w' := by
  by_cases c0 : l.length = m.length
  · have q0 : ((l.length : Int) != (m.length : Int)) = false := by simp [c0]
    have HA := hide1 ha
    have HB := hide1 hb
    have C0 := hide1 c0
    clear ha hb c0
    go_enter Try.func69, Try.ntmps69
    go_wp2
    go_loopw [5] (fun iv wr => ∃ i : Nat, i ≤ l.length ∧ iv = .int .i64 (i : Int) ∧ Hid (∀ j, j < i → l[j]? = m[j]?) ∧ Below w.heap.size w wr) (fun iv _ => l.length - (intOf iv).toNat)
    case atStart => exact ⟨0, by omega, rfl, fun j hj => by omega, Below.refl _ _⟩
    case round =>
      obtain ⟨i, hi, rfl, hsame, hbel⟩ := hrel
      by_cases hlt : i < l.length
      · have hltm : i < m.length := by have := C0.out; omega
        obtain ⟨g, o, rfl, hg, h1⟩ := HA.out i hlt
        obtain ⟨g', o', rfl, hg', h2⟩ := HB.out i hltm
        have x0 := (hbel.cell (p := ⟨g, o + i, none⟩) hg).trans h1
        have y0 := (hbel.cell (p := ⟨g', o' + i, none⟩) hg').trans h2
        clear h1 h2
        have k1 : (i : Int) < (l.length : Int) := by omega
        have k2 : (i : Int) < (m.length : Int) := by omega
        have e1 := hide1 (List.getElem?_eq_getElem hlt)
        have e2 := hide1 (List.getElem?_eq_getElem hltm)
        generalize l[i] = s at *
        generalize m[i] = t at *
        by_cases ce : s = t
        · have q : (s != t) = false := by simp [ce]
          have CE := hide1 ce
          clear ce
          go_wp2_with fail
          go_quiet (fail)
          go_wp2
          go_roundw
          case rel =>
            refine ⟨i + 1, by omega, by go_num, fun j hj => ?_, below_drewN hbel _⟩
            by_cases hj2 : j < i
            · exact hsame.out j hj2
            · rw [show j = i by omega, e1.out, e2.out, CE.out]
          case measure => simp [intOf]; omega
        · have q : (s != t) = true := by simp [ce]
          have CE := hide1 ce
          clear ce
          go_wp2_with fail
          go_quiet (fail)
          go_wp2
          go_ret
          refine ⟨false, rfl, ⟨(fun h => by cases h), fun h => ?_⟩, below_drewN hbel _⟩
          rw [h] at e1
          exact absurd (Option.some.inj (e1.out.symm.trans e2.out)) CE.out
      · go_wp2
        go_ret
        refine ⟨true, rfl, ⟨fun _ => ?_, fun _ => rfl⟩, hbel⟩
        refine List.ext_getElem? fun j => ?_
        by_cases hj : j < i
        · exact hsame.out j hj
        · have := C0.out
          rw [List.getElem?_eq_none (by omega), List.getElem?_eq_none (by omega)]
  · have q0 : ((l.length : Int) != (m.length : Int)) = true := by simp; omega
    clear ha hb
    go_enter Try.func69, Try.ntmps69
    go_wp2
    go_ret
    exact ⟨false, rfl, by simp; intro h; exact c0 (by rw [h]), Below.refl _ _⟩

/-- Marks: numbers from k on. -/
def patZ (k n : Nat) : List Int := (List.range n).map fun i => ((k + i : Nat) : Int)
theorem patZ_length (k n : Nat) : (patZ k n).length = n := by simp [patZ]
theorem patZ_get (k n i : Nat) (h : i < n) : (patZ k n)[i]'(by rw [patZ_length]; exact h) = (k : Int) + (i : Int) := by simp [patZ]
theorem patZ_fill (k n i : Nat) (l : List Int) (hl : l.length = n) (hi : i < n) : ((patZ k n).take i ++ l.drop i).set i ((k : Int) + (i : Int)) = (patZ k n).take (i + 1) ++ l.drop (i + 1) := by
  have ht : ((patZ k n).take i).length = i := by rw [List.length_take, patZ_length]; omega
  rw [List.set_append_right _ _ (by omega), ht, Nat.sub_self, List.drop_eq_getElem_cons (by omega), List.set_cons_zero, List.take_succ_eq_append_getElem (by rw [patZ_length]; exact hi), patZ_get k n i hi, List.append_assoc]
  rfl

theorem Try.infoZ : (Try.prog.info? 3).map (fun i => (i.zero, i.size, i.bytes)) = some (some (.int .i64 0), 1, 8) := by kernel_rfl
theorem madeZ : ∀ n : Nat, (madeCells (Value.int .i64 0).cells (n * 1)).toList = iz (List.replicate n 0) := by
  intro n
  refine List.ext_getElem? fun j => ?_
  by_cases hj : j < n
  · rw [iz_get _ j (by simpa using hj)]
    simp only [madeCells, Array.getElem?_toList]
    rw [Array.getElem?_map, Array.getElem?_range, if_pos (by omega)]
    simp only [Option.map_some, List.getElem_replicate]
    have : j % 1 = 0 := by omega
    show some ((#[Value.int .i64 0] : Array Value)[j % 1]!) = _
    rw [this]; rfl
  · rw [List.getElem?_eq_none (by simp [madeCells]; omega), List.getElem?_eq_none (by rw [iz_length]; simp; omega)]
theorem fill_setZ (l : List Int) (z s : Int) (i : Nat) (hi : i < l.length) (hs : l[i] = s) : (l.take i ++ List.replicate (l.length - i) z).set i s = l.take (i + 1) ++ List.replicate (l.length - (i + 1)) z := by
  have hl : (l.take i).length = i := by simp; omega
  rw [List.set_append_right _ _ (by omega), hl, Nat.sub_self, show l.length - i = (l.length - (i + 1)) + 1 by omega, List.replicate_succ, List.set_cons_zero, List.take_succ_eq_append_getElem hi, hs, List.append_assoc]
  rfl

set_option maxRecDepth 100000 in
set_option maxHeartbeats 400000 in
theorem toIntS_any (ao : Option Addr) (l : List Int) (ca : Nat) (w : World) (hl : l.length ≤ 1048576) (hA : RdZ w ao l) :
    Calls Try.prog 64 #[.slice ao l.length ca] w fun e w' => ∃ b c, e = .returned (.slice b l.length c) ∧ w'.ownsRow w.heap.size 3 1 (.slice b l.length c) l.length (iz l) ∧ Below w.heap.size w w' := by
  obtain ⟨i0, hi, hz0, hz1, hz2⟩ := info_parts Try.infoZ
  have HA := hide1 hA
  clear hA
  go_enter Try.func64, Try.ntmps64
  go_wp2_with (at_make; (refine wpList_make_full _ rfl _ _ 62 rfl w.heap.size 3 i0 (.int .i64 0) 1 Try.underlying62 hi hz0 hz1 _ _ _ _ l.length rfl rfl rfl rfl (by rw [hz2]; omega) (by unfold maxLen; omega) (Nat.le_refl _) ?_; intro w0 hown0 hg0))
  rw [madeZ] at hown0
  have HO := hide1 hown0
  clear hown0
  go_loopw [4] (fun iv wr => ∃ i : Nat, i ≤ l.length ∧ iv = .int .i64 (i : Int) ∧ wr.ownsRow w.heap.size 3 1 (.slice (some ⟨w.heap.size, 0, none⟩) l.length l.length) l.length (iz (l.take i ++ List.replicate (l.length - i) 0)) ∧ Below w.heap.size w wr) (fun iv _ => l.length - (intOf iv).toNat)
  case atStart => exact ⟨0, by omega, rfl, by simpa using HO.out, Below.grown (Below.refl _ _) hg0 (Nat.le_refl _) (by intro k hk; cases hk)⟩
  case round =>
    obtain ⟨i, hi, rfl, hown, hbel⟩ := hrel
    by_cases hlt : i < l.length
    · have k1 : (i : Int) < (l.length : Int) := by omega
      obtain ⟨b, o, rfl, hb, h1⟩ := HA.out i hlt
      have x0 := (hbel.cell (p := ⟨b, o + i, none⟩) hb).trans h1
      obtain ⟨s, hs⟩ : ∃ s, l[i] = s := ⟨_, rfl⟩
      rw [hs] at x0
      have HS := hide1 hs
      clear h1 hs
      obtain ⟨u, y0⟩ := own_some hown i (by omega)
      have y1 := hown.frozenAt i
      have HO1 := hide1 hown
      clear hown
      go_wp2
      go_roundw
      case rel =>
        have st := (World.ownsRow.stored HO1.out i (.int .i64 s)).1
        rw [← iz_set, fill_setZ l 0 s i hlt HS.out] at st
        exact ⟨i + 1, by omega, by go_num, st, hbel.setCell (p := ⟨w.heap.size, i, none⟩) (Nat.le_refl _) _⟩
      case measure => simp [intOf]; omega
    · obtain rfl : i = l.length := by omega
      go_wp2
      go_ret
      exact ⟨_, _, rfl, by simpa using hown, hbel⟩

set_option maxRecDepth 100000 in
theorem szIntS_any (ao : Option Addr) (n ca left : Nat) (w : World) (hn : n ≤ 9223372036854775807) (hl : left ≤ 1048576) :
    Calls Try.prog 61 #[.slice ao n ca, .int .i64 (left : Int)] w fun e w' => ((e = .returned (.int .i64 (-1)) ∧ ¬ n ≤ left) ∨ ∃ r : Nat, e = .returned (.int .i64 (r : Int)) ∧ r + n = left) ∧ w' = w := by
  by_cases c1 : n ≤ left
  · have q1 : decide ((left : Int) - (n : Int) < 0) = false := by simp; omega
    go_enter Try.func61, Try.ntmps61
    go_wp2
    go_ret
    exact ⟨.inr ⟨left - n, by show Ending.returned (.int .i64 ((left : Int) - (n : Int))) = _; rw [show ((left - n : Nat) : Int) = (left : Int) - (n : Int) by omega], by omega⟩, rfl⟩
  · have q1 : decide ((left : Int) - (n : Int) < 0) = true := by simp; omega
    have C2 := hide1 c1
    clear c1
    go_enter Try.func61, Try.ntmps61
    go_wp2
    go_ret
    exact ⟨.inl ⟨rfl, C2.out⟩, rfl⟩
end Go.Proofs.Ytcahaimefgkmiaa
namespace Go.Proofs.Ytcahaimefgkmiaa
open Go.RowKit
set_option linter.unusedVariables false

set_option maxRecDepth 100000 in
set_option maxHeartbeats 1000000 in
theorem specIn_any (ao : Option Addr) (L : List Int) (ca : Nat) (x : Int) (w : World) (hl : L.length ≤ 1048576) (hA : RdZ w ao L) :
    Calls Try.prog 50 #[.slice ao L.length ca, .int .i64 x] w fun e w' => e = .returned (.bool (decide (x ∈ L))) ∧ w = w' := by
  have HA := hide1 hA
  clear hA
  go_enter Try.func50, Try.ntmps50
  go_wp2
  go_loop [5] (fun iv => ∃ i : Nat, i ≤ L.length ∧ iv = .int .i64 (i : Int) ∧ Hid (∀ j (hj : j < i) (hl : j < L.length), L[j] ≠ x)) (fun iv => L.length - (intOf iv).toNat)
  case atStart => exact ⟨0, by omega, rfl, fun j hj _ => by omega⟩
  case round =>
    obtain ⟨i, hi, rfl, hn⟩ := hrel
    by_cases hlt : i < L.length
    · have k1 : (i : Int) < (L.length : Int) := by omega
      obtain ⟨b, o, rfl, hb, x1⟩ := HA.out i hlt
      by_cases c : L[i] = x
      · have HM := hide1 (show decide (x ∈ L) = true from decide_eq_true (c ▸ List.getElem_mem hlt))
        obtain ⟨z, hz, y1⟩ : ∃ z, (z == x) = true ∧ w.cell? ⟨b, o + i, none⟩ = some (.int .i64 z) := ⟨_, by simpa using c, x1⟩
        clear x1 c
        go_wp2
        go_ret
        exact ⟨by rw [HM.out]; rfl, rfl⟩
      · have HC := hide1 c
        obtain ⟨z, hz, y1⟩ : ∃ z, (z == x) = false ∧ w.cell? ⟨b, o + i, none⟩ = some (.int .i64 z) := ⟨_, by simpa using c, x1⟩
        clear x1 c
        go_wp2
        go_round
        case rel =>
          refine ⟨i + 1, by omega, by go_num, fun j hj hjl => ?_⟩
          by_cases e : j < i
          · exact hn.out j e hjl
          · obtain rfl : j = i := by omega
            exact HC.out
        case measure => simp [intOf]; omega
    · have HM := hide1 (show decide (x ∈ L) = false from decide_eq_false (fun h => by
        obtain ⟨j, hj, e⟩ := List.getElem_of_mem h
        exact hn.out j (by omega) hj e))
      go_wp2
      go_ret
      exact ⟨by rw [HM.out]; rfl, rfl⟩
end Go.Proofs.Ytcahaimefgkmiaa
namespace Go.Proofs.Ytcahaimefgkmiaa
open Go.RowKit
set_option linter.unusedVariables false

theorem cnt_set (l : Array Bool) (i : Nat) (h : l.getD i true = false) : (l.setIfInBounds i true).toList.count false + 1 = l.toList.count false := by
  have hi : i < l.size := by
    by_cases c : i < l.size
    · exact c
    · rw [Array.getD_eq_getD_getElem?, Array.getElem?_eq_none (by omega)] at h
      cases h
  have hv : l.toList[i]'(by simpa using hi) = false := by
    rw [Array.getD_eq_getD_getElem?, Array.getElem?_eq_getElem hi] at h
    simpa using h
  rw [Array.toList_setIfInBounds, List.count_set (by simpa using hi), hv]
  have hp : 0 < l.toList.count false := List.count_pos_iff.2 (hv ▸ List.getElem_mem _)
  rw [if_pos (by rfl), if_neg (by decide)]
  omega
theorem set_at {l : Array Bool} {i k : Nat} (h : (l.setIfInBounds i true).getD k false = true) (hk : k ≠ i) : l.getD k false = true := by
  rw [Array.getD_eq_getD_getElem?, Array.getElem?_setIfInBounds, if_neg (fun e => hk e.symm)] at h
  rwa [Array.getD_eq_getD_getElem?]
theorem set_get {l : Array Bool} {i k : Nat} : (l.setIfInBounds i true).getD k false = true → k = i ∨ l.getD k false = true := fun h => by
  by_cases c : k = i
  · exact .inl c
  · exact .inr (set_at h c)
section
variable {P : Program} {ops : Array Oper} {Q : Exit → Act → World → Prop} {md : Region.Mode}
theorem ready_at {l : Array Bool} {i : Nat} (h : i ∈ Region.ready md ops l) : i < ops.size ∧ l.getD i true = false ∧ ∃ o, ops[i]? = some o ∧ ∀ e ∈ o.after, Region.binds md e = true → l.getD e.on false = true := by
  unfold Region.ready at h
  rw [List.mem_filter, List.mem_range] at h
  obtain ⟨h1, h2⟩ := h
  rw [Bool.and_eq_true] at h2
  obtain ⟨h2, h3⟩ := h2
  refine ⟨h1, by simpa using h2, ?_⟩
  cases ho : ops[i]? with
  | none => rw [ho] at h3; cases h3
  | some o =>
    rw [ho] at h3
    refine ⟨o, rfl, fun e he hb => ?_⟩
    simp only [Option.map_some, Option.getD_some, Array.all_eq_true'] at h3
    have := h3 e he
    rw [hb] at this
    simpa using this
theorem ready_nil {l : Array Bool} (h : Region.ready md ops l = []) {i : Nat} {o : Oper} (ho : ops[i]? = some o) (hd : ∀ e ∈ o.after, l.getD e.on false = true) : l.getD i true = true := by
  have hi : i < ops.size := (Array.getElem?_eq_some_iff.1 ho).1
  cases c : l.getD i true with
  | true => rfl
  | false =>
    have : i ∈ Region.ready md ops l := by
      unfold Region.ready
      rw [List.mem_filter, List.mem_range]
      refine ⟨hi, ?_⟩
      rw [c, ho]
      simp only [Bool.not_false, Bool.true_and, Option.map_some, Option.getD_some, Array.all_eq_true']
      intro e he
      rw [hd e he]
      simp
    rw [h] at this
    cases this
theorem getD_tt {l : Array Bool} {i : Nat} (hi : i < l.size) (h : l.getD i true = true) : l.getD i false = true := by
  rw [Array.getD_eq_getD_getElem?, Array.getElem?_eq_getElem hi] at h ⊢
  simpa using h
/-- What holds at the beginning and is kept by each operation that may come up, holds at the end. -/
theorem wpAny_inv (I : Array Bool → Act → World → Prop)
    (hs : ∀ l a w i, l.size = ops.size → I l a w → i ∈ Region.ready md ops l → wpOp P ops Q i (fun a w => I (l.setIfInBounds i true) a w) a w)
    (hf : ∀ l a w, l.size = ops.size → I l a w → Region.ready md ops l = [] → Q .normal a w) :
    ∀ (fuel : Nat) (l : Array Bool) (a : Act) (w : World), l.size = ops.size → l.toList.count false ≤ fuel → I l a w → wpAny P md ops Q fuel l a w
  | 0, l, a, w, hl, hc, h => by
    have hn : Region.ready md ops l = [] := by
      cases hr : Region.ready md ops l with
      | nil => rfl
      | cons i t =>
        have hi : i ∈ Region.ready md ops l := by rw [hr]; simp
        obtain ⟨_, h2, _⟩ := ready_at hi
        have := cnt_set l i h2
        omega
    exact ⟨hn, hf l a w hl h hn⟩
  | fuel + 1, l, a, w, hl, hc, h => by
    refine ⟨fun hn => hf l a w hl h hn, fun i hi => ?_⟩
    obtain ⟨_, h2, _⟩ := ready_at hi
    have := cnt_set l i h2
    exact wpOp_mono (fun a w h' => wpAny_inv I hs hf fuel _ a w (by rw [Array.size_setIfInBounds]; exact hl) (by omega) h') (hs l a w i hl h hi)
end
section
variable {P : Program} {α : Type} {enc : α → List Value} {k : Nat} {t e : TypeId}
theorem own_leI {w : World} {base n ca : Nat} {a : Option Addr} {xs : List Value} (h : w.ownsRow base e k (.slice a n ca) n xs) : n ≤ ca := by
  rcases h.2 with ⟨hv, h0⟩ | ⟨g, cap, cur, hv, _, _, hc, _⟩
  · omega
  · injection hv with h1 h2 h3
    omega
/-- Others put behind an empty row that has no room: new memory alone. -/
theorem cpE_run (E : EncK enc k) (R : RowK P t e k) (w : World) (ty : TypeId) (g : Nat) (ao : Option Addr) (m c : Nat) (l : List α) (hm : l.length = m) (hA : RdG enc k w ao l) (hlen : m ≤ 1048576) :
    ∃ b' c' w', (Builtin.append_ #[t, t] ty #[.slice (some ⟨g, 0, none⟩) 0 0, .slice ao m c]).run P w = .ok (.slice b' m c') w' ∧ RdG enc k w' b' l ∧ Below w.heap.size w w' ∧ (∀ b o, b' = some ⟨b, o, none⟩ → 0 < m → w.heap.size ≤ b) ∧ m ≤ c' := by
  obtain ⟨i0, z, b, hi, hz0, hz1, hz2, hz3, hb⟩ := R.inf
  by_cases h0 : m = 0
  · subst h0
    have e0 : l = [] := List.eq_nil_of_length_eq_zero hm
    subst e0
    refine ⟨some ⟨g, 0, none⟩, 0, w, ?_, RdG.nil _ _, Below.refl _ _, fun _ _ _ h => by omega, Nat.le_refl _⟩
    cases ao <;> simp [Builtin.append_, run_underlying R.sl, sizeOf, typeInfo, hi, Builtin.lenOf, Builtin.firstCells, loadCells, loadCellsFrom, storeCells]
  · obtain ⟨g2, o, rfl, hg, _⟩ := hA 0 (by omega)
    have hl : (rowG enc l).length = m * k := by rw [rowG_length enc k E.len, hm]
    have hAt : ∀ j v, (rowG enc l)[j]? = some v → w.cell? ((⟨g2, o, none⟩ : Addr).add j) = some v := fun j v hj => by
      have hj' : j < m * k := by have := (List.getElem?_eq_some_iff.1 hj).1; omega
      have hk0 := R.pos
      have hd : j / k < l.length := by rw [hm]; exact Nat.div_lt_of_lt_mul (by rw [Nat.mul_comm]; exact hj')
      have hr : j % k < k := Nat.mod_lt _ hk0
      have hjk : j = j / k * k + j % k := by rw [Nat.mul_comm]; exact (Nat.div_add_mod j k).symm
      obtain ⟨b', o', e', _, h⟩ := hA (j / k) hd
      simp only [Option.some.injEq, Addr.mk.injEq, and_true] at e'
      obtain ⟨rfl, rfl⟩ := e'
      have h1 := h (j % k) hr
      have h2 := rowG_at enc k E.len l (j / k) (j % k) hd hr
      rw [← hjk] at h2
      rw [Addr.add_lit, show o + j = o + j / k * k + j % k by omega, h1, ← h2]
      exact hj
    have hbl : (0 + m) * b ≤ (0 + m) * 256 := Nat.mul_le_mul_left _ hb
    obtain ⟨v', w', h1, h2, h3⟩ := run_append_arg_grows (P := P) (w := w) t ty e i0 z k b R.sl hi hz0 hz1 hz2 hz3 R.pos ⟨g, 0, none⟩ 0 0 [] (by simp) (by simp) ⟨g2, o, none⟩ m c (rowG enc l) hl hAt (by omega) (by unfold maxLen; omega) (by omega)
    rw [Nat.zero_add, List.nil_append] at h2
    obtain ⟨b', c', rfl⟩ := form_of h2
    refine ⟨b', c', w', h1, rdG_of_own E.len h2 hm, gbelow h3 (fun q hq => by cases hq) (Nat.le_refl _), fun b2 o2 hb2 _ => (h2.lt b2 (by subst hb2; rfl)).1, own_leI h2⟩
end
end Go.Proofs.Ytcahaimefgkmiaa
namespace Go.Proofs.Ytcahaimefgkmiaa
open Go.RowKit
set_option linter.unusedVariables false

def okView (v : List Int) : Prop := (1 ≤ v.length ∧ v.length ≤ 4) ∧ (∀ x ∈ v, 1 ≤ x ∧ x ≤ 6) ∧ v.Nodup
instance (v : List Int) : Decidable (okView v) := by unfold okView; infer_instance
def okViews (l : List (List Int)) : Prop := (∀ v ∈ l, okView v) ∧ 1 ≤ l.length ∧ l.length ≤ 9
instance (l : List (List Int)) : Decidable (okViews l) := by unfold okViews; infer_instance
def vwTo (v : List Int) (i : Nat) : Prop := ∀ j (h : j < v.length), j < i → (1 ≤ v[j] ∧ v[j] ≤ 6) ∧ ¬ v[j] ∈ v.take j
theorem vwTo_next {v : List Int} {i : Nat} (h : vwTo v i) (hi : i < v.length) (h1 : 1 ≤ v[i] ∧ v[i] ≤ 6) (h2 : ¬ v[i] ∈ v.take i) : vwTo v (i + 1) := fun j hj hlt => by
  by_cases c : j < i
  · exact h j hj c
  · have : j = i := (by omega)
    subst this
    exact ⟨h1, h2⟩
theorem vwTo_all {v : List Int} (h : vwTo v v.length) : (∀ x ∈ v, 1 ≤ x ∧ x ≤ 6) ∧ v.Nodup := by
  refine ⟨fun x hx => ?_, ?_⟩
  · obtain ⟨j, hj, rfl⟩ := List.getElem_of_mem hx
    exact (h j hj hj).1
  · unfold List.Nodup
    rw [List.pairwise_iff_getElem]
    intro i j hi hj hij e
    refine (h j hj hj).2 ?_
    rw [← e]
    exact List.mem_take_iff_getElem.2 ⟨i, by omega, rfl⟩
theorem nodup_take {v : List Int} (h : v.Nodup) {i : Nat} (hi : i < v.length) : ¬ v[i] ∈ v.take i := fun e => by
  obtain ⟨j, hj, e2⟩ := List.mem_take_iff_getElem.1 e
  unfold List.Nodup at h
  rw [List.pairwise_iff_getElem] at h
  exact h j i (by omega) hi (by omega) e2
theorem in_yesV {x lo hi : Int} (h : lo ≤ x ∧ x ≤ hi) : (decide (lo ≤ x) && decide (x ≤ hi)) = true := by rw [Bool.and_eq_true, decide_eq_true_iff, decide_eq_true_iff]; exact h
theorem in_noV {x lo hi : Int} (h : ¬ (lo ≤ x ∧ x ≤ hi)) : (decide (lo ≤ x) && decide (x ≤ hi)) = false := by rw [Bool.and_eq_false_iff, decide_eq_false_iff_not, decide_eq_false_iff_not]; omega
theorem in_anyV (x lo hi : Int) (w : World) : Calls Try.prog 26 #[.int .i64 x, .int .i64 lo, .int .i64 hi] w fun e w' => e = .returned (.bool (decide (lo ≤ x) && decide (x ≤ hi))) ∧ w' = w := (in_any x lo hi w).mono (fun e w' h => ⟨h.1, h.2.symm⟩)
theorem RdZ.takeV {w : World} {a : Option Addr} {v : List Int} (h : RdZ w a v) (i : Nat) : RdZ w a (v.take i) := fun j hj => by
  have hj2 : j < v.length := by rw [List.length_take] at hj; omega
  obtain ⟨b, o, h1, h2, h3⟩ := h j hj2
  exact ⟨b, o, h1, h2, by rw [h3, List.getElem_take]⟩
/-- A view in memory. -/
structure Vw where
  a : Option Addr
  c : Nat
  l : List Int
def vwC (x : Vw) : List Value := [.slice x.a x.l.length x.c]
theorem encVw : EncK vwC 1 := ⟨fun _ => rfl, fun x u hu => by simp only [vwC, List.mem_cons, List.not_mem_nil, or_false] at hu; rcases hu with rfl; rfl⟩
/-- A row of views that is read. -/
structure RdVs (w : World) (a : Option Addr) (L : List Vw) : Prop where
  r : RdG vwC 1 w a L
  v : ∀ x ∈ L, RdZ w x.a x.l
  c : ∀ x ∈ L, x.l.length ≤ x.c
theorem RdVs.later {w w' : World} {a : Option Addr} {L : List Vw} (h : RdVs w a L) (hb : Below w.heap.size w w') : RdVs w' a L := ⟨h.r.later hb, fun x hx => (h.v x hx).later hb, h.c⟩
end Go.Proofs.Ytcahaimefgkmiaa
