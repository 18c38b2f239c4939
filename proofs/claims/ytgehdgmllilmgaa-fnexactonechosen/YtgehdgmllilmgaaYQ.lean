/- Rows of texts: comparing, marking, holding, copying and sizing them, by the statements' functions. -/
import Derived.Test.YtgehdgmllilmgaaYA
import Derived.Deep.SlicePairs
import Derived.Lib.SmallJoins
import Derived.ProofKit
import Derived.OpenShut
namespace Go.Proofs.Ytgehdgmllilmgaa
open Go.RowKit

theorem qc_length (l : List ByteArray) : (sc l).length = l.length := by simp [sc]
theorem qc_get (l : List ByteArray) (i : Nat) (h : i < l.length) : (sc l)[i]? = some (.string l[i]) := by simp [sc, h]
theorem qc_set (l : List ByteArray) (i : Nat) (s : ByteArray) : sc (l.set i s) = (sc l).set i (.string s) := by simp [sc, List.map_set]
theorem qc_one (l : List ByteArray) : ∀ u ∈ sc l, u.oneCell' = true := by
  intro u hu; obtain ⟨_, _, rfl⟩ := List.mem_map.1 hu; rfl
theorem textEq {a b : ByteArray} (h : a.toList = b.toList) : a = b := by
  rw [ByteArray.toList_eq, ByteArray.toList_eq] at h
  cases a; cases b; simp at h; simp [h]
theorem text_ne {s t : ByteArray} (h : ¬ s = t) : (s.toList != t.toList) = true ∧ (s.toList == t.toList) = false := by
  have : ¬ s.toList = t.toList := fun e => h (textEq e)
  exact ⟨by simpa using this, by simpa using this⟩
theorem text_eq {s t : ByteArray} (h : s = t) : (s.toList != t.toList) = false ∧ (s.toList == t.toList) = true := by simp [h]
/-- A row that reads as these texts. -/
def RdQ (w : World) (a : Option Addr) (l : List ByteArray) : Prop := ∀ i (h : i < l.length), ∃ b o, a = some ⟨b, o, none⟩ ∧ b < w.heap.size ∧ w.cell? ⟨b, o + i, none⟩ = some (.string l[i])
theorem RdQ.later {w w' : World} {a : Option Addr} {l : List ByteArray} (h : RdQ w a l) (hb : Below w.heap.size w w') : RdQ w' a l := by
  intro i hi
  obtain ⟨b, o, ha, hg, hc⟩ := h i hi
  exact ⟨b, o, ha, Nat.lt_of_lt_of_le hg hb.size, (hb.cell (p := ⟨b, o + i, none⟩) hg).trans hc⟩
theorem RdQ.below {w w' : World} {a : Option Addr} {l : List ByteArray} {B : Nat} (h : RdQ w a l) (hb : Below B w w') (hB : ∀ b f, a = some ⟨b, f, none⟩ → l ≠ [] → b < B) : RdQ w' a l := by
  intro i hi
  obtain ⟨b, o, ha, hg, hc⟩ := h i hi
  exact ⟨b, o, ha, Nat.lt_of_lt_of_le hg hb.size, (hb.cell (p := ⟨b, o + i, none⟩) (hB b o ha (fun e => by subst e; simp at hi))).trans hc⟩
theorem RdQ.inB {w : World} {a : Option Addr} {l : List ByteArray} {B : Nat} (h : RdQ w a l) (hB : w.heap.size ≤ B) : ∀ b f, a = some ⟨b, f, none⟩ → l ≠ [] → b < B := by
  intro b f ha hne
  obtain ⟨b', f', ha', hg, _⟩ := h 0 (List.length_pos_iff.2 hne)
  rw [ha] at ha'
  simp at ha'
  omega
theorem RdQ.grown {w w' : World} {a : Option Addr} {l : List ByteArray} {r : Option Nat} (h : RdQ w a l) (hb : w.grownBy w' r) (hne : ∀ b f, a = some ⟨b, f, none⟩ → r ≠ some b) : RdQ w' a l := by
  intro i hi
  obtain ⟨b, o, ha, hg, hc⟩ := h i hi
  exact ⟨b, o, ha, Nat.lt_of_lt_of_le hg hb.size, (World.cell?_of_block (w := w) (hb.block b hg (fun e => hne b o ha e.symm))).trans hc⟩
theorem RdQ.nil (w : World) (a : Option Addr) : RdQ w a [] := fun i hi => by simp at hi
theorem rdQ_of_own {w : World} {base n c : Nat} {e : TypeId} {ao : Option Addr} {l : List ByteArray} (h : w.ownsRow base e 1 (.slice ao n c) n (sc l)) : RdQ w ao l := by
  intro i hi
  have hl : l.length = n := by have := h.1; rw [qc_length] at this; omega
  rcases h.2 with ⟨hv, h0⟩ | ⟨g, cap, cur, hv, _, hh, _⟩
  · omega
  · have hg : (Value.slice ao n c).ownBlock = some g := by rw [hv]; rfl
    simp only [Value.slice.injEq] at hv
    refine ⟨g, 0, hv.1, (Array.getElem?_eq_some_iff.1 hh).1, ?_⟩
    have := h.cells hg i _ (qc_get l i hi)
    rw [Addr.add_lit] at this
    exact this

set_option maxRecDepth 100000 in
set_option maxHeartbeats 400000 in
theorem eqTextS_any (a b : Option Addr) (l m : List ByteArray) (ca cb : Nat) (w : World) (hl : l.length ≤ 1048576) (ha : RdQ w a l) (hb : RdQ w b m) :
    Calls Try.prog 50 #[.slice a l.length ca, .slice b m.length cb] w fun e w' => ∃ x : Bool, e = .returned (.bool x) ∧ (x = true ↔ l = m) ∧ Below w.heap.size w w' := by
  by_cases c0 : l.length = m.length
  · have q0 : ((l.length : Int) != (m.length : Int)) = false := by simp [c0]
    have HA := hide1 ha
    have HB := hide1 hb
    have C0 := hide1 c0
    clear ha hb c0
    go_enter Try.func50, Try.ntmps50
    go_wp2
    go_loopw [5] (fun iv wr => ∃ i : Nat, i ≤ l.length ∧ iv = .int .i64 (i : Int) ∧ Hid (∀ j, j < i → l[j]? = m[j]?) ∧ Below w.heap.size w wr) (fun iv _ => l.length - (intOf iv).toNat)
    case atStart => exact ⟨0, by omega, rfl, fun j hj => by omega, Below.refl _ _⟩
    case round =>
      obtain ⟨i, hi, rfl, hsame, hbel⟩ := hrel
      by_cases hlt : i < l.length
      · have hltm : i < m.length := by have := C0.out; omega
        obtain ⟨g, o, rfl, hg, h1⟩ := HA.out i hlt
        obtain ⟨g', o', rfl, hg', h2⟩ := HB.out i hltm
        have x0 := (hbel.cell (p := ⟨g, o + i, none⟩) hg).trans h1
        have y0 := (hbel.cell (p := ⟨g', o' + i, none⟩) hg').trans h2
        clear h1 h2
        have k1 : (i : Int) < (l.length : Int) := by omega
        have k2 : (i : Int) < (m.length : Int) := by omega
        have e1 := hide1 (List.getElem?_eq_getElem hlt)
        have e2 := hide1 (List.getElem?_eq_getElem hltm)
        generalize l[i] = s at *
        generalize m[i] = t at *
        by_cases ce : s = t
        · obtain ⟨q, q'⟩ := text_eq ce
          have CE := hide1 ce
          clear ce
          go_wp2_with fail
          go_quiet (fail)
          go_wp2
          go_roundw
          case rel =>
            refine ⟨i + 1, by omega, by go_num, fun j hj => ?_, below_drewN hbel _⟩
            by_cases hj2 : j < i
            · exact hsame.out j hj2
            · rw [show j = i by omega, e1.out, e2.out, CE.out]
          case measure => simp [intOf]; omega
        · obtain ⟨q, q'⟩ := text_ne ce
          have CE := hide1 ce
          clear ce
          go_wp2_with fail
          go_quiet (fail)
          go_wp2
          go_ret
          refine ⟨false, rfl, ⟨(fun h => by cases h), fun h => ?_⟩, below_drewN hbel _⟩
          rw [h] at e1
          exact absurd (Option.some.inj (e1.out.symm.trans e2.out)) CE.out
      · go_wp2
        go_ret
        refine ⟨true, rfl, ⟨fun _ => ?_, fun _ => rfl⟩, hbel⟩
        refine List.ext_getElem? fun j => ?_
        by_cases hj : j < i
        · exact hsame.out j hj
        · have := C0.out
          rw [List.getElem?_eq_none (by omega), List.getElem?_eq_none (by omega)]
  · have q0 : ((l.length : Int) != (m.length : Int)) = true := by simp; omega
    clear ha hb
    go_enter Try.func50, Try.ntmps50
    go_wp2
    go_ret
    exact ⟨false, rfl, by simp; intro h; exact c0 (by rw [h]), Below.refl _ _⟩

/-- Marks: texts from k on. -/
def patQ (k n : Nat) : List ByteArray := (List.range n).map fun i => mkT (k + i)
theorem patQ_length (k n : Nat) : (patQ k n).length = n := by simp [patQ]
theorem patQ_get (k n i : Nat) (h : i < n) : (patQ k n)[i]'(by rw [patQ_length]; exact h) = mkT (k + i) := by simp [patQ]
theorem patQ_fill (k n i : Nat) (l : List ByteArray) (hl : l.length = n) (hi : i < n) : ((patQ k n).take i ++ l.drop i).set i (mkT (k + i)) = (patQ k n).take (i + 1) ++ l.drop (i + 1) := by
  have ht : ((patQ k n).take i).length = i := by rw [List.length_take, patQ_length]; omega
  rw [List.set_append_right _ _ (by omega), ht, Nat.sub_self, List.drop_eq_getElem_cons (by omega), List.set_cons_zero, List.take_succ_eq_append_getElem (by rw [patQ_length]; exact hi), patQ_get k n i hi, List.append_assoc]
  rfl

set_option maxRecDepth 100000 in
set_option maxHeartbeats 400000 in
theorem markTextS_any (ao : Option Addr) (c k base : Nat) (l : List ByteArray) (w : World) (hn : l.length ≤ 1048576) (hk : k ≤ 67108864) (hk0 : 0 < k) (hown : w.ownsRow base 9 1 (.slice ao l.length c) l.length (sc l)) :
    Calls Try.prog 54 #[.slice ao l.length c, .int .i64 (k : Int)] w fun e w' => e = .returned (.int .i64 ((k : Int) + (l.length : Int))) ∧ w'.ownsRow base 9 1 (.slice ao l.length c) l.length (sc (patQ k l.length)) ∧ w.grownBy w' (Value.slice ao l.length c).ownBlock := by
  obtain ⟨n, hln⟩ : ∃ n, l.length = n := ⟨_, rfl⟩
  rw [hln] at hown hn ⊢
  rcases hown.2 with ⟨hv, h0⟩ | ⟨g, cap, cur, hv, hbg, hgg, _⟩
  · subst h0
    have e0 : l = [] := List.eq_nil_of_length_eq_zero hln
    simp only [Value.slice.injEq] at hv
    obtain ⟨rfl, _, rfl⟩ := hv
    have HO := hide1 hown
    clear hown hln
    go_enter Try.func54, Try.ntmps54
    go_wp2
    refine wp_loop_rounds 1 ?_
    rw [rounds_succ]
    go_wp2
    go_ret
    exact ⟨by simp, by rw [e0] at HO; exact HO.out, gnew (Below.refl _ _)⟩
  · simp only [Value.slice.injEq] at hv
    obtain ⟨rfl, _, rfl⟩ := hv
    have hgl := (Array.getElem?_eq_some_iff.1 hgg).1
    have HO := hide1 hown
    have HL := hide1 hln
    clear hgg hown hln
    go_enter Try.func54, Try.ntmps54
    go_wp2
    go_loopw [1, 5] (fun kv iv wr => ∃ i : Nat, i ≤ n ∧ iv = .int .i64 (i : Int) ∧ kv = .int .i64 ((k : Int) + (i : Int)) ∧ Hid (wr.ownsRow base 9 1 (.slice (some ⟨g, 0, none⟩) n c) n (sc ((patQ k n).take i ++ l.drop i))) ∧ Hid (w.grownBy wr (some g))) (fun _ iv _ => n - (intOf iv).toNat)
    case atStart => exact ⟨0, by omega, rfl, by simp, by simpa using HO, gnew (Below.refl _ _)⟩
    case round =>
      obtain ⟨i, hi, rfl, rfl, HO1, HG⟩ := hrel
      by_cases hlt : i < n
      · have k1 : (i : Int) < (n : Int) := by omega
        have cc := fun w => markText_any (k + i) w (by omega) (by omega)
        obtain ⟨z, hz⟩ : ∃ z, z = mkT (k + i) := ⟨_, rfl⟩
        rw [← hz] at cc
        have CC := hide1 cc
        have Z := hide1 hz
        have hgw : g < wr.heap.size := Nat.lt_of_lt_of_le hgl HG.out.size
        clear hz cc
        go_wp2_with (go_at_call 62; refine (CC.out _).mono ?_; rintro e w2 ⟨rfl, hb2⟩; have HW := hide1 (own_kept HO1.out hb2); obtain ⟨u, x1⟩ := own_some HW.out i (by omega); have x2 := HW.out.frozenAt i; have HG2 := hide1 (gtrans HG.out (gnew hb2)); clear hb2)
        go_roundw
        case rel =>
          have st := (World.ownsRow.stored HW.out i (.string z)).1
          rw [← qc_set, Z.out, patQ_fill k n i l HL.out hlt] at st
          exact ⟨i + 1, by omega, by go_num, by go_num, (by rw [Z.out]; exact st), gset HG2.out i _⟩
        case measure => simp [intOf]; omega
      · obtain rfl : i = n := by omega
        go_wp2
        go_ret
        refine ⟨rfl, ?_, HG.out⟩
        have := HO1.out
        rw [List.drop_eq_nil_of_le (by have := HL.out; omega), List.append_nil, List.take_of_length_le (by rw [patQ_length]; omega)] at this
        exact this

set_option maxRecDepth 100000 in
set_option maxHeartbeats 400000 in
theorem heldTextS_any (ao : Option Addr) (n ca k : Nat) (w : World) (hn : n ≤ 1048576) (hk : k ≤ 67108864) (hk0 : 0 < k) (hA : RdQ w ao (patQ k n)) :
    Calls Try.prog 58 #[.slice ao n ca, .int .i64 (k : Int)] w fun e w' => e = .returned (.int .i64 ((k : Int) + (n : Int))) ∧ Below w.heap.size w w' := by
  have HA := hide1 hA
  clear hA
  go_enter Try.func58, Try.ntmps58
  go_wp2
  go_loopw [1, 5] (fun kv iv wr => ∃ i : Nat, i ≤ n ∧ iv = .int .i64 (i : Int) ∧ kv = .int .i64 ((k : Int) + (i : Int)) ∧ Below w.heap.size w wr) (fun _ iv _ => n - (intOf iv).toNat)
  case atStart => exact ⟨0, by omega, rfl, by simp, Below.refl _ _⟩
  case round =>
    obtain ⟨i, hi, rfl, rfl, hbel⟩ := hrel
    have hbs := hbel.size
    by_cases hlt : i < n
    · obtain ⟨g, o, rfl, hg, hc⟩ := HA.out i (by rw [patQ_length]; exact hlt)
      rw [patQ_get k n i hlt] at hc
      have x1 : wr.cell? ⟨g, o + i, none⟩ = some (.string (mkT (k + i))) := (hbel.cell (p := ⟨g, o + i, none⟩) hg).trans hc
      clear hc
      have k1 : (i : Int) < (n : Int) := by omega
      have k2 : (0 : Int) ≤ (i : Int) := by omega
      have cc := fun w => markText_any (k + i) w (by omega) (by omega)
      obtain ⟨z, hz⟩ : ∃ z, z = mkT (k + i) := ⟨_, rfl⟩
      rw [← hz] at cc x1
      have CC : Hid _ := cc
      clear hz cc
      have hgr : g < wr.heap.size := Nat.lt_of_lt_of_le hg hbs
      go_wp2_with fail
      go_region_held3 (fun w' => w'.cell? ⟨g, o + i, none⟩ = some (.string z)) (first | go_keep | exact (hb2.cell (p := ⟨g, o + i, none⟩) hgr).trans x1) ((go_at_call 62; refine (CC.out _).mono ?_; rintro e w2 ⟨rfl, hb2⟩))
      all_goals
        go_wp2
        go_roundw
        case rel => exact ⟨i + 1, by omega, by go_num, by go_num, hbel.drew.trans (hb2.mono hbs)⟩
        case measure => simp [intOf]; omega
    · obtain rfl : i = n := by omega
      go_wp2
      go_ret
      exact ⟨rfl, hbel⟩

theorem Try.infoQ : (Try.prog.info? 9).map (fun i => (i.zero, i.size, i.bytes)) = some (some (.string ⟨#[]⟩), 1, 16) := by kernel_rfl
theorem madeQ : ∀ n : Nat, (madeCells (Value.string ⟨#[]⟩).cells (n * 1)).toList = sc (List.replicate n ⟨#[]⟩) := by
  intro n
  refine List.ext_getElem? fun j => ?_
  by_cases hj : j < n
  · rw [qc_get _ j (by simpa using hj)]
    simp only [madeCells, Array.getElem?_toList]
    rw [Array.getElem?_map, Array.getElem?_range, if_pos (by omega)]
    simp only [Option.map_some, List.getElem_replicate]
    have : j % 1 = 0 := by omega
    show some ((#[Value.string ⟨#[]⟩] : Array Value)[j % 1]!) = _
    rw [this]; rfl
  · rw [List.getElem?_eq_none (by simp [madeCells]; omega), List.getElem?_eq_none (by rw [qc_length]; simp; omega)]
theorem fill_setQ (l : List ByteArray) (z s : ByteArray) (i : Nat) (hi : i < l.length) (hs : l[i] = s) : (l.take i ++ List.replicate (l.length - i) z).set i s = l.take (i + 1) ++ List.replicate (l.length - (i + 1)) z := by
  have hl : (l.take i).length = i := by simp; omega
  rw [List.set_append_right _ _ (by omega), hl, Nat.sub_self, show l.length - i = (l.length - (i + 1)) + 1 by omega, List.replicate_succ, List.set_cons_zero, List.take_succ_eq_append_getElem hi, hs, List.append_assoc]
  rfl

set_option maxRecDepth 100000 in
set_option maxHeartbeats 400000 in
theorem toTextS_any (ao : Option Addr) (l : List ByteArray) (ca : Nat) (w : World) (hl : l.length ≤ 1048576) (hA : RdQ w ao l) :
    Calls Try.prog 70 #[.slice ao l.length ca] w fun e w' => ∃ b c, e = .returned (.slice b l.length c) ∧ w'.ownsRow w.heap.size 9 1 (.slice b l.length c) l.length (sc l) ∧ Below w.heap.size w w' := by
  obtain ⟨i0, hi, hz0, hz1, hz2⟩ := info_parts Try.infoQ
  have HA := hide1 hA
  clear hA
  go_enter Try.func70, Try.ntmps70
  go_wp2_with (at_make; (refine wpList_make_full _ rfl _ _ 30 rfl w.heap.size 9 i0 (.string ⟨#[]⟩) 1 Try.underlying30 hi hz0 hz1 _ _ _ _ l.length rfl rfl rfl rfl (by rw [hz2]; omega) (by unfold maxLen; omega) (Nat.le_refl _) ?_; intro w0 hown0 hg0))
  rw [madeQ] at hown0
  have HO := hide1 hown0
  clear hown0
  go_loopw [4] (fun iv wr => ∃ i : Nat, i ≤ l.length ∧ iv = .int .i64 (i : Int) ∧ wr.ownsRow w.heap.size 9 1 (.slice (some ⟨w.heap.size, 0, none⟩) l.length l.length) l.length (sc (l.take i ++ List.replicate (l.length - i) ⟨#[]⟩)) ∧ Below w.heap.size w wr) (fun iv _ => l.length - (intOf iv).toNat)
  case atStart => exact ⟨0, by omega, rfl, by simpa using HO.out, Below.grown (Below.refl _ _) hg0 (Nat.le_refl _) (by intro k hk; cases hk)⟩
  case round =>
    obtain ⟨i, hi, rfl, hown, hbel⟩ := hrel
    by_cases hlt : i < l.length
    · have k1 : (i : Int) < (l.length : Int) := by omega
      obtain ⟨b, o, rfl, hb, h1⟩ := HA.out i hlt
      have x0 := (hbel.cell (p := ⟨b, o + i, none⟩) hb).trans h1
      obtain ⟨s, hs⟩ : ∃ s, l[i] = s := ⟨_, rfl⟩
      rw [hs] at x0
      have HS := hide1 hs
      clear h1 hs
      obtain ⟨u, y0⟩ := own_some hown i (by omega)
      have y1 := hown.frozenAt i
      have HO1 := hide1 hown
      clear hown
      go_wp2
      go_roundw
      case rel =>
        have st := (World.ownsRow.stored HO1.out i (.string s)).1
        rw [← qc_set, fill_setQ l ⟨#[]⟩ s i hlt HS.out] at st
        exact ⟨i + 1, by omega, by go_num, st, hbel.setCell (p := ⟨w.heap.size, i, none⟩) (Nat.le_refl _) _⟩
      case measure => simp [intOf]; omega
    · obtain rfl : i = l.length := by omega
      go_wp2
      go_ret
      exact ⟨_, _, rfl, by simpa using hown, hbel⟩

set_option maxRecDepth 100000 in
set_option maxHeartbeats 400000 in
theorem szTextS_any (ao : Option Addr) (l : List ByteArray) (ca left : Nat) (w : World) (hn : l.length ≤ 9223372036854775807) (hs : ∀ i (h : i < l.length), l[i].size ≤ 9223372036854775807) (hl : left ≤ 1048576) (hA : RdQ w ao l) :
    Calls Try.prog 66 #[.slice ao l.length ca, .int .i64 (left : Int)] w fun e w' => (e = .returned (.int .i64 (-1)) ∨ ∃ r : Nat, e = .returned (.int .i64 (r : Int)) ∧ r ≤ left ∧ l.length ≤ left ∧ ∀ i (h : i < l.length), l[i].size ≤ left) ∧ w' = w := by
  by_cases c1 : l.length ≤ left
  · have q1 : decide ((left : Int) - (l.length : Int) < 0) = false := by simp; omega
    have HA := hide1 hA
    have HS := hide1 hs
    clear hA hs
    go_enter Try.func66, Try.ntmps66
    go_wp2
    go_loop [1, 5] (fun lv iv => ∃ (i r : Nat), i ≤ l.length ∧ r ≤ left ∧ iv = .int .i64 (i : Int) ∧ lv = .int .i64 (r : Int) ∧ Hid (∀ j (h : j < l.length), j < i → l[j].size ≤ left)) (fun _ iv => l.length - (intOf iv).toNat)
    case atStart => exact ⟨0, left - l.length, by omega, by omega, rfl, by show Value.int .i64 ((left : Int) - (l.length : Int)) = _; rw [show ((left - l.length : Nat) : Int) = (left : Int) - (l.length : Int) by omega], fun j h hj => by omega⟩
    case round =>
      obtain ⟨i, r, hi, hr, rfl, rfl, hall⟩ := hrel
      by_cases hlt : i < l.length
      · have k1 : (i : Int) < (l.length : Int) := by omega
        obtain ⟨b, o, rfl, hb, h1⟩ := HA.out i hlt
        have hsz := HS.out i hlt
        obtain ⟨s, hs⟩ : ∃ s, l[i] = s := ⟨_, rfl⟩
        rw [hs] at h1 hsz
        have HSS := hide1 hs
        clear hs
        by_cases c2 : s.size ≤ r
        · have q2 : decide ((r : Int) - (s.size : Int) < 0) = false := by simp; omega
          go_wp2
          go_round
          case rel =>
            refine ⟨i + 1, r - s.size, by omega, by omega, by go_num, by show Value.int .i64 ((r : Int) - (s.size : Int)) = _; rw [show ((r - s.size : Nat) : Int) = (r : Int) - (s.size : Int) by omega], fun j h hj => ?_⟩
            by_cases hj2 : j < i
            · exact hall.out j h hj2
            · obtain rfl : j = i := by omega
              rw [HSS.out]; omega
          case measure => simp [intOf]; omega
        · have q2 : decide ((r : Int) - (s.size : Int) < 0) = true := by simp; omega
          go_wp2
          go_ret
          exact ⟨.inl rfl, rfl⟩
      · obtain rfl : i = l.length := by omega
        have C1 := hide1 c1
        have HR := hide1 hr
        clear c1 hr
        go_wp2
        go_ret
        exact ⟨.inr ⟨r, rfl, HR.out, C1.out, fun j h => hall.out j h h⟩, rfl⟩
  · have q1 : decide ((left : Int) - (l.length : Int) < 0) = true := by simp; omega
    have C2 := hide1 c1
    clear c1 hA
    go_enter Try.func66, Try.ntmps66
    go_wp2
    go_ret
    exact ⟨.inl rfl, rfl⟩
end Go.Proofs.Ytgehdgmllilmgaa
namespace Go.Proofs.Ytgehdgmllilmgaa
open Go.RowKit

/-- The cells of a row of whole numbers. -/
def iz (l : List Int) : List Value := l.map fun n => Value.int .i64 n
theorem iz_length (l : List Int) : (iz l).length = l.length := by simp [iz]
theorem iz_append (l m : List Int) : iz (l ++ m) = iz l ++ iz m := by simp [iz]
theorem iz_get (l : List Int) (i : Nat) (h : i < l.length) : (iz l)[i]? = some (.int .i64 l[i]) := by simp [iz, h]
theorem iz_set (l : List Int) (i : Nat) (n : Int) : iz (l.set i n) = (iz l).set i (.int .i64 n) := by simp [iz, List.map_set]
theorem iz_one (l : List Int) : ∀ u ∈ iz l, u.oneCell' = true := by
  intro u hu; obtain ⟨_, _, rfl⟩ := List.mem_map.1 hu; rfl
/-- A row that reads as these numbers. -/
def RdZ (w : World) (a : Option Addr) (l : List Int) : Prop := ∀ i (h : i < l.length), ∃ b o, a = some ⟨b, o, none⟩ ∧ b < w.heap.size ∧ w.cell? ⟨b, o + i, none⟩ = some (.int .i64 l[i])
theorem RdZ.later {w w' : World} {a : Option Addr} {l : List Int} (h : RdZ w a l) (hb : Below w.heap.size w w') : RdZ w' a l := by
  intro i hi
  obtain ⟨b, o, ha, hg, hc⟩ := h i hi
  exact ⟨b, o, ha, Nat.lt_of_lt_of_le hg hb.size, (hb.cell (p := ⟨b, o + i, none⟩) hg).trans hc⟩
theorem RdZ.below {w w' : World} {a : Option Addr} {l : List Int} {B : Nat} (h : RdZ w a l) (hb : Below B w w') (hB : ∀ b f, a = some ⟨b, f, none⟩ → l ≠ [] → b < B) : RdZ w' a l := by
  intro i hi
  obtain ⟨b, o, ha, hg, hc⟩ := h i hi
  exact ⟨b, o, ha, Nat.lt_of_lt_of_le hg hb.size, (hb.cell (p := ⟨b, o + i, none⟩) (hB b o ha (fun e => by subst e; simp at hi))).trans hc⟩
theorem RdZ.inB {w : World} {a : Option Addr} {l : List Int} {B : Nat} (h : RdZ w a l) (hB : w.heap.size ≤ B) : ∀ b f, a = some ⟨b, f, none⟩ → l ≠ [] → b < B := by
  intro b f ha hne
  obtain ⟨b', f', ha', hg, _⟩ := h 0 (List.length_pos_iff.2 hne)
  rw [ha] at ha'
  simp at ha'
  omega
theorem rdZ_of_own {w : World} {base n c : Nat} {e : TypeId} {ao : Option Addr} {l : List Int} (h : w.ownsRow base e 1 (.slice ao n c) n (iz l)) : RdZ w ao l := by
  intro i hi
  have hl : l.length = n := by have := h.1; rw [iz_length] at this; omega
  rcases h.2 with ⟨hv, h0⟩ | ⟨g, cap, cur, hv, _, hh, _⟩
  · omega
  · have hg : (Value.slice ao n c).ownBlock = some g := by rw [hv]; rfl
    simp only [Value.slice.injEq] at hv
    refine ⟨g, 0, hv.1, (Array.getElem?_eq_some_iff.1 hh).1, ?_⟩
    have := h.cells hg i _ (iz_get l i hi)
    rw [Addr.add_lit] at this
    exact this

set_option maxRecDepth 100000 in
set_option maxHeartbeats 400000 in
theorem eqIntS_any (a b : Option Addr) (l m : List Int) (ca cb : Nat) (w : World) (hl : l.length ≤ 1048576) (ha : RdZ w a l) (hb : RdZ w b m) :
    Calls Try.prog 29 #[.slice a l.length ca, .slice b m.length cb] w fun e w' => ∃ x : Bool, e = .returned (.bool x) ∧ (x = true ↔ l = m) ∧ Below w.heap.size w w' := by
  by_cases c0 : l.length = m.length
  · have q0 : ((l.length : Int) != (m.length : Int)) = false := by simp [c0]
    have HA := hide1 ha
    have HB := hide1 hb
    have C0 := hide1 c0
    clear ha hb c0
    go_enter Try.func29, Try.ntmps29
    go_wp2
    go_loopw [5] (fun iv wr => ∃ i : Nat, i ≤ l.length ∧ iv = .int .i64 (i : Int) ∧ Hid (∀ j, j < i → l[j]? = m[j]?) ∧ Below w.heap.size w wr) (fun iv _ => l.length - (intOf iv).toNat)
    case atStart => exact ⟨0, by omega, rfl, fun j hj => by omega, Below.refl _ _⟩
    case round =>
      obtain ⟨i, hi, rfl, hsame, hbel⟩ := hrel
      by_cases hlt : i < l.length
      · have hltm : i < m.length := by have := C0.out; omega
        obtain ⟨g, o, rfl, hg, h1⟩ := HA.out i hlt
        obtain ⟨g', o', rfl, hg', h2⟩ := HB.out i hltm
        have x0 := (hbel.cell (p := ⟨g, o + i, none⟩) hg).trans h1
        have y0 := (hbel.cell (p := ⟨g', o' + i, none⟩) hg').trans h2
        clear h1 h2
        have k1 : (i : Int) < (l.length : Int) := by omega
        have k2 : (i : Int) < (m.length : Int) := by omega
        have e1 := hide1 (List.getElem?_eq_getElem hlt)
        have e2 := hide1 (List.getElem?_eq_getElem hltm)
        generalize l[i] = s at *
        generalize m[i] = t at *
        by_cases ce : s = t
        · have q : (s != t) = false := by simp [ce]
          have CE := hide1 ce
          clear ce
          go_wp2_with fail
          go_quiet (fail)
          go_wp2
          go_roundw
          case rel =>
            refine ⟨i + 1, by omega, by go_num, fun j hj => ?_, below_drewN hbel _⟩
            by_cases hj2 : j < i
            · exact hsame.out j hj2
            · rw [show j = i by omega, e1.out, e2.out, CE.out]
          case measure => simp [intOf]; omega
        · have q : (s != t) = true := by simp [ce]
          have CE := hide1 ce
          clear ce
          go_wp2_with fail
          go_quiet (fail)
          go_wp2
          go_ret
          refine ⟨false, rfl, ⟨(fun h => by cases h), fun h => ?_⟩, below_drewN hbel _⟩
          rw [h] at e1
          exact absurd (Option.some.inj (e1.out.symm.trans e2.out)) CE.out
      · go_wp2
        go_ret
        refine ⟨true, rfl, ⟨fun _ => ?_, fun _ => rfl⟩, hbel⟩
        refine List.ext_getElem? fun j => ?_
        by_cases hj : j < i
        · exact hsame.out j hj
        · have := C0.out
          rw [List.getElem?_eq_none (by omega), List.getElem?_eq_none (by omega)]
  · have q0 : ((l.length : Int) != (m.length : Int)) = true := by simp; omega
    clear ha hb
    go_enter Try.func29, Try.ntmps29
    go_wp2
    go_ret
    exact ⟨false, rfl, by simp; intro h; exact c0 (by rw [h]), Below.refl _ _⟩

/-- Marks: numbers from k on. -/
def patZ (k n : Nat) : List Int := (List.range n).map fun i => ((k + i : Nat) : Int)
theorem patZ_length (k n : Nat) : (patZ k n).length = n := by simp [patZ]
theorem patZ_get (k n i : Nat) (h : i < n) : (patZ k n)[i]'(by rw [patZ_length]; exact h) = (k : Int) + (i : Int) := by simp [patZ]
theorem patZ_fill (k n i : Nat) (l : List Int) (hl : l.length = n) (hi : i < n) : ((patZ k n).take i ++ l.drop i).set i ((k : Int) + (i : Int)) = (patZ k n).take (i + 1) ++ l.drop (i + 1) := by
  have ht : ((patZ k n).take i).length = i := by rw [List.length_take, patZ_length]; omega
  rw [List.set_append_right _ _ (by omega), ht, Nat.sub_self, List.drop_eq_getElem_cons (by omega), List.set_cons_zero, List.take_succ_eq_append_getElem (by rw [patZ_length]; exact hi), patZ_get k n i hi, List.append_assoc]
  rfl

set_option maxRecDepth 100000 in
set_option maxHeartbeats 400000 in
theorem markIntS_any (ao : Option Addr) (c k base : Nat) (l : List Int) (w : World) (hn : l.length ≤ 1048576) (hk : k ≤ 67108864) (hown : w.ownsRow base 3 1 (.slice ao l.length c) l.length (iz l)) :
    Calls Try.prog 32 #[.slice ao l.length c, .int .i64 (k : Int)] w fun e w' => e = .returned (.int .i64 ((k : Int) + (l.length : Int))) ∧ w'.ownsRow base 3 1 (.slice ao l.length c) l.length (iz (patZ k l.length)) ∧ w.grownBy w' (Value.slice ao l.length c).ownBlock := by
  obtain ⟨n, hln⟩ : ∃ n, l.length = n := ⟨_, rfl⟩
  rw [hln] at hown hn ⊢
  rcases hown.2 with ⟨hv, h0⟩ | ⟨g, cap, cur, hv, hbg, hgg, _⟩
  · subst h0
    have e0 : l = [] := List.eq_nil_of_length_eq_zero hln
    simp only [Value.slice.injEq] at hv
    obtain ⟨rfl, _, rfl⟩ := hv
    have HO := hide1 hown
    clear hown hln
    go_enter Try.func32, Try.ntmps32
    go_wp2
    refine wp_loop_rounds 1 ?_
    rw [rounds_succ]
    go_wp2
    go_ret
    exact ⟨by simp, by rw [e0] at HO; exact HO.out, gnew (Below.refl _ _)⟩
  · simp only [Value.slice.injEq] at hv
    obtain ⟨rfl, _, rfl⟩ := hv
    have HO := hide1 hown
    have HL := hide1 hln
    clear hgg hown hln
    go_enter Try.func32, Try.ntmps32
    go_wp2
    go_loopw [1, 5] (fun kv iv wr => ∃ i : Nat, i ≤ n ∧ iv = .int .i64 (i : Int) ∧ kv = .int .i64 ((k : Int) + (i : Int)) ∧ wr.ownsRow base 3 1 (.slice (some ⟨g, 0, none⟩) n c) n (iz ((patZ k n).take i ++ l.drop i)) ∧ w.grownBy wr (some g)) (fun _ iv _ => n - (intOf iv).toNat)
    case atStart => exact ⟨0, by omega, rfl, by simp, by simpa using HO.out, gnew (Below.refl _ _)⟩
    case round =>
      obtain ⟨i, hi, rfl, rfl, hown1, hg1⟩ := hrel
      by_cases hlt : i < n
      · have k1 : (i : Int) < (n : Int) := by omega
        obtain ⟨u, x1⟩ := own_some hown1 i (by omega)
        have x2 := hown1.frozenAt i
        have HO1 := hide1 hown1
        have HG := hide1 hg1
        clear hown1 hg1
        go_wp2
        go_roundw
        case rel =>
          have st := (World.ownsRow.stored HO1.out i (.int .i64 ((k : Int) + (i : Int)))).1
          rw [← iz_set, patZ_fill k n i l HL.out hlt] at st
          exact ⟨i + 1, by omega, by go_num, by go_num, st, gset HG.out i _⟩
        case measure => simp [intOf]; omega
      · obtain rfl : i = n := by omega
        have HO1 := hide1 hown1
        have HG := hide1 hg1
        clear hown1 hg1
        go_wp2
        go_ret
        refine ⟨rfl, ?_, HG.out⟩
        have := HO1.out
        rw [List.drop_eq_nil_of_le (by have := HL.out; omega), List.append_nil, List.take_of_length_le (by rw [patZ_length]; omega)] at this
        exact this

set_option maxRecDepth 100000 in
set_option maxHeartbeats 400000 in
theorem heldIntS_any (ao : Option Addr) (n ca k : Nat) (w : World) (hn : n ≤ 1048576) (hk : k ≤ 67108864) (hA : RdZ w ao (patZ k n)) :
    Calls Try.prog 33 #[.slice ao n ca, .int .i64 (k : Int)] w fun e w' => e = .returned (.int .i64 ((k : Int) + (n : Int))) ∧ w' = w := by
  have HA := hide1 hA
  clear hA
  go_enter Try.func33, Try.ntmps33
  go_wp2
  go_loop [1, 5] (fun kv iv => ∃ i : Nat, i ≤ n ∧ iv = .int .i64 (i : Int) ∧ kv = .int .i64 ((k : Int) + (i : Int))) (fun _ iv => n - (intOf iv).toNat)
  case atStart => exact ⟨0, by omega, rfl, by simp⟩
  case round =>
    obtain ⟨i, hi, rfl, rfl⟩ := hrel
    by_cases hlt : i < n
    · obtain ⟨b, o, rfl, hb, hc⟩ := HA.out i (by rw [patZ_length]; exact hlt)
      rw [patZ_get k n i hlt] at hc
      have k1 : (i : Int) < (n : Int) := by omega
      have q : (((k : Int) + (i : Int)) != ((k : Int) + (i : Int))) = false := by simp
      go_wp2
      go_round
      case rel => exact ⟨i + 1, by omega, by go_num, by go_num⟩
      case measure => simp [intOf]; omega
    · obtain rfl : i = n := by omega
      go_wp2
      go_ret
      exact ⟨rfl, rfl⟩

theorem Try.infoZ : (Try.prog.info? 3).map (fun i => (i.zero, i.size, i.bytes)) = some (some (.int .i64 0), 1, 8) := by kernel_rfl
theorem madeZ : ∀ n : Nat, (madeCells (Value.int .i64 0).cells (n * 1)).toList = iz (List.replicate n 0) := by
  intro n
  refine List.ext_getElem? fun j => ?_
  by_cases hj : j < n
  · rw [iz_get _ j (by simpa using hj)]
    simp only [madeCells, Array.getElem?_toList]
    rw [Array.getElem?_map, Array.getElem?_range, if_pos (by omega)]
    simp only [Option.map_some, List.getElem_replicate]
    have : j % 1 = 0 := by omega
    show some ((#[Value.int .i64 0] : Array Value)[j % 1]!) = _
    rw [this]; rfl
  · rw [List.getElem?_eq_none (by simp [madeCells]; omega), List.getElem?_eq_none (by rw [iz_length]; simp; omega)]
theorem fill_setZ (l : List Int) (z s : Int) (i : Nat) (hi : i < l.length) (hs : l[i] = s) : (l.take i ++ List.replicate (l.length - i) z).set i s = l.take (i + 1) ++ List.replicate (l.length - (i + 1)) z := by
  have hl : (l.take i).length = i := by simp; omega
  rw [List.set_append_right _ _ (by omega), hl, Nat.sub_self, show l.length - i = (l.length - (i + 1)) + 1 by omega, List.replicate_succ, List.set_cons_zero, List.take_succ_eq_append_getElem hi, hs, List.append_assoc]
  rfl

set_option maxRecDepth 100000 in
set_option maxHeartbeats 400000 in
theorem toIntS_any (ao : Option Addr) (l : List Int) (ca : Nat) (w : World) (hl : l.length ≤ 1048576) (hA : RdZ w ao l) :
    Calls Try.prog 104 #[.slice ao l.length ca] w fun e w' => ∃ b c, e = .returned (.slice b l.length c) ∧ w'.ownsRow w.heap.size 3 1 (.slice b l.length c) l.length (iz l) ∧ Below w.heap.size w w' := by
  obtain ⟨i0, hi, hz0, hz1, hz2⟩ := info_parts Try.infoZ
  have HA := hide1 hA
  clear hA
  go_enter Try.func104, Try.ntmps104
  go_wp2_with (at_make; (refine wpList_make_full _ rfl _ _ 33 rfl w.heap.size 3 i0 (.int .i64 0) 1 Try.underlying33 hi hz0 hz1 _ _ _ _ l.length rfl rfl rfl rfl (by rw [hz2]; omega) (by unfold maxLen; omega) (Nat.le_refl _) ?_; intro w0 hown0 hg0))
  rw [madeZ] at hown0
  have HO := hide1 hown0
  clear hown0
  go_loopw [4] (fun iv wr => ∃ i : Nat, i ≤ l.length ∧ iv = .int .i64 (i : Int) ∧ wr.ownsRow w.heap.size 3 1 (.slice (some ⟨w.heap.size, 0, none⟩) l.length l.length) l.length (iz (l.take i ++ List.replicate (l.length - i) 0)) ∧ Below w.heap.size w wr) (fun iv _ => l.length - (intOf iv).toNat)
  case atStart => exact ⟨0, by omega, rfl, by simpa using HO.out, Below.grown (Below.refl _ _) hg0 (Nat.le_refl _) (by intro k hk; cases hk)⟩
  case round =>
    obtain ⟨i, hi, rfl, hown, hbel⟩ := hrel
    by_cases hlt : i < l.length
    · have k1 : (i : Int) < (l.length : Int) := by omega
      obtain ⟨b, o, rfl, hb, h1⟩ := HA.out i hlt
      have x0 := (hbel.cell (p := ⟨b, o + i, none⟩) hb).trans h1
      obtain ⟨s, hs⟩ : ∃ s, l[i] = s := ⟨_, rfl⟩
      rw [hs] at x0
      have HS := hide1 hs
      clear h1 hs
      obtain ⟨u, y0⟩ := own_some hown i (by omega)
      have y1 := hown.frozenAt i
      have HO1 := hide1 hown
      clear hown
      go_wp2
      go_roundw
      case rel =>
        have st := (World.ownsRow.stored HO1.out i (.int .i64 s)).1
        rw [← iz_set, fill_setZ l 0 s i hlt HS.out] at st
        exact ⟨i + 1, by omega, by go_num, st, hbel.setCell (p := ⟨w.heap.size, i, none⟩) (Nat.le_refl _) _⟩
      case measure => simp [intOf]; omega
    · obtain rfl : i = l.length := by omega
      go_wp2
      go_ret
      exact ⟨_, _, rfl, by simpa using hown, hbel⟩

set_option maxRecDepth 100000 in
theorem szIntS_any (ao : Option Addr) (n ca left : Nat) (w : World) (hn : n ≤ 9223372036854775807) (hl : left ≤ 1048576) :
    Calls Try.prog 103 #[.slice ao n ca, .int .i64 (left : Int)] w fun e w' => ((e = .returned (.int .i64 (-1)) ∧ ¬ n ≤ left) ∨ ∃ r : Nat, e = .returned (.int .i64 (r : Int)) ∧ r + n = left) ∧ w' = w := by
  by_cases c1 : n ≤ left
  · have q1 : decide ((left : Int) - (n : Int) < 0) = false := by simp; omega
    go_enter Try.func103, Try.ntmps103
    go_wp2
    go_ret
    exact ⟨.inr ⟨left - n, by show Ending.returned (.int .i64 ((left : Int) - (n : Int))) = _; rw [show ((left - n : Nat) : Int) = (left : Int) - (n : Int) by omega], by omega⟩, rfl⟩
  · have q1 : decide ((left : Int) - (n : Int) < 0) = true := by simp; omega
    have C2 := hide1 c1
    clear c1
    go_enter Try.func103, Try.ntmps103
    go_wp2
    go_ret
    exact ⟨.inl ⟨rfl, C2.out⟩, rfl⟩
end Go.Proofs.Ytgehdgmllilmgaa
namespace Go.Proofs.Ytgehdgmllilmgaa
open Go.ChangeShapes Go.WideShapes Go.ChangeAt Go.RowKit Go.Deep Go.Joins

set_option maxRecDepth 100000 in
theorem open_ints {H : Type} {enc : TypeId × Value → H} {w : World} {base fuel : Nat} {sp : Nat → Bool} {held : Bool} {cs : List Value} {x : DataW H × List MemPlace} (h : DataW.trod enc Try.prog w base sp held fuel 33 cs = some x) :
    ∃ (ao : Option Addr) (l : List Int) (ca : Nat), cs = [.slice ao l.length ca] ∧ RdZ w ao l ∧ l.length ≤ maxLen := by
  rcases open_slice Try.underlying33 h with ⟨rfl, _⟩ | ⟨a, len, cap, m, n, D, Pl, rfl, hb, hl, hm, hmm, _, hx⟩
  · exact ⟨none, [], 0, rfl, fun i hi => by simp at hi, Nat.zero_le _⟩
  have hlm : len ≤ m := by rw [hmm]; split <;> omega
  have hc : Try.prog.cellsOf 3 = 1 := by kernel_rfl
  have each : ∀ i, i < m → ∃ s : Int, w.cell? ((a.add (i * 1)).add 0) = some (.int .i64 s) := by
    intro i hi
    obtain ⟨cs', h1, h2⟩ := hx i hi
    rw [hc] at h1
    obtain ⟨_, hlen, hcell⟩ := World.cells?_some h1
    obtain ⟨s, e, _, _⟩ := DataW.trod_int Try.underlying3 h2
    refine ⟨s, ?_⟩
    rw [hcell 0 (by omega), e]
    rfl
  obtain ⟨S, hS⟩ := choose_lt each
  refine ⟨some a, (List.range len).map S, cap, by simp, ?_, by simp; omega⟩
  intro i hi
  have hi' : i < len := by simpa using hi
  have hci := hS i (by omega)
  obtain ⟨b, o, spot⟩ := a
  have hspot : spot = none := by
    have := hS 0 (by omega)
    simpa [Addr.add] using World.cell?_spot this
  subst hspot
  simp only [Addr.add_lit, Nat.mul_one, Nat.add_zero] at hci
  refine ⟨b, o, rfl, World.block_lt_of_cell? w _ hci, ?_⟩
  simp only [List.getElem_map, List.getElem_range]
  exact hci

set_option maxRecDepth 100000 in
theorem open_intsV {H : Type} {enc : TypeId × Value → H} {w : World} {r : Reach} {b0 base : Nat} {sp : Nat → Bool} {held : Bool} {v : Value} {d : DataW H} {p : List MemPlace} (hv : Value.okWide Try.prog w r b0 33 v) (h : DataW.Trod enc Try.prog w base sp held 33 v d p) :
    ∃ (ao : Option Addr) (l : List Int) (ca : Nat), v = .slice ao l.length ca ∧ RdZ w ao l ∧ l.length ≤ maxLen := by
  obtain ⟨a0, len0, cap0, rfl⟩ := okWide_slice Try.underlying33 hv
  obtain ⟨n, h0⟩ := h
  obtain ⟨ao, l, ca, e0, hR, hl⟩ := open_ints h0
  simp [Value.cells] at e0
  obtain ⟨rfl, rfl, rfl⟩ := e0
  exact ⟨_, l, _, rfl, hR, hl⟩

/-- A row of numbers that is the call's own, behind a bound. -/
def OwnK (w : World) (B : Nat) (ao : Option Addr) (c : Nat) (L : List Int) : Prop := w.ownsRow B 3 1 (.slice ao L.length c) L.length (iz L)
theorem OwnK.rd {w : World} {B c : Nat} {ao : Option Addr} {L : List Int} (h : OwnK w B ao c L) : RdZ w ao L := rdZ_of_own h
theorem OwnK.later {w w' : World} {B c : Nat} {ao : Option Addr} {L : List Int} (h : OwnK w B ao c L) (hb : Below w.heap.size w w') : OwnK w' B ao c L := own_kept h hb
theorem OwnK.base {w : World} {B B' c : Nat} {ao : Option Addr} {L : List Int} (h : OwnK w B ao c L) (hB : B' ≤ B) : OwnK w B' ao c L := own_base h hB
theorem OwnK.lt {w : World} {B c : Nat} {ao : Option Addr} {L : List Int} (h : OwnK w B ao c L) : ∀ g, (Value.slice ao L.length c).ownBlock = some g → B ≤ g ∧ g < w.heap.size := fun g e => World.ownsRow.lt h g e
theorem toIntS_own (ao : Option Addr) (l : List Int) (ca : Nat) (w : World) (hl : l.length ≤ 1048576) (hA : RdZ w ao l) :
    Calls Try.prog 104 #[.slice ao l.length ca] w fun e w' => ∃ b c, e = .returned (.slice b l.length c) ∧ OwnK w' w.heap.size b c l ∧ Below w.heap.size w w' := toIntS_any ao l ca w hl hA
theorem eqIntS_own (a b : Option Addr) (l : List Int) (ca cb : Nat) (w : World) (hl : l.length ≤ 1048576) (ha : RdZ w a l) (hb : RdZ w b l) :
    Calls Try.prog 29 #[.slice a l.length ca, .slice b l.length cb] w fun e w' => e = .returned (.bool true) ∧ Below w.heap.size w w' := by
  refine (eqIntS_any a b l l ca cb w hl ha hb).mono ?_
  rintro e w' ⟨x, rfl, hx, hb⟩
  rw [hx.2 rfl]
  exact ⟨rfl, hb⟩
theorem markIntS_own (ao : Option Addr) (c B : Nat) (l : List Int) (w : World) (hn : l.length ≤ 1048576) (hown : OwnK w B ao c l) :
    Calls Try.prog 32 #[.slice ao l.length c, .int .i64 1] w fun e w' => e = .returned (.int .i64 (1 + (l.length : Int))) ∧ RdZ w' ao (patZ 1 l.length) ∧ w.grownBy w' (Value.slice ao l.length c).ownBlock := by
  refine (markIntS_any ao c 1 B l w hn (by omega) hown).mono ?_
  rintro e w' ⟨rfl, h1, h2⟩
  rw [← patZ_length 1 l.length] at h1
  exact ⟨rfl, rdZ_of_own (by simpa [patZ_length] using h1), h2⟩
theorem heldIntS_own (ao : Option Addr) (n ca : Nat) (w : World) (hn : n ≤ 1048576) (hA : RdZ w ao (patZ 1 n)) :
    Calls Try.prog 33 #[.slice ao n ca, .int .i64 1] w fun e w' => e = .returned (.int .i64 (1 + (n : Int))) ∧ w' = w := heldIntS_any ao n ca 1 w hn (by omega) hA
end Go.Proofs.Ytgehdgmllilmgaa
namespace Go.Proofs.Ytgehdgmllilmgaa
open Go.RowKit
set_option linter.unusedVariables false

set_option maxRecDepth 100000 in
set_option maxHeartbeats 400000 in
theorem sameT_any (a b : Option Addr) (l m : List ByteArray) (ca cb : Nat) (w : World) (hl : l.length ≤ 1048576) (ha : RdQ w a l) (hb : RdQ w b m) :
    Calls Try.prog 15 #[.slice a l.length ca, .slice b m.length cb] w fun e w' => ∃ x : Bool, e = .returned (.bool x) ∧ (x = true ↔ l = m) ∧ Below w.heap.size w w' := by
  by_cases c0 : l.length = m.length
  · have q0 : ((l.length : Int) != (m.length : Int)) = false := by simp [c0]
    have HA := hide1 ha
    have HB := hide1 hb
    have C0 := hide1 c0
    clear ha hb c0
    go_enter Try.func15, Try.ntmps15
    go_wp2
    go_loopw [5] (fun iv wr => ∃ i : Nat, i ≤ l.length ∧ iv = .int .i64 (i : Int) ∧ Hid (∀ j, j < i → l[j]? = m[j]?) ∧ Below w.heap.size w wr) (fun iv _ => l.length - (intOf iv).toNat)
    case atStart => exact ⟨0, by omega, rfl, fun j hj => by omega, Below.refl _ _⟩
    case round =>
      obtain ⟨i, hi, rfl, hsame, hbel⟩ := hrel
      by_cases hlt : i < l.length
      · have hltm : i < m.length := by have := C0.out; omega
        obtain ⟨g, o, rfl, hg, h1⟩ := HA.out i hlt
        obtain ⟨g', o', rfl, hg', h2⟩ := HB.out i hltm
        have x0 := (hbel.cell (p := ⟨g, o + i, none⟩) hg).trans h1
        have y0 := (hbel.cell (p := ⟨g', o' + i, none⟩) hg').trans h2
        clear h1 h2
        have k1 : (i : Int) < (l.length : Int) := by omega
        have k2 : (i : Int) < (m.length : Int) := by omega
        have e1 := hide1 (List.getElem?_eq_getElem hlt)
        have e2 := hide1 (List.getElem?_eq_getElem hltm)
        generalize l[i] = s at *
        generalize m[i] = t at *
        by_cases ce : s = t
        · obtain ⟨q, q'⟩ := text_eq ce
          have CE := hide1 ce
          clear ce
          go_wp2_with fail
          go_quiet (fail)
          go_wp2
          go_roundw
          case rel =>
            refine ⟨i + 1, by omega, by go_num, fun j hj => ?_, below_drewN hbel _⟩
            by_cases hj2 : j < i
            · exact hsame.out j hj2
            · rw [show j = i by omega, e1.out, e2.out, CE.out]
          case measure => simp [intOf]; omega
        · obtain ⟨q, q'⟩ := text_ne ce
          have CE := hide1 ce
          clear ce
          go_wp2_with fail
          go_quiet (fail)
          go_wp2
          go_ret
          refine ⟨false, rfl, ⟨(fun h => by cases h), fun h => ?_⟩, below_drewN hbel _⟩
          rw [h] at e1
          exact absurd (Option.some.inj (e1.out.symm.trans e2.out)) CE.out
      · go_wp2
        go_ret
        refine ⟨true, rfl, ⟨fun _ => ?_, fun _ => rfl⟩, hbel⟩
        refine List.ext_getElem? fun j => ?_
        by_cases hj : j < i
        · exact hsame.out j hj
        · have := C0.out
          rw [List.getElem?_eq_none (by omega), List.getElem?_eq_none (by omega)]
  · have q0 : ((l.length : Int) != (m.length : Int)) = true := by simp; omega
    clear ha hb
    go_enter Try.func15, Try.ntmps15
    go_wp2
    go_ret
    exact ⟨false, rfl, by simp; intro h; exact c0 (by rw [h]), Below.refl _ _⟩
end Go.Proofs.Ytgehdgmllilmgaa
