/- The contracts of the statements' functions on places: comparing, marking, and copying what came in. -/
import Derived.Test.YtjbcmendifoklaaArenaM
namespace Go.Proofs.Ytjbcmendifoklaa
open Go.RowKit

/-- A place as a value. -/
def arV (ao : Option Addr) (n cap : Nat) (free : Int) : Value := .agg #[.slice ao n cap, .int .i64 free]

set_option maxRecDepth 100000 in
theorem eqArena_any (a b : Option Addr) (l m : List Sl) (ca cb : Nat) (fa fb : Int) (w : World) (hl : l.length ≤ 1048576) (ha : RdA w a l) (hb : RdA w b m) :
    Calls Try.prog 12 #[arV a l.length ca fa, arV b m.length cb fb] w fun e w' => ∃ x : Bool, e = .returned (.bool x) ∧ (x = true ↔ l = m ∧ fa = fb) ∧ Below w.heap.size w w' := by
  have c1 := fun o1 o2 => eqSlotS_any a b l m ca cb ((w.alloc o1).alloc o2) hl (ha.later (below2 w o1 o2)) (hb.later (below2 w o1 o2))
  have C1 := hide1 c1
  clear c1 ha hb
  unfold arV
  rcases hf : (fa == fb) with _ | _
  · have q : (fa != fb) = true := by rw [bne, hf]; rfl
    have HF := hide1 (show fa ≠ fb from fun h => by rw [h] at hf; simp at hf)
    clear hf
    go_enter Try.func12, Try.ntmps12
    go_wp2_with fail
    refine (C1.out _ _).mono ?_
    rintro e w1 ⟨x, rfl, -, hb1⟩
    have B1 := hide1 ((below2 w _ _).trans (hb1.mono (below2 w _ _).size))
    have x1 := (hb1.cell (p := ⟨w.heap.size, 1, none⟩) (by show _ < _; simp only [World.size_alloc]; omega))
    have x2 := (hb1.cell (p := ⟨w.heap.size + 1, 1, none⟩) (by show _ < _; simp only [World.size_alloc]; omega))
    clear hb1
    rcases x with _ | _
    · go_wp2
      go_ret
      exact ⟨false, rfl, ⟨(fun h => by cases h), fun h => absurd h.2 HF.out⟩, B1.out⟩
    · go_wp2
      go_ret
      exact ⟨false, rfl, ⟨(fun h => by cases h), fun h => absurd h.2 HF.out⟩, B1.out⟩
  · have q : (fa != fb) = false := by rw [bne, hf]; rfl
    have HF := hide1 (show fa = fb by simpa using hf)
    clear hf
    go_enter Try.func12, Try.ntmps12
    go_wp2_with fail
    refine (C1.out _ _).mono ?_
    rintro e w1 ⟨x, rfl, hx, hb1⟩
    have HX := hide1 hx
    have B1 := hide1 ((below2 w _ _).trans (hb1.mono (below2 w _ _).size))
    have x1 := (hb1.cell (p := ⟨w.heap.size, 1, none⟩) (by show _ < _; simp only [World.size_alloc]; omega))
    have x2 := (hb1.cell (p := ⟨w.heap.size + 1, 1, none⟩) (by show _ < _; simp only [World.size_alloc]; omega))
    clear hb1 hx
    rcases x with _ | _
    · have HN := hide1 (show l ≠ m from fun h => by have := HX.out.2 h; cases this)
      clear HX
      go_wp2
      go_ret
      exact ⟨false, rfl, ⟨(fun h => by cases h), fun h => absurd h.1 HN.out⟩, B1.out⟩
    · have HN := hide1 (HX.out.1 rfl)
      clear HX
      go_wp2
      go_ret
      exact ⟨true, rfl, ⟨(fun _ => ⟨HN.out, HF.out⟩), fun _ => rfl⟩, B1.out⟩

theorem markArena_any (ao : Option Addr) (n ca k : Nat) (f : Int) (xs : List Value) (base : Nat) (w : World) (hn : n ≤ 1048576) (hk : k ≤ 1048576) (hk0 : 0 < k) (hown : w.ownsRow base 47 5 (.slice ao n ca) n xs) :
    Calls Try.prog 13 #[arV ao n ca f, .int .i64 k] w fun e w' => e = .returned (.int .i64 ((k : Int) + 5 * (n : Int))) ∧ w'.ownsRow base 47 5 (.slice ao n ca) n (sls (patL k n)) ∧ w.grownBy w' (Value.slice ao n ca).ownBlock := by
  have c1 := fun o => markSlotS_any (.slice ao n ca) n k xs base (w.alloc o) hn hk hk0 (hown.alloc o)
  have C1 := hide1 c1
  clear c1 hown
  unfold arV
  go_enter Try.func13, Try.ntmps13
  go_wp2_with fail
  refine (C1.out _).mono ?_
  rintro e w1 ⟨rfl, ho, hb1⟩
  go_wp2
  go_ret
  exact ⟨rfl, ho, (gnew ((Below.refl _ _).alloc (Nat.le_refl _) _)).trans hb1⟩

theorem heldArena_any (ao : Option Addr) (n ca k : Nat) (f : Int) (w : World) (hn : n ≤ 1048576) (hk : k ≤ 1048576) (hk0 : 0 < k) (hA : RdA w ao (patL k n)) :
    Calls Try.prog 14 #[arV ao n ca f, .int .i64 k] w fun e w' => e = .returned (.int .i64 ((k : Int) + 5 * (n : Int))) ∧ Below w.heap.size w w' := by
  have c1 := fun o => heldSlotS_any ao n ca k (w.alloc o) hn hk hk0 (hA.later ((Below.refl _ _).alloc (Nat.le_refl _) o))
  have C1 := hide1 c1
  clear c1 hA
  have q : decide ((k : Int) + 5 * (n : Int) < 0) = false := by simp; omega
  unfold arV
  go_enter Try.func14, Try.ntmps14
  go_wp2_with fail
  refine (C1.out _).mono ?_
  rintro e w1 ⟨rfl, hb1⟩
  go_wp2
  go_ret
  exact ⟨rfl, ((Below.refl _ _).alloc (Nat.le_refl _) _).trans (hb1.mono (by rw [World.size_alloc]; omega))⟩

/-- A slot that came in, five cells from a place on. -/
def slotO (w : World) (b o i : Nat) (s : Sl) : Prop :=
  w.cell? ⟨b, o + i * 5, none⟩ = some (.int .i64 s.gen) ∧ w.cell? ⟨b, o + i * 5 + 1, none⟩ = some (.bool s.used) ∧ w.cell? ⟨b, o + i * 5 + 2, none⟩ = some (.string s.key) ∧ w.cell? ⟨b, o + i * 5 + 3, none⟩ = some (.string s.val) ∧ w.cell? ⟨b, o + i * 5 + 4, none⟩ = some (.int .i64 s.next)
/-- What came in as a row of slots. -/
def RdI (w : World) (a : Option Addr) (l : List Sl) : Prop := ∀ i (h : i < l.length), ∃ b o, a = some ⟨b, o, none⟩ ∧ b < w.heap.size ∧ slotO w b o i l[i]
theorem slotO.below {w w' : World} {B b o i : Nat} {s : Sl} (h : slotO w b o i s) (hb : Below B w w') (hg : b < B) : slotO w' b o i s :=
  ⟨(hb.cell hg).trans h.1, (hb.cell hg).trans h.2.1, (hb.cell hg).trans h.2.2.1, (hb.cell hg).trans h.2.2.2.1, (hb.cell hg).trans h.2.2.2.2⟩
theorem RdI.later {w w' : World} {a : Option Addr} {l : List Sl} (h : RdI w a l) (hb : Below w.heap.size w w') : RdI w' a l := by
  intro i hi
  obtain ⟨b, o, ha, hg, hc⟩ := h i hi
  exact ⟨b, o, ha, Nat.lt_of_lt_of_le hg hb.size, hc.below hb hg⟩

set_option maxRecDepth 100000 in
theorem toSlot_any (s : Sl) (w : World) : Calls Try.prog 49 #[slV s] w fun e w' => e = .returned (slV s) ∧ Below w.heap.size w w' := by
  unfold slV
  go_enter Try.func49, Try.ntmps49
  go_wp2
  go_returns
  exact ⟨rfl, by go_grown⟩

/-- A slot stored whole into a row of the call's own. -/
theorem own_set5 {w : World} {base n g cap : Nat} {e : TypeId} {L : List Sl} (h : w.ownsRow base e 5 (.slice (some ⟨g, 0, none⟩) n cap) n (sls L)) (hL : L.length = n) (i : Nat) (hi : i < n) (s : Sl) :
    (((((w.setCell ⟨g, i * 5, none⟩ (.int .i64 s.gen)).setCell ⟨g, i * 5 + 1, none⟩ (.bool s.used)).setCell ⟨g, i * 5 + 2, none⟩ (.string s.key)).setCell ⟨g, i * 5 + 3, none⟩ (.string s.val)).setCell ⟨g, i * 5 + 4, none⟩ (.int .i64 s.next)).ownsRow base e 5 (.slice (some ⟨g, 0, none⟩) n cap) n (sls (L.set i s)) := by
  have st := (World.ownsRow.stored (World.ownsRow.stored (World.ownsRow.stored (World.ownsRow.stored (World.ownsRow.stored h (i * 5) (.int .i64 s.gen)).1 (i * 5 + 1) (.bool s.used)).1 (i * 5 + 2) (.string s.key)).1 (i * 5 + 3) (.string s.val)).1 (i * 5 + 4) (.int .i64 s.next)).1
  rw [set5 _ _ _ _ _ _ _ (by rw [sls_length]; omega)] at st
  rw [sls_set L i s (by omega)]
  exact st
theorem below_set5 {B g : Nat} {w w' : World} (h : Below B w w') (hg : B ≤ g) (i : Nat) (s : Sl) :
    Below B w (((((w'.setCell ⟨g, i * 5, none⟩ (.int .i64 s.gen)).setCell ⟨g, i * 5 + 1, none⟩ (.bool s.used)).setCell ⟨g, i * 5 + 2, none⟩ (.string s.key)).setCell ⟨g, i * 5 + 3, none⟩ (.string s.val)).setCell ⟨g, i * 5 + 4, none⟩ (.int .i64 s.next)) :=
  ((((h.setCell (p := ⟨g, i * 5, none⟩) hg _).setCell (p := ⟨g, i * 5 + 1, none⟩) hg _).setCell (p := ⟨g, i * 5 + 2, none⟩) hg _).setCell (p := ⟨g, i * 5 + 3, none⟩) hg _).setCell (p := ⟨g, i * 5 + 4, none⟩) hg _
/-- Slots filled one by one. -/
theorem fill_set (l : List Sl) (z s : Sl) (i : Nat) (hi : i < l.length) (hs : l[i] = s) : (l.take i ++ List.replicate (l.length - i) z).set i s = l.take (i + 1) ++ List.replicate (l.length - (i + 1)) z := by
  have hl : (l.take i).length = i := by simp; omega
  rw [List.set_append_right _ _ (by omega), hl, Nat.sub_self, show l.length - i = (l.length - (i + 1)) + 1 by omega, List.replicate_succ, List.set_cons_zero, List.take_succ_eq_append_getElem hi, hs, List.append_assoc]
  rfl

/-- The zero slot. -/
def zS : Sl := ⟨0, false, ⟨#[]⟩, ⟨#[]⟩, 0⟩
theorem Try.infoSlot : (Try.prog.info? 47).map (fun i => (i.zero, i.size, i.bytes)) = some (some (slV zS), 5, 56) := by kernel_rfl
theorem made5 : ∀ n : Nat, (madeCells (slV zS).cells (n * 5)).toList = sls (List.replicate n zS) := by
  intro n
  refine List.ext_getElem? fun j => ?_
  have hz : (slV zS).cells = #[.int .i64 0, .bool false, .string ⟨#[]⟩, .string ⟨#[]⟩, .int .i64 0] := rfl
  by_cases hj : j < n * 5
  · have h5 : j % 5 < 5 := Nat.mod_lt _ (by decide)
    have hr := sls_at (List.replicate n zS) (j / 5) (j % 5) (by simp; omega) h5
    rw [show j / 5 * 5 + j % 5 = j by omega, List.getElem_replicate] at hr
    rw [hr, hz]
    simp only [madeCells, Array.getElem?_toList]
    rw [Array.getElem?_map, Array.getElem?_range, if_pos hj]
    simp only [Option.map_some]
    show some ((#[Value.int .i64 0, .bool false, .string ⟨#[]⟩, .string ⟨#[]⟩, .int .i64 0] : Array Value)[j % 5]!) = _
    generalize j % 5 = q at h5
    match q, h5 with
    | 0, _ => rfl
    | 1, _ => rfl
    | 2, _ => rfl
    | 3, _ => rfl
    | 4, _ => rfl
    | q + 5, h => omega
  · rw [List.getElem?_eq_none (by simp [madeCells]; omega), List.getElem?_eq_none (by rw [sls_length]; simp; omega)]

set_option maxRecDepth 100000 in
set_option maxHeartbeats 400000 in
theorem toSlotS_any (ao : Option Addr) (l : List Sl) (ca : Nat) (w : World) (hl : l.length ≤ 1048576) (hA : RdI w ao l) :
    Calls Try.prog 35 #[.slice ao l.length ca] w fun e w' => ∃ b c, e = .returned (.slice b l.length c) ∧ w'.ownsRow w.heap.size 47 5 (.slice b l.length c) l.length (sls l) ∧ Below w.heap.size w w' := by
  obtain ⟨i0, hi, hz0, hz1, hz2⟩ := info_parts Try.infoSlot
  have HA := hide1 hA
  clear hA
  go_enter Try.func35, Try.ntmps35
  go_wp2_with (at_make; (refine wpList_make_full _ rfl _ _ 22 rfl w.heap.size 47 i0 (slV zS) 5 Try.underlying22 hi hz0 hz1 _ _ _ _ l.length rfl rfl rfl rfl (by rw [hz2]; omega) (by unfold maxLen; omega) (Nat.le_refl _) ?_; intro w0 hown0 hg0))
  rw [made5] at hown0
  have HO := hide1 hown0
  clear hown0
  go_loopw [4] (fun iv wr => ∃ i : Nat, i ≤ l.length ∧ iv = .int .i64 (i : Int) ∧ wr.ownsRow w.heap.size 47 5 (.slice (some ⟨w.heap.size, 0, none⟩) l.length l.length) l.length (sls (l.take i ++ List.replicate (l.length - i) zS)) ∧ Below w.heap.size w wr) (fun iv _ => l.length - (intOf iv).toNat)
  case atStart => exact ⟨0, by omega, rfl, by simpa using HO.out, Below.grown (Below.refl _ _) hg0 (Nat.le_refl _) (by intro k hk; cases hk)⟩
  case round =>
    obtain ⟨i, hi, rfl, hown, hbel⟩ := hrel
    by_cases hlt : i < l.length
    · have k1 : (i : Int) < (l.length : Int) := by omega
      obtain ⟨b, o, rfl, hb, h1⟩ := HA.out i hlt
      obtain ⟨x0, x1, x2, x3, x4⟩ := h1.below hbel hb
      have cc := hide1 (fun w => toSlot_any l[i] w)
      generalize hs : l[i] = s at *
      have HS := hide1 hs
      clear h1 hs
      have HO1 := hide1 hown
      clear hown
      unfold slV at cc
      go_wp2_with fail
      refine (cc.out _).mono ?_
      rintro e w2 ⟨rfl, hb2⟩
      have o2 := own_kept HO1.out hb2
      obtain ⟨u0, y0⟩ := own_some o2 (i * 5) (by omega)
      obtain ⟨u1, y1⟩ := own_some o2 (i * 5 + 1) (by omega)
      obtain ⟨u2, y2⟩ := own_some o2 (i * 5 + 2) (by omega)
      obtain ⟨u3, y3⟩ := own_some o2 (i * 5 + 3) (by omega)
      obtain ⟨u4, y4⟩ := own_some o2 (i * 5 + 4) (by omega)
      have f0 := o2.frozenAt (i * 5)
      have f1 := o2.frozenAt (i * 5 + 1)
      have f2 := o2.frozenAt (i * 5 + 2)
      have f3 := o2.frozenAt (i * 5 + 3)
      have f4 := o2.frozenAt (i * 5 + 4)
      have O2 := hide1 o2
      clear o2
      go_wp2
      go_roundw
      case rel =>
        refine ⟨i + 1, by omega, by go_num, ?_, below_set5 (hbel.trans (hb2.mono hbel.size)) (Nat.le_refl _) i s⟩
        rw [← fill_set l zS s i hlt HS.out]
        exact own_set5 O2.out (by simp; omega) i hlt s
      case measure => simp [intOf]; omega
    · obtain rfl : i = l.length := by omega
      go_wp2
      go_ret
      exact ⟨_, _, rfl, by simpa using hown, hbel⟩

theorem own_far {w : World} {base n size : Nat} {e : TypeId} {v : Value} {xs : List Value} (h : w.ownsRow base e size v n xs) (a : Addr) (u : Value) (hne : ∀ k, v.ownBlock = some k → k ≠ a.block) : (w.setCell a u).ownsRow base e size v n xs := by
  refine ⟨h.1, ?_⟩
  rcases h.2 with h2 | ⟨g, cap, cur, hv, hg, hh, r⟩
  · exact .inl h2
  · exact .inr ⟨g, cap, cur, hv, hg, by rw [Below.heap_setCell _ _ _ _ (hne g (by rw [hv]; rfl))]; exact hh, r⟩
theorem own_base {w : World} {base base' n size : Nat} {e : TypeId} {v : Value} {xs : List Value} (h : w.ownsRow base' e size v n xs) (hb : base ≤ base') : w.ownsRow base e size v n xs := by
  refine ⟨h.1, ?_⟩
  rcases h.2 with h2 | ⟨g, cap, cur, hv, hg, r⟩
  · exact .inl h2
  · exact .inr ⟨g, cap, cur, hv, Nat.le_trans hb hg, r⟩
theorem blocks3 (w : World) (o1 o2 o3 : Obj) : (((w.alloc o1).alloc o2).alloc o3).heap[w.heap.size]? = some o1 ∧ (((w.alloc o1).alloc o2).alloc o3).heap[w.heap.size + 1]? = some o2 ∧ (((w.alloc o1).alloc o2).alloc o3).heap[w.heap.size + 1 + 1]? = some o3 := by
  show (((w.heap.push o1).push o2).push o3)[w.heap.size]? = some o1 ∧ (((w.heap.push o1).push o2).push o3)[w.heap.size + 1]? = some o2 ∧ (((w.heap.push o1).push o2).push o3)[w.heap.size + 1 + 1]? = some o3
  refine ⟨?_, ?_, ?_⟩
  · rw [Array.getElem?_push, if_neg (by simp; omega), Array.getElem?_push, if_neg (by simp), Array.getElem?_push, if_pos rfl]
  · rw [Array.getElem?_push, if_neg (by simp), Array.getElem?_push, if_pos (by simp)]
  · rw [Array.getElem?_push, if_pos (by simp)]

theorem heap4 {w : World} {g h : Nat} (hne : g ≠ h) {t : TypeId} {a0 a1 : Value} (hg : w.heap[g]? = some (.cells #[a0, a1] t (0, 0))) (u0 u1 v0 v1 : Value) :
    ((((w.setCell ⟨h, 0, none⟩ v0).setCell ⟨h, 1, none⟩ v1).setCell ⟨g, 0, none⟩ u0).setCell ⟨g, 1, none⟩ u1).heap[g]? = some (.cells #[u0, u1] t (0, 0)) := by
  have h1 : ((w.setCell ⟨h, 0, none⟩ v0).setCell ⟨h, 1, none⟩ v1).heap[g]? = some (.cells #[a0, a1] t (0, 0)) := by
    rw [Below.heap_setCell _ _ _ _ hne, Below.heap_setCell _ _ _ _ hne]; exact hg
  exact heap_setCell_same _ g 1 _ _ _ (heap_setCell_same _ g 0 _ _ _ h1)

set_option maxRecDepth 100000 in
set_option maxHeartbeats 400000 in
theorem toArena_any (ao : Option Addr) (l : List Sl) (ca : Nat) (f : Int) (w : World) (hl : l.length ≤ 1048576) (hA : RdI w ao l) :
    Calls Try.prog 17 #[arV ao l.length ca f] w fun e w' => ∃ b c, e = .returned (arV b l.length c f) ∧ w'.ownsRow w.heap.size 47 5 (.slice b l.length c) l.length (sls l) ∧ Below w.heap.size w w' := by
  have c1 := fun o1 o2 o3 => toSlotS_any ao l ca (((w.alloc o1).alloc o2).alloc o3) hl (hA.later ((below2 w o1 o2).alloc (by simp only [World.size_alloc]; omega) o3))
  have C1 := hide1 c1
  clear c1 hA
  unfold arV
  go_enter Try.func17, Try.ntmps17
  go_wp2_with fail
  refine (C1.out _ _ _).mono ?_
  rintro e w1 ⟨b, c, rfl, ho, hb1⟩
  have bl := blocks3 w (.cells #[.slice ao l.length ca, .int .i64 f] 32) (.cells #[.slice none 0 0, .int .i64 0] 24) (.cells #[.slice none 0 0, .int .i64 0] 24)
  have hb0 := (below2 w (.cells #[.slice ao l.length ca, .int .i64 f] 32) (.cells #[.slice none 0 0, .int .i64 0] 24)).alloc (by simp only [World.size_alloc]; omega) (.cells #[.slice none 0 0, .int .i64 0] 24)
  have B1 := hide1 (hb0.trans (hb1.mono hb0.size))
  simp only [World.size_alloc] at ho hb1
  rw [← hb1.block w.heap.size (by omega), ← hb1.block (w.heap.size + 1) (by omega), ← hb1.block (w.heap.size + 1 + 1) (by omega)] at bl
  obtain ⟨b1, b2, b3⟩ := bl
  have x1 : w1.cell? ⟨w.heap.size, 1, none⟩ = some (.int .i64 f) := by rw [cell_of_row w1 w.heap.size 1 _ _ _ b1]; rfl
  have y0 : w1.cell? ⟨w.heap.size + 1, 0, none⟩ = some (.slice none 0 0) := by rw [cell_of_row w1 (w.heap.size + 1) 0 _ _ _ b2]; rfl
  have y1 : w1.cell? ⟨w.heap.size + 1, 1, none⟩ = some (.int .i64 0) := by rw [cell_of_row w1 (w.heap.size + 1) 1 _ _ _ b2]; rfl
  have z0 : w1.cell? ⟨w.heap.size + 1 + 1, 0, none⟩ = some (.slice none 0 0) := by rw [cell_of_row w1 (w.heap.size + 1 + 1) 0 _ _ _ b3]; rfl
  have z1 : w1.cell? ⟨w.heap.size + 1 + 1, 1, none⟩ = some (.int .i64 0) := by rw [cell_of_row w1 (w.heap.size + 1 + 1) 1 _ _ _ b3]; rfl
  have f0 : ∀ j, w1.frozen? ⟨w.heap.size + 1, j, none⟩ = false := fun j => by simp [World.frozen?, b2]
  have f1 : ∀ j, w1.frozen? ⟨w.heap.size + 1 + 1, j, none⟩ = false := fun j => by simp [World.frozen?, b3]
  have HO := hide1 ho
  have BB := hide1 b2
  have hlt := hide1 (fun k (hk : (Value.slice b l.length c).ownBlock = some k) => (ho.lt k hk).1)
  clear ho hb1 hb0 b1 b2 b3
  go_wp2
  refine bodyPost_ret (results_cell_row Try.results17 _ _ (w.heap.size + 1) 24 #[.slice b l.length c, .int .i64 f] (0, 0) _ rfl (heap4 (g := w.heap.size + 1) (h := w.heap.size + 1 + 1) (by omega) BB.out _ _ _ _) Try.underlying24 rfl (by kernel_rfl)) rfl ?_
  refine ⟨b, c, rfl, ?_, ?_⟩
  · refine own_base (own_far (own_far (own_far (own_far HO.out _ _ ?_) _ _ ?_) _ _ ?_) _ _ ?_) (by omega)
    all_goals
      intro k hk
      have := hlt.out k hk
      dsimp only
      omega
  · exact (((B1.out.setCell (p := ⟨w.heap.size + 1 + 1, 0, none⟩) (by dsimp only; omega) _).setCell (p := ⟨w.heap.size + 1 + 1, 1, none⟩) (by dsimp only; omega) _).setCell (p := ⟨w.heap.size + 1, 0, none⟩) (by dsimp only; omega) _).setCell (p := ⟨w.heap.size + 1, 1, none⟩) (by dsimp only; omega) _

set_option maxRecDepth 100000 in
theorem szSlot_any (s : Sl) (left : Nat) (w : World) (hk : s.key.size ≤ 9223372036854775807) (hv : s.val.size ≤ 9223372036854775807) (hl : left ≤ 1048576) :
    Calls Try.prog 48 #[slV s, .int .i64 (left : Int)] w fun e w' => ((e = .returned (.int .i64 (-1)) ∧ ¬ s.key.size + s.val.size ≤ left) ∨ ∃ r : Nat, e = .returned (.int .i64 (r : Int)) ∧ r + s.key.size + s.val.size = left) ∧ Below w.heap.size w w' := by
  unfold slV
  by_cases c1 : s.key.size ≤ left
  · by_cases c2 : s.key.size + s.val.size ≤ left
    · have q1 : decide ((left : Int) - (s.key.size : Int) < 0) = false := by simp; omega
      have q2 : decide ((left : Int) - (s.key.size : Int) - (s.val.size : Int) < 0) = false := by simp; omega
      go_enter Try.func48, Try.ntmps48
      go_wp2
      go_ret
      exact ⟨.inr ⟨left - s.key.size - s.val.size, by show Ending.returned (.int .i64 ((left : Int) - (s.key.size : Int) - (s.val.size : Int))) = _; rw [show ((left - s.key.size - s.val.size : Nat) : Int) = (left : Int) - (s.key.size : Int) - (s.val.size : Int) by omega], by omega⟩, by go_grown⟩
    · have q1 : decide ((left : Int) - (s.key.size : Int) < 0) = false := by simp; omega
      have q2 : decide ((left : Int) - (s.key.size : Int) - (s.val.size : Int) < 0) = true := by simp; omega
      have C2 := hide1 c2
      clear c2
      go_enter Try.func48, Try.ntmps48
      go_wp2
      go_ret
      exact ⟨.inl ⟨rfl, C2.out⟩, by go_grown⟩
  · have q1 : decide ((left : Int) - (s.key.size : Int) < 0) = true := by simp; omega
    have C2 := hide1 (show ¬ s.key.size + s.val.size ≤ left by omega)
    clear c1
    go_enter Try.func48, Try.ntmps48
    go_wp2
    go_ret
    exact ⟨.inl ⟨rfl, C2.out⟩, by go_grown⟩

/-- What a row of slots asks to be looked at whole. -/
def smallA (l : List Sl) : Prop := l.length ≤ 1048576 ∧ ∀ i (h : i < l.length), l[i].key.size ≤ 1048576 ∧ l[i].val.size ≤ 1048576

set_option maxRecDepth 100000 in
set_option maxHeartbeats 400000 in
theorem szSlotS_any (ao : Option Addr) (l : List Sl) (ca : Nat) (w : World) (hl : l.length ≤ 9223372036854775807) (hA : RdI w ao l) (hS : ∀ i (h : i < l.length), l[i].key.size ≤ 9223372036854775807 ∧ l[i].val.size ≤ 9223372036854775807) :
    Calls Try.prog 34 #[.slice ao l.length ca, .int .i64 1048576] w fun e w' => (e = .returned (.int .i64 (-1)) ∨ ∃ r : Nat, e = .returned (.int .i64 (r : Int)) ∧ smallA l) ∧ Below w.heap.size w w' := by
  by_cases c0 : l.length ≤ 1048576
  · have q0 : decide ((1048576 : Int) - (l.length : Int) < 0) = false := by simp; omega
    have HA := hide1 hA
    have HS := hide1 hS
    clear hA hS
    go_enter Try.func34, Try.ntmps34
    go_wp2
    go_loopw [1, 5] (fun lv iv wr => ∃ i left : Nat, i ≤ l.length ∧ iv = .int .i64 (i : Int) ∧ lv = .int .i64 (left : Int) ∧ left ≤ 1048576 ∧ Hid (∀ j (h : j < l.length), j < i → l[j].key.size ≤ 1048576 ∧ l[j].val.size ≤ 1048576) ∧ Below w.heap.size w wr) (fun _ iv _ => l.length - (intOf iv).toNat)
    case atStart => exact ⟨0, 1048576 - l.length, by omega, rfl, by rw [show ((1048576 - l.length : Nat) : Int) = 1048576 - (l.length : Int) by omega], by omega, fun j _ h => by omega, Below.refl _ _⟩
    case round =>
      obtain ⟨i, left, hi, rfl, rfl, hle, hdone, hbel⟩ := hrel
      by_cases hlt : i < l.length
      · have k1 : (i : Int) < (l.length : Int) := by omega
        obtain ⟨b, o, rfl, hb, h1⟩ := HA.out i hlt
        obtain ⟨x0, x1, x2, x3, x4⟩ := h1.below hbel hb
        obtain ⟨m1, m2⟩ := HS.out i hlt
        have cc := hide1 (fun w => szSlot_any l[i] left w m1 m2 hle)
        generalize hs : l[i] = s at *
        have HSS := hide1 hs
        clear h1 hs
        unfold slV at cc
        go_wp2_with fail
        refine (cc.out _).mono ?_
        rintro e w2 ⟨hr, hb2⟩
        have B2 := hide1 (hbel.trans (hb2.mono hbel.size))
        rcases hr with ⟨rfl, _⟩ | ⟨r, rfl, hr⟩
        · go_wp2
          go_ret
          exact ⟨.inl rfl, B2.out⟩
        · have q : decide ((r : Int) < 0) = false := by simp
          have HR := hide1 hr
          have hr2 : r ≤ 1048576 := by omega
          clear hr
          go_wp2
          go_roundw
          case rel => exact ⟨i + 1, r, by omega, by go_num, rfl, hr2, (fun j h hj => by
            by_cases e : j < i
            · exact hdone.out j h e
            · obtain rfl : j = i := by omega
              have := HR.out
              rw [HSS.out]
              omega), B2.out⟩
          case measure => simp [intOf]; omega
      · go_wp2
        go_ret
        exact ⟨.inr ⟨left, rfl, c0, fun j h => hdone.out j h (by omega)⟩, hbel⟩
  · have q0 : decide ((1048576 : Int) - (l.length : Int) < 0) = true := by simp; omega
    clear hA hS
    go_enter Try.func34, Try.ntmps34
    go_wp2
    go_ret
    exact ⟨.inl rfl, Below.refl _ _⟩

theorem szArena_any (ao : Option Addr) (l : List Sl) (ca : Nat) (f : Int) (w : World) (hl : l.length ≤ 9223372036854775807) (hA : RdI w ao l) (hS : ∀ i (h : i < l.length), l[i].key.size ≤ 9223372036854775807 ∧ l[i].val.size ≤ 9223372036854775807) :
    Calls Try.prog 15 #[arV ao l.length ca f, .int .i64 1048576] w fun e w' => (e = .returned (.int .i64 (-1)) ∨ ∃ r : Nat, e = .returned (.int .i64 (r : Int)) ∧ smallA l) ∧ Below w.heap.size w w' := by
  have c1 := fun o => szSlotS_any ao l ca (w.alloc o) hl (hA.later ((Below.refl _ _).alloc (Nat.le_refl _) o)) hS
  have C1 := hide1 c1
  clear c1 hA hS
  unfold arV
  go_enter Try.func15, Try.ntmps15
  go_wp2_with fail
  refine (C1.out _).mono ?_
  rintro e w1 ⟨hr, hb1⟩
  have B1 := hide1 (((Below.refl _ _).alloc (Nat.le_refl _) _).trans (hb1.mono (by rw [World.size_alloc]; omega)))
  rcases hr with rfl | ⟨r, rfl, hr⟩
  · go_wp2
    go_ret
    exact ⟨.inl rfl, B1.out⟩
  · have q : decide ((r : Int) < 0) = false := by simp
    have HR := hide1 hr
    clear hr
    go_wp2
    go_ret
    exact ⟨.inr ⟨r, rfl, HR.out⟩, B1.out⟩
end Go.Proofs.Ytjbcmendifoklaa
