/- The contracts of the statements' functions on tables: comparing, marking, and copying what came in. -/
import Derived.Test.YtahglnojllkjdaaTabM
import Derived.Test.YtahglnojllkjdaaArenaT
import Derived.Test.YtahglnojllkjdaaRoom
namespace Go.Proofs.Ytahglnojllkjdaa
open Go.RowKit

/-- A table as a value. -/
def tbV (co : Option Addr) (n c : Nat) (oo : Option Addr) (m d : Nat) (mv : Int) : Value := .agg #[.slice co n c, .slice oo m d, .int .i64 mv]

set_option maxRecDepth 100000 in
set_option maxHeartbeats 1000000 in
theorem eqTable_any (a b a' b' : Option Addr) (l m l' m' : List Ce) (ca cb ca' cb' : Nat) (va vb : Int) (w : World) (hl : l.length ≤ 1048576) (hl' : l'.length ≤ 1048576) (ha : RdC w a l) (hb : RdC w b m) (ha' : RdC w a' l') (hb' : RdC w b' m') :
    Calls Try.prog 17 #[tbV a l.length ca a' l'.length ca' va, tbV b m.length cb b' m'.length cb' vb] w fun e w' => ∃ x : Bool, e = .returned (.bool x) ∧ (x = true ↔ l = m ∧ l' = m' ∧ va = vb) ∧ Below w.heap.size w w' := by
  have C1 := hide1 (fun o1 o2 => eqCellS_any a b l m ca cb ((w.alloc o1).alloc o2) hl (ha.later (below2 w o1 o2)) (hb.later (below2 w o1 o2)))
  have C2 := hide1 (fun w1 (h : Below w.heap.size w w1) => eqCellS_any a' b' l' m' ca' cb' w1 hl' (ha'.later h) (hb'.later h))
  clear ha hb ha' hb'
  unfold tbV
  go_enter Try.func17, Try.ntmps17
  go_wp2_with fail
  refine (C1.out _ _).mono ?_
  rintro e w1 ⟨x, rfl, hx, hb1⟩
  have HX := hide1 hx
  have B1 := hide1 ((below2 w _ _).trans (hb1.mono (below2 w _ _).size))
  have p1 : w.heap.size < ((w.alloc (.cells #[.slice a l.length ca, .slice a' l'.length ca', .int .i64 va] 26)).alloc (.cells #[.slice b m.length cb, .slice b' m'.length cb', .int .i64 vb] 26)).heap.size := by simp only [World.size_alloc]; omega
  have p2 : w.heap.size + 1 < ((w.alloc (.cells #[.slice a l.length ca, .slice a' l'.length ca', .int .i64 va] 26)).alloc (.cells #[.slice b m.length cb, .slice b' m'.length cb', .int .i64 vb] 26)).heap.size := by simp only [World.size_alloc]; omega
  have bl1 : Hid (Blk w1 w.heap.size 26 [.slice a l.length ca, .slice a' l'.length ca', .int .i64 va]) := Blk.below (Blk.more (Blk.new w _ _) _) hb1 p1
  have bl2 : Hid (Blk w1 (w.heap.size + 1) 26 [.slice b m.length cb, .slice b' m'.length cb', .int .i64 vb]) := by
    have := Blk.new (w.alloc (.cells #[.slice a l.length ca, .slice a' l'.length ca', .int .i64 va] 26)) 26 #[.slice b m.length cb, .slice b' m'.length cb', .int .i64 vb]
    rw [World.size_alloc] at this
    exact this.below hb1 p2
  have x1 : w1.cell? ⟨w.heap.size, 1, none⟩ = some (.slice a' l'.length ca') := bl1.out.cell 1
  have y1 : w1.cell? ⟨w.heap.size + 1, 1, none⟩ = some (.slice b' m'.length cb') := bl2.out.cell 1
  clear hb1 hx p1 p2
  rcases x with _ | _
  · have HN := hide1 (show l ≠ m from fun h => by have := HX.out.2 h; cases this)
    clear HX
    go_wp2
    go_ret
    exact ⟨false, rfl, ⟨(fun h => by cases h), fun h => absurd h.1 HN.out⟩, B1.out⟩
  · have HE := hide1 (HX.out.1 rfl)
    clear HX
    go_wp2_with fail
    refine (C2.out w1 B1.out).mono ?_
    rintro e w2 ⟨x, rfl, hx, hb2⟩
    have HX := hide1 hx
    have B2 := hide1 (B1.out.trans (hb2.mono B1.out.size))
    have x2 : w2.cell? ⟨w.heap.size, 2, none⟩ = some (.int .i64 va) := (hb2.cell bl1.out.lt).trans (bl1.out.cell 2)
    have y2 : w2.cell? ⟨w.heap.size + 1, 2, none⟩ = some (.int .i64 vb) := (hb2.cell bl2.out.lt).trans (bl2.out.cell 2)
    clear hx hb2 x1 y1
    rcases x with _ | _
    · have HN := hide1 (show l' ≠ m' from fun h => by have := HX.out.2 h; cases this)
      clear HX
      go_wp2
      go_ret
      exact ⟨false, rfl, ⟨(fun h => by cases h), fun h => absurd h.2.1 HN.out⟩, B2.out⟩
    · have HE2 := hide1 (HX.out.1 rfl)
      clear HX
      rcases hq : (va == vb) with _ | _
      · have q : (va != vb) = true := by rw [bne, hq]; rfl
        have HF := hide1 (show va ≠ vb from fun h => by rw [h] at hq; simp at hq)
        clear hq
        go_wp2
        go_ret
        exact ⟨false, rfl, ⟨(fun h => by cases h), fun h => absurd h.2.2 HF.out⟩, B2.out⟩
      · have q : (va != vb) = false := by rw [bne, hq]; rfl
        have HF := hide1 (show va = vb by simpa using hq)
        clear hq
        go_wp2
        go_ret
        exact ⟨true, rfl, ⟨(fun _ => ⟨HE.out, HE2.out, HF.out⟩), fun _ => rfl⟩, B2.out⟩

/-- A cell that came in, two memory cells from a place on. -/
def cellO (w : World) (b o i : Nat) (s : Ce) : Prop := w.cell? ⟨b, o + i * 2, none⟩ = some (.string s.key) ∧ w.cell? ⟨b, o + i * 2 + 1, none⟩ = some (.int .i64 s.h)
/-- What came in as a row of cells. -/
def RdJ (w : World) (a : Option Addr) (l : List Ce) : Prop := ∀ i (h : i < l.length), ∃ b o, a = some ⟨b, o, none⟩ ∧ b < w.heap.size ∧ cellO w b o i l[i]
theorem cellO.below {w w' : World} {B b o i : Nat} {s : Ce} (h : cellO w b o i s) (hb : Below B w w') (hg : b < B) : cellO w' b o i s := ⟨(hb.cell hg).trans h.1, (hb.cell hg).trans h.2⟩
theorem RdJ.later {w w' : World} {a : Option Addr} {l : List Ce} (h : RdJ w a l) (hb : Below w.heap.size w w') : RdJ w' a l := by
  intro i hi
  obtain ⟨b, o, ha, hg, hc⟩ := h i hi
  exact ⟨b, o, ha, Nat.lt_of_lt_of_le hg hb.size, hc.below hb hg⟩

set_option maxRecDepth 100000 in
theorem toCell_any (s : Ce) (w : World) : Calls Try.prog 70 #[ceV s] w fun e w' => e = .returned (ceV s) ∧ Below w.heap.size w w' := by
  unfold ceV
  go_enter Try.func70, Try.ntmps70
  go_wp2
  go_returns
  exact ⟨rfl, by go_grown⟩

theorem own_set2 {w : World} {base n g cap : Nat} {e : TypeId} {L : List Ce} (h : w.ownsRow base e 2 (.slice (some ⟨g, 0, none⟩) n cap) n (ces L)) (hL : L.length = n) (i : Nat) (hi : i < n) (s : Ce) :
    ((w.setCell ⟨g, i * 2, none⟩ (.string s.key)).setCell ⟨g, i * 2 + 1, none⟩ (.int .i64 s.h)).ownsRow base e 2 (.slice (some ⟨g, 0, none⟩) n cap) n (ces (L.set i s)) := by
  have st := (World.ownsRow.stored (World.ownsRow.stored h (i * 2) (.string s.key)).1 (i * 2 + 1) (.int .i64 s.h)).1
  rw [set2 _ _ _ _ (by rw [ces_length]; omega)] at st
  rw [ces_set L i s (by omega)]
  exact st
theorem below_set2 {B g : Nat} {w w' : World} (h : Below B w w') (hg : B ≤ g) (i : Nat) (s : Ce) : Below B w ((w'.setCell ⟨g, i * 2, none⟩ (.string s.key)).setCell ⟨g, i * 2 + 1, none⟩ (.int .i64 s.h)) :=
  (h.setCell (p := ⟨g, i * 2, none⟩) hg _).setCell (p := ⟨g, i * 2 + 1, none⟩) hg _
/-- The zero cell. -/
def zC : Ce := ⟨⟨#[]⟩, 0⟩
theorem fill_set2 (l : List Ce) (z s : Ce) (i : Nat) (hi : i < l.length) (hs : l[i] = s) : (l.take i ++ List.replicate (l.length - i) z).set i s = l.take (i + 1) ++ List.replicate (l.length - (i + 1)) z := by
  have hl : (l.take i).length = i := by simp; omega
  rw [List.set_append_right _ _ (by omega), hl, Nat.sub_self, show l.length - i = (l.length - (i + 1)) + 1 by omega, List.replicate_succ, List.set_cons_zero, List.take_succ_eq_append_getElem hi, hs, List.append_assoc]
  rfl
theorem Try.infoCell : (Try.prog.info? 65).map (fun i => (i.zero, i.size, i.bytes)) = some (some (ceV zC), 2, 24) := by kernel_rfl
theorem made2 : ∀ n : Nat, (madeCells (ceV zC).cells (n * 2)).toList = ces (List.replicate n zC) := by
  intro n
  refine List.ext_getElem? fun j => ?_
  have hz : (ceV zC).cells = #[.string ⟨#[]⟩, .int .i64 0] := rfl
  by_cases hj : j < n * 2
  · have h5 : j % 2 < 2 := Nat.mod_lt _ (by decide)
    have hr := ces_at (List.replicate n zC) (j / 2) (j % 2) (by simp; omega) h5
    rw [show j / 2 * 2 + j % 2 = j by omega, List.getElem_replicate] at hr
    rw [hr, hz]
    simp only [madeCells, Array.getElem?_toList]
    rw [Array.getElem?_map, Array.getElem?_range, if_pos hj]
    simp only [Option.map_some]
    show some ((#[Value.string ⟨#[]⟩, .int .i64 0] : Array Value)[j % 2]!) = _
    generalize j % 2 = q at h5
    match q, h5 with
    | 0, _ => rfl
    | 1, _ => rfl
    | q + 2, h => omega
  · rw [List.getElem?_eq_none (by simp [madeCells]; omega), List.getElem?_eq_none (by rw [ces_length]; simp; omega)]

set_option maxRecDepth 100000 in
set_option maxHeartbeats 400000 in
theorem toCellS_any (ao : Option Addr) (l : List Ce) (ca : Nat) (w : World) (hl : l.length ≤ 1048576) (hA : RdJ w ao l) :
    Calls Try.prog 54 #[.slice ao l.length ca] w fun e w' => ∃ b c, e = .returned (.slice b l.length c) ∧ w'.ownsRow w.heap.size 65 2 (.slice b l.length c) l.length (ces l) ∧ Below w.heap.size w w' := by
  obtain ⟨i0, hi, hz0, hz1, hz2⟩ := info_parts Try.infoCell
  have HA := hide1 hA
  clear hA
  go_enter Try.func54, Try.ntmps54
  go_wp2_with (at_make; (refine wpList_make_full _ rfl _ _ 24 rfl w.heap.size 65 i0 (ceV zC) 2 Try.underlying24 hi hz0 hz1 _ _ _ _ l.length rfl rfl rfl rfl (by rw [hz2]; omega) (by unfold maxLen; omega) (Nat.le_refl _) ?_; intro w0 hown0 hg0))
  rw [made2] at hown0
  have HO := hide1 hown0
  clear hown0
  go_loopw [4] (fun iv wr => ∃ i : Nat, i ≤ l.length ∧ iv = .int .i64 (i : Int) ∧ wr.ownsRow w.heap.size 65 2 (.slice (some ⟨w.heap.size, 0, none⟩) l.length l.length) l.length (ces (l.take i ++ List.replicate (l.length - i) zC)) ∧ Below w.heap.size w wr) (fun iv _ => l.length - (intOf iv).toNat)
  case atStart => exact ⟨0, by omega, rfl, by simpa using HO.out, Below.grown (Below.refl _ _) hg0 (Nat.le_refl _) (by intro k hk; cases hk)⟩
  case round =>
    obtain ⟨i, hi, rfl, hown, hbel⟩ := hrel
    by_cases hlt : i < l.length
    · have k1 : (i : Int) < (l.length : Int) := by omega
      obtain ⟨b, o, rfl, hb, h1⟩ := HA.out i hlt
      obtain ⟨x0, x1⟩ := h1.below hbel hb
      have cc := hide1 (fun w => toCell_any l[i] w)
      generalize hs : l[i] = s at *
      have HS := hide1 hs
      clear h1 hs
      have HO1 := hide1 hown
      clear hown
      unfold ceV at cc
      go_wp2_with fail
      refine (cc.out _).mono ?_
      rintro e w2 ⟨rfl, hb2⟩
      have o2 := own_kept HO1.out hb2
      obtain ⟨u0, y0⟩ := own_some o2 (i * 2) (by omega)
      obtain ⟨u1, y1⟩ := own_some o2 (i * 2 + 1) (by omega)
      have f0 := o2.frozenAt (i * 2)
      have f1 := o2.frozenAt (i * 2 + 1)
      have O2 := hide1 o2
      clear o2
      go_wp2
      go_roundw
      case rel =>
        refine ⟨i + 1, by omega, by go_num, ?_, below_set2 (hbel.trans (hb2.mono hbel.size)) (Nat.le_refl _) i s⟩
        rw [← fill_set2 l zC s i hlt HS.out]
        exact own_set2 O2.out (by simp; omega) i hlt s
      case measure => simp [intOf]; omega
    · obtain rfl : i = l.length := by omega
      go_wp2
      go_ret
      exact ⟨_, _, rfl, by simpa using hown, hbel⟩

set_option maxRecDepth 100000 in
theorem szCell_any (s : Ce) (left : Nat) (w : World) (hk : s.key.size ≤ 9223372036854775807) (hl : left ≤ 1048576) :
    Calls Try.prog 69 #[ceV s, .int .i64 (left : Int)] w fun e w' => ((e = .returned (.int .i64 (-1)) ∧ ¬ s.key.size ≤ left) ∨ ∃ r : Nat, e = .returned (.int .i64 (r : Int)) ∧ r + s.key.size = left) ∧ Below w.heap.size w w' := by
  unfold ceV
  by_cases c1 : s.key.size ≤ left
  · have q1 : decide ((left : Int) - (s.key.size : Int) < 0) = false := by simp; omega
    go_enter Try.func69, Try.ntmps69
    go_wp2
    go_ret
    exact ⟨.inr ⟨left - s.key.size, by show Ending.returned (.int .i64 ((left : Int) - (s.key.size : Int))) = _; rw [show ((left - s.key.size : Nat) : Int) = (left : Int) - (s.key.size : Int) by omega], by omega⟩, by go_grown⟩
  · have q1 : decide ((left : Int) - (s.key.size : Int) < 0) = true := by simp; omega
    have C2 := hide1 c1
    clear c1
    go_enter Try.func69, Try.ntmps69
    go_wp2
    go_ret
    exact ⟨.inl ⟨rfl, C2.out⟩, by go_grown⟩

/-- What a row of cells asks to be looked at whole. -/
def smallC (l : List Ce) : Prop := l.length ≤ 1048576 ∧ ∀ i (h : i < l.length), l[i].key.size ≤ 1048576

set_option maxRecDepth 100000 in
set_option maxHeartbeats 400000 in
theorem szCellS_any (ao : Option Addr) (l : List Ce) (ca left0 : Nat) (w : World) (h0 : left0 ≤ 1048576) (hl : l.length ≤ 9223372036854775807) (hA : RdJ w ao l) (hS : ∀ i (h : i < l.length), l[i].key.size ≤ 9223372036854775807) :
    Calls Try.prog 50 #[.slice ao l.length ca, .int .i64 (left0 : Int)] w fun e w' => (e = .returned (.int .i64 (-1)) ∨ ∃ r : Nat, e = .returned (.int .i64 (r : Int)) ∧ r ≤ left0 ∧ smallC l) ∧ Below w.heap.size w w' := by
  by_cases c0 : l.length ≤ left0
  · have q0 : decide ((left0 : Int) - (l.length : Int) < 0) = false := by simp; omega
    have HA := hide1 hA
    have HS := hide1 hS
    clear hA hS
    go_enter Try.func50, Try.ntmps50
    go_wp2
    go_loopw [1, 5] (fun lv iv wr => ∃ i left : Nat, i ≤ l.length ∧ iv = .int .i64 (i : Int) ∧ lv = .int .i64 (left : Int) ∧ left ≤ left0 ∧ Hid (∀ j (h : j < l.length), j < i → l[j].key.size ≤ 1048576) ∧ Below w.heap.size w wr) (fun _ iv _ => l.length - (intOf iv).toNat)
    case atStart => exact ⟨0, left0 - l.length, by omega, rfl, by rw [show ((left0 - l.length : Nat) : Int) = (left0 : Int) - (l.length : Int) by omega], by omega, fun j _ h => by omega, Below.refl _ _⟩
    case round =>
      obtain ⟨i, left, hi, rfl, rfl, hle, hdone, hbel⟩ := hrel
      by_cases hlt : i < l.length
      · have k1 : (i : Int) < (l.length : Int) := by omega
        obtain ⟨b, o, rfl, hb, h1⟩ := HA.out i hlt
        obtain ⟨x0, x1⟩ := h1.below hbel hb
        have m1 := HS.out i hlt
        have cc := hide1 (fun w => szCell_any l[i] left w m1 (by omega))
        generalize hs : l[i] = s at *
        have HSS := hide1 hs
        clear h1 hs
        unfold ceV at cc
        go_wp2_with fail
        refine (cc.out _).mono ?_
        rintro e w2 ⟨hr, hb2⟩
        have B2 := hide1 (hbel.trans (hb2.mono hbel.size))
        rcases hr with ⟨rfl, _⟩ | ⟨r, rfl, hr⟩
        · go_wp2
          go_ret
          exact ⟨.inl rfl, B2.out⟩
        · have q : decide ((r : Int) < 0) = false := by simp
          have HR := hide1 hr
          have hr2 : r ≤ left0 := by omega
          clear hr
          go_wp2
          go_roundw
          case rel => exact ⟨i + 1, r, by omega, by go_num, rfl, hr2, (fun j h hj => by
            by_cases e : j < i
            · exact hdone.out j h e
            · obtain rfl : j = i := by omega
              have := HR.out
              rw [HSS.out]
              omega), B2.out⟩
          case measure => simp [intOf]; omega
      · go_wp2
        go_ret
        exact ⟨.inr ⟨left, rfl, hle, by omega, fun j h => hdone.out j h (by omega)⟩, hbel⟩
  · have q0 : decide ((left0 : Int) - (l.length : Int) < 0) = true := by simp; omega
    clear hA hS
    go_enter Try.func50, Try.ntmps50
    go_wp2
    go_ret
    exact ⟨.inl rfl, Below.refl _ _⟩
end Go.Proofs.Ytahglnojllkjdaa
