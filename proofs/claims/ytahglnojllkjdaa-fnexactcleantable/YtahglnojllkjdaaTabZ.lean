/- A key laid among a board's cells, and the next old one moved, by the program. -/
import Derived.Test.YtahglnojllkjdaaTabY
namespace Go.Proofs.Ytahglnojllkjdaa
open Go.RowKit

/-- A key laid where its way has the first cell without one. -/
def layC (l : List Ce) (key : ByteArray) (h : Int) : Option (List Ce) :=
  match (srchC l key).2 with
  | none => none
  | some k => match l[k]? with
    | some x => if x.h = -1 ∧ cntN l l.length = 1 then none else some (l.set k ⟨key, h⟩)
    | none => none
theorem layC_put {l : List Ce} {key : ByteArray} (hF : FitC l) (h0 : (srchC l key).1 = none) (h : Int) : layC l key h = putC l key h := by
  rw [putC_srch hF h0, layC]
  rfl
theorem layC_length {l l' : List Ce} {key : ByteArray} {h : Int} (e : layC l key h = some l') : l'.length = l.length := by
  unfold layC at e
  split at e
  · cases e
  · split at e
    · split at e
      · cases e
      · injection e with e; rw [← e, List.length_set]
    · cases e
theorem srchC_free_lt {l : List Ce} {key : ByteArray} {k : Nat} (hl : 0 < l.length) (h : (srchC l key).2 = some k) : k < l.length := srchD_free_lt hl _ _ _ _ (fun j e => by cases e) h

theorem gdrew {w w' : World} {r : Option Nat} (h : w.grownBy w' r) : w.grownBy w'.drew r := ⟨h.os, h.tape, h.output, h.size, h.block⟩

set_option maxRecDepth 100000 in
set_option maxHeartbeats 2000000 in
theorem lay_grown {B b g mv : Nat} {w : World} {l o : List Ce} (h : Brd B w b g l o mv) (c : Ce) (hl : l.length ≤ 1048576) (hl0 : 0 < l.length) (hk : c.key.size ≤ 1048576) :
    Calls Try.prog 60 #[.pointer (some ⟨b, 0, none⟩), ceV c] w fun e w' => ((∃ l', layC l c.key c.h = some l' ∧ e = .returned (.bool true) ∧ Brd B w' b g l' o mv) ∨ (layC l c.key c.h = none ∧ e = .returned (.bool false) ∧ Brd B w' b g l o mv)) ∧ w.grownBy w' (some g) := by
  obtain ⟨ky, hh⟩ := c
  unfold ceV
  simp only at hk ⊢
  have CS := hide1 (fun w' (hb : Below w.heap.size w w') => search_any (some ⟨g, 0, none⟩) l l.length ky w' hl hk (h.later hb).cells)
  have F0 : Hid (Blk (w.alloc (.cells #[.string ky, .int .i64 hh] 65)) w.heap.size 65 [.string ky, .int .i64 hh] ∧ Below w.heap.size w (w.alloc (.cells #[.string ky, .int .i64 hh] 65))) := ⟨Blk.new w _ _, (Below.refl _ _).alloc (Nat.le_refl _) _⟩
  have HD := hide1 h
  have hbl := h.hd.lt
  clear h
  go_enter Try.func60, Try.ntmps60
  go_wp2_with fail
  generalize (w.alloc (.cells #[.string ky, .int .i64 hh] 65)) = w0 at F0 ⊢
  obtain ⟨K0, B0⟩ := F0.out
  have D0 := hide1 (HD.out.later B0)
  have x0 : w0.cell? ⟨b, 0, none⟩ = some (.slice (some ⟨g, 0, none⟩) l.length l.length) := D0.out.hd.cell 0
  have y0 : w0.cell? ⟨w.heap.size, 0, none⟩ = some (.string ky) := K0.cell 0
  have XY := hide1 (And.intro x0 y0)
  have hb0 : b < w0.heap.size := D0.out.hd.lt
  have hs0 : w.heap.size < w0.heap.size := K0.lt
  have K0 := hide1 K0
  have B0 := hide1 B0
  clear F0
  go_region_held3 (fun w' => w'.cell? ⟨b, 0, none⟩ = some (.slice (some ⟨g, 0, none⟩) l.length l.length) ∧ w'.cell? ⟨w.heap.size, 0, none⟩ = some (.string ky)) (first | go_keep | exact ⟨(D1.out.cell hb0).trans XY.out.1, (D1.out.cell hs0).trans XY.out.2⟩) ((go_at_call 72; refine (CS.out _ (B0.out.trans ((show Below w0.heap.size w0 _ by go_grown).mono B0.out.size))).mono ?_; rintro e w1 ⟨rfl, hb1⟩; have D1 : Hid (Below w0.heap.size w0 w1) := (show Below w0.heap.size w0 _ by go_grown).trans hb1))
  have E1 := hide1 (D0.out.later D1.out)
  have K1 := hide1 (K0.out.below D1.out hs0)
  have B1 := hide1 (B0.out.trans (D1.out.mono B0.out.size))
  have hs1 : w0.heap.size ≤ w1.heap.size := D1.out.size
  clear hb1 D1 XY x0 y0 D0 K0 CS
  generalize optI (srchC l ky).1 = r1
  rcases hf : (srchC l ky).2 with _ | k
  · have HN := hide1 (show layC l ky hh = none by rw [layC, hf])
    unfold optI
    clear hf
    go_wp2
    go_ret
    exact ⟨.inr ⟨HN.out, rfl, E1.out⟩, gnew B1.out⟩
  · have hkl := srchC_free_lt hl0 hf
    have k1 : (k : Int) < (l.length : Int) := by omega
    have q0 : ((k : Int) == (-1 : Int)) = false := by simp
    have hpc : Hid (layC l ky hh = if l[k].h = -1 ∧ cntN l l.length = 1 then none else some (l.set k ⟨ky, hh⟩)) := by
      show layC l ky hh = _
      rw [layC, hf]
      simp only []
      rw [List.getElem?_eq_getElem hkl]
    have z0 : w1.cell? ⟨b, 0, none⟩ = some (.slice (some ⟨g, 0, none⟩) l.length l.length) := E1.out.hd.cell 0
    have z1 : w1.cell? ⟨g, k * 2 + 1, none⟩ = some (.int .i64 l[k].h) := by have := (Blk.segat (A := []) (L := l) (C := o) (of := 0) E1.out.tl rfl hkl).2; rw [Nat.zero_add] at this; exact this
    have CC := hide1 (countNone_any (some ⟨g, 0, none⟩) l l.length E1.out.hd hl E1.out.cells)
    have last : ∀ w2, Hid (Brd B w2 b g l o mv) → Hid (w.grownBy w2 (some g)) → Hid (Blk w2 w.heap.size 65 [.string ky, .int .i64 hh]) → Hid (Brd B ((w2.setCell ⟨g, k * 2, none⟩ (.string ky)).setCell ⟨g, k * 2 + 1, none⟩ (.int .i64 hh)) b g (l.set k ⟨ky, hh⟩) o mv ∧ w.grownBy ((w2.setCell ⟨g, k * 2, none⟩ (.string ky)).setCell ⟨g, k * 2 + 1, none⟩ (.int .i64 hh)) (some g)) := by
      intro w2 e2 b2 _
      exact ⟨e2.out.setC hkl ⟨ky, hh⟩, gset (gset b2.out _ _) _ _⟩
    have cell0 : ∀ w2, Hid (Brd B w2 b g l o mv) → w2.cell? ⟨g, k * 2, none⟩ = some (.string l[k].key) ∧ w2.cell? ⟨g, k * 2 + 1, none⟩ = some (.int .i64 l[k].h) := by
      intro w2 e2
      have := Blk.segat (A := []) (L := l) (C := o) (of := 0) e2.out.tl rfl hkl
      unfold cellO at this
      rw [Nat.zero_add] at this
      exact this
    have LAST := hide1 last
    have CELL := hide1 cell0
    generalize l[k].h = xh at *
    generalize l[k].key = xk at *
    clear hf last cell0
    unfold optI
    by_cases d1 : xh = -1
    · have b1 : (xh == (-1 : Int)) = true := by simp [d1]
      go_wp2_with fail
      refine CC.out.mono ?_
      rintro e w2 ⟨rfl, hb2⟩
      have E2 := hide1 (E1.out.later hb2)
      have K2 := hide1 (K1.out.below hb2 (by omega))
      have B2 : Hid (w.grownBy w2 (some g)) := gnew (B1.out.trans (hb2.mono B1.out.size))
      clear hb2 z0 z1
      by_cases d2 : cntN l l.length = 1
      · have b2 : ((cntN l l.length : Int) == 1) = true := by simp [d2]
        have HN := hide1 (show layC l ky hh = none by rw [hpc.out, if_pos ⟨d1, d2⟩])
        generalize cntN l l.length = n at *
        clear hpc d1 d2
        go_wp2
        go_ret
        exact ⟨.inr ⟨HN.out, rfl, E2.out⟩, B2.out⟩
      · have b2 : ((cntN l l.length : Int) == 1) = false := by simp; omega
        have HN := hide1 (show layC l ky hh = some (l.set k ⟨ky, hh⟩) by rw [hpc.out, if_neg (fun h => d2 h.2)])
        generalize cntN l l.length = n at *
        clear hpc d1 d2
        have z0 : w2.cell? ⟨b, 0, none⟩ = some (.slice (some ⟨g, 0, none⟩) l.length l.length) := E2.out.hd.cell 0
        have u0 : w2.cell? ⟨w.heap.size, 0, none⟩ = some (.string ky) := K2.out.cell 0
        have u1 : w2.cell? ⟨w.heap.size, 1, none⟩ = some (.int .i64 hh) := K2.out.cell 1
        obtain ⟨t0, t1⟩ := CELL.out w2 E2
        have f0 := E2.out.tl.froz (k * 2)
        have f1 := E2.out.tl.froz (k * 2 + 1)
        have LL := LAST.out w2 E2 B2 K2
        go_wp2
        go_region
        all_goals go_wp2
        all_goals
          go_ret
          first | exact ⟨.inl ⟨_, HN.out, rfl, LL.out.1⟩, LL.out.2⟩ | exact ⟨.inl ⟨_, HN.out, rfl, LL.out.1.later (Below.refl _ _).drew⟩, gdrew LL.out.2⟩
    · have b1 : (xh == (-1 : Int)) = false := by simp [d1]
      have HN := hide1 (show layC l ky hh = some (l.set k ⟨ky, hh⟩) by rw [hpc.out, if_neg (fun h => d1 h.1)])
      clear hpc d1 CC
      have u0 : w1.cell? ⟨w.heap.size, 0, none⟩ = some (.string ky) := K1.out.cell 0
      have u1 : w1.cell? ⟨w.heap.size, 1, none⟩ = some (.int .i64 hh) := K1.out.cell 1
      have B1' : Hid (w.grownBy w1 (some g)) := gnew B1.out
      obtain ⟨t0, t1⟩ := CELL.out w1 E1
      have f0 := E1.out.tl.froz (k * 2)
      have f1 := E1.out.tl.froz (k * 2 + 1)
      have LL := LAST.out w1 E1 B1' K1
      go_wp2
      go_region
      all_goals go_wp2
      all_goals
        go_ret
        first | exact ⟨.inl ⟨_, HN.out, rfl, LL.out.1⟩, LL.out.2⟩ | exact ⟨.inl ⟨_, HN.out, rfl, LL.out.1.later (Below.refl _ _).drew⟩, gdrew LL.out.2⟩
theorem lay_any {B b g mv : Nat} {w : World} {l o : List Ce} (h : Brd B w b g l o mv) (c : Ce) (hB : B ≤ w.heap.size) (hl : l.length ≤ 1048576) (hl0 : 0 < l.length) (hk : c.key.size ≤ 1048576) :
    Calls Try.prog 60 #[.pointer (some ⟨b, 0, none⟩), ceV c] w fun e w' => ((∃ l', layC l c.key c.h = some l' ∧ e = .returned (.bool true) ∧ Brd B w' b g l' o mv) ∨ (layC l c.key c.h = none ∧ e = .returned (.bool false) ∧ Brd B w' b g l o mv)) ∧ Below B w w' := by
  refine (lay_grown h c hl hl0 hk).mono ?_
  rintro e w' ⟨h1, h2⟩
  exact ⟨h1, gbelow h2 (fun g' e => by have := h.lg; rw [← Option.some.inj e]; exact this) hB⟩
end Go.Proofs.Ytahglnojllkjdaa
