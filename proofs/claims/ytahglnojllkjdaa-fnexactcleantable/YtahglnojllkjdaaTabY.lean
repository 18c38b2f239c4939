/- Cells of a board written, by the program: taking and laying a key. -/
import Derived.Test.YtahglnojllkjdaaTabX
namespace Go.Proofs.Ytahglnojllkjdaa
open Go.RowKit

/-- A cell that is gone. -/
def gC : Ce := ⟨⟨#[]⟩, -2⟩
theorem seg_set {A L C : List Ce} {k : Nat} (hk : k < L.length) (s : Ce) : (A ++ L ++ C).set (A.length + k) s = A ++ L.set k s ++ C := by
  rw [List.append_assoc, List.set_append_right _ _ (by omega), Nat.add_sub_cancel_left, List.set_append_left _ _ hk, List.append_assoc]
theorem seg_at {A L C : List Ce} {k : Nat} (hk : k < L.length) : (A ++ L ++ C)[A.length + k]'(by simp only [List.length_append]; omega) = L[k] := by
  rw [List.getElem_append_left (by simp only [List.length_append]; omega), List.getElem_append_right (by omega)]
  simp
theorem Blk.segset {w : World} {g k of : Nat} {A L C : List Ce} (h : Blk w g 65 (ces (A ++ L ++ C))) (ho : of = A.length * 2) (hk : k < L.length) (s : Ce) :
    Blk ((w.setCell ⟨g, of + k * 2, none⟩ (.string s.key)).setCell ⟨g, of + k * 2 + 1, none⟩ (.int .i64 s.h)) g 65 (ces (A ++ L.set k s ++ C)) := by
  subst ho
  have st := (h.set (A.length * 2 + k * 2) (.string s.key)).set (A.length * 2 + k * 2 + 1) (.int .i64 s.h)
  rw [show A.length * 2 + k * 2 = (A.length + k) * 2 by omega, ces_setK (by simp only [List.length_append]; omega), seg_set hk] at st
  rw [show A.length * 2 + k * 2 = (A.length + k) * 2 by omega]
  exact st
theorem Blk.segat {w : World} {g k of : Nat} {A L C : List Ce} (h : Blk w g 65 (ces (A ++ L ++ C))) (ho : of = A.length * 2) (hk : k < L.length) : cellO w g of k L[k] := by
  subst ho
  unfold cellO
  rw [show A.length * 2 + k * 2 = (A.length + k) * 2 by omega, h.cell, h.cell, ces_at0 (by simp only [List.length_append]; omega), ces_at1 (by simp only [List.length_append]; omega), seg_at hk]
  exact ⟨rfl, rfl⟩
theorem Blk.segrd {w : World} {g of : Nat} {x : Option Addr} {A L C : List Ce} (h : Blk w g 65 (ces (A ++ L ++ C))) (ho : of = A.length * 2) (hx : L ≠ [] → x = some ⟨g, of, none⟩) : RdJ w x L := by
  intro i hi
  exact ⟨g, of, hx (fun e => by rw [e] at hi; simp at hi), h.lt, h.segat ho hi⟩

set_option maxRecDepth 100000 in
set_option maxHeartbeats 1000000 in
theorem take_any (x : Option Addr) (A L C : List Ce) (c g of : Nat) (key : ByteArray) (w : World) (ho : of = A.length * 2) (hx : L ≠ [] → x = some ⟨g, of, none⟩) (hB : Blk w g 65 (ces (A ++ L ++ C))) (hl : L.length ≤ 1048576) (hk : key.size ≤ 1048576) :
    Calls Try.prog 61 #[.slice x L.length c, .string key] w fun e w' => (∃ k, (srchC L key).1 = some k ∧ e = .returned (.bool true) ∧ Blk w' g 65 (ces (A ++ L.set k gC ++ C)) ∧ w.grownBy w' (some g)) ∨ ((srchC L key).1 = none ∧ e = .returned (.bool false) ∧ Below w.heap.size w w') := by
  have CP := hide1 (placeOf_any x L c key w hl hk (hB.segrd ho hx))
  have HB := hide1 hB
  have HO := hide1 ho
  have HX := hide1 hx
  clear hB ho hx
  rcases hs : (srchC L key).1 with _ | k
  · rw [hs] at CP
    unfold optI at CP
    clear hs
    go_enter Try.func61, Try.ntmps61
    go_wp2_with fail
    refine CP.out.mono ?_
    rintro e w1 ⟨rfl, hb1⟩
    have B1 := hide1 hb1
    clear hb1
    go_wp2
    go_ret
    first | exact .inr ⟨rfl, rfl, B1.out⟩ | exact .inr ⟨trivial, rfl, B1.out⟩
  · have hkl := srchC_lt hs
    have k1 : (k : Int) < (L.length : Int) := by omega
    have hxx := HX.out (fun e => by rw [e] at hkl; simp at hkl)
    subst hxx
    rw [hs] at CP
    unfold optI at CP
    clear hs
    go_enter Try.func61, Try.ntmps61
    go_wp2_with fail
    refine CP.out.mono ?_
    rintro e w1 ⟨rfl, hb1⟩
    have K1 := hide1 (HB.out.below hb1 HB.out.lt)
    have G1 : Hid (w.grownBy ((w1.setCell ⟨g, of + k * 2, none⟩ (.string ⟨#[]⟩)).setCell ⟨g, of + k * 2 + 1, none⟩ (.int .i64 (-2))) (some g)) := gset (gset (gnew hb1) _ _) _ _
    have K2 := hide1 (K1.out.segset HO.out hkl gC)
    obtain ⟨y0, y1⟩ := K1.out.segat HO.out hkl
    have f0 := K1.out.froz (of + k * 2)
    have f1 := K1.out.froz (of + k * 2 + 1)
    generalize L[k] = s at *
    obtain ⟨ky, hh⟩ := s
    simp only at y0 y1
    unfold gC at K2
    clear hb1 K1
    go_wp2
    go_ret
    first | exact .inl ⟨k, rfl, rfl, K2.out, G1.out⟩ | exact ⟨k, rfl, K2.out, G1.out⟩
theorem Brd.bel {B b g mv : Nat} {w w' : World} {l o : List Ce} (h : Brd B w b g l o mv) (hb : w.grownBy w' (some g)) {l' o' : List Ce} (hl : l'.length = l.length) (ho : o'.length = o.length) (hK : Blk w' g 65 (ces (l' ++ o'))) : Brd B w' b g l' o' mv := by
  refine ⟨h.lb, h.lg, h.ne, ?_, hK⟩
  rw [hl, ho]
  exact (hb.block b h.hd.lt (fun e => h.ne (Option.some.inj e))).trans h.hd
theorem Brd.setC {B b g mv k : Nat} {w : World} {l o : List Ce} (h : Brd B w b g l o mv) (hk : k < l.length) (s : Ce) : Brd B ((w.setCell ⟨g, k * 2, none⟩ (.string s.key)).setCell ⟨g, k * 2 + 1, none⟩ (.int .i64 s.h)) b g (l.set k s) o mv := by
  refine h.bel (gset (gset (World.grownBy.refl _ _) _ _) _ _) (List.length_set ..) rfl ?_
  have := Blk.segset (A := []) (L := l) (C := o) (of := 0) h.tl rfl hk s
  rw [Nat.zero_add] at this
  exact this
theorem Brd.setO {B b g mv k : Nat} {w : World} {l o : List Ce} (h : Brd B w b g l o mv) (hk : k < o.length) (s : Ce) : Brd B ((w.setCell ⟨g, l.length * 2 + k * 2, none⟩ (.string s.key)).setCell ⟨g, l.length * 2 + k * 2 + 1, none⟩ (.int .i64 s.h)) b g l (o.set k s) mv := by
  refine h.bel (gset (gset (World.grownBy.refl _ _) _ _) _ _) rfl (List.length_set ..) ?_
  have := Blk.segset (A := l) (L := o) (C := []) (of := l.length * 2) (by rw [List.append_nil]; exact h.tl) rfl hk s
  rw [List.append_nil] at this
  exact this
theorem Brd.setH {B b g mv k : Nat} {w : World} {l o : List Ce} (h : Brd B w b g l o mv) (hk : k < l.length) (v : Int) : Brd B (w.setCell ⟨g, k * 2 + 1, none⟩ (.int .i64 v)) b g (l.set k ⟨l[k].key, v⟩) o mv := by
  refine h.bel (gset (World.grownBy.refl _ _) _ _) (List.length_set ..) rfl ?_
  have st := h.tl.set (k * 2 + 1) (.int .i64 v)
  rw [ces_setH (by simp only [List.length_append]; omega), List.getElem_append_left hk, List.set_append_left _ _ hk] at st
  exact st

theorem takeCells_any {B b g mv : Nat} {w : World} {l o : List Ce} (h : Brd B w b g l o mv) (key : ByteArray) (hB : B ≤ w.heap.size) (hl : l.length ≤ 1048576) (hk : key.size ≤ 1048576) :
    Calls Try.prog 61 #[.slice (some ⟨g, 0, none⟩) l.length l.length, .string key] w fun e w' => ((∃ k, (srchC l key).1 = some k ∧ e = .returned (.bool true) ∧ Brd B w' b g (l.set k gC) o mv) ∨ ((srchC l key).1 = none ∧ e = .returned (.bool false) ∧ Brd B w' b g l o mv)) ∧ Below B w w' := by
  refine (take_any (some ⟨g, 0, none⟩) [] l o l.length g 0 key w rfl (fun _ => rfl) h.tl hl hk).mono ?_
  rintro e w' (⟨k, h1, h2, h3, h4⟩ | ⟨h1, h2, h3⟩)
  · exact ⟨.inl ⟨k, h1, h2, h.bel h4 (List.length_set ..) rfl h3⟩, gbelow h4 (fun g' e => by have := h.lg; rw [← Option.some.inj e]; exact this) hB⟩
  · exact ⟨.inr ⟨h1, h2, h.later h3⟩, h3.mono hB⟩
theorem takeOld_any {B b g mv : Nat} {w : World} {l o : List Ce} (h : Brd B w b g l o mv) (key : ByteArray) (hB : B ≤ w.heap.size) (hl : o.length ≤ 1048576) (hk : key.size ≤ 1048576) :
    Calls Try.prog 61 #[.slice (oldP g l.length o.length) o.length o.length, .string key] w fun e w' => ((∃ k, (srchC o key).1 = some k ∧ e = .returned (.bool true) ∧ Brd B w' b g l (o.set k gC) mv) ∨ ((srchC o key).1 = none ∧ e = .returned (.bool false) ∧ Brd B w' b g l o mv)) ∧ Below B w w' := by
  refine (take_any (oldP g l.length o.length) l o [] o.length g (l.length * 2) key w rfl (fun e => if_neg (fun h => e (List.eq_nil_of_length_eq_zero h))) (by rw [List.append_nil]; exact h.tl) hl hk).mono ?_
  rintro e w' (⟨k, h1, h2, h3, h4⟩ | ⟨h1, h2, h3⟩)
  · rw [List.append_nil] at h3
    exact ⟨.inl ⟨k, h1, h2, h.bel h4 rfl (List.length_set ..) h3⟩, gbelow h4 (fun g' e => by have := h.lg; rw [← Option.some.inj e]; exact this) hB⟩
  · exact ⟨.inr ⟨h1, h2, h.later h3⟩, h3.mono hB⟩
end Go.Proofs.Ytahglnojllkjdaa
