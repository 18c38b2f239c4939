import Derived.Test.YtigpjmmfelndkaaGreatDoorLXH
namespace Go.Proofs.YtigpjmmfelndkaaGreatDoor
open Go.RowKit
set_option maxRecDepth 100000
set_option maxHeartbeats 2000000
def gC : Ce := ⟨⟨#[]⟩, -2⟩
theorem zbP {A L C : List Ce} {k : Nat} (hk : k < L.length) (s : Ce) : (A ++ L ++ C).set (A.length + k) s = A ++ L.set k s ++ C := by
 rw [List.append_assoc, List.set_append_right _ _ (by omega), Nat.add_sub_cancel_left, List.set_append_left _ _ hk, List.append_assoc]
theorem zdN {A L C : List Ce} {k : Nat} (hk : k < L.length) : (A ++ L ++ C)[A.length + k]'(by simp only [List.length_append]; omega) = L[k] := by
 rw [List.getElem_append_left (by simp only [List.length_append]; omega), List.getElem_append_right (by omega)]
 simp
theorem Blk.segset {w : World} {g k of : Nat} {A L C : List Ce} (h : Blk w g 132 (ces (A ++ L ++ C))) (ho : of = A.length * 2) (hk : k < L.length) (s : Ce) :
  Blk ((w.setCell ⟨g, of + k * 2, none⟩ (.string s.key)).setCell ⟨g, of + k * 2 + 1, none⟩ (.int .i64 s.h)) g 132 (ces (A ++ L.set k s ++ C)) := by
 subst ho
 have st := (h.set (A.length * 2 + k * 2) (.string s.key)).set (A.length * 2 + k * 2 + 1) (.int .i64 s.h)
 rw [show A.length * 2 + k * 2 = (A.length + k) * 2 by omega, qoX (by simp only [List.length_append]; omega), zbP hk] at st
 rw [show A.length * 2 + k * 2 = (A.length + k) * 2 by omega]
 exact st
theorem Blk.segat {w : World} {g k of : Nat} {A L C : List Ce} (h : Blk w g 132 (ces (A ++ L ++ C))) (ho : of = A.length * 2) (hk : k < L.length) : cellO w g of k L[k] := by
 subst ho
 unfold cellO
 rw [show A.length * 2 + k * 2 = (A.length + k) * 2 by omega, h.cell, h.cell, qjB (by simp only [List.length_append]; omega), qmB (by simp only [List.length_append]; omega), zdN hk]
 exact ⟨rfl, rfl⟩
theorem Blk.segrd {w : World} {g of : Nat} {x : Option Addr} {A L C : List Ce} (h : Blk w g 132 (ces (A ++ L ++ C))) (ho : of = A.length * 2) (hx : L ≠ [] -> x = some ⟨g, of, none⟩) : RdJ w x L := by
 intro i hi
 exact ⟨g, of, hx (fun e => by rw [e] at hi; simp at hi), h.lt, h.segat ho hi⟩
theorem qtY (x : Option Addr) (A L C : List Ce) (c g of : Nat) (key : ByteArray) (w : World) (ho : of = A.length * 2) (hx : L ≠ [] -> x = some ⟨g, of, none⟩) (hB : Blk w g 132 (ces (A ++ L ++ C))) (hl : L.length <= 1048576) (hk : key.size <= 1048576) :
  Calls Tryz.prog 168 #[.slice x L.length c, .string key] w fun e w' => (∃ k, (qaP L key).1 = some k /\ e = .returned (.bool true) /\ Blk w' g 132 (ces (A ++ L.set k gC ++ C)) /\ w.grownBy w' (some g)) ∨ ((qaP L key).1 = none /\ e = .returned (.bool false) /\ Below w.heap.size w w') := by
 have CP := hI (qdB x L c key w hl hk (hB.segrd ho hx))
 have HB := hI hB
 have HO := hI ho
 have HX := hI hx
 clear hB ho hx
 rcases hs : (qaP L key).1 with _ | k
 ·rw [hs] at CP
  unfold qdC at CP
  clear hs
  go_enter Tryz.func168, Tryz.ntmps168
  go_wp2_with fail
  refine CP.out.mono ?_
  rintro e w1 ⟨rfl, hb1⟩
  have B1 := hI hb1
  clear hb1
  go_wp2
  go_ret
  first | exact .inr ⟨rfl, rfl, B1.out⟩ | exact .inr ⟨trivial, rfl, B1.out⟩
 ·have hkl := qfD hs
  have k1 : (k : Int) < (L.length : Int) := by omega
  have hxx := HX.out (fun e => by rw [e] at hkl; simp at hkl)
  subst hxx
  rw [hs] at CP
  unfold qdC at CP
  clear hs
  go_enter Tryz.func168, Tryz.ntmps168
  go_wp2_with fail
  refine CP.out.mono ?_
  rintro e w1 ⟨rfl, hb1⟩
  have K1 := bRn HB hb1
  have G1 : Hid (w.grownBy ((w1.setCell ⟨g, of + k * 2, none⟩ (.string ⟨#[]⟩)).setCell ⟨g, of + k * 2 + 1, none⟩ (.int .i64 (-2))) (some g)) := qbF (qbF (qbO hb1) _ _) _ _
  have K2 := hI (K1.out.segset HO.out hkl gC)
  obtain ⟨y0, y1⟩ := K1.out.segat HO.out hkl
  have f0 := K1.out.froz (of + k * 2)
  have f1 := K1.out.froz (of + k * 2 + 1)
  generalize L[k] = s at *
  obtain ⟨ky, hh⟩ := s
  simp only at y0 y1
  unfold gC at K2
  clear hb1 K1
  go_wp2
  go_ret
  first | exact .inl ⟨k, rfl, rfl, K2.out, G1.out⟩ | exact ⟨k, rfl, K2.out, G1.out⟩
theorem Brd.bel {B b g mv : Nat} {w w' : World} {l o : List Ce} (h : Brd B w b g l o mv) (hb : w.grownBy w' (some g)) {l' o' : List Ce} (hl : l'.length = l.length) (ho : o'.length = o.length) (hK : Blk w' g 132 (ces (l' ++ o'))) : Brd B w' b g l' o' mv := by
 refine ⟨h.lb, h.lg, h.ne, ?_, hK⟩
 rw [hl, ho]
 exact (hb.block b h.hd.lt (fun e => h.ne (Option.some.inj e))).trans h.hd
theorem Brd.setC {B b g mv k : Nat} {w : World} {l o : List Ce} (h : Brd B w b g l o mv) (hk : k < l.length) (s : Ce) : Brd B ((w.setCell ⟨g, k * 2, none⟩ (.string s.key)).setCell ⟨g, k * 2 + 1, none⟩ (.int .i64 s.h)) b g (l.set k s) o mv := by
 refine h.bel (qbF (qbF (World.grownBy.refl _ _) _ _) _ _) (List.length_set ..) rfl ?_
 have := Blk.segset (A := []) (L := l) (C := o) (of := 0) h.tl rfl hk s
 rw [Nat.zero_add] at this
 exact this
theorem Brd.setH {B b g mv k : Nat} {w : World} {l o : List Ce} (h : Brd B w b g l o mv) (hk : k < l.length) (v : Int) : Brd B (w.setCell ⟨g, k * 2 + 1, none⟩ (.int .i64 v)) b g (l.set k ⟨l[k].key, v⟩) o mv := by
 refine h.bel (qbF (World.grownBy.refl _ _) _ _) (List.length_set ..) rfl ?_
 have st := h.tl.set (k * 2 + 1) (.int .i64 v)
 rw [qoY (by simp only [List.length_append]; omega), List.getElem_append_left hk, List.set_append_left _ _ hk] at st
 exact st
theorem qnO {B b g mv : Nat} {w : World} {l o : List Ce} (h : Brd B w b g l o mv) (key : ByteArray) (hB : B <= w.heap.size) (hl : l.length <= 1048576) (hk : key.size <= 1048576) :
  Calls Tryz.prog 168 #[.slice (some ⟨g, 0, none⟩) l.length l.length, .string key] w fun e w' => ((∃ k, (qaP l key).1 = some k /\ e = .returned (.bool true) /\ Brd B w' b g (l.set k gC) o mv) ∨ ((qaP l key).1 = none /\ e = .returned (.bool false) /\ Brd B w' b g l o mv)) /\ Below B w w' := by
 refine (qtY (some ⟨g, 0, none⟩) [] l o l.length g 0 key w rfl (fun _ => rfl) h.tl hl hk).mono ?_
 rintro e w' (⟨k, h1, h2, h3, h4⟩ | ⟨h1, h2, h3⟩)
 ·exact ⟨.inl ⟨k, h1, h2, h.bel h4 (List.length_set ..) rfl h3⟩, qaU h4 (fun g' e => by have := h.lg; rw [<- Option.some.inj e]; exact this) hB⟩
 ·exact ⟨.inr ⟨h1, h2, h.later h3⟩, h3.mono hB⟩
theorem qkS {B b g mv : Nat} {w : World} {l o : List Ce} (h : Brd B w b g l o mv) (key : ByteArray) (hB : B <= w.heap.size) (hl : o.length <= 1048576) (hk : key.size <= 1048576) :
  Calls Tryz.prog 168 #[.slice (qmY g l.length o.length) o.length o.length, .string key] w fun e w' => ((∃ k, (qaP o key).1 = some k /\ e = .returned (.bool true) /\ Brd B w' b g l (o.set k gC) mv) ∨ ((qaP o key).1 = none /\ e = .returned (.bool false) /\ Brd B w' b g l o mv)) /\ Below B w w' := by
 refine (qtY (qmY g l.length o.length) l o [] o.length g (l.length * 2) key w rfl (fun e => if_neg (fun h => e (List.eq_nil_of_length_eq_zero h))) (by rw [List.append_nil]; exact h.tl) hl hk).mono ?_
 rintro e w' (⟨k, h1, h2, h3, h4⟩ | ⟨h1, h2, h3⟩)
 ·rw [List.append_nil] at h3
  exact ⟨.inl ⟨k, h1, h2, h.bel h4 rfl (List.length_set ..) h3⟩, qaU h4 (fun g' e => by have := h.lg; rw [<- Option.some.inj e]; exact this) hB⟩
 ·exact ⟨.inr ⟨h1, h2, h.later h3⟩, h3.mono hB⟩
def qsM (l : List Ce) (key : ByteArray) (h : Int) : Option (List Ce) :=
 match (qaP l key).2 with
 | none => none
 | some k => match l[k]? with
  | some x => if x.h = -1 /\ qkH l l.length = 1 then none else some (l.set k ⟨key, h⟩)
  | none => none
theorem quI {l : List Ce} {key : ByteArray} (hF : qfM l) (h0 : (qaP l key).1 = none) (h : Int) : qsM l key h = putC l key h := by
 rw [qxO hF h0, qsM]
 rfl
theorem qtC {l l' : List Ce} {key : ByteArray} {h : Int} (e : qsM l key h = some l') : l'.length = l.length := by
 unfold qsM at e
 split at e
 ·cases e
 ·split at e
  ·split at e
   ·cases e
   ·injection e with e; rw [<- e, List.length_set]
  ·cases e
theorem qnR {l : List Ce} {key : ByteArray} {k : Nat} (hl : 0 < l.length) (h : (qaP l key).2 = some k) : k < l.length := qhL hl _ _ _ _ (fun j e => by cases e) h
theorem zeG {w w' : World} {r : Option Nat} (h : w.grownBy w' r) : w.grownBy w'.drew r := ⟨h.os, h.tape, h.output, h.size, h.block⟩
theorem qrA {B b g mv : Nat} {w : World} {l o : List Ce} (h : Brd B w b g l o mv) (c : Ce) (hl : l.length <= 1048576) (hl0 : 0 < l.length) (hk : c.key.size <= 1048576) :
  Calls Tryz.prog 170 #[.pointer (some ⟨b, 0, none⟩), ceV c] w fun e w' => ((∃ l', qsM l c.key c.h = some l' /\ e = .returned (.bool true) /\ Brd B w' b g l' o mv) ∨ (qsM l c.key c.h = none /\ e = .returned (.bool false) /\ Brd B w' b g l o mv)) /\ w.grownBy w' (some g) := by
 obtain ⟨ky, hh⟩ := c
 unfold ceV
 simp only at hk ⊢
 have CS := hI (fun w' (hb : Below w.heap.size w w') => qmW (some ⟨g, 0, none⟩) l l.length ky w' hl hk (h.later hb).cells)
 have F0 : Hid (Blk (w.alloc (.cells #[.string ky, .int .i64 hh] 132)) w.heap.size 132 [.string ky, .int .i64 hh] /\ Below w.heap.size w (w.alloc (.cells #[.string ky, .int .i64 hh] 132))) := ⟨Blk.new w _ _, bAl _ _⟩
 have HD := hI h
 have hbl := h.hd.lt
 clear h
 go_enter Tryz.func170, Tryz.ntmps170
 go_wp2_with fail
 generalize (w.alloc (.cells #[.string ky, .int .i64 hh] 132)) = w0 at F0 ⊢
 obtain ⟨K0, B0⟩ := F0.out
 have D0 := hI (HD.out.later B0)
 have x0 : w0.cell? ⟨b, 0, none⟩ = some (.slice (some ⟨g, 0, none⟩) l.length l.length) := D0.out.hd.cell 0
 have y0 : w0.cell? ⟨w.heap.size, 0, none⟩ = _ := cRn (K0.cell 0) rfl
 have XY := hI (And.intro x0 y0)
 have hb0 : b < w0.heap.size := D0.out.hd.lt
 have hs0 : w.heap.size < w0.heap.size := K0.lt
 have K0 := hI K0
 have B0 := hI B0
 clear F0
 go_region_held3 (fun w' => w'.cell? ⟨b, 0, none⟩ = some (.slice (some ⟨g, 0, none⟩) l.length l.length) /\ w'.cell? ⟨w.heap.size, 0, none⟩ = some (.string ky)) (first | go_keep | exact ⟨(D1.out.cell hb0).trans XY.out.1, (D1.out.cell hs0).trans XY.out.2⟩) ((go_at_call 172; refine (CS.out _ (B0.out.trans ((show Below w0.heap.size w0 _ by go_grown).mono B0.out.size))).mono ?_; rintro e w1 ⟨rfl, hb1⟩; have D1 : Hid (Below w0.heap.size w0 w1) := (show Below w0.heap.size w0 _ by go_grown).trans hb1))
 have E1 := hI (D0.out.later D1.out)
 have K1 := hI (K0.out.below D1.out hs0)
 have B1 := hI (B0.out.trans (D1.out.mono B0.out.size))
 have hs1 : w0.heap.size <= w1.heap.size := D1.out.size
 clear hb1 D1 XY x0 y0 D0 K0 CS
 generalize qdC (qaP l ky).1 = r1
 rcases hf : (qaP l ky).2 with _ | k
 ·have HN := hI (show qsM l ky hh = none by rw [qsM, hf])
  unfold qdC
  clear hf
  go_wp2
  go_ret
  exact ⟨.inr ⟨HN.out, rfl, E1.out⟩, qbO B1.out⟩
 ·have hkl := qnR hl0 hf
  have k1 : (k : Int) < (l.length : Int) := by omega
  have q0 : ((k : Int) == (-1 : Int)) = false := by simp
  have hpc : Hid (qsM l ky hh = if l[k].h = -1 /\ qkH l l.length = 1 then none else some (l.set k ⟨ky, hh⟩)) := by
   show qsM l ky hh = _
   rw [qsM, hf]
   simp only []
   rw [List.getElem?_eq_getElem hkl]
  have z0 : w1.cell? ⟨b, 0, none⟩ = some (.slice (some ⟨g, 0, none⟩) l.length l.length) := E1.out.hd.cell 0
  have z1 : w1.cell? ⟨g, k * 2 + 1, none⟩ = some (.int .i64 l[k].h) := by have := (Blk.segat (A := []) (L := l) (C := o) (of := 0) E1.out.tl rfl hkl).2; rw [Nat.zero_add] at this; exact this
  have CC := hI (qiF (some ⟨g, 0, none⟩) l l.length E1.out.hd hl E1.out.cells)
  have last : ∀ w2, Hid (Brd B w2 b g l o mv) -> Hid (w.grownBy w2 (some g)) -> Hid (Blk w2 w.heap.size 132 [.string ky, .int .i64 hh]) -> Hid (Brd B ((w2.setCell ⟨g, k * 2, none⟩ (.string ky)).setCell ⟨g, k * 2 + 1, none⟩ (.int .i64 hh)) b g (l.set k ⟨ky, hh⟩) o mv /\ w.grownBy ((w2.setCell ⟨g, k * 2, none⟩ (.string ky)).setCell ⟨g, k * 2 + 1, none⟩ (.int .i64 hh)) (some g)) := by
   intro w2 e2 b2 _
   exact ⟨e2.out.setC hkl ⟨ky, hh⟩, qbF (qbF b2.out _ _) _ _⟩
  have cell0 : ∀ w2, Hid (Brd B w2 b g l o mv) -> w2.cell? ⟨g, k * 2, none⟩ = some (.string l[k].key) /\ w2.cell? ⟨g, k * 2 + 1, none⟩ = some (.int .i64 l[k].h) := by
   intro w2 e2
   have := Blk.segat (A := []) (L := l) (C := o) (of := 0) e2.out.tl rfl hkl
   unfold cellO at this
   rw [Nat.zero_add] at this
   exact this
  have LAST := hI last
  have CELL := hI cell0
  generalize l[k].h = xh at *
  generalize l[k].key = xk at *
  clear hf last cell0
  unfold qdC
  by_cases d1 : xh = -1
  ·have b1 : (xh == (-1 : Int)) = true := by simp [d1]
   go_wp2_with fail
   refine CC.out.mono ?_
   rintro e w2 ⟨rfl, hb2⟩
   have E2 := hI (E1.out.later hb2)
   have K2 := hI (K1.out.below hb2 (by omega))
   have B2 : Hid (w.grownBy w2 (some g)) := qbO (B1.out.trans (hb2.mono B1.out.size))
   clear hb2 z0 z1
   by_cases d2 : qkH l l.length = 1
   ·have b2 : ((qkH l l.length : Int) == 1) = true := by simp [d2]
    have HN := hI (show qsM l ky hh = none by rw [hpc.out, if_pos ⟨d1, d2⟩])
    generalize qkH l l.length = n at *
    clear hpc d1 d2
    go_wp2
    go_ret
    exact ⟨.inr ⟨HN.out, rfl, E2.out⟩, B2.out⟩
   ·have b2 : ((qkH l l.length : Int) == 1) = false := by simp; omega
    have HN := hI (show qsM l ky hh = some (l.set k ⟨ky, hh⟩) by rw [hpc.out, if_neg (fun h => d2 h.2)])
    generalize qkH l l.length = n at *
    clear hpc d1 d2
    have z0 : w2.cell? ⟨b, 0, none⟩ = some (.slice (some ⟨g, 0, none⟩) l.length l.length) := E2.out.hd.cell 0
    have u0 : w2.cell? ⟨w.heap.size, 0, none⟩ = _ := cRn (K2.out.cell 0) rfl
    have u1 : w2.cell? ⟨w.heap.size, 1, none⟩ = _ := cRn (K2.out.cell 1) rfl
    obtain ⟨t0, t1⟩ := CELL.out w2 E2
    have f0 := E2.out.tl.froz (k * 2)
    have f1 := E2.out.tl.froz (k * 2 + 1)
    have LL := LAST.out w2 E2 B2 K2
    go_wp2
    go_region
    all_goals go_wp2
    all_goals
     go_ret
     first | exact ⟨.inl ⟨_, HN.out, rfl, LL.out.1⟩, LL.out.2⟩ | exact ⟨.inl ⟨_, HN.out, rfl, LL.out.1.later (Below.refl _ _).drew⟩, zeG LL.out.2⟩
  ·have b1 : (xh == (-1 : Int)) = false := by simp [d1]
   have HN := hI (show qsM l ky hh = some (l.set k ⟨ky, hh⟩) by rw [hpc.out, if_neg (fun h => d1 h.1)])
   clear hpc d1 CC
   have u0 : w1.cell? ⟨w.heap.size, 0, none⟩ = _ := cRn (K1.out.cell 0) rfl
   have u1 : w1.cell? ⟨w.heap.size, 1, none⟩ = _ := cRn (K1.out.cell 1) rfl
   have B1' : Hid (w.grownBy w1 (some g)) := qbO B1.out
   obtain ⟨t0, t1⟩ := CELL.out w1 E1
   have f0 := E1.out.tl.froz (k * 2)
   have f1 := E1.out.tl.froz (k * 2 + 1)
   have LL := LAST.out w1 E1 B1' K1
   go_wp2
   go_region
   all_goals go_wp2
   all_goals
    go_ret
    first | exact ⟨.inl ⟨_, HN.out, rfl, LL.out.1⟩, LL.out.2⟩ | exact ⟨.inl ⟨_, HN.out, rfl, LL.out.1.later (Below.refl _ _).drew⟩, zeG LL.out.2⟩
theorem zcB {B b g mv : Nat} {w : World} {l o : List Ce} (h : Brd B w b g l o mv) (c : Ce) (hB : B <= w.heap.size) (hl : l.length <= 1048576) (hl0 : 0 < l.length) (hk : c.key.size <= 1048576) :
  Calls Tryz.prog 170 #[.pointer (some ⟨b, 0, none⟩), ceV c] w fun e w' => ((∃ l', qsM l c.key c.h = some l' /\ e = .returned (.bool true) /\ Brd B w' b g l' o mv) ∨ (qsM l c.key c.h = none /\ e = .returned (.bool false) /\ Brd B w' b g l o mv)) /\ Below B w w' := by
 refine (qrA h c hl hl0 hk).mono ?_
 rintro e w' ⟨h1, h2⟩
 exact ⟨h1, qaU h2 (fun g' e => by have := h.lg; rw [<- Option.some.inj e]; exact this) hB⟩
theorem qgG {P : Program} {fn : Func} {p u : Tmp} {ty : TypeId} (h : fn.results = #[.cell p ty, .tmp u]) (tmps : Array Value) (w : World) (g : Nat) (t : TypeId) (cs : Array Value) (fr : Nat × Nat) (d : TypeDesc)
  (hp : tmps.getD p undef = .pointer (some ⟨g, 0, none⟩)) (hg : w.heap[g]? = some (.cells cs t fr))
  (hu : P.underlying ty = some d) (hd : (match d with | .struct _ | .array _ _ => true | _ => false) = true) (hi : (P.info? ty).map (·.size) = some cs.size) :
  (results fn tmps).run P w = .ok (.tuple #[.agg cs, tmps.getD u undef]) w := by
 have hp' : tmps[p]?.getD undef = .pointer (some ⟨g, 0, none⟩) := by simpa using hp
 simp [results, h, hp', asAddr, run_loadVar_row w g t ty cs fr d hg hu hd hi]
def Ans (ok : Prop) (R : Option (List Ce × List Ce × Int)) (L O : List Ce) (M : Int) (t : Bool) : Prop := (ok /\ R = some (L, O, M) /\ t = true) ∨ (¬ (ok /\ ∃ x, R = some x) /\ L = [] /\ O = [] /\ M = 0 /\ t = false)
theorem Ans.det {ok : Prop} {R : Option (List Ce × List Ce × Int)} {L O L' O' : List Ce} {M M' : Int} {t t' : Bool} (x : Ans ok R L O M t) (y : Ans ok R L' O' M' t') : L = L' /\ O = O' /\ M = M' /\ t = t' := by
 rcases x with ⟨a, b, rfl⟩ | ⟨n, rfl, rfl, rfl, rfl⟩ <;> rcases y with ⟨a', b', rfl⟩ | ⟨n', rfl, rfl, rfl, rfl⟩
 ·rw [b] at b'
  injection b' with b'
  injection b' with e1 e2
  injection e2 with e2 e3
  exact ⟨e1, e2, e3, rfl⟩
 ·exact absurd ⟨a, _, b⟩ n'
 ·exact absurd ⟨a', _, b'⟩ n
 ·exact ⟨rfl, rfl, rfl, rfl⟩
def MadeT (w w' : World) (e : Ending) (ok : Prop) (R : Option (List Ce × List Ce × Int)) : Prop := ∃ (ao : Option Addr) (L : List Ce) (ca : Nat) (a' : Option Addr) (O : List Ce) (ca' : Nat) (M : Int) (t : Bool), e = .returned (.tuple #[tbV ao L.length ca a' O.length ca' M, .bool t]) /\ Ans ok R L O M t /\ w'.ownsRow w.heap.size 132 2 (.slice ao L.length ca) L.length (ces L) /\ w'.ownsRow w.heap.size 132 2 (.slice a' O.length ca') O.length (ces O) /\ qvF (.slice ao L.length ca) (.slice a' O.length ca') /\ Below w.heap.size w w'
def qeS (w : World) (r : Nat) (a b c : Value) : World := ((w.setCell ⟨r, 0, none⟩ a).setCell ⟨r, 1, none⟩ b).setCell ⟨r, 2, none⟩ c
theorem qaI {w : World} {r : Nat} {t : TypeId} {x y z : Value} (h : Blk w r t [x, y, z]) (a b c : Value) : Blk (qeS w r a b c) r t [a, b, c] := Blk.set (Blk.set (Blk.set h 0 a) 1 b) 2 c
theorem qeW {w w' : World} {B r : Nat} (h : Below B w w') (hr : B <= r) (a b c : Value) : Below B w (qeS w' r a b c) := ((h.setCell (p := ⟨r, 0, none⟩) hr a).setCell (p := ⟨r, 1, none⟩) hr b).setCell (p := ⟨r, 2, none⟩) hr c
theorem qeK {w : World} {base n size r : Nat} {e : TypeId} {v : Value} {xs : List Value} (h : w.ownsRow base e size v n xs) (hne : ∀ k, v.ownBlock = some k -> k ≠ r) (a b c : Value) : (qeS w r a b c).ownsRow base e size v n xs :=
 qaA (qaA (qaA h _ _ hne) _ _ hne) _ _ hne
theorem MadeT.no {w w1 : World} {r : Nat} {ok : Prop} {R : Option (List Ce × List Ce × Int)} (hB : Below w.heap.size w w1) (hr : w.heap.size <= r) (h : ¬ (ok /\ ∃ x, R = some x)) (a b c : Value) :
  MadeT w (qeS w1 r a b c) (.returned (.tuple #[.agg #[.slice none 0 0, .slice none 0 0, .int .i64 0], .bool false])) ok R :=
 ⟨none, [], 0, none, [], 0, 0, false, rfl, .inr ⟨h, rfl, rfl, rfl, rfl⟩, World.ownsRow_nil _ _ _ _, World.ownsRow_nil _ _ _ _, (fun k hk => by cases hk), qeW hB hr a b c⟩
theorem MadeT.yes {w w4 w5 : World} {r b c b' c' : Nat} {ok : Prop} {R : Option (List Ce × List Ce × Int)} {L O : List Ce} {M : Int} (hB : Below w.heap.size w w4) (hr : w.heap.size <= r) (hr4 : r < w4.heap.size)
  (o1 : w5.ownsRow w4.heap.size 132 2 (.slice (some ⟨b, 0, none⟩) L.length c) L.length (ces L)) (o2 : w5.ownsRow w4.heap.size 132 2 (.slice (some ⟨b', 0, none⟩) O.length c') O.length (ces O)) (hne : b ≠ b') (hb : Below w4.heap.size w4 w5) (hok : ok) (hR : R = some (L, O, M)) (x y z : Value) :
  MadeT w (qeS w5 r x y z) (.returned (.tuple #[.agg #[.slice (some ⟨b, 0, none⟩) L.length c, .slice (some ⟨b', 0, none⟩) O.length c', .int .i64 M], .bool true])) ok R := by
 refine ⟨_, L, c, _, O, c', M, true, rfl, .inl ⟨hok, hR, rfl⟩, qaB (qeK o1 (fun k hk => ?_) x y z) hB.size, qaB (qeK o2 (fun k hk => ?_) x y z) hB.size, (fun k hk hk' => ?_), qeW (hB.trans (hb.mono hB.size)) hr x y z⟩
 ·have := (o1.lt k hk).1
  omega
 ·have := (o2.lt k hk).1
  omega
 ·have e1 : b = k := Option.some.inj hk
  have e2 : b' = k := Option.some.inj hk'
  exact hne (by rw [e1, e2])
theorem qsG (w : World) (u v : Array Value) (t : TypeId) : Blk ((w.alloc (.cells u t)).alloc (.cells v t)) w.heap.size t u.toList /\ Blk ((w.alloc (.cells u t)).alloc (.cells v t)) (w.heap.size + 1) t v.toList /\ Below w.heap.size w ((w.alloc (.cells u t)).alloc (.cells v t)) := by
 refine ⟨Blk.more (Blk.new w _ _) _, ?_, qcF w _ _⟩
 have := Blk.new (w.alloc (.cells u t)) t v
 rw [World.size_alloc] at this
 exact this
def zbY (n : Int) : Option (List Ce × List Ce × Int) := some (List.replicate n.toNat nC, [], 0)
def qwN (n : Int) : Prop := n = 4 ∨ n = 8 ∨ n = 16 ∨ n = 32 ∨ n = 64
theorem qtJ (n : Int) (w : World) : Calls Tryz.prog 59 #[.int .i64 n] w fun e w' => MadeT w w' e (qwN n) (zbY n) := by
 have CZ := hI (fun w => qjO n w)
 have F0 : Hid (Blk (w.alloc (.cells #[.slice none 0 0, .slice none 0 0, .int .i64 0] 29)) w.heap.size 29 [.slice none 0 0, .slice none 0 0, .int .i64 0] /\ Below w.heap.size w (w.alloc (.cells #[.slice none 0 0, .slice none 0 0, .int .i64 0] 29))) := ⟨Blk.new w _ _, bAl _ _⟩
 go_enter Tryz.func59, Tryz.ntmps59
 go_wp2_with fail
 generalize (w.alloc (.cells #[.slice none 0 0, .slice none 0 0, .int .i64 0] 29)) = w0 at F0 ⊢
 obtain ⟨R0, B0⟩ := F0.out
 have R0 := hI R0
 have B0 := hI B0
 clear F0
 refine (CZ.out w0).mono ?_
 rintro e w1 ⟨x, rfl, hx, rfl⟩
 have HX := hI hx
 clear hx CZ
 rcases x with _ | _
 ·have HN := hI (MadeT.no (R := zbY n) (ok := qwN n) B0.out (Nat.le_refl _) (fun h => by have := HX.out.2 h.1; cases this) (.slice none 0 0) (.slice none 0 0) (.int .i64 0))
  have HH := hI (qaI R0.out (.slice none 0 0) (.slice none 0 0) (.int .i64 0))
  have y0 : w0.cell? ⟨w.heap.size, 0, none⟩ = _ := cRn (R0.out.cell 0) rfl
  have y1 : w0.cell? ⟨w.heap.size, 1, none⟩ = _ := cRn (R0.out.cell 1) rfl
  have y2 : w0.cell? ⟨w.heap.size, 2, none⟩ = _ := cRn (R0.out.cell 2) rfl
  have yf (j) : w0.frozen? ⟨w.heap.size, j, none⟩ = false := R0.out.froz j
  unfold qeS at HN HH
  clear HX
  go_wp2
  refine bodyPost_ret (qgG Tryz.results59 _ _ w.heap.size 29 #[.slice none 0 0, .slice none 0 0, .int .i64 0] (0, 0) _ rfl HH.out Tryz.underlying29 rfl (by kernel_rfl)) rfl ?_
  exact HN.out
 ·have HSZ := hI (show qwN n from HX.out.1 rfl)
  obtain ⟨m, rfl⟩ := Int.eq_ofNat_of_zero_le (show 0 <= n by have := HX.out.1 rfl; omega)
  have hm : m <= 64 := by have := HX.out.1 rfl; omega
  have CN := hI (qfU m 0 w0 (by omega))
  clear HX
  go_wp2_with fail
  refine CN.out.mono ?_
  rintro e w2 ⟨b, g, rfl, hbr, hb2⟩
  have R2 := bRn R0 hb2
  have B2 := tRn B0 hb2
  have CT := hI (qdY (some ⟨g, 0, none⟩) (qmY g (List.replicate m nC).length 0) (List.replicate m nC) [] _ _ 0 hbr.hd (by rw [List.length_replicate]; omega) (Nat.zero_le _) hbr.cells hbr.olds)
  clear hbr hb2 CN
  go_wp2_with fail
  refine CT.out.mono ?_
  rintro e w3 ⟨v, rfl, b3, c3, b4, c4, rfl, ho3, ho4, hne, hb3⟩
  have R3 := bRn R2 hb3
  have hr2 := R2.out.lt
  have HN := hI (MadeT.yes (r := w.heap.size) (ok := qwN (m : Int)) (R := zbY (m : Int)) B2.out (Nat.le_refl _) hr2 ho3 ho4 hne hb3 HSZ.out rfl (.slice (some ⟨b3, 0, none⟩) (List.replicate m nC).length c3) (.slice (some ⟨b4, 0, none⟩) (List.length ([] : List Ce)) c4) (.int .i64 0))
  have HH := hI (qaI R3.out (.slice (some ⟨b3, 0, none⟩) (List.replicate m nC).length c3) (.slice (some ⟨b4, 0, none⟩) (List.length ([] : List Ce)) c4) (.int .i64 0))
  have y0 : w3.cell? ⟨w.heap.size, 0, none⟩ = _ := cRn (R3.out.cell 0) rfl
  have y1 : w3.cell? ⟨w.heap.size, 1, none⟩ = _ := cRn (R3.out.cell 1) rfl
  have y2 : w3.cell? ⟨w.heap.size, 2, none⟩ = _ := cRn (R3.out.cell 2) rfl
  have yf (j) : w3.frozen? ⟨w.heap.size, j, none⟩ = false := R3.out.froz j
  unfold qeS at HN HH
  unfold tbV
  rw [List.length_replicate, List.length_nil] at HN HH ⊢
  clear ho3 ho4 hb3 CT
  go_wp2
  refine bodyPost_ret (qgG Tryz.results59 _ _ w.heap.size 29 #[.slice (some ⟨b3, 0, none⟩) m c3, .slice (some ⟨b4, 0, none⟩) 0 c4, .int .i64 0] (0, 0) _ rfl HH.out Tryz.underlying29 rfl (by kernel_rfl)) rfl ?_
  exact HN.out
theorem OkT.fit {l o : List Ce} {mv : Int} (h : OkT l o mv) : qfM l /\ qfM o := ⟨(qeX.1 h.cells.1).1, (qeX.1 h.olds.1).1⟩
theorem OkT.len {l o : List Ce} {mv : Int} (h : OkT l o mv) : l.length <= 64 /\ o.length <= 64 /\ 0 < l.length := by
 have := h.size
 have := h.half
 omega
theorem qtG (ao a' : Option Addr) (l o : List Ce) (ca ca' : Nat) (mv : Int) (w : World) (hl : l.length <= 1048576) (hl' : o.length <= 1048576) (hA : RdJ w ao l) (hA' : RdJ w a' o) :
  Calls Tryz.prog 103 #[tbV ao l.length ca a' o.length ca' mv] w fun e w' => ∃ x : Bool, e = .returned (.bool x) /\ (x = true ↔ OkT l o mv) /\ Below w.heap.size w w' := by
 have CB := hI (fun o1 => qdH ao a' l o ca ca' mv (w.alloc o1) hl hl' (hA.later (bAl _ _)) (hA'.later (bAl _ _)))
 have BB := hI (fun o1 w1 (h : Below (w.alloc o1).heap.size (w.alloc o1) w1) => (bAl w o1).trans (h.mono (by rw [World.size_alloc]; omega)))
 clear hA hA'
 unfold tbV at CB ⊢
 go_enter Tryz.func103, Tryz.ntmps103
 go_wp2_with fail
 refine (CB.out _).mono ?_
 rintro e w1 ⟨⟨b, g, m, rfl, hm, hok, hbr⟩ | ⟨v, rfl, hn⟩, hb1⟩
 ·have HY := hI hok
  have B1 := hI (BB.out _ _ hb1)
  clear hok hbr hb1 hm
  go_wp2
  go_ret
  exact ⟨true, rfl, ⟨(fun _ => HY.out), fun _ => rfl⟩, B1.out⟩
 ·have HN := hI hn
  have B1 := hI (BB.out _ _ hb1)
  clear hn hb1
  go_wp2
  go_ret
  exact ⟨false, rfl, ⟨(fun h => by cases h), fun h => absurd h HN.out⟩, B1.out⟩
theorem qjY (ao a' : Option Addr) (l o : List Ce) (ca ca' : Nat) (mv : Int) (key : ByteArray) (w : World) (hl : l.length <= 1048576) (hl' : o.length <= 1048576) (hk : key.size <= 1048576) (hA : RdJ w ao l) (hA' : RdJ w a' o) :
  Calls Tryz.prog 78 #[tbV ao l.length ca a' o.length ca' mv, .string key] w fun e w' => ∃ (h : Int) (t : Bool), e = .returned (.tuple #[.int .i64 h, .bool t]) /\ SeekA l o mv key h t /\ Below w.heap.size w w' := by
 have CB := hI (fun o1 => qdH ao a' l o ca ca' mv (w.alloc o1) hl hl' (hA.later (bAl _ _)) (hA'.later (bAl _ _)))
 have BB := hI (fun o1 w1 (h : Below (w.alloc o1).heap.size (w.alloc o1) w1) => (bAl w o1).trans (h.mono (by rw [World.size_alloc]; omega)))
 clear hA hA'
 unfold tbV at CB ⊢
 go_enter Tryz.func78, Tryz.ntmps78
 go_wp2_with fail
 refine (CB.out _).mono ?_
 rintro e w1 ⟨⟨b, g, m, rfl, hm, hok, hbr⟩ | ⟨v, rfl, hn⟩, hb1⟩
 ·have HOK := hI hok
  have HF := hI hok.fit
  have B1 := hI (BB.out _ _ hb1)
  have D1 := hI hbr
  have x0 : w1.cell? ⟨b, 0, none⟩ = some (.slice (some ⟨g, 0, none⟩) l.length l.length) := hbr.hd.cell 0
  have CP := hI (qdB (some ⟨g, 0, none⟩) l l.length key w1 hl hk hbr.cells)
  clear hok hbr hb1 hm
  go_wp2_with fail
  refine CP.out.mono ?_
  rintro e w2 ⟨rfl, hb2⟩
  have D2 := hI (D1.out.later hb2)
  have B2 := tRn B1 hb2
  clear hb2 CP D1 x0
  rcases hs : (qaP l key).1 with _ | k
  ·have x1 : w2.cell? ⟨b, 1, none⟩ = _ := cRn (D2.out.hd.cell 1) rfl
   have CP := hI (qdB (qmY g l.length o.length) o o.length key w2 hl' hk D2.out.olds)
   have HS := hI hs
   generalize qmY g l.length o.length = op at *
   unfold qdC
   clear hs
   go_wp2_with fail
   refine CP.out.mono ?_
   rintro e w3 ⟨rfl, hb3⟩
   have B3 := tRn B2 hb3
   have D3 := hI (D2.out.later hb3)
   clear hb3 CP x1
   rcases hs : (qaP o key).1 with _ | k
   ·have HN := hI (show SeekA l o mv key 0 false from .inr ⟨rfl, rfl, fun h => by
     obtain ⟨x, hx⟩ := h.2.2
     rw [qcP, <- qaJ HF.out.1 h.2.1, HS.out] at hx
     simp only [] at hx
     rw [<- qaJ HF.out.2 h.2.1, hs] at hx
     cases hx⟩)
    unfold qdC
    clear hs
    go_wp2
    go_ret2
    exact ⟨0, false, rfl, HN.out, B3.out⟩
   ·have hkl := qfD hs
    have k1 : (k : Int) < (o.length : Int) := by omega
    have hne : key.toList ≠ [] := fun e => by rw [qeT e] at hs; cases hs
    have HN := hI (show SeekA l o mv key o[k].h true from .inl ⟨rfl, HOK.out, hne, by
     rw [qcP, <- qaJ HF.out.1 hne, HS.out]
     simp only []
     rw [<- qaJ HF.out.2 hne, hs]
     simp only []
     rw [List.getElem?_eq_getElem hkl]
     rfl⟩)
    obtain ⟨bb, oo, hop, hbl, hc⟩ := D3.out.olds k hkl
    have x1 : w3.cell? ⟨b, 1, none⟩ = _ := cRn (D3.out.hd.cell 1) rfl
    have z1 := hc.2
    rw [hop] at x1
    have q : ((k : Int) != (-1 : Int)) = true := by simp
    generalize o[k].h = hv at *
    unfold qdC
    clear hs hne hc hop
    go_wp2
    go_ret2
    exact ⟨hv, true, rfl, HN.out, B3.out⟩
  ·have hkl := qfD hs
   have k1 : (k : Int) < (l.length : Int) := by omega
   have hne : key.toList ≠ [] := fun e => by rw [qeT e] at hs; cases hs
   have HN := hI (show SeekA l o mv key l[k].h true from .inl ⟨rfl, HOK.out, hne, by
    rw [qcP, <- qaJ HF.out.1 hne, hs]
    simp only []
    rw [List.getElem?_eq_getElem hkl]
    rfl⟩)
   have x0 : w2.cell? ⟨b, 0, none⟩ = some (.slice (some ⟨g, 0, none⟩) l.length l.length) := D2.out.hd.cell 0
   have z1 : w2.cell? ⟨g, k * 2 + 1, none⟩ = some (.int .i64 l[k].h) := by have := (Blk.segat (A := []) (L := l) (C := o) (of := 0) D2.out.tl rfl hkl).2; rw [Nat.zero_add] at this; exact this
   have q : ((k : Int) != (-1 : Int)) = true := by simp
   generalize l[k].h = hv at *
   unfold qdC
   clear hs hne
   go_wp2
   go_ret2
   exact ⟨hv, true, rfl, HN.out, B2.out⟩
 ·have HN := hI (show SeekA l o mv key 0 false from .inr ⟨rfl, rfl, fun h => hn h.1⟩)
  have B1 := hI (BB.out _ _ hb1)
  clear hn hb1
  go_wp2
  go_ret2
  exact ⟨0, false, rfl, HN.out, B1.out⟩
def qbY (l o : List Ce) (mv : Int) (key : ByteArray) : Option (List Ce × List Ce × Int) :=
 match qaZ l key with
 | some k => some (l.set k gC, o, mv)
 | none => match qaZ o key with
  | some k => some (l, o.set k gC, mv)
  | none => none
theorem qrF (ao a' : Option Addr) (l o : List Ce) (ca ca' : Nat) (mv : Int) (key : ByteArray) (w : World) (hl : l.length <= 1048576) (hl' : o.length <= 1048576) (hk : key.size <= 1048576) (hA : RdJ w ao l) (hA' : RdJ w a' o) :
  Calls Tryz.prog 136 #[tbV ao l.length ca a' o.length ca' mv, .string key] w fun e w' => MadeT w w' e (OkT l o mv /\ key.toList ≠ []) (qbY l o mv key) := by
 have CB := hI (fun w' (hb : Below w.heap.size w w') => qdH ao a' l o ca ca' mv w' hl hl' (hA.later hb) (hA'.later hb))
 have F0 := hI (qsG w #[.slice ao l.length ca, .slice a' o.length ca', .int .i64 mv] #[.slice none 0 0, .slice none 0 0, .int .i64 0] 29)
 clear hA hA'
 unfold tbV at CB ⊢
 go_enter Tryz.func136, Tryz.ntmps136
 go_wp2_with fail
 generalize ((w.alloc (.cells #[.slice ao l.length ca, .slice a' o.length ca', .int .i64 mv] 29)).alloc (.cells #[.slice none 0 0, .slice none 0 0, .int .i64 0] 29)) = w0 at F0 ⊢
 obtain ⟨K0, R0, B0⟩ := F0.out
 have R0 := hI R0
 have B0 := hI B0
 clear F0 K0
 refine (CB.out w0 B0.out).mono ?_
 rintro e w1 ⟨hr, hb1⟩
 have R1 := bRn R0 hb1
 have B1 := tRn B0 hb1
 have S1 := hI hb1.size
 have HRS := hI R0.out.lt
 clear hb1 CB R0
 rcases hr with ⟨b, g, m, rfl, hm, hok, hbr⟩ | ⟨v, rfl, hn⟩
 ·subst hm
  have HOK := hI hok
  have HF := hI hok.fit
  have D1 := hI hbr
  have x0 : w1.cell? ⟨b, 0, none⟩ = some (.slice (some ⟨g, 0, none⟩) l.length l.length) := hbr.hd.cell 0
  have C1 := hI (qnO hbr key S1.out hl hk)
  have hrs : w.heap.size + 1 < w0.heap.size := HRS.out
  clear hok hbr
  go_wp2_with fail
  refine C1.out.mono ?_
  rintro e w2 ⟨hr, hb2⟩
  have R2 := hI (R1.out.below hb2 hrs)
  have B2 := hI (B1.out.trans (hb2.mono B0.out.size))
  have S2 := hI (Nat.le_trans S1.out hb2.size)
  clear hb2 C1 x0 R1
  rcases hr with ⟨k, hs, rfl, hbr⟩ | ⟨hs, rfl, hbr⟩
  ·have hkl := qfD hs
   have hne : key.toList ≠ [] := fun e => by rw [qeT e] at hs; cases hs
   have HVAL := hI (show qbY l o (m : Int) key = some (l.set k gC, o, (m : Int)) by rw [qbY, <- qaJ HF.out.1 hne, hs])
   have HNE := hI hne
   have hl2 : (l.set k gC).length <= 1048576 := by rw [List.length_set]; exact hl
   have D2 := hI hbr
   clear hs hne hbr
   have CT := hI (qdY (some ⟨g, 0, none⟩) (qmY g (l.set k gC).length (o).length) (l.set k gC) (o) _ _ _ D2.out.hd (hl2) (hl') D2.out.cells D2.out.olds)
   have hrr : w.heap.size + 1 < w2.heap.size := R2.out.lt
   go_wp2_with fail
   refine CT.out.mono ?_
   rintro e w3 ⟨v, rfl, b3, c3, b4, c4, rfl, ho3, ho4, hne, hb3⟩
   have R9 := bRn R2 hb3
   have HN := hI (MadeT.yes (r := w.heap.size + 1) (ok := OkT l o (m : Int) /\ key.toList ≠ []) (R := qbY l o (m : Int) key) B2.out (by omega) hrr ho3 ho4 hne hb3 (⟨HOK.out, HNE.out⟩) (HVAL.out) (.slice (some ⟨b3, 0, none⟩) (l.set k gC).length c3) (.slice (some ⟨b4, 0, none⟩) (o).length c4) (.int .i64 ((m : Int))))
   have HH := hI (qaI R9.out (.slice (some ⟨b3, 0, none⟩) (l.set k gC).length c3) (.slice (some ⟨b4, 0, none⟩) (o).length c4) (.int .i64 ((m : Int))))
   have y0 : w3.cell? ⟨w.heap.size + 1, 0, none⟩ = _ := cRn (R9.out.cell 0) rfl
   have y1 : w3.cell? ⟨w.heap.size + 1, 1, none⟩ = _ := cRn (R9.out.cell 1) rfl
   have y2 : w3.cell? ⟨w.heap.size + 1, 2, none⟩ = _ := cRn (R9.out.cell 2) rfl
   have yf (j) : w3.frozen? ⟨w.heap.size + 1, j, none⟩ = false := R9.out.froz j
   unfold qeS at HN HH
   unfold tbV
   generalize (l.set k gC).length = nL at *
   generalize (o).length = nO at *
   clear ho3 ho4 hb3 CT
   go_wp2
   refine bodyPost_ret (qgG Tryz.results136 _ _ (w.heap.size + 1) 29 #[.slice (some ⟨b3, 0, none⟩) nL c3, .slice (some ⟨b4, 0, none⟩) nO c4, .int .i64 ((m : Int))] (0, 0) _ rfl HH.out Tryz.underlying29 rfl (by kernel_rfl)) rfl ?_
   exact HN.out
  ·have HS := hI hs
   have x1 : w2.cell? ⟨b, 1, none⟩ = _ := cRn (hbr.hd.cell 1) rfl
   have C2 := hI (qkS hbr key S2.out hl' hk)
   clear hbr hs
   generalize qmY g l.length o.length = op at *
   go_wp2_with fail
   refine C2.out.mono ?_
   rintro e w3 ⟨hr, hb3⟩
   have R3 := hI (R2.out.below hb3 hrs)
   have B3 := hI (B2.out.trans (hb3.mono B0.out.size))
   clear hb3 C2 x1 R2
   rcases hr with ⟨k, hs, rfl, hbr⟩ | ⟨hs, rfl, hbr⟩
   ·have hkl := qfD hs
    have hne : key.toList ≠ [] := fun e => by rw [qeT e] at hs; cases hs
    have HVAL := hI (show qbY l o (m : Int) key = some (l, o.set k gC, (m : Int)) by
     rw [qbY, <- qaJ HF.out.1 hne, HS.out]
     simp only []
     rw [<- qaJ HF.out.2 hne, hs])
    have HNE := hI hne
    have hl2 : (o.set k gC).length <= 1048576 := by rw [List.length_set]; exact hl'
    have D3 := hI hbr
    clear hs hne hbr
    have CT := hI (qdY (some ⟨g, 0, none⟩) (qmY g (l).length (o.set k gC).length) (l) (o.set k gC) _ _ _ D3.out.hd (hl) (hl2) D3.out.cells D3.out.olds)
    have hrr : w.heap.size + 1 < w3.heap.size := R3.out.lt
    go_wp2_with fail
    refine CT.out.mono ?_
    rintro e w4 ⟨v, rfl, b3, c3, b4, c4, rfl, ho3, ho4, hne, hb3⟩
    have R9 := bRn R3 hb3
    have HN := hI (MadeT.yes (r := w.heap.size + 1) (ok := OkT l o (m : Int) /\ key.toList ≠ []) (R := qbY l o (m : Int) key) B3.out (by omega) hrr ho3 ho4 hne hb3 (⟨HOK.out, HNE.out⟩) (HVAL.out) (.slice (some ⟨b3, 0, none⟩) (l).length c3) (.slice (some ⟨b4, 0, none⟩) (o.set k gC).length c4) (.int .i64 ((m : Int))))
    have HH := hI (qaI R9.out (.slice (some ⟨b3, 0, none⟩) (l).length c3) (.slice (some ⟨b4, 0, none⟩) (o.set k gC).length c4) (.int .i64 ((m : Int))))
    have y0 : w4.cell? ⟨w.heap.size + 1, 0, none⟩ = _ := cRn (R9.out.cell 0) rfl
    have y1 : w4.cell? ⟨w.heap.size + 1, 1, none⟩ = _ := cRn (R9.out.cell 1) rfl
    have y2 : w4.cell? ⟨w.heap.size + 1, 2, none⟩ = _ := cRn (R9.out.cell 2) rfl
    have yf (j) : w4.frozen? ⟨w.heap.size + 1, j, none⟩ = false := R9.out.froz j
    unfold qeS at HN HH
    unfold tbV
    generalize (l).length = nL at *
    generalize (o.set k gC).length = nO at *
    clear ho3 ho4 hb3 CT
    go_wp2
    refine bodyPost_ret (qgG Tryz.results136 _ _ (w.heap.size + 1) 29 #[.slice (some ⟨b3, 0, none⟩) nL c3, .slice (some ⟨b4, 0, none⟩) nO c4, .int .i64 ((m : Int))] (0, 0) _ rfl HH.out Tryz.underlying29 rfl (by kernel_rfl)) rfl ?_
    exact HN.out
   ·have HS3 := hI hs
    clear hs hbr
    have HN := hI (MadeT.no (r := w.heap.size + 1) (R := qbY l o (m : Int) key) (ok := OkT l o (m : Int) /\ key.toList ≠ []) B3.out (by omega) (fun h => by obtain ⟨x, hx⟩ := h.2; rw [qbY, <- qaJ HF.out.1 h.1.2, HS.out] at hx; simp only [] at hx; rw [<- qaJ HF.out.2 h.1.2, HS3.out] at hx; cases hx) (.slice none 0 0) (.slice none 0 0) (.int .i64 0))
    have HH := hI (qaI R3.out (.slice none 0 0) (.slice none 0 0) (.int .i64 0))
    have y0 : w3.cell? ⟨w.heap.size + 1, 0, none⟩ = _ := cRn (R3.out.cell 0) rfl
    have y1 : w3.cell? ⟨w.heap.size + 1, 1, none⟩ = _ := cRn (R3.out.cell 1) rfl
    have y2 : w3.cell? ⟨w.heap.size + 1, 2, none⟩ = _ := cRn (R3.out.cell 2) rfl
    have yf (j) : w3.frozen? ⟨w.heap.size + 1, j, none⟩ = false := R3.out.froz j
    unfold qeS at HN HH
    go_wp2
    refine bodyPost_ret (qgG Tryz.results136 _ _ (w.heap.size + 1) 29 #[.slice none 0 0, .slice none 0 0, .int .i64 0] (0, 0) _ rfl HH.out Tryz.underlying29 rfl (by kernel_rfl)) rfl ?_
    exact HN.out
 ·have HNO := hI hn
  clear hn
  have HN := hI (MadeT.no (r := w.heap.size + 1) (R := qbY l o mv key) (ok := OkT l o mv /\ key.toList ≠ []) B1.out (by omega) (fun h => HNO.out h.1.1) (.slice none 0 0) (.slice none 0 0) (.int .i64 0))
  have HH := hI (qaI R1.out (.slice none 0 0) (.slice none 0 0) (.int .i64 0))
  have y0 : w1.cell? ⟨w.heap.size + 1, 0, none⟩ = _ := cRn (R1.out.cell 0) rfl
  have y1 : w1.cell? ⟨w.heap.size + 1, 1, none⟩ = _ := cRn (R1.out.cell 1) rfl
  have y2 : w1.cell? ⟨w.heap.size + 1, 2, none⟩ = _ := cRn (R1.out.cell 2) rfl
  have yf (j) : w1.frozen? ⟨w.heap.size + 1, j, none⟩ = false := R1.out.froz j
  unfold qeS at HN HH
  go_wp2
  refine bodyPost_ret (qgG Tryz.results136 _ _ (w.heap.size + 1) 29 #[.slice none 0 0, .slice none 0 0, .int .i64 0] (0, 0) _ rfl HH.out Tryz.underlying29 rfl (by kernel_rfl)) rfl ?_
  exact HN.out
end Go.Proofs.YtigpjmmfelndkaaGreatDoor
