/- Drawn councils: the region in which an event is drawn, whatever order is drawn. -/
import Derived.Test.YtgehdgmllilmgaaCoR
import Derived.Deep.RegionHeld3
namespace Go.Proofs.Ytgehdgmllilmgaa
open Go.RowKit
set_option linter.unusedVariables false

def kE : List Int := [1, 2, 2, 2, 2, 2, 2, 2, 2, 3, 4]
theorem kE_in (j : Nat) : 1 ≤ kE.getD j 1 ∧ kE.getD j 1 ≤ 4 := by
  by_cases h : j < 11
  · have : ∀ j : Fin 11, 1 ≤ kE.getD j.1 1 ∧ kE.getD j.1 1 ≤ 4 := by decide
    exact this ⟨j, h⟩
  · have : kE.getD j 1 = 1 := by rw [List.getD_eq_getElem?_getD, List.getElem?_eq_none (by show 11 ≤ j; omega)]; rfl
    rw [this]
    decide
theorem litK {w : World} {q : Nat} (h : Blk w q 3 [.int .i64 1, .int .i64 2, .int .i64 2, .int .i64 2, .int .i64 2, .int .i64 2, .int .i64 2, .int .i64 2, .int .i64 2, .int .i64 3, .int .i64 4]) : ∀ j, j < 11 → w.cell? ⟨q, j, none⟩ = some (.int .i64 (kE.getD j 1)) := by
  intro j hj
  rw [h.cell j]
  match j, hj with
  | 0, _ => rfl
  | 1, _ => rfl
  | 2, _ => rfl
  | 3, _ => rfl
  | 4, _ => rfl
  | 5, _ => rfl
  | 6, _ => rfl
  | 7, _ => rfl
  | 8, _ => rfl
  | 9, _ => rfl
  | 10, _ => rfl
theorem zG2D {g : Nat} {u w7 : World} {c d : Array Value} {t s : TypeId} (hg : g < u.heap.size) (hb : ((u.alloc (.cells c t)).alloc (.cells d s)).drew.grownBy w7 (some g)) : Blk w7 u.heap.size t c.toList ∧ Blk w7 (u.heap.size + 1) s d.toList :=
  ⟨gblk (w := ((u.alloc (.cells c t)).alloc (.cells d s)).drew) hb (blkN2 u c d t s).1 (by intro e; injection e; omega), gblk (w := ((u.alloc (.cells c t)).alloc (.cells d s)).drew) hb (blkN2 u c d t s).2.1 (by intro e; injection e; omega)⟩
theorem zG1D {g : Nat} {u w7 : World} {c : Array Value} {t : TypeId} (hg : g < u.heap.size) (hb : (u.alloc (.cells c t)).drew.grownBy w7 (some g)) : Blk w7 u.heap.size t c.toList := gblk (w := (u.alloc (.cells c t)).drew) hb (Blk.new u t c) (by intro e; injection e; omega)
theorem zG1 {g : Nat} {u w7 : World} {c : Array Value} {t : TypeId} (hg : g < u.heap.size) (hb : (u.alloc (.cells c t)).grownBy w7 (some g)) : Blk w7 u.heap.size t c.toList := gblk hb (Blk.new u t c) (by intro e; injection e; omega)

theorem gsetU {w w' : World} {g E j : Nat} {u : Value} (h : w.grownBy w' (some g)) (hE : w.heap.size ≤ E) : w.grownBy (w'.setCell ⟨E, j, none⟩ u) (some g) :=
  ⟨h.os, h.tape, h.output, by have := h.size; simpa using this, fun k hk hne => by rw [Below.heap_setCell _ _ _ _ (fun e => by have e' : k = E ∨ E = k := (by first | exact .inl e | exact .inr e); omega)]; exact h.block k hk hne⟩
/-- A region of a text, by its number. -/
def pickQ (n : Nat) : Go.Code → Option Go.Code
  | .region m o d => if m = n then some (.region m o d) else none
  | .seq a b => match pickQ n a with
    | some c => some c
    | none => pickQ n b
  | .cond _ a b => match pickQ n a with
    | some c => some c
    | none => pickQ n b
  | .block _ a => pickQ n a
  | .loop a => pickQ n a
  | _ => none

set_option maxRecDepth 100000 in
set_option maxHeartbeats 8000000 in
theorem regEv {cd : Go.Code} {Q : Exit → Act → World → Prop} {B g Dd X : Nat} {w wr : World} {a : Option Addr} {len cap vn tn : Nat} {eb : Option Addr} {ec : Nat} {A : CA} {c : Cn} {es : List Hp} {y1 y2 y3 y4 y6 y7 y8 y9 ya yb yc yd ye yf yg yh yi yj yk yl ym yn yo yp yq yr ys yt yu yv yw yx yy yz yA yB yC yD yE yF yG yH yI yJ yK yL yM yN yO yP yQ yR yS yT yU yV yW yX yY yZ Y0 Y1 Y2 Y3 Y4 Y5 : Value} (hc : pickQ 9 (Try.f36.body.getD .skip) = some cd)
    (hS : StE B g Dd X w wr a len cap vn tn eb ec A c es) (ht : 1 ≤ tn ∧ tn ≤ 3)
    (hQ : ∀ (e38 : Value) (Eb j x y : Nat) (w' : World), x < tn → y < 12 → X < Eb → wr.heap.size ≤ Eb → Blk w' Eb 40 [.int .i64 (kE.getD j 1), .int .i64 (1 + (x : Int)), .int .i64 (y : Int), .string ⟨#[]⟩] → StE B g Dd X w w' a len cap vn tn eb ec A c es → Q .normal { tmps := #[.pointer (some ⟨g, 0, none⟩), y1, y2, y3, y4, .pointer (some ⟨Dd, 0, none⟩), y6, y7, y8, y9, .pointer (some ⟨Eb, 0, none⟩), yb, yc, yd, ye, yf, yg, yh, yi, yj, yk, yl, ym, yn, yo, yp, yq, yr, ys, yt, yu, yv, yw, yx, yy, yz, yA, .pointer (some ⟨g, 0, none⟩), e38, .int .i64 (kE.getD j 1), .pointer (some ⟨g, 0, none⟩), .pointer (some ⟨Dd, 1, none⟩), .int .i64 (tn : Int), .int .i64 (x : Int), .int .i64 (1 + (x : Int)), .pointer (some ⟨g, 0, none⟩), .int .i64 (y : Int), .agg #[.int .i64 (kE.getD j 1), .int .i64 (1 + (x : Int)), .int .i64 (y : Int), .string ⟨#[]⟩], yM, yN, yO, yP, yQ, yR, yS, yT, yU, yV, yW, yX, yY, yZ, Y0, Y1, Y2, Y3, Y4, Y5], defers := [] } w') :
    Go.Code.wp Try.prog cd Q { tmps := #[.pointer (some ⟨g, 0, none⟩), y1, y2, y3, y4, .pointer (some ⟨Dd, 0, none⟩), y6, y7, y8, y9, ya, yb, yc, yd, ye, yf, yg, yh, yi, yj, yk, yl, ym, yn, yo, yp, yq, yr, ys, yt, yu, yv, yw, yx, yy, yz, yA, yB, yC, yD, yE, yF, yG, yH, yI, yJ, yK, yL, yM, yN, yO, yP, yQ, yR, yS, yT, yU, yV, yW, yX, yY, yZ, Y0, Y1, Y2, Y3, Y4, Y5], defers := [] } wr := by
  have ec0 : some cd = some _ := hc.symm.trans (show pickQ 9 (Try.f36.body.getD .skip) = some _ from rfl)
  injection ec0 with ec0
  subst ec0
  have HQ := hide1 hQ
  have S0 := hide1 hS
  clear hQ hc hS
  have d1 : wr.cell? ⟨Dd, 1, none⟩ = some (.int .i64 (tn : Int)) := S0.out.d.cell 1
  have lDr : Dd < wr.heap.size := S0.out.d.lt
  have lXr : X < wr.heap.size := S0.out.lX
  have lg : g < wr.heap.size := S0.out.drw.lt
  have gX : g < X := by have := S0.out.hg; have := S0.out.hD; have := S0.out.hX; omega
  have CP := hide1 (fun w' (hb : Below wr.heap.size wr w') (q : Nat) (h1 : ¬ q = g) (h2 : Blk w' q 3 [.int .i64 1, .int .i64 2, .int .i64 2, .int .i64 2, .int .i64 2, .int .i64 2, .int .i64 2, .int .i64 2, .int .i64 2, .int .i64 3, .int .i64 4]) => (show Calls Try.prog 71 #[.pointer (some ⟨g, 0, none⟩), .slice (some ⟨q, 0, none⟩) 11 11] w' fun e w2 => ∃ j : Nat, e = .returned (.int .i64 (kE.getD j 1)) ∧ StE B g Dd X w w2 a len cap vn tn eb ec A c es ∧ w'.grownBy w2 (some g) from (pickInt_any (S0.out.later hb).drw q 11 11 (by omega) (by omega) h1 (fun j => kE.getD j 1) (litK h2) h2.lt).mono (by rintro e w2 ⟨j, he, hd, hg⟩; exact ⟨j, he, (S0.out.later hb).draw hd hg, hg⟩)))
  have CP1 := hide1 (CP.out ((wr.alloc (.cells #[.int .i64 1, .int .i64 2, .int .i64 2, .int .i64 2, .int .i64 2, .int .i64 2, .int .i64 2, .int .i64 2, .int .i64 2, .int .i64 3, .int .i64 4] 3)).drew) (show Below wr.heap.size wr _ by go_grown) (wr.heap.size) (by omega) (Blk.new wr 3 #[.int .i64 1, .int .i64 2, .int .i64 2, .int .i64 2, .int .i64 2, .int .i64 2, .int .i64 2, .int .i64 2, .int .i64 2, .int .i64 3, .int .i64 4]))
  have CP2 := hide1 (CP.out (((wr.alloc (.cells #[.int .i64 1, .int .i64 2, .int .i64 2, .int .i64 2, .int .i64 2, .int .i64 2, .int .i64 2, .int .i64 2, .int .i64 2, .int .i64 3, .int .i64 4] 3)).alloc (.cells #[.int .i64 0, .int .i64 0, .int .i64 0, .string ⟨#[]⟩] 40)).drew) (show Below wr.heap.size wr _ by go_grown) (wr.heap.size) (by omega) ((blkN2 wr #[.int .i64 1, .int .i64 2, .int .i64 2, .int .i64 2, .int .i64 2, .int .i64 2, .int .i64 2, .int .i64 2, .int .i64 2, .int .i64 3, .int .i64 4] #[.int .i64 0, .int .i64 0, .int .i64 0, .string ⟨#[]⟩] 3 40).1))
  have CP3 := hide1 (CP.out (((wr.alloc (.cells #[.int .i64 0, .int .i64 0, .int .i64 0, .string ⟨#[]⟩] 40)).alloc (.cells #[.int .i64 1, .int .i64 2, .int .i64 2, .int .i64 2, .int .i64 2, .int .i64 2, .int .i64 2, .int .i64 2, .int .i64 2, .int .i64 3, .int .i64 4] 3)).drew) (show Below wr.heap.size wr _ by go_grown) (wr.heap.size + 1) (by omega) ((blkN2 wr #[.int .i64 0, .int .i64 0, .int .i64 0, .string ⟨#[]⟩] #[.int .i64 1, .int .i64 2, .int .i64 2, .int .i64 2, .int .i64 2, .int .i64 2, .int .i64 2, .int .i64 2, .int .i64 2, .int .i64 3, .int .i64 4] 40 3).2.1))
  go_region_held3 (fun w' => w'.cell? ⟨Dd, 1, none⟩ = some (.int .i64 (tn : Int))) (first | go_keep | exact d1 | exact ((show Below (Dd + 1) wd _ by go_grown).cell (Nat.lt_succ_self Dd)).trans d1 | exact ((show Below (Dd + 1) wb _ by go_grown).cell (Nat.lt_succ_self Dd)).trans d1 | exact ((show Below (Dd + 1) wa _ by go_grown).cell (Nat.lt_succ_self Dd)).trans d1 | exact ((show Below (Dd + 1) wr _ by go_grown).cell (Nat.lt_succ_self Dd)).trans d1) ((first
    | (have := S2.out; go_at_call 44; refine (CB2.out _ (show Below wb.heap.size wb _ by go_grown)).mono ?_; rintro e wd ⟨y, rfl, hy, hs, hg⟩; have S3 := hide1 hs; have lDd : Dd < wd.heap.size := hs.d.lt; have HY := hide1 hy; have hg9 : wb.grownBy wd (some g) := gtrans (gnew (show Below wb.heap.size wb _ by go_grown)) hg; have H3 : Hid (wb.grownBy wd (some g)) := hg9; (first | (have ZB0 := ZB; clear ZB; have ZB := hide1 (gblk hg9 ZB0.out (by intro e; injection e; have := ZE.out; omega)); clear ZB0) | ((with_reducible (first | have zz := zG1 S2.out.drw.lt hg | have zz := zG1D S2.out.drw.lt hg)); have ZB : Hid (Blk wd wb.heap.size 40 [.int .i64 0, .int .i64 0, .int .i64 0, .string ⟨#[]⟩]) := zz; clear zz; have ZE : Hid (X < wb.heap.size) := S2.out.lX; have ZU : Hid (wr.heap.size ≤ wb.heap.size) := Nat.le_trans H1.out.size H2.out.size) | skip); (try (have z0 : wd.cell? ⟨_, 0, none⟩ = some (.int .i64 0) := ZB.out.cell 0; have z1 : wd.cell? ⟨_, 1, none⟩ = some (.int .i64 0) := ZB.out.cell 1; have z2 : wd.cell? ⟨_, 2, none⟩ = some (.int .i64 0) := ZB.out.cell 2; have z3 : wd.cell? ⟨_, 3, none⟩ = some (.string ⟨#[]⟩) := ZB.out.cell 3; have zf : ∀ j, wd.frozen? ⟨_, j, none⟩ = false := fun j => ZB.out.froz j; have ze := ZE.out)); have lD3 := S3.out.d.lt; have lX3 := S3.out.lX; have qx : IntKind.i64.wrap (1 + (x : Int)) = 1 + (x : Int) := IntWalk.i64_in _ ⟨by have := HXx.out; omega, by have := HXx.out; omega⟩; clear hs hg hy d1; have d1 : wd.cell? ⟨Dd, 1, none⟩ = some (.int .i64 (tn : Int)) := S3.out.d.cell 1)
    | (have := S1.out; go_at_call 44; refine (CB1.out _ (show Below wa.heap.size wa _ by go_grown)).mono ?_; rintro e wb ⟨x, rfl, hx, hs, hg⟩; have S2 := hide1 hs; have lDb : Dd < wb.heap.size := hs.d.lt; have HXx := hide1 hx; have CB2 := hide1 (fun w' (hb : Below wb.heap.size wb w') => (show Calls Try.prog 44 #[.pointer (some ⟨g, 0, none⟩), .int .i64 12] w' fun e w2 => ∃ y : Nat, e = .returned (.int .i64 (y : Int)) ∧ y < 12 ∧ StE B g Dd X w w2 a len cap vn tn eb ec A c es ∧ w'.grownBy w2 (some g) from (below_any (hs.later hb).drw 12 (by omega)).mono (by rintro e w2 ⟨y, he, hy, _, hd, hg⟩; exact ⟨y, he, by have := hy (by omega); omega, (hs.later hb).draw hd hg, hg⟩))); have hg9 : wa.grownBy wb (some g) := gtrans (gnew (show Below wa.heap.size wa _ by go_grown)) hg; have H2 : Hid (wa.grownBy wb (some g)) := hg9; (first | (have ZB0 := ZB; clear ZB; have ZB := hide1 (gblk hg9 ZB0.out (by intro e; injection e; have := ZE.out; omega)); clear ZB0) | ((with_reducible (first | have zz := zG1 S1.out.drw.lt hg | have zz := zG1D S1.out.drw.lt hg)); have ZB : Hid (Blk wb wa.heap.size 40 [.int .i64 0, .int .i64 0, .int .i64 0, .string ⟨#[]⟩]) := zz; clear zz; have ZE : Hid (X < wa.heap.size) := S1.out.lX; have ZU : Hid (wr.heap.size ≤ wa.heap.size) := H1.out.size) | skip); clear hs hg hx d1; have d1 : wb.cell? ⟨Dd, 1, none⟩ = some (.int .i64 (tn : Int)) := S2.out.d.cell 1)
    | (go_at_call 71; (first | ((with_reducible (refine CP1.out.mono ?_)); rintro e wa ⟨j, rfl, hs, hg⟩) | ((with_reducible (refine CP2.out.mono ?_)); rintro e wa ⟨j, rfl, hs, hg⟩; have ZB : Hid (Blk wa (wr.heap.size + 1) 40 [.int .i64 0, .int .i64 0, .int .i64 0, .string ⟨#[]⟩]) := (zG2D lg hg).2; have ZE : Hid (X < wr.heap.size + 1) := Nat.lt_succ_of_lt lXr; have ZU : Hid (wr.heap.size ≤ wr.heap.size + 1) := Nat.le_succ _) | ((with_reducible (refine CP3.out.mono ?_)); rintro e wa ⟨j, rfl, hs, hg⟩; have ZB : Hid (Blk wa wr.heap.size 40 [.int .i64 0, .int .i64 0, .int .i64 0, .string ⟨#[]⟩]) := (zG2D lg hg).1; have ZE : Hid (X < wr.heap.size) := lXr; have ZU : Hid (wr.heap.size ≤ wr.heap.size) := Nat.le_refl _)); have H1 : Hid (wr.grownBy wa (some g)) := gtrans (gnew (show Below wr.heap.size wr _ by go_grown)) hg; have S1 := hide1 hs; have lDa : Dd < wa.heap.size := hs.d.lt; have CB1 := hide1 (fun w' (hb : Below wa.heap.size wa w') => (show Calls Try.prog 44 #[.pointer (some ⟨g, 0, none⟩), .int .i64 (tn : Int)] w' fun e w2 => ∃ x : Nat, e = .returned (.int .i64 (x : Int)) ∧ x < tn ∧ StE B g Dd X w w2 a len cap vn tn eb ec A c es ∧ w'.grownBy w2 (some g) from (below_any (hs.later hb).drw (tn : Int) (by omega)).mono (by rintro e w2 ⟨y, he, hy, _, hd, hg⟩; exact ⟨y, he, by have := hy (by omega); omega, (hs.later hb).draw hd hg, hg⟩))); clear hs hg d1; have d1 : wa.cell? ⟨Dd, 1, none⟩ = some (.int .i64 (tn : Int)) := S1.out.d.cell 1)))
  all_goals first
    | exact HQ.out _ wd.heap.size j x y _ HXx.out HY.out S3.out.lX (Nat.le_trans H1.out.size (Nat.le_trans H2.out.size H3.out.size)) (Blk.new wd _ _) (S3.out.later (by go_grown))
    | exact HQ.out _ _ j x y _ HXx.out HY.out ZE.out ZU.out ((((ZB.out.set 0 _).set 1 _).set 2 _).set 3 _) (S0.out.draw (S3.out.drw.keep (B' := X + 1) (by have := ZE.out; go_grown) (by have := S0.out.drw.cur.1; omega) (by omega)) (gsetU (gsetU (gsetU (gsetU (gtrans (gtrans H1.out H2.out) H3.out) ZU.out) ZU.out) ZU.out) ZU.out))
end Go.Proofs.Ytgehdgmllilmgaa
