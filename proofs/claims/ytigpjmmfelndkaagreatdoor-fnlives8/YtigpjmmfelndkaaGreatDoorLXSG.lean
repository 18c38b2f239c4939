import Derived.Laws.CopyOwn
import Derived.Test.YtigpjmmfelndkaaGreatDoorLXS
namespace Go.Proofs.YtigpjmmfelndkaaGreatDoor
open Go.RowKit
set_option maxRecDepth 100000
set_option maxHeartbeats 2000000
def grC (l : List Int) (ad : Int) : List Value := iz l ++ [.int .i64 ad]
def Grd (w : World) (g : Nat) (l : List Int) (ad : Int) : Prop := Blk w g 168 (grC l ad)
theorem Grd.lt {w : World} {g : Nat} {l : List Int} {ad : Int} (h : Grd w g l ad) : g < w.heap.size := Blk.lt h
theorem Grd.cell {w : World} {g : Nat} {l : List Int} {ad : Int} (h : Grd w g l ad) (k : Nat) (hk : k < l.length) : w.cell? ⟨g, k, none⟩ = some (.int .i64 (gK l k)) := by
 rw [Blk.cell h k, grC, List.getElem?_append_left (by rw [qaR]; exact hk), qjU l k hk, qfL l k hk]
theorem Grd.adds {w : World} {g : Nat} {l : List Int} {ad : Int} (h : Grd w g l ad) (hl : l.length = 48) : w.cell? ⟨g, 48, none⟩ = some (.int .i64 ad) := by
 rw [Blk.cell h 48, grC, List.getElem?_append_right (by rw [qaR]; omega), qaR, hl]
 rfl
theorem Grd.froz {w : World} {g : Nat} {l : List Int} {ad : Int} (h : Grd w g l ad) (j : Nat) : w.frozen? ⟨g, j, none⟩ = false := Blk.froz h j
theorem Grd.set {w : World} {g : Nat} {l : List Int} {ad : Int} (h : Grd w g l ad) (k : Nat) (hk : k < l.length) (v : Int) : Grd (w.setCell ⟨g, k, none⟩ (.int .i64 v)) g (l.set k v) ad := by
 have := Blk.set h k (.int .i64 v)
 rw [grC, List.set_append_left _ _ (by rw [qaR]; exact hk), <- zbB] at this
 exact this
theorem Grd.setAdds {w : World} {g : Nat} {l : List Int} {ad : Int} (h : Grd w g l ad) (hl : l.length = 48) (v : Int) : Grd (w.setCell ⟨g, 48, none⟩ (.int .i64 v)) g l v := by
 have := Blk.set h 48 (.int .i64 v)
 rw [grC, List.set_append_right _ _ (by rw [qaR]; omega), qaR, hl] at this
 exact this
theorem Grd.later {w w' : World} {g : Nat} {l : List Int} {ad : Int} (h : Grd w g l ad) (hb : Below w.heap.size w w') : Grd w' g l ad := Blk.below h hb (Blk.lt h)
theorem row_of (i : Nat) (hi : i < 48) : ∃ r p : Nat, i = r * 16 + p /\ r < 3 /\ p < 16 /\ (i : Int).tdiv 16 = (r : Int) /\ (i : Int).tmod 16 = (p : Int) := by
 refine ⟨i / 16, i % 16, by omega, by omega, by omega, ?_, ?_⟩
 ·rw [Int.tdiv_eq_ediv_of_nonneg (by omega)]; omega
 ·rw [Int.tmod_eq_emod_of_nonneg (by omega)]; omega
theorem qiW (ao : Option Addr) (l : List Int) (ca : Nat) (ad : Int) (w : World) (hA : RdZ w ao l) :
  Calls Tryz.prog 145 #[skV ao l.length ca ad] w fun e w' => ((e = .returned (.tuple #[.pointer none, .bool false]) /\ ¬ OkK l ad) ∨ ∃ g, e = .returned (.tuple #[.pointer (some ⟨g, 0, none⟩), .bool true]) /\ OkK l ad /\ w.heap.size <= g /\ Grd w' g l ad) /\ Below w.heap.size w w' := by
 have HA := hI hA
 clear hA
 unfold skV
 have HB := hI (fun o => bAl w o)
 go_enter Tryz.func145, Tryz.ntmps145
 by_cases c1 : l.length = 48
 ·have q1 : ((l.length : Int) != 48) = false := by simp [c1]
  by_cases c2 : 0 <= ad /\ ad < 100
  ·have q2 : decide (ad < 0) = false := by simp; omega
   have q3 : decide (100 <= ad) = false := by simp; omega
   have C1 := hI c1
   have C2 := hI c2
   have F0 : Hid (_ /\ _ /\ _) := hI (qdI w #[.slice ao l.length ca, .int .i64 ad] (grC (List.replicate 48 0) ad).toArray 35 168)
   have hgr : (grC (List.replicate 48 0) ad).toArray = #[.int .i64 0, .int .i64 0, .int .i64 0, .int .i64 0, .int .i64 0, .int .i64 0, .int .i64 0, .int .i64 0, .int .i64 0, .int .i64 0, .int .i64 0, .int .i64 0, .int .i64 0, .int .i64 0, .int .i64 0, .int .i64 0, .int .i64 0, .int .i64 0, .int .i64 0, .int .i64 0, .int .i64 0, .int .i64 0, .int .i64 0, .int .i64 0, .int .i64 0, .int .i64 0, .int .i64 0, .int .i64 0, .int .i64 0, .int .i64 0, .int .i64 0, .int .i64 0, .int .i64 0, .int .i64 0, .int .i64 0, .int .i64 0, .int .i64 0, .int .i64 0, .int .i64 0, .int .i64 0, .int .i64 0, .int .i64 0, .int .i64 0, .int .i64 0, .int .i64 0, .int .i64 0, .int .i64 0, .int .i64 0, .int .i64 ad] := rfl
   rw [hgr] at F0
   have hrg : Hid (#[.int .i64 0, .int .i64 0, .int .i64 0, .int .i64 0, .int .i64 0, .int .i64 0, .int .i64 0, .int .i64 0, .int .i64 0, .int .i64 0, .int .i64 0, .int .i64 0, .int .i64 0, .int .i64 0, .int .i64 0, .int .i64 0, .int .i64 0, .int .i64 0, .int .i64 0, .int .i64 0, .int .i64 0, .int .i64 0, .int .i64 0, .int .i64 0, .int .i64 0, .int .i64 0, .int .i64 0, .int .i64 0, .int .i64 0, .int .i64 0, .int .i64 0, .int .i64 0, .int .i64 0, .int .i64 0, .int .i64 0, .int .i64 0, .int .i64 0, .int .i64 0, .int .i64 0, .int .i64 0, .int .i64 0, .int .i64 0, .int .i64 0, .int .i64 0, .int .i64 0, .int .i64 0, .int .i64 0, .int .i64 0, .int .i64 ad].toList = grC (List.replicate 48 0) ad) := hI rfl
   clear c1 c2 hgr
   go_wp2
   generalize (w.alloc (.cells #[.slice ao l.length ca, .int .i64 ad] 35)).alloc (.cells #[.int .i64 0, .int .i64 0, .int .i64 0, .int .i64 0, .int .i64 0, .int .i64 0, .int .i64 0, .int .i64 0, .int .i64 0, .int .i64 0, .int .i64 0, .int .i64 0, .int .i64 0, .int .i64 0, .int .i64 0, .int .i64 0, .int .i64 0, .int .i64 0, .int .i64 0, .int .i64 0, .int .i64 0, .int .i64 0, .int .i64 0, .int .i64 0, .int .i64 0, .int .i64 0, .int .i64 0, .int .i64 0, .int .i64 0, .int .i64 0, .int .i64 0, .int .i64 0, .int .i64 0, .int .i64 0, .int .i64 0, .int .i64 0, .int .i64 0, .int .i64 0, .int .i64 0, .int .i64 0, .int .i64 0, .int .i64 0, .int .i64 0, .int .i64 0, .int .i64 0, .int .i64 0, .int .i64 0, .int .i64 0, .int .i64 ad] 168) = w0 at F0 ⊢
   obtain ⟨K0, K1, B0⟩ := F0.out
   rw [hrg.out] at K1
   have K0 := hI K0
   have K1 : Hid (Grd w0 (w.heap.size + 1) (List.replicate 48 0) ad) := hI K1
   have B0 := hI B0
   clear F0 hrg HB
   go_loopw [25] (fun iv wr => ∃ i : Nat, i <= 48 /\ iv = .int .i64 (i : Int) /\ Hid (Blk wr w.heap.size 35 [.slice ao l.length ca, .int .i64 ad]) /\ Hid (Grd wr (w.heap.size + 1) (l.take i ++ List.replicate (l.length - i) 0) ad) /\ Hid (∀ j, j < i -> 0 <= gK l j /\ gK l j <= 15) /\ Hid (Below w.heap.size w wr)) (fun iv _ => 48 - (intOf iv).toNat)
   case atStart => exact ⟨0, by omega, rfl, K0, by rw [C1.out]; exact K1, (fun j hj => by omega), B0⟩
   case round =>
    obtain ⟨i, hi, rfl, hK, hG, hall, hbel⟩ := hrel
    by_cases hlt : i < 48
    ·have k1 : (i : Int) < 48 := by omega
     have hil : i < l.length := by have := C1.out; omega
     have k2 : (i : Int) < (l.length : Int) := by omega
     obtain ⟨b, o, rfl, hb, h1⟩ := (HA.out.later hbel.out) i hil
     have x0 : wr.cell? ⟨w.heap.size, 0, none⟩ = some (.slice (some ⟨b, o, none⟩) l.length ca) := hK.out.cell 0
     rw [qfL l i hil] at h1
     obtain ⟨r, p, hrp, hr, hp, e1, e2⟩ := row_of i hlt
     have hlen : Hid ((l.take i ++ List.replicate (l.length - i) 0).length = 48) := hI (by have := C1.out; simp; omega)
     have x1 := hG.out.cell (r * 16 + p) (by rw [hlen.out]; omega)
     have x2 := hG.out.froz (r * 16 + p)
     obtain ⟨s, hs⟩ : ∃ s, gK l i = s := ⟨_, rfl⟩
     rw [hs] at h1
     have HS := hI hs
     have HRP := hI hrp
     clear hs hrp
     by_cases c3 : 0 <= s
     ·by_cases c4 : s <= 15
      ·have q4 : decide (s < 0) = false := by simp; omega
       have q5 : decide (15 < s) = false := by simp; omega
       go_wp2
       go_roundw
       case rel =>
        have st := hG.out.set (r * 16 + p) (by rw [hlen.out]; omega) s
        rw [<- HRP.out, qyD l 0 s i hil (by rw [qfL l i hil]; exact HS.out)] at st
        refine ⟨i + 1, by omega, by go_num, hK.out.far _ _ (by dsimp only; omega), by rw [HRP.out] at st ⊢; exact st, fun j hj => ?_, hbel.out.setCell (p := ⟨w.heap.size + 1, _, none⟩) (by dsimp only; omega) _⟩
        by_cases hj2 : j < i
        ·exact hall.out j hj2
        ·rw [show j = i by omega, HS.out]; exact ⟨c3, c4⟩
       case measure => simp [intOf]; omega
      ·have q4 : decide (s < 0) = false := by simp; omega
       have q5 : decide (15 < s) = true := by simp; omega
       go_wp2
       go_returns
       exact ⟨.inl ⟨rfl, fun h => by have := h.in15.g i; rw [HS.out] at this; omega⟩, hbel.out⟩
     ·have q4 : decide (s < 0) = true := by simp; omega
      go_wp2
      go_returns
      exact ⟨.inl ⟨rfl, fun h => by have := h.in15.g i; rw [HS.out] at this; omega⟩, hbel.out⟩
    ·obtain rfl : i = 48 := by omega
     go_wp2
     go_returns
     refine ⟨.inr ⟨_, rfl, ⟨C1.out, C2.out.1, by have := C2.out; omega, fun i hi => by rw [qfL l i hi]; exact hall.out i (by have := C1.out; omega)⟩, by omega, ?_⟩, hbel.out⟩
     have := hG.out
     rw [C1.out, Nat.sub_self, List.replicate_zero, List.append_nil, List.take_of_length_le (by rw [C1.out]; omega)] at this
     exact this
  ·have c2' : ad < 0 ∨ (0 <= ad /\ 100 <= ad) := by omega
   have C2 := hI (show ¬ OkK l ad from fun h => c2 ⟨h.2.1, by have := h.2.2.1; omega⟩)
   clear c1 c2
   rcases c2' with c | ⟨c, c'⟩
   ·have q2 : decide (ad < 0) = true := by simp; omega
    go_wp2
    go_returns
    exact ⟨.inl ⟨rfl, C2.out⟩, HB.out _⟩
   ·have q2 : decide (ad < 0) = false := by simp; omega
    have q3 : decide (100 <= ad) = true := by simp; omega
    go_wp2
    go_returns
    exact ⟨.inl ⟨rfl, C2.out⟩, HB.out _⟩
 ·have q1 : ((l.length : Int) != 48) = true := by simp; omega
  have C1 := hI c1
  clear c1
  go_wp2
  go_returns
  exact ⟨.inl ⟨rfl, fun h => C1.out h.1⟩, HB.out _⟩
theorem zdX (x : Nat) : ((x : Nat) : Int).tmod 16 = ((x % 16 : Nat) : Int) := by rw [Int.tmod_eq_emod_of_nonneg (by omega)]; omega
theorem qlZ (g : Nat) (key : ByteArray) (row : Nat) (w : World) (hs : key.size <= 1048576) (hr : row < 3) :
  Calls Tryz.prog 175 #[.pointer (some ⟨g, 0, none⟩), .string key, .int .i64 (row : Int)] w fun e w' => e = .returned (.pointer (some ⟨g, atK key row, none⟩)) /\ Below w.heap.size w w' := by
 have CH := hI (fun w => (qfX key (row : Int) w hs (by omega) (by omega)).mono (fun e w' h => (⟨h.1, h.2.symm⟩ : _ /\ w' = w)))
 obtain ⟨x, hx⟩ : ∃ x, qcK key (row : Int) = x := ⟨_, rfl⟩
 rw [hx] at CH
 have HX : Hid (atK key row = row * 16 + x % 16) := by show atK key row = _; rw [atK, hx]
 have e1 := zdX x
 have k1 : x % 16 < 16 := by omega
 have xl : x < 4294967296 := by rw [<- hx]; exact qfK _ _
 obtain ⟨y, hy⟩ : ∃ y, x % 16 = y := ⟨_, rfl⟩
 rw [hy] at e1 k1 HX
 clear hx hy
 go_enter Tryz.func175, Tryz.ntmps175
 go_wp2_with fail
 go_quiet ((go_at_call 196; exact Calls.quiet_of_same (CH.out _)))
 go_wp2
 go_ret
 exact ⟨by rw [HX.out]; rfl, below_drewN (Below.refl _ _) _⟩
theorem zcT (g : Nat) (l : List Int) (ad : Int) (key : ByteArray) (w : World) (hs : key.size <= 1048576) (hl : l.length = 48) (h15 : InK15 l) (hG : Grd w g l ad) :
  Calls Tryz.prog 146 #[.pointer (some ⟨g, 0, none⟩), .string key] w fun e w' => e = .returned (.tuple #[]) /\ Grd w' g (qkE l key 3) ad /\ w.grownBy w' (some g) := by
 have CC := hI (fun (r : Nat) (hr : r < 3) w => qlZ g key r w hs hr)
 have HG := hI hG
 have HL := hI hl
 have H15 := hI h15
 clear hG hl h15
 go_enter Tryz.func146, Tryz.ntmps146
 go_wp2
 go_loopw [6] (fun iv wr => ∃ r : Nat, r <= 3 /\ iv = .int .i64 (r : Int) /\ Hid (Grd wr g (qkE l key r) ad) /\ Hid (w.grownBy wr (some g))) (fun iv _ => 3 - (intOf iv).toNat)
 case atStart => exact ⟨0, by omega, rfl, HG, qbO (Below.refl _ _)⟩
 case round =>
  obtain ⟨r, hr, rfl, hK, hg⟩ := hrel
  by_cases hlt : r < 3
  ·have k1 : (r : Int) < 3 := by omega
   go_wp2_with fail
   refine (CC.out r hlt _).mono ?_
   rintro e w2 ⟨rfl, hb2⟩
   have K2 := hI (hK.out.later hb2)
   have G2 := hI (qaK hg.out (qbO hb2))
   have ha := qvD key r hlt
   have hlen : Hid ((qkE l key r).length = 48) := hI (by rw [qcN]; exact HL.out)
   have x0 := K2.out.cell (atK key r) (by rw [hlen.out]; exact ha)
   have x1 := K2.out.froz (atK key r)
   have hc := (H15.out.add key r).g (atK key r)
   have HB : Hid (qkE l key (r + 1) = (qkE l key r).set (atK key r) (min (gK (qkE l key r) (atK key r) + 1) 15)) := hI rfl
   generalize hs' : gK (qkE l key r) (atK key r) = s at *
   generalize atK key r = k at *
   have m1 : (if 15 < s + 1 then 15 else s + 1) = min (s + 1) 15 := by split <;> omega
   have c1 := hc.1
   have c2 := hc.2
   clear hb2 hc hs'
   go_wp2
   go_roundw
   case rel =>
    refine ⟨r + 1, by omega, by go_num, ?_, qbF G2.out k _⟩
    show Grd _ g (qkE l key (r + 1)) ad
    rw [HB.out]
    have st := K2.out.set k (by rw [hlen.out]; exact ha) (min (s + 1) 15)
    first | exact st | (rw [<- m1] at st ⊢; exact st)
   case measure => simp [intOf]; omega
  ·obtain rfl : r = 3 := by omega
   go_wp2
   go_returns
   exact ⟨rfl, hK.out, hg.out⟩
theorem qxX (g : Nat) (l : List Int) (ad : Int) (key : ByteArray) (w : World) (hs : key.size <= 1048576) (hl : l.length = 48) (hG : Grd w g l ad) :
  Calls Tryz.prog 192 #[.pointer (some ⟨g, 0, none⟩), .string key] w fun e w' => e = .returned (.int .i64 (qeL l key 3)) /\ Below w.heap.size w w' := by
 have CC := hI (fun (r : Nat) (hr : r < 3) w => qlZ g key r w hs hr)
 have HG := hI hG
 have HL := hI hl
 clear hG hl
 go_enter Tryz.func192, Tryz.ntmps192
 go_wp2
 go_loopw [5, 7] (fun v iv wr => ∃ (r : Nat) (z : Int), r <= 3 /\ iv = .int .i64 (r : Int) /\ v = .int .i64 z /\ Hid (z = qeL l key r) /\ Hid (Below w.heap.size w wr)) (fun _ iv _ => 3 - (intOf iv).toNat)
 case atStart => exact ⟨0, 15, by omega, rfl, rfl, rfl, Below.refl _ _⟩
 case round =>
  obtain ⟨r, z, hr, rfl, rfl, hz, hb⟩ := hrel
  by_cases hlt : r < 3
  ·have k1 : (r : Int) < 3 := by omega
   go_wp2_with fail
   refine (CC.out r hlt _).mono ?_
   rintro e w2 ⟨rfl, hb2⟩
   have B2 := tRn hb hb2
   have ha := qvD key r hlt
   have x0 := (HG.out.later B2.out).cell (atK key r) (by rw [HL.out]; exact ha)
   have HB : Hid (qeL l key (r + 1) = min (qeL l key r) (gK l (atK key r))) := hI rfl
   generalize gK l (atK key r) = s at *
   generalize atK key r = k at *
   have m1 : (if s < z then s else z) = min z s := by split <;> omega
   have M1 := hI m1
   clear hb2
   go_wp2
   go_roundw
   case rel =>
    refine ⟨r + 1, min z s, by omega, by go_num, ?_, by rw [HB.out, <- hz.out]; exact hI rfl, B2.out⟩
    first | rfl | (rw [<- M1.out]) | (congr 1; omega)
   case measure => simp [intOf]; omega
  ·obtain rfl : r = 3 := by omega
   go_wp2
   go_ret
   exact ⟨by rw [<- hz.out]; rfl, hb.out⟩
def qfZ (l : List Int) (i : Nat) : List Int := (qeR l).take i ++ l.drop i
theorem qfY (l : List Int) (i : Nat) (hi : i <= l.length) : (qfZ l i).length = l.length := by
 unfold qfZ
 rw [List.length_append, List.length_take, List.length_drop, qbS]
 omega
theorem qnA (l : List Int) (i : Nat) (hi : i < l.length) : (qfZ l i).set i (gK l i / 2) = qfZ l (i + 1) := by
 have hh : i < (qeR l).length := by rw [qbS]; exact hi
 have ht : ((qeR l).take i).length = i := by rw [List.length_take]; omega
 unfold qfZ
 rw [List.set_append_right _ _ (by omega), ht, Nat.sub_self, List.drop_eq_getElem_cons hi, List.set_cons_zero, List.take_succ_eq_append_getElem hh, List.append_assoc]
 simp [qeR, gK, hi]
theorem quQ (l : List Int) (i : Nat) (hi : i < l.length) : gK (qfZ l i) i = gK l i := by
 have ht : ((qeR l).take i).length = i := by rw [List.length_take, qbS]; omega
 unfold gK qfZ
 rw [List.getD_eq_getElem?_getD, List.getElem?_append_right (by omega), ht, Nat.sub_self, List.getElem?_drop, Nat.add_zero, List.getD_eq_getElem?_getD]
theorem qrX (l : List Int) (i : Nat) (hi : l.length <= i) : qfZ l i = qeR l := by
 unfold qfZ
 rw [List.drop_eq_nil_of_le hi, List.append_nil, List.take_of_length_le (by rw [qbS]; exact hi)]
theorem quo2 {s : Int} (h : 0 <= s) : s.tdiv 2 = s / 2 := Int.tdiv_eq_ediv_of_nonneg h
theorem qxW (g : Nat) (l : List Int) (ad : Int) (w : World) (hl : l.length = 48) (h15 : InK15 l) (hG : Grd w g l ad) :
  Calls Tryz.prog 147 #[.pointer (some ⟨g, 0, none⟩)] w fun e w' => e = .returned (.tuple #[]) /\ Grd w' g (qeR l) ad /\ w.grownBy w' (some g) := by
 have HG := hI hG
 have HL := hI hl
 have H15 := hI h15
 clear hG hl h15
 go_enter Tryz.func147, Tryz.ntmps147
 go_wp2
 go_loopw [4] (fun iv wr => ∃ r : Nat, r <= 3 /\ iv = .int .i64 (r : Int) /\ Hid (Grd wr g (qfZ l (r * 16)) ad) /\ Hid (w.grownBy wr (some g))) (fun iv _ => 3 - (intOf iv).toNat)
 case atStart => exact ⟨0, by omega, rfl, HG, qbO (Below.refl _ _)⟩
 case round =>
  obtain ⟨r, hr, rfl, hK, hg⟩ := hrel
  by_cases hlt : r < 3
  ·have k1 : (r : Int) < 3 := by omega
   go_wp2
   go_loopw [7] (fun iv wr => ∃ p : Nat, p <= 16 /\ iv = .int .i64 (p : Int) /\ Hid (Grd wr g (qfZ l (r * 16 + p)) ad) /\ Hid (w.grownBy wr (some g))) (fun iv _ => 16 - (intOf iv).toNat)
   case atStart => exact ⟨0, by omega, rfl, hK, hg⟩
   case round =>
    obtain ⟨p, hp, rfl, hK, hg⟩ := hrel
    by_cases hlt2 : p < 16
    ·have k2 : (p : Int) < 16 := by omega
     have hi : Hid (r * 16 + p < l.length) := hI (by rw [HL.out]; omega)
     have hlen : Hid ((qfZ l (r * 16 + p)).length = 48) := hI (by rw [qfY l _ (Nat.le_of_lt hi.out)]; exact HL.out)
     have x0 := hK.out.cell (r * 16 + p) (by rw [hlen.out]; omega)
     have x1 := hK.out.froz (r * 16 + p)
     rw [quQ l _ hi.out] at x0
     have HN := hI (qnA l _ hi.out)
     have hc := H15.out.g (r * 16 + p)
     generalize gK l (r * 16 + p) = s at *
     have q2 := quo2 hc.1
     have c1 := hc.1
     have c2 := hc.2
     clear hc
     go_wp2
     go_region
     all_goals
      go_wp2
      go_roundw
      case rel =>
       refine ⟨p + 1, by omega, by go_num, ?_, ?_⟩
       ·show Grd _ g (qfZ l (r * 16 + (p + 1))) ad
        rw [show r * 16 + (p + 1) = r * 16 + p + 1 by omega, <- HN.out]
        exact hK.out.set (r * 16 + p) (by rw [hlen.out]; omega) (s / 2)
       ·exact qaK (qbF hg.out (r * 16 + p) (.int .i64 (s / 2))) (qbO (Below.refl _ _).drew)
      case measure => simp [intOf]; omega
    ·obtain rfl : p = 16 := by omega
     go_wp2
     go_roundw
     case rel => exact ⟨r + 1, by omega, by go_num, by rw [show (r + 1) * 16 = r * 16 + 16 by omega]; exact hK, hg⟩
     case measure => simp [intOf]; omega
  ·obtain rfl : r = 3 := by omega
   go_wp2
   go_returns
   exact ⟨rfl, by have := hK.out; rw [qrX l _ (by rw [HL.out]; omega)] at this; exact this, hg.out⟩
def MadeK (w w' : World) (e : Ending) (R : List Int × Int) : Prop := ∃ (ao : Option Addr) (c : Nat), e = .returned (skV ao R.1.length c R.2) /\ w'.ownsRow w.heap.size 3 1 (.slice ao R.1.length c) R.1.length (iz R.1) /\ Below w.heap.size w w'
theorem zdH (l : List Int) (r : Nat) : l.take (r * 16) ++ (l.drop (r * 16)).take 16 = l.take ((r + 1) * 16) := by
 rw [show (r + 1) * 16 = r * 16 + 16 by omega, List.take_add]
theorem qiM (g : Nat) (l : List Int) (ad : Int) (w : World) (hl : l.length = 48) (hG : Grd w g l ad) :
  Calls Tryz.prog 120 #[.pointer (some ⟨g, 0, none⟩)] w fun e w' => MadeK w w' e (l, ad) := by
 obtain ⟨i0, hi, hz0, hz1, hz2⟩ := info_parts Tryz.infoZ
 have HG := hI hG
 have HL := hI hl
 clear hG hl
 have F0 : Hid (Blk (w.alloc (.cells #[.slice none 0 0, .int .i64 0] 35)) w.heap.size 35 [.slice none 0 0, .int .i64 0] /\ Below w.heap.size w (w.alloc (.cells #[.slice none 0 0, .int .i64 0] 35)) /\ (w.alloc (.cells #[.slice none 0 0, .int .i64 0] 35)).heap.size = w.heap.size + 1) := ⟨Blk.new w _ _, bAl _ _, World.size_alloc _ _⟩
 go_enter Tryz.func120, Tryz.ntmps120
 go_wp2_with (at_make; (refine wpList_make_own _ rfl _ _ 33 rfl (w.heap.size + 1) 3 i0 (.int .i64 0) 1 Tryz.underlying33 hi hz0 hz1 _ _ _ 48 rfl rfl rfl (by rw [hz2]; omega) (by unfold maxLen; omega) (by rw [World.size_alloc]; exact Nat.le_refl _) ?_; intro w1 hown1 hg1))
 obtain ⟨K0, B0, S0⟩ := F0.out
 have hb1 : Below (w.heap.size + 1) _ w1 := Below.grown (Below.refl _ _) hg1 (by omega) (by intro k hk; cases hk)
 have K1 := hI (K0.below hb1 (by omega))
 have B1 := hI (B0.trans (hb1.mono (by omega)))
 rw [S0] at hown1
 have O1 := hI hown1
 have S1 : Hid (w.heap.size + 1 <= w1.heap.size) := hI (by have := hb1.size; omega)
 clear K0 B0 S0 F0 hown1 hg1 hb1
 go_loopw [3, 6] (fun v iv wr => ∃ r : Nat, r <= 3 /\ iv = .int .i64 (r : Int) /\ wr.ownsRow (w.heap.size + 1) 3 1 v (r * 16) (iz (l.take (r * 16))) /\ Hid (Blk wr w.heap.size 35 [.slice none 0 0, .int .i64 0]) /\ Hid (Below w.heap.size w wr) /\ Hid ((w.heap.size + 1) <= wr.heap.size)) (fun _ iv _ => 3 - (intOf iv).toNat)
 case atStart => exact ⟨0, by omega, rfl, O1.out, K1, B1, S1⟩
 case round =>
  obtain ⟨r, hr, rfl, hown, hK, hb, hsz⟩ := hrel
  have HO := hI hown
  clear hown
  by_cases hlt : r < 3
  ·have k1 : (r : Int) < 3 := by omega
   have hgr := hI (HG.out.later hb.out)
   have hcell : Hid (∀ j u, (iz ((l.drop (r * 16)).take 16))[j]? = some u -> wr.cell? ((⟨g, r * 16, none⟩ : Addr).add j) = some u) := by
    show ∀ j u, _
    intro j u hj
    have hj16 : j < ((l.drop (r * 16)).take 16).length := by
     have := (List.getElem?_eq_some_iff.1 hj).1
     rwa [qaR] at this
    rw [qjU _ j hj16] at hj
    have hjl : r * 16 + j < l.length := by rw [List.length_take, List.length_drop] at hj16; omega
    rw [Addr.add_lit, hgr.out.cell _ hjl, <- hj, <- qfL l _ hjl]
    simp
   have hl16 : Hid ((iz ((l.drop (r * 16)).take 16)).length = 16 * 1) := hI (by rw [qaR, List.length_take, List.length_drop, HL.out]; omega)
   have hszr := hsz.out
   go_wp2_with (at_builtin; (refine wpList_append_own _ rfl _ _ 33 rfl (w.heap.size + 1) 3 i0 (.int .i64 0) 1 8 Tryz.underlying33 hi hz0 hz1 hz2 rfl (by decide) _ (r * 16) (iz (l.take (r * 16))) rfl HO.out ⟨g, r * 16, none⟩ 16 _ (iz ((l.drop (r * 16)).take 16)) rfl hl16.out hcell.out (zbC _) (by unfold maxLen; omega) (by omega) hszr ?_; intro v' w2 hown2 hg2 _))
   go_roundw
   case rel =>
    have hlow := fun k (hk : u3.ownBlock = some k) => (HO.out.lt k hk).1
    refine ⟨r + 1, by omega, by go_num, ?_, qlV hg2 hK.out (fun e => by have := hlow _ e; omega), hb.out.trans (qaU hg2 (fun k hk => by have := hlow k hk; omega) hb.out.size), Nat.le_trans hsz.out hg2.size⟩
    rw [<- qxT, zdH l r] at hown2
    rw [show (r + 1) * 16 = r * 16 + 16 by omega] at hown2 ⊢
    exact hown2
   case measure => simp [intOf]; omega
  ·obtain rfl : r = 3 := by omega
   have x0 := (HG.out.later hb.out).adds HL.out
   have y0 : wr.cell? ⟨w.heap.size, 0, none⟩ = some (.slice none 0 0) := hK.out.cell 0
   have y1 : wr.cell? ⟨w.heap.size, 1, none⟩ = some (.int .i64 0) := hK.out.cell 1
   have yf (j) : wr.frozen? ⟨w.heap.size, j, none⟩ = false := hK.out.froz j
   have e48 : l.take (3 * 16) = l := List.take_of_length_le (by rw [HL.out]; omega)
   rw [e48] at HO
   obtain ⟨ao, c, hv⟩ := qbW HO.out
   subst hv
   have hh := hI (Blk.set (Blk.set hK.out 0 (.slice ao 48 c)) 1 (.int .i64 ad))
   have hlow := hI (fun k (hk : (Value.slice ao 48 c).ownBlock = some k) => (HO.out.lt k hk).1)
   have HO2 : Hid (wr.ownsRow (w.heap.size + 1) 3 1 (.slice ao 48 c) 48 (iz l)) := HO
   clear HO e48
   go_wp2
   refine bodyPost_ret (results_cell_row Tryz.results120 _ _ w.heap.size 35 #[.slice ao 48 c, .int .i64 ad] (0, 0) _ rfl hh.out Tryz.underlying35 rfl (by kernel_rfl)) rfl ?_
   refine ⟨ao, c, by dsimp only; rw [HL.out]; rfl, ?_, (hb.out.setCell (p := ⟨w.heap.size, 0, none⟩) (Nat.le_refl _) _).setCell (p := ⟨w.heap.size, 1, none⟩) (Nat.le_refl _) _⟩
   dsimp only
   rw [HL.out]
   refine qaB (qaA (qaA HO2.out _ _ ?_) _ _ ?_) (by omega)
   all_goals
    intro k hk
    have := hlow.out k hk
    dsimp only
    omega
theorem qzG {w : World} {base n g : Nat} {e : TypeId} {xs : List Value} (h : w.ownsRow base e 1 (.slice (some ⟨g, 0, none⟩) n n) n xs) : Blk w g e xs := by
 rcases h.2 with ⟨hv, _⟩ | ⟨g', cap, cur, hv, _, hh, _, _, hs, ht⟩
 ·cases hv
 ·simp only [Value.slice.injEq, Option.some.injEq, Addr.mk.injEq, and_true, true_and] at hv
  obtain ⟨rfl, rfl⟩ := hv
  have : cur.toList = xs := by
   rw [<- ht, List.take_of_length_le (by rw [Array.length_toList, hs]; exact Nat.le_refl _)]
  unfold Blk
  rw [<- this]
  simpa using hh
theorem zcQ {w : World} {base n g : Nat} {e : TypeId} {xs : List Value} (h : Blk w g e xs) (hn : xs.length = n) (hm : n <= maxLen) (hb : base <= g) : w.ownsRow base e 1 (.slice (some ⟨g, 0, none⟩) n n) n xs :=
 ⟨by omega, .inr ⟨g, n, xs.toArray, rfl, hb, h, Nat.le_refl _, hm, by simpa using hn, by simp [<- hn]⟩⟩
theorem MadeK.put {w w2 w3 : World} {r c n : Nat} {ao : Option Addr} {l : List Int} {ad : Int} (hB : Below w.heap.size w w2) (hr : w.heap.size <= r) (hr2 : r < w2.heap.size) (hn : l.length = n) (o : w3.ownsRow w2.heap.size 3 1 (.slice ao n c) n (iz l)) (hb : Below w2.heap.size w2 w3) :
  MadeK w ((w3.setCell ⟨r, 0, none⟩ (.slice ao n c)).setCell ⟨r, 1, none⟩ (.int .i64 ad)) (.returned (.agg #[.slice ao n c, .int .i64 ad])) (l, ad) := by
 subst hn
 have hs := hB.size
 refine ⟨ao, c, rfl, qaB (qaA (qaA o _ _ ?_) _ _ ?_) hs, ((hB.trans (hb.mono hs)).setCell (p := ⟨r, 0, none⟩) hr _).setCell (p := ⟨r, 1, none⟩) hr _⟩
 all_goals
  intro k hk
  have := (o.lt k hk).1
  dsimp only
  omega
theorem qhX (ao : Option Addr) (l : List Int) (ca : Nat) (ad : Int) (w : World) (hl : l.length <= 1048576) (hA : RdZ w ao l) :
  Calls Tryz.prog 127 #[skV ao l.length ca ad] w fun e w' => MadeK w w' e (l, ad) := by
 obtain ⟨i0, hi, hz0, hz1, hz2⟩ := info_parts Tryz.infoZ
 have hsz : (Tryz.prog.info? 3).map (·.size) = some 1 := by rw [hi]; simp [hz1]
 have HA := hI hA
 clear hA
 unfold skV
 have F0 := hI (qdI w #[.slice ao l.length ca, .int .i64 ad] #[.slice none 0 0, .int .i64 0] 35 35)
 obtain ⟨n, hn⟩ : ∃ n, l.length = n := ⟨_, rfl⟩
 have HN := hI hn
 rw [hn] at F0 hl ⊢
 clear hn
 have CS : Hid (∀ w1 : World, Below w.heap.size w w1 -> 0 < (iz l).length -> ∃ ad, ao = some ad /\ ∀ j v, (iz l)[j]? = some v -> w1.cell? (ad.add j) = some v) := by
  show ∀ w1 : World, _
  intro w1 hb h0
  rw [qaR] at h0
  have hR := HA.out.later hb
  obtain ⟨b, o, e, _, _⟩ := hR 0 h0
  refine ⟨⟨b, o, none⟩, e, fun j v hj => ?_⟩
  have hj' : j < l.length := by have := (List.getElem?_eq_some_iff.1 hj).1; rwa [qaR] at this
  obtain ⟨b', o', e', _, hc⟩ := hR j hj'
  rw [e] at e'
  simp only [Option.some.injEq, Addr.mk.injEq, and_true] at e'
  obtain ⟨rfl, rfl⟩ := e'
  rw [qjU l j hj'] at hj
  rw [Addr.add_lit, <- hj]
  exact hc
 have LN : Hid ((iz l).length = n) := hI (by rw [qaR]; exact HN.out)
 obtain ⟨Z, hZ⟩ : ∃ Z, Z = iz (List.replicate n 0) := ⟨_, rfl⟩
 have ZN : Hid (Z.length = n) := hI (by rw [hZ, qaR, List.length_replicate])
 have HZ := hI hZ
 obtain ⟨L, hL⟩ : ∃ L, iz l = L := ⟨_, rfl⟩
 rw [hL] at CS LN
 have L1 : Hid (∀ v ∈ L, v.oneCell' = true) := hI (by rw [<- hL]; exact zbC l)
 have HLL := hI hL
 clear hZ hL
 go_enter Tryz.func127, Tryz.ntmps127
 go_wp2_with (first | (at_make; (refine wpList_make_full _ rfl _ _ 33 rfl (w.heap.size + 1 + 1) 3 i0 (.int .i64 0) 1 Tryz.underlying33 hi hz0 hz1 _ _ _ _ n rfl rfl rfl rfl (by rw [hz2]; omega) (by unfold maxLen; omega) (by simp only [World.size_alloc]; omega) ?_; intro w1 hown1 hg1; have hb1 : Below (w.heap.size + 1 + 1) _ w1 := Below.grown (Below.refl _ _) hg1 (by simp only [World.size_alloc]; omega) (by intro k hk; cases hk); simp only [World.size_alloc] at hown1; rw [zdY, <- HZ.out] at hown1; have J0 := hI (F0.out.1.below hb1 (by omega)); have J1 := hI (F0.out.2.1.below hb1 (by omega)); have B1 := hI (F0.out.2.2.trans (hb1.mono (by omega))); have R1 := hI (qzG hown1); have x0 : w1.cell? ⟨w.heap.size, 0, none⟩ = some (.slice ao n ca) := J0.out.cell 0; clear hb1 hg1 hown1 F0)) | ((refine wpList_copy_splice rfl (.tmp 8) (.tmp 10) 33 33 rfl 3 Tryz.underlying33 hsz _ _ _ _ _ _ rfl rfl (w.heap.size + 1 + 1) 0 Z 3 R1.out L (by rw [LN.out]; exact (Nat.min_self n).symm) (fun h0 => ⟨rfl, CS.out w1 B1.out h0⟩) (by rw [LN.out, ZN.out]; omega) L1.out (w.heap.size + 1 + 1) w1 (Below.refl _ _) (Nat.le_refl _) ?_; intro w2 HG2 hb2; have D0 := hI (J0.out.below hb2 (by omega)); have D1 := hI (J1.out.below hb2 (by omega)); have B2 := hI (B1.out.trans (hb2.mono (by omega))); have z1 : w2.cell? ⟨w.heap.size, 1, none⟩ = some (.int .i64 ad) := D0.out.cell 1; have y0 : w2.cell? ⟨w.heap.size + 1, 0, none⟩ = some (.slice none 0 0) := D1.out.cell 0; have y1 : w2.cell? ⟨w.heap.size + 1, 1, none⟩ = some (.int .i64 0) := D1.out.cell 1; have yf : ∀ j, w2.frozen? ⟨w.heap.size + 1, j, none⟩ = false := fun j => D1.out.froz j; clear hb2)))
 have hh := hI (Blk.set (Blk.set D1.out 0 (.slice (some ⟨w.heap.size + 1 + 1, 0, none⟩) n n)) 1 (.int .i64 ad))
 refine bodyPost_ret (results_cell_row Tryz.results127 _ _ (w.heap.size + 1) 35 #[.slice (some ⟨w.heap.size + 1 + 1, 0, none⟩) n n, .int .i64 ad] (0, 0) _ rfl hh.out Tryz.underlying35 rfl (by kernel_rfl)) rfl ?_
 have hsp : splice Z 0 L = L := by
  unfold splice
  rw [List.take_zero, List.nil_append, Nat.zero_add, List.drop_eq_nil_of_le (by rw [LN.out, ZN.out]; exact Nat.le_refl _), List.append_nil]
 have HG := HG2.out
 rw [hsp, <- HLL.out] at HG
 have ho : w2.ownsRow (w.heap.size + 1 + 1) 3 1 (.slice (some ⟨w.heap.size + 1 + 1, 0, none⟩) n n) n (iz l) := zcQ HG (by rw [qaR]; exact HN.out) (by unfold maxLen; omega) (Nat.le_refl _)
 refine ⟨_, _, by dsimp only; rw [HN.out]; rfl, ?_, (B2.out.setCell (p := ⟨w.heap.size + 1, 0, none⟩) (by dsimp only; omega) _).setCell (p := ⟨w.heap.size + 1, 1, none⟩) (by dsimp only; omega) _⟩
 dsimp only
 rw [HN.out]
 refine qaB (qaA (qaA ho _ _ ?_) _ _ ?_) (by omega)
 all_goals
  intro k hk
  have := (ho.lt k hk).1
  dsimp only
  omega
end Go.Proofs.YtigpjmmfelndkaaGreatDoor
