import Derived.Test.YtigpjmmfelndkaaGreatDoorKYD
import Derived.Test.YtigpjmmfelndkaaGreatDoorKYI
namespace Go.Proofs.YtigpjmmfelndkaaGreatDoor
open Go.RowKit
set_option linter.unusedVariables false
set_option maxRecDepth 100000
set_option maxHeartbeats 16000000
structure StN (B g r : Nat) (w wr : World) (a : Option Addr) (len cap : Nat) (A : NA) (N : Nr) : Prop where
 ok : InN N
 van : VaN wr r (w.heap.size + 1) A N
 res : Blk wr w.heap.size 39 [.slice none 0 0, .int .i64 0, .slice none 0 0, .slice none 0 0, .int .i64 0, .int .i64 0, .slice none 0 0, .int .i64 0, .slice none 0 0, .int .i64 0, .slice none 0 0, .slice none 0 0, .int .i64 0, .int .i64 0]
 drw : Drw B wr a len cap g
 grown : w.grownBy wr (some g)
 hg : g < w.heap.size
 hr : w.heap.size < r
theorem StN.draw {B g r : Nat} {w wr w2 : World} {a : Option Addr} {len cap : Nat} {A : NA} {N : Nr} (h : StN B g r w wr a len cap A N) (hd : Drw B w2 a len cap g) (hg : wr.grownBy w2 (some g)) : StN B g r w w2 a len cap A N := by
 have h1 := h.hg
 have h2 := h.hr
 exact ⟨h.ok, ⟨gblk hg h.van.var (fun e => by injection e with e; omega), h.van.own.grown hg (fun v hv k hk e => by have := (h.van.own.lt v hv k hk).1; injection e with e; omega), h.van.ne, by have := h.van.le.1; have := hg.size; omega, by have := h.van.le.2; have := hg.size; omega⟩, gblk hg h.res (fun e => by injection e with e; omega), hd, qaJ h.grown hg, h.hg, h.hr⟩
theorem StN.later {B g r : Nat} {w wr w2 : World} {a : Option Addr} {len cap : Nat} {A : NA} {N : Nr} (h : StN B g r w wr a len cap A N) (hb : Below wr.heap.size wr w2) : StN B g r w w2 a len cap A N :=
 ⟨h.ok, h.van.later hb, h.res.below hb h.res.lt, h.drw.later hb, qaJ h.grown (qbK hb), h.hg, h.hr⟩
theorem StN.put {B g r S : Nat} {w wr : World} {a : Option Addr} {len cap : Nat} {A A' : NA} {N M : Nr} (h : StN B g r w wr a len cap A N) (hok : InN M) (ho : OwnN wr S A' M) (hS : r < S) :
  StN B g r w ((((((((((((((wr.setCell ⟨r, 0, none⟩ (.slice A'.a M.sl.length A'.ac)).setCell ⟨r, 1, none⟩ (.int .i64 M.fr)).setCell ⟨r, 2, none⟩ (.slice A'.c M.ce.length A'.cc)).setCell ⟨r, 3, none⟩ (.slice A'.o M.od.length A'.oc)).setCell ⟨r, 4, none⟩ (.int .i64 M.mv)).setCell ⟨r, 5, none⟩ (.int .i64 M.wm)).setCell ⟨r, 6, none⟩ (.slice A'.w M.w.length A'.wc)).setCell ⟨r, 7, none⟩ (.int .i64 M.tm)).setCell ⟨r, 8, none⟩ (.slice A'.t M.t.length A'.tc)).setCell ⟨r, 9, none⟩ (.int .i64 M.sm)).setCell ⟨r, 10, none⟩ (.slice A'.s M.s.length A'.sc)).setCell ⟨r, 11, none⟩ (.slice A'.k M.sk.length A'.kc)).setCell ⟨r, 12, none⟩ (.int .i64 M.ad)).setCell ⟨r, 13, none⟩ (.int .i64 M.dr)) a len cap A' M := by
 have hg := h.hg
 have hr := h.hr
 have hne : ∀ v ∈ vlN A' M, ∀ k, v.ownBlock = some k -> k ≠ r := fun v hv k hk => by have := (ho.lt v hv k hk).1; omega
 have hsz := h.van.le
 exact ⟨hok, ⟨Blk.set (Blk.set (Blk.set (Blk.set (Blk.set (Blk.set (Blk.set (Blk.set (Blk.set (Blk.set (Blk.set (Blk.set (Blk.set (Blk.set (h.van.var) 0 (.slice A'.a M.sl.length A'.ac)) 1 (.int .i64 M.fr)) 2 (.slice A'.c M.ce.length A'.cc)) 3 (.slice A'.o M.od.length A'.oc)) 4 (.int .i64 M.mv)) 5 (.int .i64 M.wm)) 6 (.slice A'.w M.w.length A'.wc)) 7 (.int .i64 M.tm)) 8 (.slice A'.t M.t.length A'.tc)) 9 (.int .i64 M.sm)) 10 (.slice A'.s M.s.length A'.sc)) 11 (.slice A'.k M.sk.length A'.kc)) 12 (.int .i64 M.ad)) 13 (.int .i64 M.dr), (((((((((((((((ho).off ⟨r, 0, none⟩ (.slice A'.a M.sl.length A'.ac) hne).off ⟨r, 1, none⟩ (.int .i64 M.fr) hne).off ⟨r, 2, none⟩ (.slice A'.c M.ce.length A'.cc) hne).off ⟨r, 3, none⟩ (.slice A'.o M.od.length A'.oc) hne).off ⟨r, 4, none⟩ (.int .i64 M.mv) hne).off ⟨r, 5, none⟩ (.int .i64 M.wm) hne).off ⟨r, 6, none⟩ (.slice A'.w M.w.length A'.wc) hne).off ⟨r, 7, none⟩ (.int .i64 M.tm) hne).off ⟨r, 8, none⟩ (.slice A'.t M.t.length A'.tc) hne).off ⟨r, 9, none⟩ (.int .i64 M.sm) hne).off ⟨r, 10, none⟩ (.slice A'.s M.s.length A'.sc) hne).off ⟨r, 11, none⟩ (.slice A'.k M.sk.length A'.kc) hne).off ⟨r, 12, none⟩ (.int .i64 M.ad) hne).off ⟨r, 13, none⟩ (.int .i64 M.dr) hne).base (by omega), hne, by simp only [World.size_setCell]; exact hsz⟩, ((((((((((((((h.res).far ⟨r, 0, none⟩ (.slice A'.a M.sl.length A'.ac) (by show w.heap.size ≠ r; omega)).far ⟨r, 1, none⟩ (.int .i64 M.fr) (by show w.heap.size ≠ r; omega)).far ⟨r, 2, none⟩ (.slice A'.c M.ce.length A'.cc) (by show w.heap.size ≠ r; omega)).far ⟨r, 3, none⟩ (.slice A'.o M.od.length A'.oc) (by show w.heap.size ≠ r; omega)).far ⟨r, 4, none⟩ (.int .i64 M.mv) (by show w.heap.size ≠ r; omega)).far ⟨r, 5, none⟩ (.int .i64 M.wm) (by show w.heap.size ≠ r; omega)).far ⟨r, 6, none⟩ (.slice A'.w M.w.length A'.wc) (by show w.heap.size ≠ r; omega)).far ⟨r, 7, none⟩ (.int .i64 M.tm) (by show w.heap.size ≠ r; omega)).far ⟨r, 8, none⟩ (.slice A'.t M.t.length A'.tc) (by show w.heap.size ≠ r; omega)).far ⟨r, 9, none⟩ (.int .i64 M.sm) (by show w.heap.size ≠ r; omega)).far ⟨r, 10, none⟩ (.slice A'.s M.s.length A'.sc) (by show w.heap.size ≠ r; omega)).far ⟨r, 11, none⟩ (.slice A'.k M.sk.length A'.kc) (by show w.heap.size ≠ r; omega)).far ⟨r, 12, none⟩ (.int .i64 M.ad) (by show w.heap.size ≠ r; omega)).far ⟨r, 13, none⟩ (.int .i64 M.dr) (by show w.heap.size ≠ r; omega), qaV (qaV (qaV (qaV (qaV (qaV (qaV (qaV (qaV (qaV (qaV (qaV (qaV (qaV (h.drw) r 0 (.slice A'.a M.sl.length A'.ac) (by omega)) r 1 (.int .i64 M.fr) (by omega)) r 2 (.slice A'.c M.ce.length A'.cc) (by omega)) r 3 (.slice A'.o M.od.length A'.oc) (by omega)) r 4 (.int .i64 M.mv) (by omega)) r 5 (.int .i64 M.wm) (by omega)) r 6 (.slice A'.w M.w.length A'.wc) (by omega)) r 7 (.int .i64 M.tm) (by omega)) r 8 (.slice A'.t M.t.length A'.tc) (by omega)) r 9 (.int .i64 M.sm) (by omega)) r 10 (.slice A'.s M.s.length A'.sc) (by omega)) r 11 (.slice A'.k M.sk.length A'.kc) (by omega)) r 12 (.int .i64 M.ad) (by omega)) r 13 (.int .i64 M.dr) (by omega), qbZ (j := 13) (qbZ (j := 12) (qbZ (j := 11) (qbZ (j := 10) (qbZ (j := 9) (qbZ (j := 8) (qbZ (j := 7) (qbZ (j := 6) (qbZ (j := 5) (qbZ (j := 4) (qbZ (j := 3) (qbZ (j := 2) (qbZ (j := 1) (qbZ (j := 0) (h.grown) hr (.slice A'.a M.sl.length A'.ac)) hr (.int .i64 M.fr)) hr (.slice A'.c M.ce.length A'.cc)) hr (.slice A'.o M.od.length A'.oc)) hr (.int .i64 M.mv)) hr (.int .i64 M.wm)) hr (.slice A'.w M.w.length A'.wc)) hr (.int .i64 M.tm)) hr (.slice A'.t M.t.length A'.tc)) hr (.int .i64 M.sm)) hr (.slice A'.s M.s.length A'.sc)) hr (.slice A'.k M.sk.length A'.kc)) hr (.int .i64 M.ad)) hr (.int .i64 M.dr), hg, hr⟩
theorem size8_any (a : Option Addr) (len cap : Nat) (w : World) (h : len <= 1048576) : Calls Tryz.prog 70 #[.slice a len cap] w fun e w' => ∃ n : Nat, e = .returned (.int .i64 (n : Int)) /\ 0 < n /\ n <= 60 /\ w = w' := by
 have e1 : (len : Int).tdiv 4 = ((len / 4 : Nat) : Int) := quo_nat len 4
 have e1' : (len : Int) / 4 = ((len / 4 : Nat) : Int) := by omega
 have hq : len / 4 <= 262144 := by omega
 generalize len / 4 = q at *
 by_cases h6 : 50 < q
 ·have k1 : (60 : Int) < 10 + (q : Int) := by omega
  go_enter Tryz.func70, Tryz.ntmps70
  go_wp2
  go_ret
  exact ⟨60, rfl, by omega, by omega, rfl⟩
 ·have k1 : ¬ (60 : Int) < 10 + (q : Int) := by omega
  go_enter Tryz.func70, Tryz.ntmps70
  go_wp2
  go_ret
  exact ⟨10 + q, by simp, by omega, by omega, rfl⟩
theorem nearD_any {B : Nat} {w : World} {a : Option Addr} {len cap g : Nat} (h : Drw B w a len cap g) (hlen : len <= 1048576) :
  Calls Tryz.prog 23 #[.pointer (some ⟨g, 0, none⟩), .slice a len cap] w fun e w' => ∃ A N, e = .returned (neV A N) /\ InN N /\ OwnN w' w.heap.size A N /\ Drw B w' a len cap g /\ w.grownBy w' (some g) := by
 have hgw := h.lt
 have F0 := hI (And.intro (Blk.new w 39 nZ) (And.intro ((Below.refl w.heap.size w).alloc (Nat.le_refl _) (.cells nZ 39)) (h.later ((Below.refl w.heap.size w).alloc (Nat.le_refl _) (.cells nZ 39)))))
 have CZ := hI (fun w' => size8_any a len cap w' hlen)
 clear h
 go_enter Tryz.func23, Tryz.ntmps23
 go_wp2_with fail
 generalize (w.alloc (.cells nZ 39)) = w0 at F0 ⊢
 obtain ⟨R0, B0, D0⟩ := F0.out
 have R0 := hI R0
 have B0 := hI B0
 have s0 : w.heap.size < w0.heap.size := R0.out.lt
 clear F0
 refine (qfE D0 9 (by omega)).mono ?_
 clear D0
 rintro e w2 ⟨x, rfl, hx, _, hD2, hg2⟩
 have hx9 : x < 9 := by have := hx (by omega); omega
 have R2 := hI (gblk hg2 R0.out (fun e => by injection e with e; omega))
 have G2 := hI (qaJ (qbK (r := some g) B0.out) hg2)
 have D2 := hI hD2
 have s2 : w0.heap.size <= w2.heap.size := hg2.size
 clear hx hD2 hg2 R0 B0
 have CN := hI (specNewY_any (2 + x) (by omega) (by omega) w2)
 rw [show ((2 + x : Nat) : Int) = 2 + (x : Int) by omega] at CN
 have HN := hI (InN.new (n := 2 + x) (by omega) (by omega))
 unfold neV at CN
 have hx9' : (x : Int) < 9 := by omega
 generalize newN (2 + x) = N3 at *
 go_wp2_with fail
 refine CN.out.mono ?_
 rintro e w3 ⟨A3, rfl, ho3, hb3⟩
 have s3 : w2.heap.size <= w3.heap.size := hb3.size
 have SK : Hid (StN B g w3.heap.size w (w3.alloc (.cells (nA A3 N3) 39)) a len cap A3 N3) :=
  ⟨HN.out, VaN.box (S := w2.heap.size) ho3 (by omega) s3 (Blk.new w3 39 _) ((Below.refl _ _).alloc (Nat.le_refl _) _), (R2.out.below hb3 R2.out.lt).more _, (D2.out.later hb3).later ((Below.refl _ _).alloc (Nat.le_refl _) _), qaJ (qaJ G2.out (qbK hb3)) (qbK ((Below.refl _ _).alloc (Nat.le_refl _) _)), hgw, by omega⟩
 clear ho3 hb3 R2 D2 G2 CN HN
 go_wp2
 generalize (w3.alloc (.cells (nA A3 N3) 39)) = w4 at SK ⊢
 generalize w3.heap.size = r at SK ⊢
 have hwr : w.heap.size < r := SK.out.hr
 clear s0 s2 s3
 go_loopw [7] (fun iv wr => ∃ (i : Nat) (A : NA) (N : Nr), i <= 60 /\ iv = .int .i64 (i : Int) /\ Hid (StN B g r w wr a len cap A N)) (fun iv _ => 60 - (intOf iv).toNat)
 case atStart => exact ⟨0, _, _, by omega, rfl, SK⟩
 case round =>
  obtain ⟨i, A, N, hi, rfl, hS⟩ := hrel
  go_wp2_with fail
  refine (CZ.out wr).mono ?_
  rintro e w5 ⟨n, rfl, hn0, hn60, rfl⟩
  go_wp2_with fail
  refine (qfE hS.out.drw (n : Int) (by omega)).mono ?_
  rintro e w6 ⟨x2, rfl, hx2, _, hD6, hg6⟩
  have hx60 : x2 < 60 := by have := hx2 (by omega); omega
  have S6 := hI (hS.out.draw hD6 hg6)
  clear hx2 hD6 hg6 hS hn0 hn60
  by_cases hlt : i < x2
  ·have k1 : decide ((i : Int) < (x2 : Int)) = true := by simp; omega
   go_wp2_with fail
   refine (key_any S6.out.drw).mono ?_
   rintro e w7 ⟨z, rfl, hz1, hz2, hD7, hg7⟩
   have S7 := hI (S6.out.draw hD7 hg7)
   clear hD7 hg7 S6
   go_wp2_with fail
   refine (qfE S7.out.drw 6 (by omega)).mono ?_
   rintro e w8 ⟨y, rfl, hy, _, hD8, hg8⟩
   have hy6 : y < 6 := by have := hy (by omega); omega
   have S8 := hI (S7.out.draw hD8 hg8)
   clear hy hD8 hg8 S7
   have hr8 : r < w8.heap.size := S8.out.van.var.lt
   have hlen' : ¬ ∃ q : Nat, False := fun ⟨_, h⟩ => h
   clear hlen'
   obtain ⟨_, v0, v1, v2, v3, v4, v5, v6, v7, v8, v9, v10, v11, v12, v13⟩ := qcG S8.out.van.var
   by_cases hw01 : y = 0 ∨ y = 1
   ·have CW := hI (wantS S8.out.ok S8.out.van.own.rd z ⟨hz1, hz2⟩)
    have HW := hI (S8.out.ok.want z).1
    unfold neV at CW
    generalize wantN N z = M at *
    rcases hw01 with rfl | rfl
    all_goals
     go_wp2_with fail
     refine CW.out.mono ?_
     rintro e w9 ⟨A9, vv, tt, rfl, _, ho9, hb9⟩
     have S9 := hI (S8.out.later hb9)
     have S10 := hI (S9.out.put HW.out ho9 hr8)
     have yf : ∀ j, w9.frozen? ⟨r, j, none⟩ = false := fun j => S9.out.van.var.froz j
     obtain ⟨_, u0, u1, u2, u3, u4, u5, u6, u7, u8, u9, u10, u11, u12, u13⟩ := qcG S9.out.van.var
     clear hb9 ho9 CW HW S8 S9 v0 v1 v2 v3 v4 v5 v6 v7 v8 v9 v10 v11 v12 v13
     go_wp2
     go_roundw
     case rel => exact ⟨i + 1, A9, M, by omega, by go_num, S10⟩
     case measure => simp [intOf]; omega
   by_cases hw2 : y = 2
   ·subst hw2
    by_cases hin : z ∈ qaD N
    ·have CF := hI (forgetS S8.out.ok S8.out.van.own.rd z hin)
     have HF := hI (S8.out.ok.frg hin).1
     unfold neV at CF
     generalize frgN N z = M at *
     clear hin hw01
     go_wp2_with fail
     refine CF.out.mono ?_
     rintro e w9 ⟨A9, rfl, ho9, hb9⟩
     have S9 := hI ((S8.out.later hb9).later ((Below.refl _ _).alloc (Nat.le_refl _) (.cells (nA A9 M) 39)))
     have O9 := hI (ho9.later ((Below.refl _ _).alloc (Nat.le_refl _) (.cells (nA A9 M) 39)))
     have z9 : w8.heap.size <= w9.heap.size := hb9.size
     have Q9 := hI (show Blk (w9.alloc (.cells (nA A9 M) 39)) w9.heap.size 39 (neC A9 M) from Blk.new w9 39 _)
     clear hb9 ho9 CF S8 v0 v1 v2 v3 v4 v5 v6 v7 v8 v9 v10 v11 v12 v13
     go_wp2_with fail
     generalize (w9.alloc (.cells (nA A9 M) 39)) = w10 at S9 O9 Q9 ⊢
     refine (once_any S9.out.drw 2 (by omega)).mono ?_
     rintro e w11 ⟨tt, rfl, hD11, hg11⟩
     have S11 := hI (S9.out.draw hD11 hg11)
     have hne : ∀ v ∈ vlN A9 M, ∀ k, v.ownBlock = some k -> some g ≠ some k := fun v hv k hk e => by have := (O9.out.lt v hv k hk).1; injection e with e; omega
     have O11 := hI (O9.out.grown hg11 hne)
     have qg : w9.heap.size ≠ g := by omega
     have Q11 := hI (gblk hg11 Q9.out (fun e => by injection e with e; omega))
     clear hD11 hg11 S9 O9 Q9 hne
     cases tt with
     | false =>
      clear O11 Q11
      go_wp2
      go_roundw
      case rel => exact ⟨i + 1, A, N, by omega, by go_num, S11⟩
      case measure => simp [intOf]; omega
     | true =>
      have S12 := hI (S11.out.put HF.out O11.out hr8)
      have yf : ∀ j, w11.frozen? ⟨r, j, none⟩ = false := fun j => S11.out.van.var.froz j
      obtain ⟨_, u0, u1, u2, u3, u4, u5, u6, u7, u8, u9, u10, u11, u12, u13⟩ := qcG S11.out.van.var
      obtain ⟨_, q0, q1, q2, q3, q4, q5, q6, q7, q8, q9, q10, q11, q12, q13⟩ := qcG Q11.out
      clear S11 O11 Q11 HF
      go_wp2
      go_roundw
      case rel => exact ⟨i + 1, A9, M, by omega, by go_num, S12⟩
      case measure => simp [intOf]; omega
    ·have CF := hI (forgetSN S8.out.ok S8.out.van.own.rd z (by omega) hin)
     unfold neV noA zeN at CF
     simp only [List.length_nil] at CF
     clear hin hw01
     go_wp2_with fail
     refine CF.out.mono ?_
     rintro e w9 ⟨rfl, hb9⟩
     have S9 := hI ((S8.out.later hb9).later ((Below.refl _ _).alloc (Nat.le_refl _) (.cells nZ 39)))
     clear hb9 CF S8 v0 v1 v2 v3 v4 v5 v6 v7 v8 v9 v10 v11 v12 v13
     go_wp2
     generalize (w9.alloc (.cells nZ 39)) = w10 at S9 ⊢
     go_roundw
     case rel => exact ⟨i + 1, A, N, by omega, by go_num, S9⟩
     case measure => simp [intOf]; omega
   ·have y0 : ((y : Int) == 0) = false := by simp; omega
    have y1 : ((y : Int) == 1) = false := by simp; omega
    have y2 : ((y : Int) == 2) = false := by simp; omega
    clear hw01 hw2
    go_wp2_with fail
    go_region_with (first | (go_at_call 27; refine (val_any (S8.out.later (Below.refl _ _).drew).drw).mono ?_; rintro e w9 ⟨vl, rfl, hvl, hD9, hg9⟩; have SX := hI ((S8.out.later (Below.refl _ _).drew).draw hD9 hg9); have CK := hI (keepS SX.out.ok SX.out.van.own.rd z vl ⟨hz1, hz2⟩ hvl); have HK := hI (SX.out.ok.keep (k := z) (v := vl) ⟨hz1, hz2⟩ hvl).ok; have hr9 : r < w9.heap.size := SX.out.van.var.lt; obtain ⟨_, z0, z1, z2, z3, z4, z5, z6, z7, z8, z9, z10, z11, z12, z13⟩ := qcG SX.out.van.var; unfold neV at CK; clear hD9 hg9) | (go_at_call 8; refine CK.out.mono ?_; rintro e w10 ⟨A10, rfl, ho10, hb10⟩; have SY := hI (SX.out.later hb10); have S12 := hI (SY.out.put HK.out ho10 hr9); obtain ⟨_, u0, u1, u2, u3, u4, u5, u6, u7, u8, u9, u10, u11, u12, u13⟩ := qcG SY.out.van.var; have uf : ∀ j, w10.frozen? ⟨r, j, none⟩ = false := fun j => SY.out.van.var.froz j; clear ho10 hb10 SY))
    all_goals
     go_wp2
     go_roundw
     case rel => exact ⟨i + 1, _, _, by omega, by go_num, S12⟩
     case measure => simp [intOf]; omega
  ·have k1 : decide ((i : Int) < (x2 : Int)) = false := by simp; omega
   obtain ⟨_, v0, v1, v2, v3, v4, v5, v6, v7, v8, v9, v10, v11, v12, v13⟩ := qcG S6.out.van.var
   have y0 : w6.cell? ⟨w.heap.size, 0, none⟩ = _ := cRn (S6.out.res.cell 0) rfl
   have y1 : w6.cell? ⟨w.heap.size, 1, none⟩ = _ := cRn (S6.out.res.cell 1) rfl
   have y2 : w6.cell? ⟨w.heap.size, 2, none⟩ = _ := cRn (S6.out.res.cell 2) rfl
   have y3 : w6.cell? ⟨w.heap.size, 3, none⟩ = _ := cRn (S6.out.res.cell 3) rfl
   have y4 : w6.cell? ⟨w.heap.size, 4, none⟩ = _ := cRn (S6.out.res.cell 4) rfl
   have y5 : w6.cell? ⟨w.heap.size, 5, none⟩ = _ := cRn (S6.out.res.cell 5) rfl
   have y6 : w6.cell? ⟨w.heap.size, 6, none⟩ = _ := cRn (S6.out.res.cell 6) rfl
   have y7 : w6.cell? ⟨w.heap.size, 7, none⟩ = _ := cRn (S6.out.res.cell 7) rfl
   have y8 : w6.cell? ⟨w.heap.size, 8, none⟩ = _ := cRn (S6.out.res.cell 8) rfl
   have y9 : w6.cell? ⟨w.heap.size, 9, none⟩ = _ := cRn (S6.out.res.cell 9) rfl
   have y10 : w6.cell? ⟨w.heap.size, 10, none⟩ = _ := cRn (S6.out.res.cell 10) rfl
   have y11 : w6.cell? ⟨w.heap.size, 11, none⟩ = _ := cRn (S6.out.res.cell 11) rfl
   have y12 : w6.cell? ⟨w.heap.size, 12, none⟩ = _ := cRn (S6.out.res.cell 12) rfl
   have y13 : w6.cell? ⟨w.heap.size, 13, none⟩ = _ := cRn (S6.out.res.cell 13) rfl
   have yf : ∀ j, w6.frozen? ⟨w.heap.size, j, none⟩ = false := fun j => S6.out.res.froz j
   have HH := hI (Blk.set (Blk.set (Blk.set (Blk.set (Blk.set (Blk.set (Blk.set (Blk.set (Blk.set (Blk.set (Blk.set (Blk.set (Blk.set (Blk.set (S6.out.res) 0 (.slice A.a N.sl.length A.ac)) 1 (.int .i64 N.fr)) 2 (.slice A.c N.ce.length A.cc)) 3 (.slice A.o N.od.length A.oc)) 4 (.int .i64 N.mv)) 5 (.int .i64 N.wm)) 6 (.slice A.w N.w.length A.wc)) 7 (.int .i64 N.tm)) 8 (.slice A.t N.t.length A.tc)) 9 (.int .i64 N.sm)) 10 (.slice A.s N.s.length A.sc)) 11 (.slice A.k N.sk.length A.kc)) 12 (.int .i64 N.ad)) 13 (.int .i64 N.dr))
   have HO := hI (OwnN.put14 (s := w.heap.size) S6.out.van.own (by omega) (.slice A.a N.sl.length A.ac) (.int .i64 N.fr) (.slice A.c N.ce.length A.cc) (.slice A.o N.od.length A.oc) (.int .i64 N.mv) (.int .i64 N.wm) (.slice A.w N.w.length A.wc) (.int .i64 N.tm) (.slice A.t N.t.length A.tc) (.int .i64 N.sm) (.slice A.s N.s.length A.sc) (.slice A.k N.sk.length A.kc) (.int .i64 N.ad) (.int .i64 N.dr))
   have HD := hI (qaV (qaV (qaV (qaV (qaV (qaV (qaV (qaV (qaV (qaV (qaV (qaV (qaV (qaV (S6.out.drw) w.heap.size 0 (.slice A.a N.sl.length A.ac) hgw) w.heap.size 1 (.int .i64 N.fr) hgw) w.heap.size 2 (.slice A.c N.ce.length A.cc) hgw) w.heap.size 3 (.slice A.o N.od.length A.oc) hgw) w.heap.size 4 (.int .i64 N.mv) hgw) w.heap.size 5 (.int .i64 N.wm) hgw) w.heap.size 6 (.slice A.w N.w.length A.wc) hgw) w.heap.size 7 (.int .i64 N.tm) hgw) w.heap.size 8 (.slice A.t N.t.length A.tc) hgw) w.heap.size 9 (.int .i64 N.sm) hgw) w.heap.size 10 (.slice A.s N.s.length A.sc) hgw) w.heap.size 11 (.slice A.k N.sk.length A.kc) hgw) w.heap.size 12 (.int .i64 N.ad) hgw) w.heap.size 13 (.int .i64 N.dr) hgw)
   have HG := hI (qbY (qbY (qbY (qbY (qbY (qbY (qbY (qbY (qbY (qbY (qbY (qbY (qbY (qbY (S6.out.grown) 0 (.slice A.a N.sl.length A.ac)) 1 (.int .i64 N.fr)) 2 (.slice A.c N.ce.length A.cc)) 3 (.slice A.o N.od.length A.oc)) 4 (.int .i64 N.mv)) 5 (.int .i64 N.wm)) 6 (.slice A.w N.w.length A.wc)) 7 (.int .i64 N.tm)) 8 (.slice A.t N.t.length A.tc)) 9 (.int .i64 N.sm)) 10 (.slice A.s N.s.length A.sc)) 11 (.slice A.k N.sk.length A.kc)) 12 (.int .i64 N.ad)) 13 (.int .i64 N.dr))
   have HK := hI S6.out.ok
   clear S6 CZ
   go_wp2
   refine bodyPost_ret (results_cell_row Tryz.results23 _ _ w.heap.size 39 (nA A N) (0, 0) _ rfl HH.out Tryz.underlying39 rfl (by kernel_rfl)) rfl ?_
   exact ⟨A, N, rfl, HK.out, HO.out.base (by omega), HD.out, HG.out⟩
structure StD (B g q : Nat) (w wr : World) (a : Option Addr) (len cap : Nat) (A : NA) (N : Nr) (ko : Option Addr) (kc : Nat) (ks : List ByteArray) : Prop where
 ok : InN N
 res : Blk wr w.heap.size 39 [.slice none 0 0, .int .i64 0, .slice none 0 0, .slice none 0 0, .int .i64 0, .int .i64 0, .slice none 0 0, .int .i64 0, .slice none 0 0, .int .i64 0, .slice none 0 0, .slice none 0 0, .int .i64 0, .int .i64 0]
 var : Blk wr q 39 (neC A N)
 own : OwnN wr (g + 1) A N
 kown : OwnQ wr (g + 1) ko kc ks
 drw : Drw B wr a len cap g
 bel : Below w.heap.size w wr
 hg : w.heap.size < g
 hq : g < q
theorem StD.draw {B g q : Nat} {w wr w2 : World} {a : Option Addr} {len cap : Nat} {A : NA} {N : Nr} {ko : Option Addr} {kc : Nat} {ks : List ByteArray} (h : StD B g q w wr a len cap A N ko kc ks) (hd : Drw B w2 a len cap g) (hgr : wr.grownBy w2 (some g)) : StD B g q w w2 a len cap A N ko kc ks := by
 have h1 := h.hg
 have h2 := h.hq
 exact ⟨h.ok, gblk hgr h.res (fun e => by injection e with e; omega), gblk hgr h.var (fun e => by injection e with e; omega), h.own.grown hgr (fun v hv k hk e => by have := (h.own.lt v hv k hk).1; injection e with e; omega), gown hgr h.kown (fun k hk e => by have := (h.kown.lt k hk).1; injection e with e; omega), hd, h.bel.trans (qaW hgr (fun g' e => by injection e with e; omega) h.bel.size), h.hg, h.hq⟩
theorem StD.later {B g q : Nat} {w wr w2 : World} {a : Option Addr} {len cap : Nat} {A : NA} {N : Nr} {ko : Option Addr} {kc : Nat} {ks : List ByteArray} (h : StD B g q w wr a len cap A N ko kc ks) (hb : Below wr.heap.size wr w2) : StD B g q w w2 a len cap A N ko kc ks :=
 ⟨h.ok, h.res.below hb h.res.lt, h.var.below hb h.var.lt, h.own.later hb, h.kown.later hb, h.drw.later hb, h.bel.trans (hb.mono h.bel.size), h.hg, h.hq⟩
theorem ownQ_at {w : World} {B kb kx c : Nat} {ks : List ByteArray} {kz : Nat -> ByteArray} (h : OwnQ w B (some ⟨kb, kx, none⟩) c ks) (hkz : ∀ i (h : i < ks.length), ks[i] = kz i) : ∀ i, i < ks.length -> w.cell? ⟨kb, kx + i, none⟩ = some (.string (kz i)) := by
 intro i hi
 obtain ⟨b, o, e, _, hc⟩ := h.rd i hi
 injection e with e
 injection e with e1 e2
 subst e1 e2
 rw [hc, hkz i hi]
theorem drawRN_any (w : World) (a : Option Addr) (len cap : Nat) (hc : Code w.heap.size w a len) (hlen : len <= 1048576) :
  Calls Tryz.prog 6 #[.slice a len cap] w fun e w' => ∃ (A : NA) (N : Nr) (k v : ByteArray), e = .returned (.tuple #[neV A N, .string k, .string v]) /\ InN N /\ qcX k /\ v.size <= 20 /\ OwnN w' w.heap.size A N /\ Below w.heap.size w w' := by
 have F0 : Hid (Blk (w.alloc (.cells nZ 39)) w.heap.size 39 [.slice none 0 0, .int .i64 0, .slice none 0 0, .slice none 0 0, .int .i64 0, .int .i64 0, .slice none 0 0, .int .i64 0, .slice none 0 0, .int .i64 0, .slice none 0 0, .slice none 0 0, .int .i64 0, .int .i64 0] /\ Below w.heap.size w (w.alloc (.cells nZ 39)) /\ Code (w.alloc (.cells nZ 39)).heap.size (w.alloc (.cells nZ 39)) a len) := ⟨Blk.new w _ _, (Below.refl _ _).alloc (Nat.le_refl _) _, code_grow hc _⟩
 clear hc
 go_enter Tryz.func6, Tryz.ntmps6
 go_wp2_with fail
 generalize (w.alloc (.cells nZ 39)) = w0 at F0 ⊢
 obtain ⟨R0, B0, C0⟩ := F0.out
 refine (new_any w0 a len cap C0).mono ?_
 rintro e w1 ⟨g, rfl, h1, hb1⟩
 have hBg := h1.cur.1
 have R1 := hI (R0.below hb1 R0.lt)
 have B1 := hI (B0.trans (hb1.mono B0.size))
 have hr0 := R0.lt
 have hg1 := h1.lt
 have C2 := hI (nearD_any h1 hlen)
 clear F0 R0 B0 C0 hb1 h1
 go_wp2_with fail
 refine C2.out.mono ?_
 rintro e w2 ⟨A, N, rfl, hok, ho, h2, hg2⟩
 have R2 := hI (gblk hg2 R1.out (fun e => by injection e with e; omega))
 have B2 := hI (B1.out.trans (qaW hg2 (fun g' e => by injection e with e; omega) B1.out.size))
 have s2 := hg2.size
 have HOK := hI hok
 have O2 := hI ho
 have D2 := hI h2
 clear hok ho h2 hg2 C2 R1 B1
 unfold neV
 have BX := hI (show Blk (w2.alloc (.cells (nA A N) 39)) w2.heap.size 39 (neC A N) /\ Below w2.heap.size w2 (w2.alloc (.cells (nA A N) 39)) from ⟨Blk.new w2 39 _, (Below.refl _ _).alloc (Nat.le_refl _) _⟩)
 have CK := hI (fun w' (hb : Below w2.heap.size w2 w') => specKeys8_any (O2.out.rd.later hb) HOK.out.qw.small HOK.out.qt.small HOK.out.qs.small)
 unfold neV at CK
 go_wp2_with fail
 generalize (w2.alloc (.cells (nA A N) 39)) = w3 at BX ⊢
 refine (CK.out w3 BX.out.2).mono ?_
 rintro e w4 ⟨ko, kc, rfl, ho4, hb4⟩
 have b24 := BX.out.2.trans (hb4.mono BX.out.2.size)
 have S4 : Hid (StD w0.heap.size g w2.heap.size w w4 a len cap A N ko kc (qaY (qaD N))) :=
  ⟨HOK.out, R2.out.below b24 R2.out.lt, BX.out.1.below hb4 BX.out.1.lt, (O2.out.later b24).base (by omega), ho4.base (by have := BX.out.2.size; omega), D2.out.later b24, B2.out.trans (b24.mono B2.out.size), by omega, by omega⟩
 have HM := hI (show ∀ k ∈ qaY (qaD N), qcX k from fun k hk => by
  obtain ⟨_, h2, _⟩ := foldl_ins (qaD N) [] List.Pairwise.nil HOK.out.nd (fun x _ e => by cases e)
  rcases (h2 k).1 hk with hk | hk
  ·exact HOK.out.key hk
  ·cases hk)
 have hkl : (qaY (qaD N)).length <= 72 := by rw [qcY]; have := HOK.out.qw.small; have := HOK.out.qt.small; have := HOK.out.qs.small; simp only [qaD, List.length_append]; omega
 clear ho4 hb4 b24 CK BX O2 D2 R2 B2 HOK hlen
 generalize qaY (qaD N) = ks at *
 generalize w2.heap.size = q at *
 have hkl' : (ks.length : Int) <= 72 := by omega
 clear s2 hr0 hg1 hBg
 by_cases hk0 : 0 < ks.length
 ·have k1 : (0 : Int) < (ks.length : Int) := by omega
  go_wp2_with fail
  refine (once_any S4.out.drw 4 (by omega)).mono ?_
  rintro e w5 ⟨t, rfl, hD5, hg5⟩
  have S5 := hI (S4.out.draw hD5 hg5)
  clear hD5 hg5 S4
  cases t with
  | false =>
   obtain ⟨_, v0, v1, v2, v3, v4, v5, v6, v7, v8, v9, v10, v11, v12, v13⟩ := qcG S5.out.var
   go_wp2_with fail
   obtain ⟨kz, hkz⟩ : ∃ kz : Nat -> ByteArray, ∀ i (h : i < ks.length), ks[i] = kz i := ⟨fun i => ks.getD i ⟨#[]⟩, fun i h => (by show ks[i] = ks.getD i ⟨#[]⟩; rw [List.getD_eq_getElem?_getD, List.getElem?_eq_getElem h]; rfl)⟩
   have HKZ := hI hkz
   obtain ⟨kb, kx, hko, hkb0, _⟩ := S5.out.kown.rd 0 hk0
   subst hko
   have hkg : g < kb := (by have h9 := (S5.out.kown.lt kb (by rfl)).1; omega)
   have KF := ownQ_at S5.out.kown HKZ.out
   clear hkz hkb0
   have qk : ∀ (u : World) (i j : Nat) (v : Value), (u.setCell ⟨w.heap.size, i, none⟩ v).cell? ⟨kb, j, none⟩ = u.cell? ⟨kb, j, none⟩ := fun u i j v => World.cell?_setCell_other _ _ _ _ (by intro e; injection e; have := S5.out.hg; omega)
   have hq1 := S5.out.hg; have hq2 := S5.out.hq
   have CBB := hI (fun w' (hb : Below w5.heap.size w5 w') => qfE (S5.out.later hb).drw (ks.length : Int) (by omega))
   have DRR := hI (fun w' (hb : Below w5.heap.size w5 w') w2 hd hg => (S5.out.later hb).draw (w2 := w2) hd hg)
   have qq : ∀ (u : World) (i j : Nat) (v : Value), (u.setCell ⟨w.heap.size, i, none⟩ v).cell? ⟨q, j, none⟩ = u.cell? ⟨q, j, none⟩ := fun u i j v => World.cell?_setCell_other _ _ _ _ (by intro e; injection e; omega)
   go_region_held3 (fun w' => w'.cell? ⟨q, 0, none⟩ = some (.slice A.a N.sl.length A.ac) /\ w'.cell? ⟨q, 1, none⟩ = some (.int .i64 N.fr) /\ w'.cell? ⟨q, 2, none⟩ = some (.slice A.c N.ce.length A.cc) /\ w'.cell? ⟨q, 3, none⟩ = some (.slice A.o N.od.length A.oc) /\ w'.cell? ⟨q, 4, none⟩ = some (.int .i64 N.mv) /\ w'.cell? ⟨q, 5, none⟩ = some (.int .i64 N.wm) /\ w'.cell? ⟨q, 6, none⟩ = some (.slice A.w N.w.length A.wc) /\ w'.cell? ⟨q, 7, none⟩ = some (.int .i64 N.tm) /\ w'.cell? ⟨q, 8, none⟩ = some (.slice A.t N.t.length A.tc) /\ w'.cell? ⟨q, 9, none⟩ = some (.int .i64 N.sm) /\ w'.cell? ⟨q, 10, none⟩ = some (.slice A.s N.s.length A.sc) /\ w'.cell? ⟨q, 11, none⟩ = some (.slice A.k N.sk.length A.kc) /\ w'.cell? ⟨q, 12, none⟩ = some (.int .i64 N.ad) /\ w'.cell? ⟨q, 13, none⟩ = some (.int .i64 N.dr) /\ (∀ i, i < ks.length -> w'.cell? ⟨kb, kx + i, none⟩ = some (.string (kz i)))) (first | (simp only [World.cell?_drew, v0, v1, v2, v3, v4, v5, v6, v7, v8, v9, v10, v11, v12, v13, true_and]; exact KF) | (simp only [v0, v1, v2, v3, v4, v5, v6, v7, v8, v9, v10, v11, v12, v13, true_and]; exact KF) | (simp only [qq, qk, v0, v1, v2, v3, v4, v5, v6, v7, v8, v9, v10, v11, v12, v13, true_and]; exact KF) | (simp only [World.cell?_drew, qq, qk, v0, v1, v2, v3, v4, v5, v6, v7, v8, v9, v10, v11, v12, v13, true_and]; exact KF)) ((first | (go_at_call 26; refine (CBB.out _ (show Below w5.heap.size w5 _ by go_grown)).mono ?_; rintro e w7 ⟨x, rfl, hx, _, hD7, hg7⟩; have hxl : x < ks.length := (by have := hx (by omega); omega); have S7 := hI (DRR.out _ (show Below w5.heap.size w5 _ by go_grown) _ hD7 hg7); have CVV := hI (fun w' (hb : Below w7.heap.size w7 w') => val_any (S7.out.later hb).drw); have HKQ := hI (show qcX (kz x) from HKZ.out x hxl ▸ HM.out _ (List.getElem_mem hxl)); have DRV := hI (fun w' (hb : Below w7.heap.size w7 w') w2 hd hg => (S7.out.later hb).draw (w2 := w2) hd hg); have hxl' : (x : Int) < (ks.length : Int) := (by omega); clear KF v0 v1 v2 v3 v4 v5 v6 v7 v8 v9 v10 v11 v12 v13; have KF := ownQ_at S7.out.kown HKZ.out; obtain ⟨_, v0, v1, v2, v3, v4, v5, v6, v7, v8, v9, v10, v11, v12, v13⟩ := qcG S7.out.var; clear hD7 hg7 hx) | (go_at_call 27; refine (CVV.out _ (show Below w7.heap.size w7 _ by go_grown)).mono ?_; rintro e w9 ⟨vl, rfl, hvl, hD9, hg9⟩; have S9 := hI (DRV.out _ (show Below w7.heap.size w7 _ by go_grown) _ hD9 hg9); have HVS := hI hvl; clear KF; have KF := ownQ_at S9.out.kown HKZ.out; clear v0 v1 v2 v3 v4 v5 v6 v7 v8 v9 v10 v11 v12 v13; obtain ⟨_, v0, v1, v2, v3, v4, v5, v6, v7, v8, v9, v10, v11, v12, v13⟩ := qcG S9.out.var; have y0 : w9.cell? ⟨w.heap.size, 0, none⟩ = some (.slice none 0 0) := S9.out.res.cell 0; have y1 : w9.cell? ⟨w.heap.size, 1, none⟩ = some (.int .i64 0) := S9.out.res.cell 1; have y2 : w9.cell? ⟨w.heap.size, 2, none⟩ = some (.slice none 0 0) := S9.out.res.cell 2; have y3 : w9.cell? ⟨w.heap.size, 3, none⟩ = some (.slice none 0 0) := S9.out.res.cell 3; have y4 : w9.cell? ⟨w.heap.size, 4, none⟩ = some (.int .i64 0) := S9.out.res.cell 4; have y5 : w9.cell? ⟨w.heap.size, 5, none⟩ = some (.int .i64 0) := S9.out.res.cell 5; have y6 : w9.cell? ⟨w.heap.size, 6, none⟩ = some (.slice none 0 0) := S9.out.res.cell 6; have y7 : w9.cell? ⟨w.heap.size, 7, none⟩ = some (.int .i64 0) := S9.out.res.cell 7; have y8 : w9.cell? ⟨w.heap.size, 8, none⟩ = some (.slice none 0 0) := S9.out.res.cell 8; have y9 : w9.cell? ⟨w.heap.size, 9, none⟩ = some (.int .i64 0) := S9.out.res.cell 9; have y10 : w9.cell? ⟨w.heap.size, 10, none⟩ = some (.slice none 0 0) := S9.out.res.cell 10; have y11 : w9.cell? ⟨w.heap.size, 11, none⟩ = some (.slice none 0 0) := S9.out.res.cell 11; have y12 : w9.cell? ⟨w.heap.size, 12, none⟩ = some (.int .i64 0) := S9.out.res.cell 12; have y13 : w9.cell? ⟨w.heap.size, 13, none⟩ = some (.int .i64 0) := S9.out.res.cell 13; have yf : ∀ j, w9.frozen? ⟨w.heap.size, j, none⟩ = false := fun j => S9.out.res.froz j; clear hD9 hg9)))
   all_goals
    (
     have HH := hI (Blk.set (Blk.set (Blk.set (Blk.set (Blk.set (Blk.set (Blk.set (Blk.set (Blk.set (Blk.set (Blk.set (Blk.set (Blk.set (Blk.set (S9.out.res) 0 (.slice A.a N.sl.length A.ac)) 1 (.int .i64 N.fr)) 2 (.slice A.c N.ce.length A.cc)) 3 (.slice A.o N.od.length A.oc)) 4 (.int .i64 N.mv)) 5 (.int .i64 N.wm)) 6 (.slice A.w N.w.length A.wc)) 7 (.int .i64 N.tm)) 8 (.slice A.t N.t.length A.tc)) 9 (.int .i64 N.sm)) 10 (.slice A.s N.s.length A.sc)) 11 (.slice A.k N.sk.length A.kc)) 12 (.int .i64 N.ad)) 13 (.int .i64 N.dr))
     have HO := hI (OwnN.put14 (s := w.heap.size) S9.out.own (by have := S9.out.hg; omega) (.slice A.a N.sl.length A.ac) (.int .i64 N.fr) (.slice A.c N.ce.length A.cc) (.slice A.o N.od.length A.oc) (.int .i64 N.mv) (.int .i64 N.wm) (.slice A.w N.w.length A.wc) (.int .i64 N.tm) (.slice A.t N.t.length A.tc) (.int .i64 N.sm) (.slice A.s N.s.length A.sc) (.slice A.k N.sk.length A.kc) (.int .i64 N.ad) (.int .i64 N.dr))
     have HB := hI (qaM (s := w.heap.size) S9.out.bel (Nat.le_refl _) (.slice A.a N.sl.length A.ac) (.int .i64 N.fr) (.slice A.c N.ce.length A.cc) (.slice A.o N.od.length A.oc) (.int .i64 N.mv) (.int .i64 N.wm) (.slice A.w N.w.length A.wc) (.int .i64 N.tm) (.slice A.t N.t.length A.tc) (.int .i64 N.sm) (.slice A.s N.s.length A.sc) (.slice A.k N.sk.length A.kc) (.int .i64 N.ad) (.int .i64 N.dr))
     have HK := hI (And.intro S9.out.ok (And.intro HKQ.out HVS.out))
     have hgl := S9.out.hg
     clear S9
     go_wp2
     refine bodyPost_ret (qeJ Tryz.results6 _ _ w.heap.size 39 (nA A N) (0, 0) _ rfl HH.out Tryz.underlying39 rfl (by kernel_rfl)) rfl ?_
     exact ⟨A, N, _, _, rfl, HK.out.1, HK.out.2.1, HK.out.2.2, HO.out.base (by omega), HB.out⟩
    )
  | true =>
   obtain ⟨_, v0, v1, v2, v3, v4, v5, v6, v7, v8, v9, v10, v11, v12, v13⟩ := qcG S5.out.var
   go_wp2_with fail
   have hq1 := S5.out.hg; have hq2 := S5.out.hq
   have CKK := hI (fun w' (hb : Below w5.heap.size w5 w') => key_any (S5.out.later hb).drw)
   have DRR := hI (fun w' (hb : Below w5.heap.size w5 w') w2 hd hg => (S5.out.later hb).draw (w2 := w2) hd hg)
   have qq : ∀ (u : World) (i j : Nat) (v : Value), (u.setCell ⟨w.heap.size, i, none⟩ v).cell? ⟨q, j, none⟩ = u.cell? ⟨q, j, none⟩ := fun u i j v => World.cell?_setCell_other _ _ _ _ (by intro e; injection e; omega)
   go_region_held3 (fun w' => w'.cell? ⟨q, 0, none⟩ = some (.slice A.a N.sl.length A.ac) /\ w'.cell? ⟨q, 1, none⟩ = some (.int .i64 N.fr) /\ w'.cell? ⟨q, 2, none⟩ = some (.slice A.c N.ce.length A.cc) /\ w'.cell? ⟨q, 3, none⟩ = some (.slice A.o N.od.length A.oc) /\ w'.cell? ⟨q, 4, none⟩ = some (.int .i64 N.mv) /\ w'.cell? ⟨q, 5, none⟩ = some (.int .i64 N.wm) /\ w'.cell? ⟨q, 6, none⟩ = some (.slice A.w N.w.length A.wc) /\ w'.cell? ⟨q, 7, none⟩ = some (.int .i64 N.tm) /\ w'.cell? ⟨q, 8, none⟩ = some (.slice A.t N.t.length A.tc) /\ w'.cell? ⟨q, 9, none⟩ = some (.int .i64 N.sm) /\ w'.cell? ⟨q, 10, none⟩ = some (.slice A.s N.s.length A.sc) /\ w'.cell? ⟨q, 11, none⟩ = some (.slice A.k N.sk.length A.kc) /\ w'.cell? ⟨q, 12, none⟩ = some (.int .i64 N.ad) /\ w'.cell? ⟨q, 13, none⟩ = some (.int .i64 N.dr)) (first | simp only [World.cell?_drew, v0, v1, v2, v3, v4, v5, v6, v7, v8, v9, v10, v11, v12, v13, and_self] | simp only [v0, v1, v2, v3, v4, v5, v6, v7, v8, v9, v10, v11, v12, v13, and_self] | simp only [qq, v0, v1, v2, v3, v4, v5, v6, v7, v8, v9, v10, v11, v12, v13, and_self] | simp only [World.cell?_drew, qq, v0, v1, v2, v3, v4, v5, v6, v7, v8, v9, v10, v11, v12, v13, and_self]) ((first | (go_at_call 28; refine (CKK.out _ (show Below w5.heap.size w5 _ by go_grown)).mono ?_; rintro e w7 ⟨z, rfl, hz1, hz2, hD7, hg7⟩; have S7 := hI (DRR.out _ (show Below w5.heap.size w5 _ by go_grown) _ hD7 hg7); have HKQ := hI (show qcX z from ⟨hz1, hz2⟩); have CVV := hI (fun w' (hb : Below w7.heap.size w7 w') => val_any (S7.out.later hb).drw); have DRV := hI (fun w' (hb : Below w7.heap.size w7 w') w2 hd hg => (S7.out.later hb).draw (w2 := w2) hd hg); clear v0 v1 v2 v3 v4 v5 v6 v7 v8 v9 v10 v11 v12 v13; obtain ⟨_, v0, v1, v2, v3, v4, v5, v6, v7, v8, v9, v10, v11, v12, v13⟩ := qcG S7.out.var; clear hD7 hg7) | (go_at_call 27; refine (CVV.out _ (show Below w7.heap.size w7 _ by go_grown)).mono ?_; rintro e w9 ⟨vl, rfl, hvl, hD9, hg9⟩; have S9 := hI (DRV.out _ (show Below w7.heap.size w7 _ by go_grown) _ hD9 hg9); have HVS := hI hvl; clear v0 v1 v2 v3 v4 v5 v6 v7 v8 v9 v10 v11 v12 v13; obtain ⟨_, v0, v1, v2, v3, v4, v5, v6, v7, v8, v9, v10, v11, v12, v13⟩ := qcG S9.out.var; have y0 : w9.cell? ⟨w.heap.size, 0, none⟩ = some (.slice none 0 0) := S9.out.res.cell 0; have y1 : w9.cell? ⟨w.heap.size, 1, none⟩ = some (.int .i64 0) := S9.out.res.cell 1; have y2 : w9.cell? ⟨w.heap.size, 2, none⟩ = some (.slice none 0 0) := S9.out.res.cell 2; have y3 : w9.cell? ⟨w.heap.size, 3, none⟩ = some (.slice none 0 0) := S9.out.res.cell 3; have y4 : w9.cell? ⟨w.heap.size, 4, none⟩ = some (.int .i64 0) := S9.out.res.cell 4; have y5 : w9.cell? ⟨w.heap.size, 5, none⟩ = some (.int .i64 0) := S9.out.res.cell 5; have y6 : w9.cell? ⟨w.heap.size, 6, none⟩ = some (.slice none 0 0) := S9.out.res.cell 6; have y7 : w9.cell? ⟨w.heap.size, 7, none⟩ = some (.int .i64 0) := S9.out.res.cell 7; have y8 : w9.cell? ⟨w.heap.size, 8, none⟩ = some (.slice none 0 0) := S9.out.res.cell 8; have y9 : w9.cell? ⟨w.heap.size, 9, none⟩ = some (.int .i64 0) := S9.out.res.cell 9; have y10 : w9.cell? ⟨w.heap.size, 10, none⟩ = some (.slice none 0 0) := S9.out.res.cell 10; have y11 : w9.cell? ⟨w.heap.size, 11, none⟩ = some (.slice none 0 0) := S9.out.res.cell 11; have y12 : w9.cell? ⟨w.heap.size, 12, none⟩ = some (.int .i64 0) := S9.out.res.cell 12; have y13 : w9.cell? ⟨w.heap.size, 13, none⟩ = some (.int .i64 0) := S9.out.res.cell 13; have yf : ∀ j, w9.frozen? ⟨w.heap.size, j, none⟩ = false := fun j => S9.out.res.froz j; clear hD9 hg9)))
   all_goals
    (
     have HH := hI (Blk.set (Blk.set (Blk.set (Blk.set (Blk.set (Blk.set (Blk.set (Blk.set (Blk.set (Blk.set (Blk.set (Blk.set (Blk.set (Blk.set (S9.out.res) 0 (.slice A.a N.sl.length A.ac)) 1 (.int .i64 N.fr)) 2 (.slice A.c N.ce.length A.cc)) 3 (.slice A.o N.od.length A.oc)) 4 (.int .i64 N.mv)) 5 (.int .i64 N.wm)) 6 (.slice A.w N.w.length A.wc)) 7 (.int .i64 N.tm)) 8 (.slice A.t N.t.length A.tc)) 9 (.int .i64 N.sm)) 10 (.slice A.s N.s.length A.sc)) 11 (.slice A.k N.sk.length A.kc)) 12 (.int .i64 N.ad)) 13 (.int .i64 N.dr))
     have HO := hI (OwnN.put14 (s := w.heap.size) S9.out.own (by have := S9.out.hg; omega) (.slice A.a N.sl.length A.ac) (.int .i64 N.fr) (.slice A.c N.ce.length A.cc) (.slice A.o N.od.length A.oc) (.int .i64 N.mv) (.int .i64 N.wm) (.slice A.w N.w.length A.wc) (.int .i64 N.tm) (.slice A.t N.t.length A.tc) (.int .i64 N.sm) (.slice A.s N.s.length A.sc) (.slice A.k N.sk.length A.kc) (.int .i64 N.ad) (.int .i64 N.dr))
     have HB := hI (qaM (s := w.heap.size) S9.out.bel (Nat.le_refl _) (.slice A.a N.sl.length A.ac) (.int .i64 N.fr) (.slice A.c N.ce.length A.cc) (.slice A.o N.od.length A.oc) (.int .i64 N.mv) (.int .i64 N.wm) (.slice A.w N.w.length A.wc) (.int .i64 N.tm) (.slice A.t N.t.length A.tc) (.int .i64 N.sm) (.slice A.s N.s.length A.sc) (.slice A.k N.sk.length A.kc) (.int .i64 N.ad) (.int .i64 N.dr))
     have HK := hI (And.intro S9.out.ok (And.intro HKQ.out HVS.out))
     have hgl := S9.out.hg
     clear S9
     go_wp2
     refine bodyPost_ret (qeJ Tryz.results6 _ _ w.heap.size 39 (nA A N) (0, 0) _ rfl HH.out Tryz.underlying39 rfl (by kernel_rfl)) rfl ?_
     exact ⟨A, N, _, _, rfl, HK.out.1, HK.out.2.1, HK.out.2.2, HO.out.base (by omega), HB.out⟩
    )
 ·have k1 : ¬ (0 : Int) < (ks.length : Int) := by omega
  obtain ⟨_, v0, v1, v2, v3, v4, v5, v6, v7, v8, v9, v10, v11, v12, v13⟩ := qcG S4.out.var
  go_wp2_with fail
  have hq1 := S4.out.hg; have hq2 := S4.out.hq
  have CKK := hI (fun w' (hb : Below w4.heap.size w4 w') => key_any (S4.out.later hb).drw)
  have DRR := hI (fun w' (hb : Below w4.heap.size w4 w') w2 hd hg => (S4.out.later hb).draw (w2 := w2) hd hg)
  have qq : ∀ (u : World) (i j : Nat) (v : Value), (u.setCell ⟨w.heap.size, i, none⟩ v).cell? ⟨q, j, none⟩ = u.cell? ⟨q, j, none⟩ := fun u i j v => World.cell?_setCell_other _ _ _ _ (by intro e; injection e; omega)
  go_region_held3 (fun w' => w'.cell? ⟨q, 0, none⟩ = some (.slice A.a N.sl.length A.ac) /\ w'.cell? ⟨q, 1, none⟩ = some (.int .i64 N.fr) /\ w'.cell? ⟨q, 2, none⟩ = some (.slice A.c N.ce.length A.cc) /\ w'.cell? ⟨q, 3, none⟩ = some (.slice A.o N.od.length A.oc) /\ w'.cell? ⟨q, 4, none⟩ = some (.int .i64 N.mv) /\ w'.cell? ⟨q, 5, none⟩ = some (.int .i64 N.wm) /\ w'.cell? ⟨q, 6, none⟩ = some (.slice A.w N.w.length A.wc) /\ w'.cell? ⟨q, 7, none⟩ = some (.int .i64 N.tm) /\ w'.cell? ⟨q, 8, none⟩ = some (.slice A.t N.t.length A.tc) /\ w'.cell? ⟨q, 9, none⟩ = some (.int .i64 N.sm) /\ w'.cell? ⟨q, 10, none⟩ = some (.slice A.s N.s.length A.sc) /\ w'.cell? ⟨q, 11, none⟩ = some (.slice A.k N.sk.length A.kc) /\ w'.cell? ⟨q, 12, none⟩ = some (.int .i64 N.ad) /\ w'.cell? ⟨q, 13, none⟩ = some (.int .i64 N.dr)) (first | simp only [World.cell?_drew, v0, v1, v2, v3, v4, v5, v6, v7, v8, v9, v10, v11, v12, v13, and_self] | simp only [v0, v1, v2, v3, v4, v5, v6, v7, v8, v9, v10, v11, v12, v13, and_self] | simp only [qq, v0, v1, v2, v3, v4, v5, v6, v7, v8, v9, v10, v11, v12, v13, and_self] | simp only [World.cell?_drew, qq, v0, v1, v2, v3, v4, v5, v6, v7, v8, v9, v10, v11, v12, v13, and_self]) ((first | (go_at_call 28; refine (CKK.out _ (show Below w4.heap.size w4 _ by go_grown)).mono ?_; rintro e w7 ⟨z, rfl, hz1, hz2, hD7, hg7⟩; have S7 := hI (DRR.out _ (show Below w4.heap.size w4 _ by go_grown) _ hD7 hg7); have HKQ := hI (show qcX z from ⟨hz1, hz2⟩); have CVV := hI (fun w' (hb : Below w7.heap.size w7 w') => val_any (S7.out.later hb).drw); have DRV := hI (fun w' (hb : Below w7.heap.size w7 w') w2 hd hg => (S7.out.later hb).draw (w2 := w2) hd hg); clear v0 v1 v2 v3 v4 v5 v6 v7 v8 v9 v10 v11 v12 v13; obtain ⟨_, v0, v1, v2, v3, v4, v5, v6, v7, v8, v9, v10, v11, v12, v13⟩ := qcG S7.out.var; clear hD7 hg7) | (go_at_call 27; refine (CVV.out _ (show Below w7.heap.size w7 _ by go_grown)).mono ?_; rintro e w9 ⟨vl, rfl, hvl, hD9, hg9⟩; have S9 := hI (DRV.out _ (show Below w7.heap.size w7 _ by go_grown) _ hD9 hg9); have HVS := hI hvl; clear v0 v1 v2 v3 v4 v5 v6 v7 v8 v9 v10 v11 v12 v13; obtain ⟨_, v0, v1, v2, v3, v4, v5, v6, v7, v8, v9, v10, v11, v12, v13⟩ := qcG S9.out.var; have y0 : w9.cell? ⟨w.heap.size, 0, none⟩ = some (.slice none 0 0) := S9.out.res.cell 0; have y1 : w9.cell? ⟨w.heap.size, 1, none⟩ = some (.int .i64 0) := S9.out.res.cell 1; have y2 : w9.cell? ⟨w.heap.size, 2, none⟩ = some (.slice none 0 0) := S9.out.res.cell 2; have y3 : w9.cell? ⟨w.heap.size, 3, none⟩ = some (.slice none 0 0) := S9.out.res.cell 3; have y4 : w9.cell? ⟨w.heap.size, 4, none⟩ = some (.int .i64 0) := S9.out.res.cell 4; have y5 : w9.cell? ⟨w.heap.size, 5, none⟩ = some (.int .i64 0) := S9.out.res.cell 5; have y6 : w9.cell? ⟨w.heap.size, 6, none⟩ = some (.slice none 0 0) := S9.out.res.cell 6; have y7 : w9.cell? ⟨w.heap.size, 7, none⟩ = some (.int .i64 0) := S9.out.res.cell 7; have y8 : w9.cell? ⟨w.heap.size, 8, none⟩ = some (.slice none 0 0) := S9.out.res.cell 8; have y9 : w9.cell? ⟨w.heap.size, 9, none⟩ = some (.int .i64 0) := S9.out.res.cell 9; have y10 : w9.cell? ⟨w.heap.size, 10, none⟩ = some (.slice none 0 0) := S9.out.res.cell 10; have y11 : w9.cell? ⟨w.heap.size, 11, none⟩ = some (.slice none 0 0) := S9.out.res.cell 11; have y12 : w9.cell? ⟨w.heap.size, 12, none⟩ = some (.int .i64 0) := S9.out.res.cell 12; have y13 : w9.cell? ⟨w.heap.size, 13, none⟩ = some (.int .i64 0) := S9.out.res.cell 13; have yf : ∀ j, w9.frozen? ⟨w.heap.size, j, none⟩ = false := fun j => S9.out.res.froz j; clear hD9 hg9)))
  all_goals
   (
     have HH := hI (Blk.set (Blk.set (Blk.set (Blk.set (Blk.set (Blk.set (Blk.set (Blk.set (Blk.set (Blk.set (Blk.set (Blk.set (Blk.set (Blk.set (S9.out.res) 0 (.slice A.a N.sl.length A.ac)) 1 (.int .i64 N.fr)) 2 (.slice A.c N.ce.length A.cc)) 3 (.slice A.o N.od.length A.oc)) 4 (.int .i64 N.mv)) 5 (.int .i64 N.wm)) 6 (.slice A.w N.w.length A.wc)) 7 (.int .i64 N.tm)) 8 (.slice A.t N.t.length A.tc)) 9 (.int .i64 N.sm)) 10 (.slice A.s N.s.length A.sc)) 11 (.slice A.k N.sk.length A.kc)) 12 (.int .i64 N.ad)) 13 (.int .i64 N.dr))
     have HO := hI (OwnN.put14 (s := w.heap.size) S9.out.own (by have := S9.out.hg; omega) (.slice A.a N.sl.length A.ac) (.int .i64 N.fr) (.slice A.c N.ce.length A.cc) (.slice A.o N.od.length A.oc) (.int .i64 N.mv) (.int .i64 N.wm) (.slice A.w N.w.length A.wc) (.int .i64 N.tm) (.slice A.t N.t.length A.tc) (.int .i64 N.sm) (.slice A.s N.s.length A.sc) (.slice A.k N.sk.length A.kc) (.int .i64 N.ad) (.int .i64 N.dr))
     have HB := hI (qaM (s := w.heap.size) S9.out.bel (Nat.le_refl _) (.slice A.a N.sl.length A.ac) (.int .i64 N.fr) (.slice A.c N.ce.length A.cc) (.slice A.o N.od.length A.oc) (.int .i64 N.mv) (.int .i64 N.wm) (.slice A.w N.w.length A.wc) (.int .i64 N.tm) (.slice A.t N.t.length A.tc) (.int .i64 N.sm) (.slice A.s N.s.length A.sc) (.slice A.k N.sk.length A.kc) (.int .i64 N.ad) (.int .i64 N.dr))
     have HK := hI (And.intro S9.out.ok (And.intro HKQ.out HVS.out))
     have hgl := S9.out.hg
     clear S9
     go_wp2
     refine bodyPost_ret (qeJ Tryz.results6 _ _ w.heap.size 39 (nA A N) (0, 0) _ rfl HH.out Tryz.underlying39 rfl (by kernel_rfl)) rfl ?_
     exact ⟨A, N, _, _, rfl, HK.out.1, HK.out.2.1, HK.out.2.2, HO.out.base (by omega), HB.out⟩
   )
end Go.Proofs.YtigpjmmfelndkaaGreatDoor
