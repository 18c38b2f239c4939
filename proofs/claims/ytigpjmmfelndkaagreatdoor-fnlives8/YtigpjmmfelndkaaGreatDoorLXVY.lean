import Derived.Test.YtigpjmmfelndkaaGreatDoorLXVT
namespace Go.Proofs.YtigpjmmfelndkaaGreatDoor
open Go.RowKit
set_option maxRecDepth 100000
set_option maxHeartbeats 3200000
theorem qhY {l : List Int} (h : ∀ i (h : i < l.length), 0 <= l[i] /\ l[i] <= 15) (key : ByteArray) : ∀ r, 0 <= qeL l key r /\ qeL l key r <= 15
 | 0 => by simp [qeL]
 | r + 1 => by
  have h1 := qhY h key r
  have h2 : 0 <= gK l (atK key r) := by
   unfold gK
   by_cases e : atK key r < l.length
   ·simp [e, (h _ e).1]
   ·simp [e]
  rw [qeL]; omega
theorem qhH (l : List Int) (ad : Int) (key : ByteArray) : 0 <= gueR l ad key /\ gueR l ad key <= 15 := by
 unfold gueR
 split
 ·rename_i h; exact qhY h.2.2.2 key 3
 ·omega
theorem qdG (N : Nr) (k : ByteArray) : 0 <= gueN N k /\ gueN N k <= 16 := by
 have := qhH N.sk N.ad k
 unfold gueN
 split <;> omega
theorem qkX {w : World} {r B : Nat} {A : NA} {N : Nr} (h : VaN w r B A N) (k : ByteArray) (hk : k.size <= 1048576) :
  Calls Tryz.prog 99 #[.pointer (some ⟨r, 0, none⟩), .string k] w fun e w' => e = .returned (.int .i64 (gueN N k)) /\ Below w.heap.size w w' := by
 have CS := hI (fun w' => qjI N.dr k hk w')
 have CC := hI (qnT A.k N.sk A.kc N.ad k w hk h.own.fk.rd)
 unfold skV at CC
 have H := hI h
 clear h
 have HG := hI (show gueN N k = gueR N.sk N.ad k + (if qhD N.dr k = true then 1 else 0) from rfl)
 have hg := qhH N.sk N.ad k
 generalize gueR N.sk N.ad k = g at *
 obtain ⟨hg0, hg1⟩ := hg
 have x11 : w.cell? ⟨r, 11, none⟩ = _ := cRn (H.out.cell 11) rfl
 have x12 : w.cell? ⟨r, 12, none⟩ = _ := cRn (H.out.cell 12) rfl
 go_enter Tryz.func99, Tryz.ntmps99
 go_wp2_with fail
 refine CC.out.mono ?_
 rintro e w1 ⟨rfl, hb1⟩
 have H1 := hI (H.out.later hb1)
 have B1 := hI hb1
 have x13 : w1.cell? ⟨r, 13, none⟩ = _ := cRn (H1.out.cell 13) rfl
 clear hb1 CC x11 x12
 go_wp2_with fail
 refine (CS.out w1).mono ?_
 rintro e w2 ⟨rfl, hb2⟩
 have B2 := tRn B1 hb2
 clear hb2 CS x13
 rcases hq : qhD N.dr k with _ | _
 ·have HE := hI (show gueN N k = g by rw [HG.out, hq]; simp)
  clear hq
  go_wp2
  go_ret
  exact ⟨by rw [HE.out]; rfl, B2.out⟩
 ·have HE := hI (show gueN N k = g + 1 by rw [HG.out, hq, if_pos rfl])
  clear hq
  go_wp2
  go_ret
  exact ⟨by rw [HE.out]; rfl, B2.out⟩
theorem qpH {w : World} {r B : Nat} {A : NA} {N : Nr} (h : VaN w r B A N) (x : ByteArray) (hz : N.tm = 0) :
  Calls Tryz.prog 45 #[.pointer (some ⟨r, 0, none⟩), .string x] w fun e w' => e = .returned (.string (tryN N x).2) /\ ∃ A', VaN w' r B A' (tryN N x).1 /\ w.grownBy w' (some r) := by
 have HT := hI (show tryN N x = (N, x) by unfold tryN; rw [if_pos hz])
 have H := hI h
 have x7 : w.cell? ⟨r, 7, none⟩ = _ := cRn (h.cell 7) rfl
 rw [hz] at x7
 clear h hz
 go_enter Tryz.func45, Tryz.ntmps45
 go_wp2
 go_ret
 exact ⟨by rw [HT.out]; rfl, A, by rw [HT.out]; exact H.out, qbO (Below.refl _ _)⟩
theorem qpG {w : World} {r B : Nat} {A : NA} {N : Nr} (h : VaN w r B A N) (hl : SmN N) (x : ByteArray) (ht : OkQ N.t N.tm) (hx : qcV x) (hxt : ¬ x ∈ N.t) (hr : (N.t.length : Int) < N.tm) :
  Calls Tryz.prog 45 #[.pointer (some ⟨r, 0, none⟩), .string x] w fun e w' => e = .returned (.string (tryN N x).2) /\ ∃ A', VaN w' r B A' (tryN N x).1 /\ w.grownBy w' (some r) := by
 have hz : ¬ N.tm = 0 := by omega
 have HT := hI (show tryN N x = ({ N with t := x :: N.t }, ⟨#[]⟩) by unfold tryN; rw [if_neg hz, if_pos hr])
 have RP := qcC (l := N.t) (m := N.tm) (k := x) ⟨ht, hx, hxt, hz⟩
 rw [List.take_of_length_le (by simp only [List.length_cons]; omega)] at RP
 have HP := hI RP
 have H := hI h
 have s5 := hl.ft
 have x7 : w.cell? ⟨r, 7, none⟩ = _ := cRn (h.cell 7) rfl
 have x8 : w.cell? ⟨r, 8, none⟩ = _ := cRn (h.cell 8) rfl
 have hzz : (N.tm == 0) = false := by simpa using hz
 clear h hz RP ht hx hxt hl
 go_enter Tryz.func45, Tryz.ntmps45
 go_upto_region 4 with fail
 go_quiet (fail)
 have F := hI (below_drewN (Below.refl w.heap.size w) nq)
 generalize w.drewN nq = W at F ⊢
 have V := hI (H.out.later F.out)
 have G := hI (show w.grownBy W (some r) from qbO F.out)
 have hS := hI (H.out.own.below_of (Nat.le_refl _))
 have hW := hI F.out.size
 have y7 : W.cell? ⟨r, 7, none⟩ = _ := cRn (V.out.cell 7) rfl
 have y8 : W.cell? ⟨r, 8, none⟩ = _ := cRn (V.out.cell 8) rfl
 have C := hI (qbZ A.t N.t A.tc N.tm x W s5 V.out.own.rd.ft HP.out)
 clear F x7 x8 hzz
 go_wp2_with fail
 refine C.out.mono ?_
 rintro e w4 ⟨p4, c4, rfl, ho, hb4⟩
 have V4 := hI (V.out.later hb4)
 have G4 := hI (qaK G.out (qbO hb4))
 have u7 : w4.cell? ⟨r, 7, none⟩ = _ := cRn (V4.out.cell 7) rfl
 have u8 : w4.cell? ⟨r, 8, none⟩ = _ := cRn (V4.out.cell 8) rfl
 have uf (j) : w4.frozen? ⟨r, j, none⟩ = false := V4.out.var.froz j
 have VV := hI (V4.out.putT (m := N.tm) ho (V.out.own.below_of (Nat.le_refl _)) V.out.le)
 clear ho hb4 C y7 y8 V V4 hr
 go_wp2
 go_ret
 exact ⟨by rw [HT.out]; rfl, _, by rw [HT.out]; exact VV.out, qbF (qbF G4.out 7 _) 8 _⟩
theorem qbP {k : ByteArray} (h : qcV k) : k.size <= 1048576 := by have := h.2; omega
theorem qpI {w : World} {r B : Nat} {A : NA} {N : Nr} (h : VaN w r B A N) (hl : SmN N) (x : ByteArray) (ht : OkQ N.t N.tm) (hx : qcV x) (hxt : ¬ x ∈ N.t) (hz : ¬ N.tm = 0) (hr : ¬ (N.t.length : Int) < N.tm) :
  Calls Tryz.prog 45 #[.pointer (some ⟨r, 0, none⟩), .string x] w fun e w' => e = .returned (.string (tryN N x).2) /\ ∃ A', VaN w' r B A' (tryN N x).1 /\ w.grownBy w' (some r) := by
 have hne : N.t ≠ [] := fun e => by rw [e] at hr; simp at hr; have := ht.1; omega
 obtain ⟨t0, z, et, ez⟩ := qgI hne
 have hzt : z ∈ N.t := by rw [et]; simp
 have hzq := ht.2.2.2.1 z hzt
 obtain ⟨m, hm⟩ : ∃ m, N.t.length = m + 1 := ⟨t0.length, by rw [et]; simp⟩
 have hzm : ∀ h : m < N.t.length, N.t[m] = z := fun h => by
  have e : m = t0.length := by rw [et] at hm; simp at hm; omega
  subst e
  simp [et]
 have HT := hI (show tryN N x = if gueN N x <= gueN N z then (N, x) else ({ N with t := x :: qaX N.t z }, z) by unfold tryN; rw [if_neg hz, if_neg hr, ez])
 have HD := hI (qiE ht hzt)
 have RP := qcC (l := qaX N.t z) (m := N.tm) (k := x) ⟨ht.drop, hx, fun e => hxt ((qbN _ _ _).1 e).1, hz⟩
 rw [List.take_of_length_le (by have := qiK hzt; have := ht.2.2.1; simp only [List.length_cons]; omega)] at RP
 have hLl : (qaX N.t z).length <= 1048576 := by have := qbT N.t z; have := hl.ft; omega
 have HP := hI RP
 clear RP
 generalize qaX N.t z = L at *
 have H := hI h
 have s5 := hl.ft
 have gx := qdG N x
 have gz := qdG N z
 have CX := hI (fun w' (h' : VaN w' r B A N) => qkX h' x (qbP hx))
 have CZ := hI (fun w' (h' : VaN w' r B A N) => qkX h' z (qbP hzq))
 generalize gueN N x = ga at *
 generalize gueN N z = gb at *
 obtain ⟨b, o, hab, _, hc⟩ := h.own.rd.ft m (by omega)
 rw [hzm] at hc
 have x7 : w.cell? ⟨r, 7, none⟩ = _ := cRn (h.cell 7) rfl
 have x8 : w.cell? ⟨r, 8, none⟩ = some (.slice (some ⟨b, o, none⟩) (m + 1) A.tc) := by rw [<- hm, <- hab]; exact h.cell 8
 have hzz : (N.tm == 0) = false := by simpa using hz
 have hrr : ¬ ((m + 1 : Nat) : Int) < N.tm := by rw [<- hm]; exact hr
 have HM := hI hm
 have HA := hI hab
 have hm1 : m + 1 <= 1048576 := by omega
 have RF := hI h.own.rd.ft
 clear h hz ht hx hxt hl hne et ez hzt hzq hzm hm hab hr t0
 go_enter Tryz.func45, Tryz.ntmps45
 go_upto_region 3 with fail
 go_quiet (fail)
 have F := hI (below_drewN (Below.refl w.heap.size w) nq)
 have F7 : Hid ((w.drewN nq).cell? ⟨b, o + m, none⟩ = some (.string z)) := hI hc
 generalize w.drewN nq = W at F F7 ⊢
 have V := hI (H.out.later F.out)
 have G := hI (show w.grownBy W (some r) from qbO F.out)
 have y7 : W.cell? ⟨r, 7, none⟩ = _ := cRn (V.out.cell 7) rfl
 have y8 : W.cell? ⟨r, 8, none⟩ = some (.slice (some ⟨b, o, none⟩) (m + 1) A.tc) := by rw [<- HM.out, <- HA.out]; exact V.out.cell 8
 have yz := F7.out
 clear F F7 x7 x8 hzz hc RF H
 go_upto_region 6 with fail
 clear hrr
 go_quiet (fail)
 have F := hI (below_drewN (Below.refl W.heap.size W) nq)
 generalize W.drewN nq = W2 at F ⊢
 have V2 := hI (V.out.later F.out)
 have G2 := hI (qaK G.out (qbO F.out))
 clear F V G y7 y8 yz
 go_wp2_with fail
 refine (CX.out _ V2.out).mono ?_
 rintro e w3 ⟨rfl, hb3⟩
 have V3 := hI (V2.out.later hb3)
 have G3 := hI (qaK G2.out (qbO hb3))
 clear hb3 V2 G2 CX
 go_wp2_with fail
 refine (CZ.out _ V3.out).mono ?_
 rintro e w4 ⟨rfl, hb4⟩
 have V4 := hI (V3.out.later hb4)
 have G4 := hI (qaK G3.out (qbO hb4))
 clear hb4 V3 G3 CZ
 by_cases hle : ga <= gb
 ·have HT2 := hI (HT.out.trans (if_pos hle))
  clear HT
  go_wp2
  go_ret
  exact ⟨by rw [HT2.out]; rfl, _, by rw [HT2.out]; exact V4.out, G4.out⟩
 ·have HT2 := hI (HT.out.trans (if_neg hle))
  clear HT
  have C5 := hI (qjM A.t N.t A.tc N.tm z w4 s5 V4.out.own.rd.ft HD.out)
  have y7 : w4.cell? ⟨r, 7, none⟩ = _ := cRn (V4.out.cell 7) rfl
  have y8 : w4.cell? ⟨r, 8, none⟩ = _ := cRn (V4.out.cell 8) rfl
  go_upto_region 9 with fail
  clear hle gx gz
  go_wp2_with fail
  refine C5.out.mono ?_
  rintro e w5 ⟨p5, c5, rfl, ho, hb5⟩
  have V5 := hI (V4.out.later hb5)
  have G5 := hI (qaK G4.out (qbO hb5))
  have u7 : w5.cell? ⟨r, 7, none⟩ = _ := cRn (V5.out.cell 7) rfl
  have u8 : w5.cell? ⟨r, 8, none⟩ = _ := cRn (V5.out.cell 8) rfl
  have uf (j) : w5.frozen? ⟨r, j, none⟩ = false := V5.out.var.froz j
  have V6 := hI (V5.out.putT (m := N.tm) ho (V4.out.own.below_of (Nat.le_refl _)) V4.out.le)
  have G6 := hI (qbF (qbF G5.out 7 (.int .i64 N.tm)) 8 (.slice p5 L.length c5))
  clear ho hb5 C5 y7 y8 V4 G4 V5 G5
  go_upto_region 10 with fail
  generalize ((w5.setCell ⟨r, 7, none⟩ (.int .i64 N.tm)).setCell ⟨r, 8, none⟩ (.slice p5 L.length c5)) = W6 at V6 G6 ⊢
  clear u7 u8 uf
  have C6 := hI (qbZ p5 L c5 N.tm x W6 hLl V6.out.own.rd.ft HP.out)
  have y7 : W6.cell? ⟨r, 7, none⟩ = _ := cRn (V6.out.cell 7) rfl
  have y8 : W6.cell? ⟨r, 8, none⟩ = _ := cRn (V6.out.cell 8) rfl
  go_wp2_with fail
  refine C6.out.mono ?_
  rintro e w7 ⟨p7, c7, rfl, ho, hb7⟩
  have V7 := hI (V6.out.later hb7)
  have G7 := hI (qaK G6.out (qbO hb7))
  have u7 : w7.cell? ⟨r, 7, none⟩ = _ := cRn (V7.out.cell 7) rfl
  have u8 : w7.cell? ⟨r, 8, none⟩ = _ := cRn (V7.out.cell 8) rfl
  have uf (j) : w7.frozen? ⟨r, j, none⟩ = false := V7.out.var.froz j
  have VV := hI (V7.out.putT (m := N.tm) ho (V6.out.own.below_of (Nat.le_refl _)) V6.out.le)
  clear ho hb7 C6 y7 y8 V6 G6 V7
  go_wp2
  go_ret
  exact ⟨by rw [HT2.out]; rfl, _, by rw [HT2.out]; exact VV.out, qbF (qbF G7.out 7 _) 8 _⟩
theorem qkV {w : World} {r B : Nat} {A : NA} {N : Nr} (h : VaN w r B A N) (hl : SmN N) (x : ByteArray) (ht : OkQ N.t N.tm) (hx : qcV x) (hxt : ¬ x ∈ N.t) :
  Calls Tryz.prog 45 #[.pointer (some ⟨r, 0, none⟩), .string x] w fun e w' => e = .returned (.string (tryN N x).2) /\ ∃ A', VaN w' r B A' (tryN N x).1 /\ w.grownBy w' (some r) := by
 by_cases hz : N.tm = 0
 ·exact qpH h x hz
 by_cases hr : (N.t.length : Int) < N.tm
 ·exact qpG h hl x ht hx hxt hr
 ·exact qpI h hl x ht hx hxt hz hr
theorem VaN.putA {w : World} {r B S c : Nat} {A : NA} {N : Nr} {b : Option Addr} {l : List Sl} {f : Int} (h : VaN w r B A N) (ho : w.ownsRow S 99 5 (.slice b l.length c) l.length (sls l)) (hS : ∀ v ∈ vlN A N, ∀ g, v.ownBlock = some g -> g < S) (hB : B <= S /\ r < S) : VaN ((w.setCell ⟨r, 0, none⟩ (.slice b l.length c)).setCell ⟨r, 1, none⟩ (.int .i64 f)) r B { A with a := b, ac := c } { N with sl := l, fr := f } :=
 have hne : ∀ g, (Value.slice b l.length c).ownBlock = some g -> g ≠ r := fun g hg => by have := (ho.lt g hg).1; have := hB.2; omega
 ⟨Blk.set (Blk.set h.var 0 _) 1 _, ((h.own.off _ _ h.ne).off _ _ h.ne).setA (qaA (qaA ho _ _ hne) _ _ hne) hS hB.1 f, qcE (i := 0) h.ne hne, by simpa using h.le⟩
theorem VaN.putC {w : World} {r B S c c' : Nat} {A : NA} {N : Nr} {b b' : Option Addr} {l l' : List Ce} {m : Int} (h : VaN w r B A N) (ho : Own2 w S b c l b' c' l') (hS : ∀ v ∈ vlN A N, ∀ g, v.ownBlock = some g -> g < S) (hB : B <= S /\ r < S) : VaN (((w.setCell ⟨r, 2, none⟩ (.slice b l.length c)).setCell ⟨r, 3, none⟩ (.slice b' l'.length c')).setCell ⟨r, 4, none⟩ (.int .i64 m)) r B { A with c := b, cc := c, o := b', oc := c' } { N with ce := l, od := l', mv := m } :=
 have hn1 : ∀ g, (Value.slice b l.length c).ownBlock = some g -> g ≠ r := fun g hg => by have := (ho.1.lt g hg).1; have := hB.2; omega
 have hn2 : ∀ g, (Value.slice b' l'.length c').ownBlock = some g -> g ≠ r := fun g hg => by have := (ho.2.1.lt g hg).1; have := hB.2; omega
 ⟨Blk.set (Blk.set (Blk.set h.var 2 _) 3 _) 4 _, (((h.own.off _ _ h.ne).off _ _ h.ne).off _ _ h.ne).setC ⟨qaA (qaA (qaA ho.1 _ _ hn1) _ _ hn1) _ _ hn1, qaA (qaA (qaA ho.2.1 _ _ hn2) _ _ hn2) _ _ hn2, ho.2.2⟩ hS hB.1 m, qcE (i := 2) (qcE (i := 1) h.ne hn1) hn2, by simpa using h.le⟩
theorem qpN (ao a' : Option Addr) (l o : List Ce) (ca ca' : Nat) (mv : Int) (key : ByteArray) (w : World) (hl : l.length <= 1048576) (hl' : o.length <= 1048576) (hk : key.size <= 1048576) (hA : RdC w ao l) (hA' : RdC w a' o) (hok : OkT l o mv) (hk0 : key.toList ≠ []) {L O : List Ce} {M : Int} (hR : qbY l o mv key = some (L, O, M)) :
  Calls Tryz.prog 100 #[tbV ao l.length ca a' o.length ca' mv, .string key] w fun e w' => ∃ b c b' c', e = .returned (.tuple #[tbV b L.length c b' O.length c' M, .bool true]) /\ Own2 w' w.heap.size b c L b' c' O /\ Below w.heap.size w w' := by
 refine (qpO ao a' l o ca ca' mv key w hl hl' hk hA hA').mono ?_
 rintro e w' ⟨b, L', c, b', O', c', M', t, rfl, ha, h1, h2, h3, hb⟩
 obtain ⟨rfl, rfl, rfl, rfl⟩ := Ans.det ha (.inl ⟨⟨hok, hk0⟩, hR, rfl⟩)
 exact ⟨b, c, b', c', rfl, ⟨h1, h2, h3⟩, hb⟩
theorem qeI (ao a' : Option Addr) (l o : List Ce) (ca ca' : Nat) (mv : Int) (key : ByteArray) (w : World) (hl : l.length <= 1048576) (hl' : o.length <= 1048576) (hk : key.size <= 1048576) (hA : RdC w ao l) (hA' : RdC w a' o) (hok : OkT l o mv) (hk0 : key.toList ≠ []) {h : Int} (hR : qcP l o key = some h) :
  Calls Tryz.prog 39 #[tbV ao l.length ca a' o.length ca' mv, .string key] w fun e w' => e = .returned (.tuple #[.int .i64 h, .bool true]) /\ Below w.heap.size w w' := by
 refine (qdZ ao a' l o ca ca' mv key w hl hl' hk hA hA').mono ?_
 rintro e w' ⟨h', t, rfl, ha, hb⟩
 obtain ⟨rfl, rfl⟩ := SeekA.det ha (.inl ⟨rfl, hok, hk0, hR⟩)
 exact ⟨rfl, hb⟩
theorem qjK (ao : Option Addr) (l : List Sl) (ca : Nat) (f h : Int) (w : World) (hl : l.length <= 1048576) (h1 : -9223372036854775808 <= h) (h2 : h <= 9223372036854775807) (hA : RdA w ao l) {j : Nat} (hj : j < l.length) (hat : AtA l f h j) :
  Calls Tryz.prog 40 #[arV ao l.length ca f, .int .i64 h] w fun e w' => ∃ b c, e = .returned (.tuple #[arV (some ⟨b, 0, none⟩) (l.set j (qaS l[j] f)).length c (j : Int), .bool true]) /\ w'.ownsRow w.heap.size 99 5 (.slice (some ⟨b, 0, none⟩) (l.set j (qaS l[j] f)).length c) (l.set j (qaS l[j] f)).length (sls (l.set j (qaS l[j] f))) /\ Below w.heap.size w w' := by
 refine (qpZ ao l ca f h w hl h1 h2 hA).mono ?_
 rintro e w' ⟨⟨k, b, c, hk, rfl, ha, ho⟩ | ⟨_, hn⟩, hb⟩
 ·obtain rfl : k = j := by have a := ha.place; have b := hat.place; omega
  rw [List.length_set]
  exact ⟨b, c, rfl, ho, hb⟩
 ·exact absurd hat (hn j)
theorem Blk.far2 {w : World} {q r i j : Nat} {t : TypeId} {xs : List Value} (h : Blk w q t xs) (hne : q ≠ r) (u v : Value) : Blk ((w.setCell ⟨r, i, none⟩ u).setCell ⟨r, j, none⟩ v) q t xs := (h.far _ _ hne).far _ _ hne
theorem qsR {w : World} {r B : Nat} {A : NA} {N : Nr} {K : List ByteArray} (h : VaN w r B A N) (hl : SmN N) (hT : InT N.sl N.fr N.ce K) (hod : N.od = []) (hmv : N.mv = 0) (k : ByteArray) (hk : k ∈ K) :
  Calls Tryz.prog 46 #[.pointer (some ⟨r, 0, none⟩), .string k] w fun e w' => e = .returned (.tuple #[]) /\ ∃ A', VaN w' r B A' (qdE N k) /\ w.grownBy w' (some r) := by
 obtain ⟨j, hj, hu, hkj⟩ := hT.ent k hk
 obtain ⟨hkq, hk0⟩ := hT.key hk
 have hks := qbP hkq
 obtain ⟨L, hL, hLc⟩ := hT.take hj hu
 have hS := hT.handle hj hu
 have hAt := hT.at hj hu
 have hOk : OkT N.ce N.od N.mv := by rw [hod, hmv]; exact qcG.2 hT.tb
 have hsl := hT.ar.slots j hj
 have hsm := hT.ar.most
 have HT := hI (show qdE N k = { N with sl := N.sl.set j (qaS N.sl[j] N.fr), fr := (j : Int), ce := L, od := [], mv := 0 } by
  unfold qdE
  rw [<- hkj, qoN hT hj hu, List.getElem?_eq_getElem hj, hL, <- hod, <- hmv])
 rw [hkj] at hL hS
 obtain ⟨hd, hhd⟩ : ∃ hd, 24 * N.sl[j].gen + (j : Int) = hd := ⟨_, rfl⟩
 rw [hhd] at hS hAt
 have hd1 : -9223372036854775808 <= hd /\ hd <= 9223372036854775807 := by have h1 := hsl.1; have h2 := hsl.2.1; omega
 have C1 := hI (qeI A.c A.o N.ce N.od A.cc A.oc N.mv k w hl.fc hl.fo hks h.own.rd.fc h.own.rd.fo hOk hk0 (by rw [hod]; exact hS))
 have C2 := hI (fun w' (h' : VaN w' r B A N) => qjK A.a N.sl A.ac N.fr hd w' hl.fa hd1.1 hd1.2 h'.own.rd.fa hj hAt)
 have C3 := hI (fun w' (h' : VaN w' r B A N) => qpN A.c A.o N.ce N.od A.cc A.oc N.mv k w' hl.fc hl.fo hks h'.own.rd.fc h'.own.rd.fo hOk hk0 (L := L) (O := []) (M := 0) (by rw [hod, hmv]; exact hL))
 generalize N.sl.set j (qaS N.sl[j] N.fr) = X at *
 unfold tbV at C1 C3
 unfold arV at C2
 have H := hI h
 have x0 : w.cell? ⟨r, 2, none⟩ = _ := cRn (h.cell 2) rfl
 have x1 : w.cell? ⟨r, 3, none⟩ = _ := cRn (h.cell 3) rfl
 have x2 : w.cell? ⟨r, 4, none⟩ = _ := cRn (h.cell 4) rfl
 clear hLc h hl hT hod hmv hk hu hkj hkq hk0 hL hS hAt hOk hsl hsm hhd hd1 hks
 go_enter Tryz.func46, Tryz.ntmps46
 go_wp2_with fail
 refine C1.out.mono ?_
 rintro e w1 ⟨rfl, hb1⟩
 have V1 := hI (H.out.later hb1)
 have G1 := hI (show w.grownBy w1 (some r) from qbO hb1)
 clear C1 hb1 x0 x1 x2 H
 have x0 : w1.cell? ⟨r, 0, none⟩ = _ := cRn (V1.out.cell 0) rfl
 have x1 : w1.cell? ⟨r, 1, none⟩ = _ := cRn (V1.out.cell 1) rfl
 go_wp2_with fail
 refine (C2.out _ V1.out).mono ?_
 rintro e w2 ⟨b2, c2, rfl, ho, hb2⟩
 have hS1 := hI (V1.out.own.below_of (Nat.le_refl _))
 have F : Hid (VaN (w2.alloc (.cells #[.slice (some ⟨b2, 0, none⟩) X.length c2, .int .i64 (j : Int)] 26)) r B A N /\ Blk (w2.alloc (.cells #[.slice (some ⟨b2, 0, none⟩) X.length c2, .int .i64 (j : Int)] 26)) w2.heap.size 26 [.slice (some ⟨b2, 0, none⟩) X.length c2, .int .i64 (j : Int)] /\ (w2.alloc (.cells #[.slice (some ⟨b2, 0, none⟩) X.length c2, .int .i64 (j : Int)] 26)).ownsRow w1.heap.size 99 5 (.slice (some ⟨b2, 0, none⟩) X.length c2) X.length (sls X) /\ w.grownBy (w2.alloc (.cells #[.slice (some ⟨b2, 0, none⟩) X.length c2, .int .i64 (j : Int)] 26)) (some r) /\ w1.heap.size <= w2.heap.size) :=
  ⟨(V1.out.later hb2).later (bAl _ _), Blk.new w2 _ _, qaE ho (bAl _ _), qaK G1.out (qbO (hb2.alloc hb2.size _)), hb2.size⟩
 have hB1 := hI V1.out.le
 have hr1 := V1.out.var.lt
 clear ho hb2 C2 x0 x1 V1 G1
 go_upto_region 2 with fail
 generalize (w2.alloc (.cells #[.slice (some ⟨b2, 0, none⟩) X.length c2, .int .i64 (j : Int)] 26)) = W3 at F ⊢
 generalize w2.heap.size = Q1 at F ⊢
 have V3 := hI F.out.1
 have K3 := hI F.out.2.1
 have O3 := hI F.out.2.2.1
 have G3 := hI F.out.2.2.2.1
 have hQ1 := F.out.2.2.2.2
 clear F
 have hS3 := hI ((V3.out.own.setA O3.out hS1.out hB1.out.1 (j : Int)).below_of (Nat.le_refl _))
 have hB3 := hI V3.out.le
 have x0 : W3.cell? ⟨r, 2, none⟩ = _ := cRn (V3.out.cell 2) rfl
 have x1 : W3.cell? ⟨r, 3, none⟩ = _ := cRn (V3.out.cell 3) rfl
 have x2 : W3.cell? ⟨r, 4, none⟩ = _ := cRn (V3.out.cell 4) rfl
 go_wp2_with fail
 refine (C3.out _ V3.out).mono ?_
 rintro e w4 ⟨b4, c4, b5, c5, rfl, ho, hb4⟩
 rw [List.length_nil]
 have hlt3 : Q1 < W3.heap.size := K3.out.lt
 have F : Hid (VaN (w4.alloc (.cells #[.slice b4 L.length c4, .slice b5 0 c5, .int .i64 0] 29)) r B A N /\ Blk (w4.alloc (.cells #[.slice b4 L.length c4, .slice b5 0 c5, .int .i64 0] 29)) Q1 26 [.slice (some ⟨b2, 0, none⟩) X.length c2, .int .i64 (j : Int)] /\ Blk (w4.alloc (.cells #[.slice b4 L.length c4, .slice b5 0 c5, .int .i64 0] 29)) w4.heap.size 29 [.slice b4 L.length c4, .slice b5 0 c5, .int .i64 0] /\ (w4.alloc (.cells #[.slice b4 L.length c4, .slice b5 0 c5, .int .i64 0] 29)).ownsRow w1.heap.size 99 5 (.slice (some ⟨b2, 0, none⟩) X.length c2) X.length (sls X) /\ Own2 (w4.alloc (.cells #[.slice b4 L.length c4, .slice b5 0 c5, .int .i64 0] 29)) W3.heap.size b4 c4 L b5 c5 [] /\ w.grownBy (w4.alloc (.cells #[.slice b4 L.length c4, .slice b5 0 c5, .int .i64 0] 29)) (some r) /\ W3.heap.size <= w4.heap.size) :=
  ⟨(V3.out.later hb4).later (bAl _ _), (K3.out.below hb4 hlt3).below (bAl w4 _) (Nat.lt_of_lt_of_le hlt3 hb4.size), Blk.new w4 _ _, qaE (qaE O3.out hb4) (bAl _ _), ho.later (bAl _ _), qaK G3.out (qbO (hb4.alloc hb4.size _)), hb4.size⟩
 clear ho hb4 C3 x0 x1 x2 V3 K3 O3 G3
 go_upto_region 3 with fail
 generalize (w4.alloc (.cells #[.slice b4 L.length c4, .slice b5 0 c5, .int .i64 0] 29)) = W5 at F ⊢
 generalize w4.heap.size = Q2 at F ⊢
 have V5 := hI F.out.1
 have K5 := hI F.out.2.1
 have K6 := hI F.out.2.2.1
 have O5 := hI F.out.2.2.2.1
 have O6 := hI F.out.2.2.2.2.1
 have G5 := hI F.out.2.2.2.2.2.1
 have hQ2 := F.out.2.2.2.2.2.2
 clear F
 have x0 : W5.cell? ⟨r, 0, none⟩ = _ := cRn (V5.out.cell 0) rfl
 have x1 : W5.cell? ⟨r, 1, none⟩ = _ := cRn (V5.out.cell 1) rfl
 have z0 : W5.cell? ⟨Q1, 0, none⟩ = some (.slice (some ⟨b2, 0, none⟩) X.length c2) := K5.out.cell 0
 have z1 : W5.cell? ⟨Q1, 1, none⟩ = _ := cRn (K5.out.cell 1) rfl
 have xf : ∀ i, W5.frozen? ⟨r, i, none⟩ = false := fun i => V5.out.var.froz i
 have V7 := hI (V5.out.putA (f := (j : Int)) O5.out hS1.out hB1.out)
 have K7 := hI (Blk.far2 (i := 0) (j := 1) K6.out (show Q2 ≠ r by omega) (.slice (some ⟨b2, 0, none⟩) X.length c2) (.int .i64 (j : Int)))
 have G7 := hI (qbF (qbF G5.out 0 (.slice (some ⟨b2, 0, none⟩) X.length c2)) 1 (.int .i64 (j : Int)))
 have O7 : Hid (Own2 ((W5.setCell ⟨r, 0, none⟩ (.slice (some ⟨b2, 0, none⟩) X.length c2)).setCell ⟨r, 1, none⟩ (.int .i64 (j : Int))) W3.heap.size b4 c4 L b5 c5 []) :=
  ⟨qaA (qaA O6.out.1 _ _ (fun g hg => by have := (O6.out.1.lt g hg).1; dsimp only; omega)) _ _ (fun g hg => by have := (O6.out.1.lt g hg).1; dsimp only; omega), qaA (qaA O6.out.2.1 _ _ (fun g hg => by have := (O6.out.2.1.lt g hg).1; dsimp only; omega)) _ _ (fun g hg => by have := (O6.out.2.1.lt g hg).1; dsimp only; omega), O6.out.2.2⟩
 clear V5 K5 K6 O5 O6 G5
 go_upto_region 4 with fail
 generalize ((W5.setCell ⟨r, 0, none⟩ (.slice (some ⟨b2, 0, none⟩) X.length c2)).setCell ⟨r, 1, none⟩ (.int .i64 (j : Int))) = W7 at V7 K7 G7 O7 ⊢
 clear x0 x1 z0 z1 xf
 have x0 : W7.cell? ⟨r, 2, none⟩ = _ := cRn (V7.out.cell 2) rfl
 have x1 : W7.cell? ⟨r, 3, none⟩ = _ := cRn (V7.out.cell 3) rfl
 have x2 : W7.cell? ⟨r, 4, none⟩ = _ := cRn (V7.out.cell 4) rfl
 have z0 : W7.cell? ⟨Q2, 0, none⟩ = _ := cRn (K7.out.cell 0) rfl
 have z1 : W7.cell? ⟨Q2, 1, none⟩ = _ := cRn (K7.out.cell 1) rfl
 have z2 : W7.cell? ⟨Q2, 2, none⟩ = _ := cRn (K7.out.cell 2) rfl
 have xf : ∀ i, W7.frozen? ⟨r, i, none⟩ = false := fun i => V7.out.var.froz i
 have VV := hI (V7.out.putC (m := 0) O7.out hS3.out hB3.out)
 clear V7 K7 O7
 go_wp2
 refine bodyPost_end (results_none Tryz.results46 _ _ _) rfl ?_
 exact ⟨rfl, ⟨_, by rw [HT.out]; exact VV.out⟩, qbF (qbF (qbF G7.out 2 _) 3 _) 4 _⟩
theorem qgX (ao a' : Option Addr) (l o : List Ce) (ca ca' : Nat) (mv : Int) (key : ByteArray) (h : Int) (w : World) (hl : l.length <= 1048576) (hl' : o.length <= 1048576) (hk : qcV key) (hA : RdC w ao l) (hA' : RdC w a' o) (hok : OkT l o mv) (hh : 0 <= h) {L O : List Ce} {M : Int} (hR : qcJ l o mv key h = some (L, O, M)) :
  Calls Tryz.prog 42 #[tbV ao l.length ca a' o.length ca' mv, .string key, .int .i64 h] w fun e w' => ∃ b c b' c', e = .returned (.tuple #[tbV b L.length c b' O.length c' M, .bool true]) /\ Own2 w' w.heap.size b c L b' c' O /\ Below w.heap.size w w' := by
 refine (qgR ao a' l o ca ca' mv key h w hl hl' (qbP hk) hA hA').mono ?_
 rintro e w' ⟨b, L', c, b', O', c', M', t, rfl, ha, h1, h2, h3, hb⟩
 obtain ⟨rfl, rfl, rfl, rfl⟩ := Ans.det ha (.inl ⟨⟨hok, hk.1, hk.2, hh⟩, hR, rfl⟩)
 exact ⟨b, c, b', c', rfl, ⟨h1, h2, h3⟩, hb⟩
theorem qvL (ao a' : Option Addr) (l o : List Ce) (ca ca' : Nat) (mv : Int) (key : ByteArray) (h : Int) (w : World) (hl : l.length <= 1048576) (hl' : o.length <= 1048576) (hk : qcV key) (hA : RdC w ao l) (hA' : RdC w a' o) (hR : qcJ l o mv key h = none) :
  Calls Tryz.prog 42 #[tbV ao l.length ca a' o.length ca' mv, .string key, .int .i64 h] w fun e w' => ∃ b c b' c', e = .returned (.tuple #[tbV b 0 c b' 0 c' 0, .bool false]) /\ Below w.heap.size w w' := by
 refine (qgR ao a' l o ca ca' mv key h w hl hl' (qbP hk) hA hA').mono ?_
 rintro e w' ⟨b, L', c, b', O', c', M', t, rfl, ha, h1, h2, h3, hb⟩
 obtain ⟨rfl, rfl, rfl, rfl⟩ := Ans.det ha (.inr ⟨(fun hh => by obtain ⟨_, x, hx⟩ := hh; rw [hR] at hx; cases hx), rfl, rfl, rfl, rfl⟩)
 exact ⟨b, c, b', c', rfl, hb⟩
theorem qnV (ao a' : Option Addr) (l o : List Ce) (ca ca' : Nat) (mv : Int) (w : World) (hl : l.length <= 1048576) (hl' : o.length <= 1048576) (hA : RdC w ao l) (hA' : RdC w a' o) (hok : OkT l o mv) {L O : List Ce} {M : Int} (hR : qbQ l o = some (L, O, M)) :
  Calls Tryz.prog 101 #[tbV ao l.length ca a' o.length ca' mv] w fun e w' => ∃ b c b' c', e = .returned (.tuple #[tbV b L.length c b' O.length c' M, .bool true]) /\ Own2 w' w.heap.size b c L b' c' O /\ Below w.heap.size w w' := by
 refine (qnW ao a' l o ca ca' mv w hl hl' hA hA').mono ?_
 rintro e w' ⟨b, L', c, b', O', c', M', t, rfl, ha, h1, h2, h3, hb⟩
 obtain ⟨rfl, rfl, rfl, rfl⟩ := Ans.det ha (.inl ⟨hok, hR, rfl⟩)
 exact ⟨b, c, b', c', rfl, ⟨h1, h2, h3⟩, hb⟩
theorem qhA (ao : Option Addr) (l : List Sl) (ca : Nat) (f : Nat) (ky vl : ByteArray) (w : World) (hl : l.length <= 1048576) (hA : RdA w ao l) (hf : f < l.length) (hok : OkA l (f : Int)) (hk : qcV ky) (hv : vl.size <= 20) :
  Calls Tryz.prog 41 #[arV ao l.length ca (f : Int), .string ky, .string vl] w fun e w' => ∃ b c, e = .returned (.tuple #[arV (some ⟨b, 0, none⟩) (l.set f ⟨l[f].gen, true, ky, vl, 0⟩).length c l[f].next, .int .i64 (24 * l[f].gen + (f : Int)), .bool true]) /\ w'.ownsRow w.heap.size 99 5 (.slice (some ⟨b, 0, none⟩) (l.set f ⟨l[f].gen, true, ky, vl, 0⟩).length c) (l.set f ⟨l[f].gen, true, ky, vl, 0⟩).length (sls (l.set f ⟨l[f].gen, true, ky, vl, 0⟩)) /\ Below w.heap.size w w' := by
 refine (qsS ao l ca (f : Int) ky vl w hl hA).mono ?_
 rintro e w' ⟨⟨k, b, c, hk', rfl, hfk, _, _, _, _, ho⟩ | ⟨_, hn⟩, hb⟩
 ·obtain rfl : k = f := by omega
  rw [List.length_set]
  exact ⟨b, c, rfl, ho, hb⟩
 ·exact absurd ⟨hok, by omega, hk.1, hk.2, hv⟩ hn
end Go.Proofs.YtigpjmmfelndkaaGreatDoor
