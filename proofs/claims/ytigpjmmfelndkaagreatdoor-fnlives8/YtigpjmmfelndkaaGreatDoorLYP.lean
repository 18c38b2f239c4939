import Derived.Test.YtigpjmmfelndkaaGreatDoorLYM
import Derived.Test.YtigpjmmfelndkaaGreatDoorLYI
namespace Go.Proofs.YtigpjmmfelndkaaGreatDoor
open Go.RowKit
set_option linter.unusedVariables false
set_option maxRecDepth 100000
set_option maxHeartbeats 8000000
theorem zcZ {w : World} {r B : Nat} {A : NA} {N : Nr} (h : VaH w r B A N) (hl : SmN N) (hD : TabD w) (x : ByteArray) (ht : OkQ N.t N.tm) (hx : qcV x) (hxt : ¬ x ∈ N.t) (hr : (N.t.length : Int) < N.tm) :
  Calls Tryz.prog 75 #[.pointer (some ⟨r, 0, none⟩), .string x] w fun e w' => e = .returned (.string (tryN N x).2) /\ ∃ A', VaH w' r B A' (tryN N x).1 /\ w.grownBy w' (some r) := by
 have hz : ¬ N.tm = 0 := by omega
 have e : tryN N x = ({ N with t := x :: N.t }, ⟨#[]⟩) := by unfold tryN; rw [if_neg hz, if_pos hr]
 rw [e]
 have RP := qcC (l := N.t) (m := N.tm) (k := x) ⟨ht, hx, hxt, hz⟩
 rw [List.take_of_length_le (by simp only [List.length_cons]; omega)] at RP
 have eg : (x :: N.t).getD N.tm.toNat ⟨#[]⟩ = ⟨#[]⟩ := by
  rw [List.getD_eq_getElem?_getD, List.getElem?_eq_none (by simp only [List.length_cons]; omega)]
  rfl
 rw [eg] at RP
 have CP := hI (fun w' (hA : RdQ w' A.t N.t) => qcA A.t N.t A.tc N.tm x w' hl.ft h.own.ft.cap.1 h.own.ft.cap.2 hA RP)
 generalize x :: N.t = M at *
 have H := hI h
 have x7 : w.cell? ⟨r, 7, none⟩ = _ := cRn (h.cell 7) rfl
 have x8 : w.cell? ⟨r, 8, none⟩ = _ := cRn (h.cell 8) rfl
 have hzz : (N.tm == 0) = false := by simpa using hz
 have hrr : ((N.t.length : Int) == N.tm) = false := by rw [beq_eq_false_iff_ne]; omega
 clear h hz RP ht hx hxt hl e eg hr hD
 go_enter Tryz.func75, Tryz.ntmps75
 go_upto_region 3 with fail
 go_quiet (fail)
 have FW := hI (below_drewN (Below.refl w.heap.size w) nq)
 generalize w.drewN nq = W at FW ⊢
 have V := hI (H.out.later FW.out)
 have G := hI (show w.grownBy W (some r) from qbO FW.out)
 clear x7 x8 hzz hrr H FW
 have y7 : W.cell? ⟨r, 7, none⟩ = _ := cRn (V.out.cell 7) rfl
 have y8 : W.cell? ⟨r, 8, none⟩ = _ := cRn (V.out.cell 8) rfl
 go_wp2_with fail
 refine (CP.out W V.out.own.rd.ft).mono ?_
 rintro e w6 ⟨p6, c6, rfl, ho, hb6⟩
 have F := hI (show VaH (w6.alloc (.cells #[.int .i64 N.tm, .slice p6 M.length c6] 32)) r B A N /\ Blk (w6.alloc (.cells #[.int .i64 N.tm, .slice p6 M.length c6] 32)) w6.heap.size 32 [.int .i64 N.tm, .slice p6 M.length c6] /\ OwnQ (w6.alloc (.cells #[.int .i64 N.tm, .slice p6 M.length c6] 32)) W.heap.size p6 c6 M /\ w.grownBy (w6.alloc (.cells #[.int .i64 N.tm, .slice p6 M.length c6] 32)) (some r) from
  ⟨(V.out.later hb6).later (bAl _ _), Blk.new w6 _ _, ho.later (bAl _ _), qaK G.out (qbO (hb6.alloc hb6.size _))⟩)
 have hv5 := hI (V.out.own.below_of (Nat.le_refl _))
 have hB5 := hI V.out.le
 clear ho hb6 CP y7 y8 V G
 go_upto_region 6 with fail
 generalize (w6.alloc (.cells #[.int .i64 N.tm, .slice p6 M.length c6] 32)) = W7 at F ⊢
 generalize w6.heap.size = Q7 at F ⊢
 have V7 := hI F.out.1
 have K7 := hI F.out.2.1
 have O7 := hI F.out.2.2.1
 have G7 := hI F.out.2.2.2
 clear F
 have z0 : W7.cell? ⟨Q7, 0, none⟩ = _ := cRn (K7.out.cell 0) rfl
 have z1 : W7.cell? ⟨Q7, 1, none⟩ = _ := cRn (K7.out.cell 1) rfl
 have z7 : W7.cell? ⟨r, 7, none⟩ = _ := cRn (V7.out.cell 7) rfl
 have z8 : W7.cell? ⟨r, 8, none⟩ = _ := cRn (V7.out.cell 8) rfl
 have zf (j) : W7.frozen? ⟨r, j, none⟩ = false := V7.out.var.froz j
 have V8 := hI (V7.out.putT (m := N.tm) O7.out hv5.out hB5.out)
 have G8 := hI (qbF (qbF G7.out 7 (.int .i64 N.tm)) 8 (.slice p6 M.length c6))
 clear V7 K7 O7 G7 hv5 hB5
 go_wp2
 go_ret
 exact ⟨rfl, _, V8.out, G8.out⟩
theorem zdB {w : World} {r B : Nat} {A : NA} {N : Nr} (h : VaH w r B A N) (hl : SmN N) (hD : TabD w) (x : ByteArray) (ht : OkQ N.t N.tm) (hx : qcV x) (hxt : ¬ x ∈ N.t) (hz : ¬ N.tm = 0) (hr : ¬ (N.t.length : Int) < N.tm) (hg : gueN N x <= gueN N (N.t.getLastD ⟨#[]⟩)) :
  Calls Tryz.prog 75 #[.pointer (some ⟨r, 0, none⟩), .string x] w fun e w' => e = .returned (.string (tryN N x).2) /\ ∃ A', VaH w' r B A' (tryN N x).1 /\ w.grownBy w' (some r) := by
 have hne : N.t ≠ [] := fun e => by rw [e] at hr; simp at hr; have := ht.1; omega
 obtain ⟨t0, z, et, ez⟩ := qgI hne
 have hzt : z ∈ N.t := by rw [et]; simp
 have hzq := ht.2.2.2.1 z hzt
 obtain ⟨m, hm⟩ : ∃ m, N.t.length = m + 1 := ⟨t0.length, by rw [et]; simp⟩
 have hzm : ∀ h : m < N.t.length, N.t[m] = z := fun h => by
  have e : m = t0.length := by rw [et] at hm; simp at hm; omega
  subst e
  simp [et]
 have htm : N.tm = ((m + 1 : Nat) : Int) := by have := ht.2.2.1; omega
 have CX := hI (fun w' (h' : VaH w' r B A N) (hD' : TabD w') => qnL h' x (qbP hx) hD')
 have CZ := hI (fun w' (h' : VaH w' r B A N) (hD' : TabD w') => qnL h' z (qbP hzq) hD')
 have gx := qdG N x
 have gz := qdG N z
 rw [ez] at hg
 have e : tryN N x = (N, x) := by unfold tryN; rw [if_neg hz, if_neg hr, ez, if_pos hg]
 rw [e]
 have hgd : decide (gueN N x <= gueN N z) = true := decide_eq_true hg
 obtain ⟨b, o, hab, hbl, hc⟩ := h.own.rd.ft m (by omega)
 rw [hzm] at hc
 have htm2 : N.tm = (m : Int) + 1 := by omega
 have x7 : w.cell? ⟨r, 7, none⟩ = some (.int .i64 ((m : Int) + 1)) := by rw [<- htm2]; exact h.cell 7
 have x8 : w.cell? ⟨r, 8, none⟩ = some (.slice (some ⟨b, o, none⟩) (m + 1) A.tc) := by rw [<- hm, <- hab]; exact h.cell 8
 have H := hI h
 have HD := hI hD
 have HM := hI hm
 have HA := hI hab
 have hm24 : m + 1 <= 24 := by have := ht.1; have := ht.2.1; omega
 have hm25 : (m : Int) + 1 <= 24 := by omega
 have q0 : ((m : Int) + 1 == 0) = false := by rw [beq_eq_false_iff_ne]; omega
 have q1 : (((m + 1 : Nat) : Int) == (m : Int) + 1) = true := by rw [beq_iff_eq]; omega
 have q2 : ((m : Int) + 1 == (m : Int) + 1) = true := by simp
 have qw : IntKind.i64.wrap ((m : Int) + 1 - 1) = (m : Int) := by rw [IntWalk.i64_in _ ⟨by omega, by omega⟩]; omega
 have qw2 : IntKind.i64.wrap (m : Int) = (m : Int) := IntWalk.i64_in _ ⟨by omega, by omega⟩
 have qm : (m : Int) < (m : Int) + 1 := by omega
 have qm0 : (0 : Int) <= (m : Int) := by omega
 have CX2 := hI (fun w' (hb : Below w.heap.size w w') => CX.out w' (h.later hb) (hD.later hb))
 have CZ2 := hI (fun w' (hb : Below w.heap.size w w') => CZ.out w' (h.later hb) (hD.later hb))
 have hcw := hI hc
 have X7 := hI (show ∀ w', Below w.heap.size w w' -> w'.cell? ⟨r, 7, none⟩ = some (.int .i64 ((m : Int) + 1)) from fun w' hb => (hb.cell (p := ⟨r, 7, none⟩) h.var.lt).trans x7)
 have X8 := hI (show ∀ w', Below w.heap.size w w' -> w'.cell? ⟨r, 8, none⟩ = some (.slice (some ⟨b, o, none⟩) (m + 1) A.tc) from fun w' hb => (hb.cell (p := ⟨r, 8, none⟩) h.var.lt).trans x8)
 clear CX CZ
 clear e
 generalize gueN N x = ga at *
 generalize gueN N z = gb at *
 clear h hD hz ht hx hxt hl hne et ez hzt hzq hzm hm hab hr t0 htm htm2
 go_enter Tryz.func75, Tryz.ntmps75
 go_upto_region 3 with fail
 go_region_held3 (fun w' => w'.cell? ⟨r, 7, none⟩ = some (.int .i64 ((m : Int) + 1)) /\ w'.cell? ⟨r, 8, none⟩ = some (.slice (some ⟨b, o, none⟩) (m + 1) A.tc) /\ w'.cell? ⟨b, o + m, none⟩ = some (.string z)) (first | simp only [World.cell?_drew, x7, x8, hc, and_self] | simp only [x7, x8, hc, and_self]) ((first | (go_at_call 135; first | ((with_reducible refine (CX2.out _ (show Below w.heap.size w _ by go_grown)).mono ?_); rintro e w2 ⟨rfl, hb2⟩; have b2 : Hid (Below w.heap.size w w2) := (show Below w.heap.size w _ by go_grown).trans (hb2.mono (by go_size)); have hs2 : w.heap.size <= w2.heap.size := b2.out.size; clear hb2 x7 x8 CX2; have hc0 := hc; have hc := (b2.out.cell (p := ⟨b, o + m, none⟩) hbl).trans hc0; clear hc0; have x7 : w2.cell? ⟨r, 7, none⟩ = some (.int .i64 ((m : Int) + 1)) := X7.out _ b2.out; have x8 : w2.cell? ⟨r, 8, none⟩ = some (.slice (some ⟨b, o, none⟩) (m + 1) A.tc) := X8.out _ b2.out) | ((with_reducible refine (CZ2.out _ (b2.out.trans (show Below w.heap.size w2 _ by go_grown))).mono ?_); rintro e w3 ⟨rfl, hb3⟩; have b3 : Hid (Below w.heap.size w w3) := (b2.out.trans (show Below w.heap.size w2 _ by go_grown)).trans (hb3.mono (by go_size)); clear hb3 x7 x8; have hc0 := hcw.out; have hc := (b3.out.cell (p := ⟨b, o + m, none⟩) hbl).trans hc0; clear hc0; have x7 : w3.cell? ⟨r, 7, none⟩ = some (.int .i64 ((m : Int) + 1)) := X7.out _ b3.out; have x8 : w3.cell? ⟨r, 8, none⟩ = some (.slice (some ⟨b, o, none⟩) (m + 1) A.tc) := X8.out _ b3.out))))
 all_goals
  have V := hI (H.out.later b3.out)
  have G := hI (show w.grownBy w3 (some r) from qbO b3.out)
  clear x7 x8 hc X7 X8 CZ2 hcw q0 q1 q2 qw qw2 qm qm0 hm24 hm25 gx gz HM HA HD
  go_wp2
  go_ret
  exact ⟨rfl, _, V.out, G.out⟩
theorem zdA {w : World} {r B : Nat} {A : NA} {N : Nr} (h : VaH w r B A N) (hl : SmN N) (hD : TabD w) (x : ByteArray) (ht : OkQ N.t N.tm) (hx : qcV x) (hxt : ¬ x ∈ N.t) (hz : ¬ N.tm = 0) (hr : ¬ (N.t.length : Int) < N.tm) (hg : ¬ gueN N x <= gueN N (N.t.getLastD ⟨#[]⟩)) :
  Calls Tryz.prog 75 #[.pointer (some ⟨r, 0, none⟩), .string x] w fun e w' => e = .returned (.string (tryN N x).2) /\ ∃ A', VaH w' r B A' (tryN N x).1 /\ w.grownBy w' (some r) := by
 have hne : N.t ≠ [] := fun e => by rw [e] at hr; simp at hr; have := ht.1; omega
 obtain ⟨t0, z, et, ez⟩ := qgI hne
 have hzt : z ∈ N.t := by rw [et]; simp
 have hzq := ht.2.2.2.1 z hzt
 obtain ⟨m, hm⟩ : ∃ m, N.t.length = m + 1 := ⟨t0.length, by rw [et]; simp⟩
 have hzm : ∀ h : m < N.t.length, N.t[m] = z := fun h => by
  have e : m = t0.length := by rw [et] at hm; simp at hm; omega
  subst e
  simp [et]
 have htm : N.tm = ((m + 1 : Nat) : Int) := by have := ht.2.2.1; omega
 have CX := hI (fun w' (h' : VaH w' r B A N) (hD' : TabD w') => qnL h' x (qbP hx) hD')
 have CZ := hI (fun w' (h' : VaH w' r B A N) (hD' : TabD w') => qnL h' z (qbP hzq) hD')
 have gx := qdG N x
 have gz := qdG N z
 rw [ez] at hg
 have e : tryN N x = ({ N with t := x :: qaX N.t z }, z) := by unfold tryN; rw [if_neg hz, if_neg hr, ez, if_neg hg]
 rw [e]
 have hgd : decide (gueN N x <= gueN N z) = false := decide_eq_false hg
 have RP := qcC (l := N.t) (m := N.tm) (k := x) ⟨ht, hx, hxt, hz⟩
 have hnt := ht.2.2.2.2
 have hw0 : qaX N.t z = t0 := by
  rw [et, List.nodup_append] at hnt
  have hzn : ¬ z ∈ t0 := fun e => hnt.2.2 z e z (by simp) rfl
  rw [et]
  unfold qaX
  rw [List.filter_append]
  have e1 := qkR hzn
  unfold qaX at e1
  rw [e1]
  simp
 have hlt0 : t0.length = m := by rw [et] at hm; simp at hm; omega
 have htn : N.tm.toNat = m + 1 := by omega
 have e1 : (x :: N.t).take N.tm.toNat = x :: qaX N.t z := by rw [hw0, htn, List.take_succ_cons, et, List.take_append_of_le_length (by omega), List.take_of_length_le (by omega)]
 have e2 : (x :: N.t).getD N.tm.toNat ⟨#[]⟩ = z := by rw [htn, List.getD_cons_succ, et, List.getD_eq_getElem?_getD, List.getElem?_append_right (by omega)]; simp [hlt0]
 rw [e1, e2] at RP
 have CP := hI (fun w' (hA : RdQ w' A.t N.t) => qcA A.t N.t A.tc N.tm x w' hl.ft h.own.ft.cap.1 h.own.ft.cap.2 hA RP)
 generalize x :: qaX N.t z = M at *
 clear RP e1 e2 hw0 hnt hlt0 htn
 obtain ⟨b, o, hab, hbl, hc⟩ := h.own.rd.ft m (by omega)
 rw [hzm] at hc
 have htm2 : N.tm = (m : Int) + 1 := by omega
 have x7 : w.cell? ⟨r, 7, none⟩ = some (.int .i64 ((m : Int) + 1)) := by rw [<- htm2]; exact h.cell 7
 have x8 : w.cell? ⟨r, 8, none⟩ = some (.slice (some ⟨b, o, none⟩) (m + 1) A.tc) := by rw [<- hm, <- hab]; exact h.cell 8
 have H := hI h
 have HD := hI hD
 have HM := hI hm
 have HA := hI hab
 have hm24 : m + 1 <= 24 := by have := ht.1; have := ht.2.1; omega
 have hm25 : (m : Int) + 1 <= 24 := by omega
 have q0 : ((m : Int) + 1 == 0) = false := by rw [beq_eq_false_iff_ne]; omega
 have q1 : (((m + 1 : Nat) : Int) == (m : Int) + 1) = true := by rw [beq_iff_eq]; omega
 have q2 : ((m : Int) + 1 == (m : Int) + 1) = true := by simp
 have qw : IntKind.i64.wrap ((m : Int) + 1 - 1) = (m : Int) := by rw [IntWalk.i64_in _ ⟨by omega, by omega⟩]; omega
 have qw2 : IntKind.i64.wrap (m : Int) = (m : Int) := IntWalk.i64_in _ ⟨by omega, by omega⟩
 have qm : (m : Int) < (m : Int) + 1 := by omega
 have qm0 : (0 : Int) <= (m : Int) := by omega
 have CX2 := hI (fun w' (hb : Below w.heap.size w w') => CX.out w' (h.later hb) (hD.later hb))
 have CZ2 := hI (fun w' (hb : Below w.heap.size w w') => CZ.out w' (h.later hb) (hD.later hb))
 have hcw := hI hc
 have X7 := hI (show ∀ w', Below w.heap.size w w' -> w'.cell? ⟨r, 7, none⟩ = some (.int .i64 ((m : Int) + 1)) from fun w' hb => (hb.cell (p := ⟨r, 7, none⟩) h.var.lt).trans x7)
 have X8 := hI (show ∀ w', Below w.heap.size w w' -> w'.cell? ⟨r, 8, none⟩ = some (.slice (some ⟨b, o, none⟩) (m + 1) A.tc) from fun w' hb => (hb.cell (p := ⟨r, 8, none⟩) h.var.lt).trans x8)
 clear CX CZ
 have CP2 := hI (fun w' (V' : VaH w' r B A N) => show Calls Tryz.prog 74 #[.agg #[.int .i64 ((m : Int) + 1), .slice (some ⟨b, o, none⟩) (m + 1) A.tc], .string x] w' fun e w'' => ∃ po cp, e = .returned (.tuple #[.agg #[.int .i64 ((m : Int) + 1), .slice po M.length cp], .string z, .bool true]) /\ OwnQ w'' w'.heap.size po cp M /\ Below w'.heap.size w' w'' from by
  have h9 := CP.out w' V'.own.rd.ft
  rw [htm2, hm, hab] at h9
  exact h9)
 have HTM := hI (show ({ N with t := M, tm := (m : Int) + 1 } : Nr) = { N with t := M } by rw [<- htm2])
 clear CP
 clear e
 generalize gueN N x = ga at *
 generalize gueN N z = gb at *
 clear h hD hz ht hx hxt hl hne et ez hzt hzq hzm hm hab hr t0 htm htm2
 go_enter Tryz.func75, Tryz.ntmps75
 go_upto_region 3 with fail
 go_region_held3 (fun w' => w'.cell? ⟨r, 7, none⟩ = some (.int .i64 ((m : Int) + 1)) /\ w'.cell? ⟨r, 8, none⟩ = some (.slice (some ⟨b, o, none⟩) (m + 1) A.tc) /\ w'.cell? ⟨b, o + m, none⟩ = some (.string z)) (first | simp only [World.cell?_drew, x7, x8, hc, and_self] | simp only [x7, x8, hc, and_self]) ((first | (go_at_call 135; first | ((with_reducible refine (CX2.out _ (show Below w.heap.size w _ by go_grown)).mono ?_); rintro e w2 ⟨rfl, hb2⟩; have b2 : Hid (Below w.heap.size w w2) := (show Below w.heap.size w _ by go_grown).trans (hb2.mono (by go_size)); have hs2 : w.heap.size <= w2.heap.size := b2.out.size; clear hb2 x7 x8 CX2; have hc0 := hc; have hc := (b2.out.cell (p := ⟨b, o + m, none⟩) hbl).trans hc0; clear hc0; have x7 : w2.cell? ⟨r, 7, none⟩ = some (.int .i64 ((m : Int) + 1)) := X7.out _ b2.out; have x8 : w2.cell? ⟨r, 8, none⟩ = some (.slice (some ⟨b, o, none⟩) (m + 1) A.tc) := X8.out _ b2.out) | ((with_reducible refine (CZ2.out _ (b2.out.trans (show Below w.heap.size w2 _ by go_grown))).mono ?_); rintro e w3 ⟨rfl, hb3⟩; have b3 : Hid (Below w.heap.size w w3) := (b2.out.trans (show Below w.heap.size w2 _ by go_grown)).trans (hb3.mono (by go_size)); clear hb3 x7 x8; have hc0 := hcw.out; have hc := (b3.out.cell (p := ⟨b, o + m, none⟩) hbl).trans hc0; clear hc0; have x7 : w3.cell? ⟨r, 7, none⟩ = some (.int .i64 ((m : Int) + 1)) := X7.out _ b3.out; have x8 : w3.cell? ⟨r, 8, none⟩ = some (.slice (some ⟨b, o, none⟩) (m + 1) A.tc) := X8.out _ b3.out))))
 all_goals
  have V := hI (H.out.later b3.out)
  have G := hI (show w.grownBy w3 (some r) from qbO b3.out)
  clear x7 x8 hc X7 X8 CZ2 hcw q0 q1 q2 qw qw2 qm qm0 hm24 hm25 gx gz HM HA HD
  go_wp2_with fail
  refine (CP2.out w3 V.out).mono ?_
  rintro e w6 ⟨p6, c6, rfl, ho, hb6⟩
  have F := hI (show VaH (w6.alloc (.cells #[.int .i64 ((m : Int) + 1), .slice p6 M.length c6] 32)) r B A N /\ Blk (w6.alloc (.cells #[.int .i64 ((m : Int) + 1), .slice p6 M.length c6] 32)) w6.heap.size 32 [.int .i64 ((m : Int) + 1), .slice p6 M.length c6] /\ OwnQ (w6.alloc (.cells #[.int .i64 ((m : Int) + 1), .slice p6 M.length c6] 32)) w3.heap.size p6 c6 M /\ w.grownBy (w6.alloc (.cells #[.int .i64 ((m : Int) + 1), .slice p6 M.length c6] 32)) (some r) from
   ⟨(V.out.later hb6).later (bAl _ _), Blk.new w6 _ _, ho.later (bAl _ _), qaK G.out (qbO (hb6.alloc hb6.size _))⟩)
  have hv5 := hI (V.out.own.below_of (Nat.le_refl _))
  have hB5 := hI V.out.le
  clear ho hb6 CP2 V G
  go_upto_region 6 with fail
  generalize (w6.alloc (.cells #[.int .i64 ((m : Int) + 1), .slice p6 M.length c6] 32)) = W7 at F ⊢
  generalize w6.heap.size = Q7 at F ⊢
  have V7 := hI F.out.1
  have K7 := hI F.out.2.1
  have O7 := hI F.out.2.2.1
  have G7 := hI F.out.2.2.2
  clear F
  have z0 : W7.cell? ⟨Q7, 0, none⟩ = _ := cRn (K7.out.cell 0) rfl
  have z1 : W7.cell? ⟨Q7, 1, none⟩ = _ := cRn (K7.out.cell 1) rfl
  have z7 : W7.cell? ⟨r, 7, none⟩ = _ := cRn (V7.out.cell 7) rfl
  have z8 : W7.cell? ⟨r, 8, none⟩ = _ := cRn (V7.out.cell 8) rfl
  have zf (j) : W7.frozen? ⟨r, j, none⟩ = false := V7.out.var.froz j
  have V8 := hI (V7.out.putT (m := (m : Int) + 1) O7.out hv5.out hB5.out)
  have G8 := hI (qbF (qbF G7.out 7 (.int .i64 ((m : Int) + 1))) 8 (.slice p6 M.length c6))
  clear V7 K7 O7 G7 hv5 hB5
  go_wp2
  go_ret
  exact ⟨rfl, _, (by have h9 := V8.out; rw [HTM.out] at h9; exact h9), G8.out⟩
theorem tryI {w : World} {r B : Nat} {A : NA} {N : Nr} (h : VaH w r B A N) (hl : SmN N) (hD : TabD w) (x : ByteArray) (ht : OkQ N.t N.tm) (hx : qcV x) (hxt : ¬ x ∈ N.t) (hz : ¬ N.tm = 0) :
  Calls Tryz.prog 75 #[.pointer (some ⟨r, 0, none⟩), .string x] w fun e w' => e = .returned (.string (tryN N x).2) /\ ∃ A', VaH w' r B A' (tryN N x).1 /\ w.grownBy w' (some r) := by
 by_cases hr : (N.t.length : Int) < N.tm
 ·exact zcZ h hl hD x ht hx hxt hr
 by_cases hg : gueN N x <= gueN N (N.t.getLastD ⟨#[]⟩)
 ·exact zdB h hl hD x ht hx hxt hz hr hg
 ·exact zdA h hl hD x ht hx hxt hz hr hg
theorem qlQ (ao a' : Option Addr) (l o : List Ce) (ca ca' : Nat) (mv : Int) (key : ByteArray) (h : Int) (w : World) (hl : l.length <= 1048576) (hl' : o.length <= 1048576) (hk : qcV key) (hA : RdC w ao l) (hA' : RdC w a' o) (hok : OkT l o mv) (hh : 0 <= h) {L O : List Ce} {M : Int} (hR : qcJ l o mv key h = some (L, O, M)) :
  Calls Tryz.prog 138 #[tbV ao l.length ca a' o.length ca' mv, .string key, .int .i64 h] w fun e w' => ∃ b c b' c', e = .returned (.tuple #[tbV b L.length c b' O.length c' M, .bool true]) /\ Own2 w' w.heap.size b c L b' c' O /\ Below w.heap.size w w' := by
 refine (qlR ao a' l o ca ca' mv key h w hl hl' (qbP hk) hA.toJ hA'.toJ).mono ?_
 rintro e w' ⟨b, L', c, b', O', c', M', t, rfl, ha, h1, h2, h3, hb⟩
 obtain ⟨rfl, rfl, rfl, rfl⟩ := Ans.det ha (.inl ⟨⟨hok, hk.1, hk.2, hh⟩, hR, rfl⟩)
 exact ⟨b, c, b', c', rfl, ⟨h1, h2, h3⟩, hb⟩
theorem qvW (ao a' : Option Addr) (l o : List Ce) (ca ca' : Nat) (mv : Int) (key : ByteArray) (h : Int) (w : World) (hl : l.length <= 1048576) (hl' : o.length <= 1048576) (hk : qcV key) (hA : RdC w ao l) (hA' : RdC w a' o) (hR : qcJ l o mv key h = none) :
  Calls Tryz.prog 138 #[tbV ao l.length ca a' o.length ca' mv, .string key, .int .i64 h] w fun e w' => ∃ b c b' c', e = .returned (.tuple #[tbV b 0 c b' 0 c' 0, .bool false]) /\ Below w.heap.size w w' := by
 refine (qlR ao a' l o ca ca' mv key h w hl hl' (qbP hk) hA.toJ hA'.toJ).mono ?_
 rintro e w' ⟨b, L', c, b', O', c', M', t, rfl, ha, h1, h2, h3, hb⟩
 obtain ⟨rfl, rfl, rfl, rfl⟩ := Ans.det ha (.inr ⟨(fun hh => by obtain ⟨_, x, hx⟩ := hh; rw [hR] at hx; cases hx), rfl, rfl, rfl, rfl⟩)
 exact ⟨b, c, b', c', rfl, hb⟩
theorem qoL (ao a' : Option Addr) (l o : List Ce) (ca ca' : Nat) (mv : Int) (w : World) (hl : l.length <= 1048576) (hl' : o.length <= 1048576) (hA : RdC w ao l) (hA' : RdC w a' o) (hok : OkT l o mv) {L O : List Ce} {M : Int} (hR : qbQ l o = some (L, O, M)) :
  Calls Tryz.prog 139 #[tbV ao l.length ca a' o.length ca' mv] w fun e w' => ∃ b c b' c', e = .returned (.tuple #[tbV b L.length c b' O.length c' M, .bool true]) /\ Own2 w' w.heap.size b c L b' c' O /\ Below w.heap.size w w' := by
 refine (qoM ao a' l o ca ca' mv w hl hl' hA.toJ hA'.toJ).mono ?_
 rintro e w' ⟨b, L', c, b', O', c', M', t, rfl, ha, h1, h2, h3, hb⟩
 obtain ⟨rfl, rfl, rfl, rfl⟩ := Ans.det ha (.inl ⟨hok, hR, rfl⟩)
 exact ⟨b, c, b', c', rfl, ⟨h1, h2, h3⟩, hb⟩
theorem qlS (ao : Option Addr) (l : List Sl) (ca : Nat) (f : Nat) (ky vl : ByteArray) (w : World) (hl : l.length <= 1048576) (hA : RdA w ao l) (hf : f < l.length) (hok : OkA l (f : Int)) (hk : qcV ky) (hv : vl.size <= 20) :
  Calls Tryz.prog 137 #[arV ao l.length ca (f : Int), .string ky, .string vl] w fun e w' => ∃ b c, e = .returned (.tuple #[arV (some ⟨b, 0, none⟩) (l.set f ⟨l[f].gen, true, ky, vl, 0⟩).length c l[f].next, .int .i64 (24 * l[f].gen + (f : Int)), .bool true]) /\ w'.ownsRow w.heap.size 99 5 (.slice (some ⟨b, 0, none⟩) (l.set f ⟨l[f].gen, true, ky, vl, 0⟩).length c) (l.set f ⟨l[f].gen, true, ky, vl, 0⟩).length (sls (l.set f ⟨l[f].gen, true, ky, vl, 0⟩)) /\ Below w.heap.size w w' := by
 refine (qtK ao l ca (f : Int) ky vl w hl hA).mono ?_
 rintro e w' ⟨⟨k, b, c, hk', rfl, hfk, _, _, _, _, ho⟩ | ⟨_, hn⟩, hb⟩
 ·obtain rfl : k = f := by omega
  rw [List.length_set]
  exact ⟨b, c, rfl, ho, hb⟩
 ·exact absurd ⟨hok, by omega, hk.1, hk.2, hv⟩ hn
theorem VaH.drw {w : World} {r B : Nat} {A : NA} {N : Nr} (h : VaH w r B A N) : VaH w.drew r B A N := h.later (Below.refl _ _).drew
theorem zbE {w w' : World} {r : Option Nat} (h : w.grownBy w' r) : w.grownBy w'.drew r := qaK h (qbO (Below.refl _ _).drew)
theorem VaH.put5 {W : World} {r B c1 c4 c5 : Nat} {A : NA} {N : Nr} {X : List Sl} {nx m : Int} {L O : List Ce} {b1 b4 b5 : Option Addr} (V : VaH W r B A N) (OX : OwnN W B { A with a := b1, ac := c1, c := b4, cc := c4, o := b5, oc := c5 } { N with sl := X, fr := nx, ce := L, od := O, mv := m }) (NX : ∀ v ∈ vlN { A with a := b1, ac := c1, c := b4, cc := c4, o := b5, oc := c5 } { N with sl := X, fr := nx, ce := L, od := O, mv := m }, ∀ g, v.ownBlock = some g -> g ≠ r) :
  VaH (((((W.setCell ⟨r, 0, none⟩ (.slice b1 X.length c1)).setCell ⟨r, 1, none⟩ (.int .i64 nx)).setCell ⟨r, 2, none⟩ (.slice b4 L.length c4)).setCell ⟨r, 3, none⟩ (.slice b5 O.length c5)).setCell ⟨r, 4, none⟩ (.int .i64 m)).drew r B { A with a := b1, ac := c1, c := b4, cc := c4, o := b5, oc := c5 } { N with sl := X, fr := nx, ce := L, od := O, mv := m } :=
 VaH.drw ⟨Blk.set (Blk.set (Blk.set (Blk.set (Blk.set V.var 0 _) 1 _) 2 _) 3 _) 4 _, ((((OX.off _ _ NX).off _ _ NX).off _ _ NX).off _ _ NX).off _ _ NX, NX, by simpa using V.le⟩
theorem zaZ {w : World} {r B f : Nat} {A : NA} {N : Nr} (h : VaH w r B A N) (hl : SmN N) (hok : OkT N.ce N.od N.mv) (har : OkA N.sl N.fr) (hfr : N.fr = (f : Int)) (hf : f < N.sl.length) (k v : ByteArray) (hk : qcV k) (hv : v.size <= 20) {L : List Ce} (hR : qcJ N.ce N.od N.mv k (24 * N.sl[f].gen + (f : Int)) = some (L, [], 0)) :
  Calls Tryz.prog 77 #[.pointer (some ⟨r, 0, none⟩), .string k, .string v] w fun e w' => e = .returned (.tuple #[]) /\ ∃ A', VaH w' r B A' { N with sl := N.sl.set f ⟨N.sl[f].gen, true, k, v, 0⟩, fr := N.sl[f].next, ce := L, od := [], mv := 0 } /\ w.grownBy w' (some r) := by
 have hh : 0 <= 24 * N.sl[f].gen + (f : Int) := by have := (har.slots f hf).1; omega
 have H := hI h
 have x0 : w.cell? ⟨r, 0, none⟩ = _ := cRn (h.cell 0) rfl
 have x1 : w.cell? ⟨r, 1, none⟩ = some (.int .i64 (f : Int)) := by rw [<- hfr]; exact h.cell 1
 have CL := hI (qlS A.a N.sl A.ac f k v w hl.fa h.own.rd.fa hf (by rw [<- hfr]; exact har) hk hv)
 have CP := hI (fun w' (hA : RdC w' A.c N.ce) (hA' : RdC w' A.o N.od) => qlQ A.c A.o N.ce N.od A.cc A.oc N.mv k _ w' hl.fc hl.fo hk hA hA' hok hh hR)
 unfold tbV at CP
 unfold arV at CL
 clear h hok har hfr hk hv hh hl hR
 generalize N.sl.set f ⟨N.sl[f].gen, true, k, v, 0⟩ = X at *
 generalize 24 * N.sl[f].gen + (f : Int) = hd at *
 generalize N.sl[f].next = nx at *
 clear hf
 go_enter Tryz.func77, Tryz.ntmps77
 go_wp2_with fail
 refine CL.out.mono ?_
 rintro e w1 ⟨b1, c1, rfl, ho, hb1⟩
 have hS1 := hI (H.out.own.below_of (Nat.le_refl _))
 have hB1 := hI H.out.le
 have F := hI (show VaH (w1.alloc (.cells #[.slice (some ⟨b1, 0, none⟩) X.length c1, .int .i64 nx] 26)) r B A N /\ Blk (w1.alloc (.cells #[.slice (some ⟨b1, 0, none⟩) X.length c1, .int .i64 nx] 26)) w1.heap.size 26 [.slice (some ⟨b1, 0, none⟩) X.length c1, .int .i64 nx] /\ (w1.alloc (.cells #[.slice (some ⟨b1, 0, none⟩) X.length c1, .int .i64 nx] 26)).ownsRow w.heap.size 99 5 (.slice (some ⟨b1, 0, none⟩) X.length c1) X.length (sls X) /\ w.grownBy (w1.alloc (.cells #[.slice (some ⟨b1, 0, none⟩) X.length c1, .int .i64 nx] 26)) (some r) /\ w.heap.size <= w1.heap.size from
  ⟨(H.out.later hb1).later (bAl _ _), Blk.new w1 _ _, qaE ho (bAl _ _), qbO (hb1.alloc hb1.size _), hb1.size⟩)
 have hr1 := H.out.var.lt
 clear ho hb1 CL x0 x1 H
 go_upto_region 1 with fail
 generalize (w1.alloc (.cells #[.slice (some ⟨b1, 0, none⟩) X.length c1, .int .i64 nx] 26)) = W2 at F ⊢
 generalize w1.heap.size = Q1 at F ⊢
 have V2 := hI F.out.1
 have K2 := hI F.out.2.1
 have O2 := hI F.out.2.2.1
 have G2 := hI F.out.2.2.2.1
 have hQ1 := F.out.2.2.2.2
 clear F
 have hS3 := hI ((V2.out.own.setA O2.out hS1.out hB1.out.1 nx).below_of (Nat.le_refl _))
 have hB3 := hI V2.out.le
 have hQ2 : Q1 < W2.heap.size := K2.out.lt
 have hS3a := hI (V2.out.own.below_of (Nat.le_refl _))
 have hOa := hI (show ∀ g, (Value.slice (some ⟨b1, 0, none⟩) X.length c1).ownBlock = some g -> g < W2.heap.size from fun g hg => (O2.out.lt g hg).2)
 have x0 : W2.cell? ⟨r, 2, none⟩ = _ := cRn (V2.out.cell 2) rfl
 have x1 : W2.cell? ⟨r, 3, none⟩ = _ := cRn (V2.out.cell 3) rfl
 have x2 : W2.cell? ⟨r, 4, none⟩ = _ := cRn (V2.out.cell 4) rfl
 go_wp2_with fail
 refine (CP.out _ V2.out.own.rd.fc V2.out.own.rd.fo).mono ?_
 rintro e w4 ⟨b4, c4, b5, c5, rfl, ho, hb4⟩
 rw [List.length_nil]
 have F := hI (show VaH (w4.alloc (.cells #[.slice b4 L.length c4, .slice b5 0 c5, .int .i64 0] 29)) r B A N /\ Blk (w4.alloc (.cells #[.slice b4 L.length c4, .slice b5 0 c5, .int .i64 0] 29)) Q1 26 [.slice (some ⟨b1, 0, none⟩) X.length c1, .int .i64 nx] /\ Blk (w4.alloc (.cells #[.slice b4 L.length c4, .slice b5 0 c5, .int .i64 0] 29)) w4.heap.size 29 [.slice b4 L.length c4, .slice b5 0 c5, .int .i64 0] /\ (w4.alloc (.cells #[.slice b4 L.length c4, .slice b5 0 c5, .int .i64 0] 29)).ownsRow w.heap.size 99 5 (.slice (some ⟨b1, 0, none⟩) X.length c1) X.length (sls X) /\ w.grownBy (w4.alloc (.cells #[.slice b4 L.length c4, .slice b5 0 c5, .int .i64 0] 29)) (some r) /\ W2.heap.size <= w4.heap.size /\ Own2 (w4.alloc (.cells #[.slice b4 L.length c4, .slice b5 0 c5, .int .i64 0] 29)) W2.heap.size b4 c4 L b5 c5 [] from
  ⟨(V2.out.later hb4).later (bAl _ _), (K2.out.below hb4 K2.out.lt).below (bAl w4 _) (Nat.lt_of_lt_of_le hQ2 hb4.size), Blk.new w4 _ _, qaE (qaE O2.out hb4) (bAl _ _), qaK G2.out (qbO (hb4.alloc hb4.size _)), hb4.size, ho.later (bAl _ _)⟩)
 clear ho hb4 x0 x1 x2 V2 K2 O2 G2
 go_upto_region 5 with fail
 generalize (w4.alloc (.cells #[.slice b4 L.length c4, .slice b5 0 c5, .int .i64 0] 29)) = W at F ⊢
 generalize w4.heap.size = Q2 at F ⊢
 have V := hI F.out.1
 have Ka := hI F.out.2.1
 have Kt := hI F.out.2.2.1
 have Oa := hI F.out.2.2.2.1
 have G := hI F.out.2.2.2.2.1
 have hQ3 := F.out.2.2.2.2.2.1
 have Ot := hI F.out.2.2.2.2.2.2
 clear F CP
 have hrQ1 : Q1 ≠ r := by omega
 have hrQ2 : Q2 ≠ r := by omega
 have z0 : W.cell? ⟨Q1, 0, none⟩ = some (.slice (some ⟨b1, 0, none⟩) X.length c1) := Ka.out.cell 0
 have z1 : W.cell? ⟨Q1, 1, none⟩ = _ := cRn (Ka.out.cell 1) rfl
 have z2 : W.cell? ⟨Q2, 0, none⟩ = _ := cRn (Kt.out.cell 0) rfl
 have z3 : W.cell? ⟨Q2, 1, none⟩ = _ := cRn (Kt.out.cell 1) rfl
 have z4 : W.cell? ⟨Q2, 2, none⟩ = _ := cRn (Kt.out.cell 2) rfl
 have y0 : W.cell? ⟨r, 0, none⟩ = _ := cRn (V.out.cell 0) rfl
 have y1 : W.cell? ⟨r, 1, none⟩ = _ := cRn (V.out.cell 1) rfl
 have y2 : W.cell? ⟨r, 2, none⟩ = _ := cRn (V.out.cell 2) rfl
 have y3 : W.cell? ⟨r, 3, none⟩ = _ := cRn (V.out.cell 3) rfl
 have y4 : W.cell? ⟨r, 4, none⟩ = _ := cRn (V.out.cell 4) rfl
 have yf (j) : W.frozen? ⟨r, j, none⟩ = false := V.out.var.froz j
 have q1 : ∀ (u : World) (i j : Nat) (v : Value), (u.setCell ⟨r, i, none⟩ v).cell? ⟨Q1, j, none⟩ = u.cell? ⟨Q1, j, none⟩ := fun u i j v => World.cell?_setCell_other _ _ _ _ (by intro e; injection e; omega)
 have q2 : ∀ (u : World) (i j : Nat) (v : Value), (u.setCell ⟨r, i, none⟩ v).cell? ⟨Q2, j, none⟩ = u.cell? ⟨Q2, j, none⟩ := fun u i j v => World.cell?_setCell_other _ _ _ _ (by intro e; injection e; omega)
 have OX := hI ((V.out.own.setA Oa.out hS1.out hB1.out.1 nx).setC (m := 0) Ot.out hS3.out hB3.out.1)
 have n0 : Hid (∀ g, (Value.slice (some ⟨b1, 0, none⟩) X.length c1).ownBlock = some g -> g ≠ r) := fun g hg => by have := (Oa.out.lt g hg).1; omega
 have n1 : Hid (∀ g, (Value.slice b4 L.length c4).ownBlock = some g -> g ≠ r) := fun g hg => by have := (Ot.out.1.lt g hg).1; have := hB3.out.2; omega
 have n2 : Hid (∀ g, (Value.slice b5 ([] : List Ce).length c5).ownBlock = some g -> g ≠ r) := fun g hg => by have := (Ot.out.2.1.lt g hg).1; have := hB3.out.2; omega
 have NX := hI (qcE (i := 2) (qcE (i := 1) (qcE (i := 0) V.out.ne n0.out) n1.out) n2.out)
 have VV := hI (VaH.put5 V.out OX.out NX.out)
 clear V OX NX Oa Ot Ka Kt hS1 hS3 hB1 hB3 n0 n1 n2
 go_region_held3 (fun w' => w'.cell? ⟨Q1, 0, none⟩ = some (.slice (some ⟨b1, 0, none⟩) X.length c1) /\ w'.cell? ⟨Q1, 1, none⟩ = some (.int .i64 nx) /\ w'.cell? ⟨Q2, 0, none⟩ = some (.slice b4 L.length c4) /\ w'.cell? ⟨Q2, 1, none⟩ = some (.slice b5 0 c5) /\ w'.cell? ⟨Q2, 2, none⟩ = some (.int .i64 0)) (simp only [World.cell?_drew, q1, q2, z0, z1, z2, z3, z4, and_self]) (fail)
 all_goals
  go_wp2
  refine bodyPost_end (results_none Tryz.results77 _ _ _) rfl ?_
  exact ⟨rfl, ⟨_, VV.out⟩, zbE (qbF (qbF (qbF (qbF (qbF G.out 0 _) 1 _) 2 _) 3 _) 4 _)⟩
theorem zeA {w : World} {r B f : Nat} {A : NA} {N : Nr} (h : VaH w r B A N) (hl : SmN N) (hok : OkT N.ce N.od N.mv) (har : OkA N.sl N.fr) (hfr : N.fr = (f : Int)) (hf : f < N.sl.length) (k v : ByteArray) (hk : qcV k) (hv : v.size <= 20) {L : List Ce} {Y : List Ce} (hR : qcJ N.ce N.od N.mv k (24 * N.sl[f].gen + (f : Int)) = none) (hX : qbQ N.ce N.od = some (Y, [], 0)) (hokY : OkT Y [] 0) (hYl : Y.length <= 1048576) (hY : qcJ Y [] 0 k (24 * N.sl[f].gen + (f : Int)) = some (L, [], 0)) :
  Calls Tryz.prog 77 #[.pointer (some ⟨r, 0, none⟩), .string k, .string v] w fun e w' => e = .returned (.tuple #[]) /\ ∃ A', VaH w' r B A' { N with sl := N.sl.set f ⟨N.sl[f].gen, true, k, v, 0⟩, fr := N.sl[f].next, ce := L, od := [], mv := 0 } /\ w.grownBy w' (some r) := by
 have hh : 0 <= 24 * N.sl[f].gen + (f : Int) := by have := (har.slots f hf).1; omega
 have H := hI h
 have x0 : w.cell? ⟨r, 0, none⟩ = _ := cRn (h.cell 0) rfl
 have x1 : w.cell? ⟨r, 1, none⟩ = some (.int .i64 (f : Int)) := by rw [<- hfr]; exact h.cell 1
 have CL := hI (qlS A.a N.sl A.ac f k v w hl.fa h.own.rd.fa hf (by rw [<- hfr]; exact har) hk hv)
 have CP := hI (fun w' (hA : RdC w' A.c N.ce) (hA' : RdC w' A.o N.od) => qvW A.c A.o N.ce N.od A.cc A.oc N.mv k _ w' hl.fc hl.fo hk hA hA' hR)
 have CC := hI (fun w' (hA : RdC w' A.c N.ce) (hA' : RdC w' A.o N.od) => qoL A.c A.o N.ce N.od A.cc A.oc N.mv w' hl.fc hl.fo hA hA' hok hX)
 have CQ := hI (fun w' b c b' c' (hA : RdC w' b Y) (hA' : RdC w' b' []) => qlQ b b' Y [] c c' 0 k _ w' hYl (by simp) hk hA hA' hokY hh hY)
 unfold tbV at CP CC CQ
 unfold arV at CL
 clear h hok har hfr hk hv hh hl hR hX hokY hYl hY
 generalize N.sl.set f ⟨N.sl[f].gen, true, k, v, 0⟩ = X at *
 generalize 24 * N.sl[f].gen + (f : Int) = hd at *
 generalize N.sl[f].next = nx at *
 clear hf
 go_enter Tryz.func77, Tryz.ntmps77
 go_wp2_with fail
 refine CL.out.mono ?_
 rintro e w1 ⟨b1, c1, rfl, ho, hb1⟩
 have hS1 := hI (H.out.own.below_of (Nat.le_refl _))
 have hB1 := hI H.out.le
 have F := hI (show VaH (w1.alloc (.cells #[.slice (some ⟨b1, 0, none⟩) X.length c1, .int .i64 nx] 26)) r B A N /\ Blk (w1.alloc (.cells #[.slice (some ⟨b1, 0, none⟩) X.length c1, .int .i64 nx] 26)) w1.heap.size 26 [.slice (some ⟨b1, 0, none⟩) X.length c1, .int .i64 nx] /\ (w1.alloc (.cells #[.slice (some ⟨b1, 0, none⟩) X.length c1, .int .i64 nx] 26)).ownsRow w.heap.size 99 5 (.slice (some ⟨b1, 0, none⟩) X.length c1) X.length (sls X) /\ w.grownBy (w1.alloc (.cells #[.slice (some ⟨b1, 0, none⟩) X.length c1, .int .i64 nx] 26)) (some r) /\ w.heap.size <= w1.heap.size from
  ⟨(H.out.later hb1).later (bAl _ _), Blk.new w1 _ _, qaE ho (bAl _ _), qbO (hb1.alloc hb1.size _), hb1.size⟩)
 have hr1 := H.out.var.lt
 clear ho hb1 CL x0 x1 H
 go_upto_region 1 with fail
 generalize (w1.alloc (.cells #[.slice (some ⟨b1, 0, none⟩) X.length c1, .int .i64 nx] 26)) = W2 at F ⊢
 generalize w1.heap.size = Q1 at F ⊢
 have V2 := hI F.out.1
 have K2 := hI F.out.2.1
 have O2 := hI F.out.2.2.1
 have G2 := hI F.out.2.2.2.1
 have hQ1 := F.out.2.2.2.2
 clear F
 have hS3 := hI ((V2.out.own.setA O2.out hS1.out hB1.out.1 nx).below_of (Nat.le_refl _))
 have hB3 := hI V2.out.le
 have hQ2 : Q1 < W2.heap.size := K2.out.lt
 have hS3a := hI (V2.out.own.below_of (Nat.le_refl _))
 have hOa := hI (show ∀ g, (Value.slice (some ⟨b1, 0, none⟩) X.length c1).ownBlock = some g -> g < W2.heap.size from fun g hg => (O2.out.lt g hg).2)
 have x0 : W2.cell? ⟨r, 2, none⟩ = _ := cRn (V2.out.cell 2) rfl
 have x1 : W2.cell? ⟨r, 3, none⟩ = _ := cRn (V2.out.cell 3) rfl
 have x2 : W2.cell? ⟨r, 4, none⟩ = _ := cRn (V2.out.cell 4) rfl
 go_wp2_with fail
 refine (CP.out _ V2.out.own.rd.fc V2.out.own.rd.fo).mono ?_
 rintro e w4 ⟨d4, e4, d5, e5, rfl, hb4⟩
 have F := hI (show VaH (w4.alloc (.cells #[.slice d4 0 e4, .slice d5 0 e5, .int .i64 0] 29)) r B A N /\ Blk (w4.alloc (.cells #[.slice d4 0 e4, .slice d5 0 e5, .int .i64 0] 29)) Q1 26 [.slice (some ⟨b1, 0, none⟩) X.length c1, .int .i64 nx] /\ Blk (w4.alloc (.cells #[.slice d4 0 e4, .slice d5 0 e5, .int .i64 0] 29)) w4.heap.size 29 [.slice d4 0 e4, .slice d5 0 e5, .int .i64 0] /\ (w4.alloc (.cells #[.slice d4 0 e4, .slice d5 0 e5, .int .i64 0] 29)).ownsRow w.heap.size 99 5 (.slice (some ⟨b1, 0, none⟩) X.length c1) X.length (sls X) /\ w.grownBy (w4.alloc (.cells #[.slice d4 0 e4, .slice d5 0 e5, .int .i64 0] 29)) (some r) /\ W2.heap.size <= w4.heap.size from
  ⟨(V2.out.later hb4).later (bAl _ _), (K2.out.below hb4 K2.out.lt).below (bAl w4 _) (Nat.lt_of_lt_of_le hQ2 hb4.size), Blk.new w4 _ _, qaE (qaE O2.out hb4) (bAl _ _), qaK G2.out (qbO (hb4.alloc hb4.size _)), hb4.size⟩)
 clear hb4 x0 x1 x2 V2 K2 O2 G2
 go_upto_region 3 with fail
 generalize (w4.alloc (.cells #[.slice d4 0 e4, .slice d5 0 e5, .int .i64 0] 29)) = W5 at F ⊢
 generalize w4.heap.size = Q2 at F ⊢
 have V5 := hI F.out.1
 have Ka5 := hI F.out.2.1
 have Kt5 := hI F.out.2.2.1
 have Oa5 := hI F.out.2.2.2.1
 have G5 := hI F.out.2.2.2.2.1
 have hQ3 := F.out.2.2.2.2.2
 clear F CP
 rw [List.length_nil] at CQ CC
 have x0 : W5.cell? ⟨r, 2, none⟩ = _ := cRn (V5.out.cell 2) rfl
 have x1 : W5.cell? ⟨r, 3, none⟩ = _ := cRn (V5.out.cell 3) rfl
 have x2 : W5.cell? ⟨r, 4, none⟩ = _ := cRn (V5.out.cell 4) rfl
 have hr5 : r < W5.heap.size := V5.out.var.lt
 have hQ5 : Q2 < W5.heap.size := Kt5.out.lt
 go_wp2_with fail
 refine (CC.out _ V5.out.own.rd.fc V5.out.own.rd.fo).mono ?_
 rintro e w6 ⟨f4, g4, f5, g5, rfl, ho, hb6⟩
 have V6 := hI (V5.out.later hb6)
 have Ka6 := bRn Ka5 hb6
 have Kt6 := bRn Kt5 hb6
 have Oa6 := hI (qaE Oa5.out hb6)
 have G6 := hI (qaK G5.out (qbO hb6))
 have Ot6 := hI ho
 have s56 := hb6.size
 clear ho hb6 x0 x1 x2 V5 Ka5 Kt5 Oa5 G5 CC
 have u0 : w6.cell? ⟨Q2, 0, none⟩ = _ := cRn (Kt6.out.cell 0) rfl
 have u1 : w6.cell? ⟨Q2, 1, none⟩ = _ := cRn (Kt6.out.cell 1) rfl
 have u2 : w6.cell? ⟨Q2, 2, none⟩ = _ := cRn (Kt6.out.cell 2) rfl
 have uf (j) : w6.frozen? ⟨Q2, j, none⟩ = false := Kt6.out.froz j
 have hv6 := hI (show ∀ v ∈ vlN A N, ∀ g, v.ownBlock = some g -> g ≠ Q2 from fun v hv g hg => by have := hS3a.out v hv g hg; omega)
 have fo6 := hI (show ∀ (b : Option Addr) (c : Nat) (l : List Ce), w6.ownsRow W5.heap.size 132 2 (.slice b l.length c) l.length (ces l) -> ((((w6.setCell ⟨Q2, 0, none⟩ (.slice f4 Y.length g4)).setCell ⟨Q2, 1, none⟩ (.slice f5 0 g5)).setCell ⟨Q2, 2, none⟩ (.int .i64 0))).ownsRow W5.heap.size 132 2 (.slice b l.length c) l.length (ces l) from fun b c l ho => qaA (qaA (qaA ho _ _ (fun g hg => by have := (ho.lt g hg).1; dsimp only; omega)) _ _ (fun g hg => by have := (ho.lt g hg).1; dsimp only; omega)) _ _ (fun g hg => by have := (ho.lt g hg).1; dsimp only; omega))
 have V7 := hI (((V6.out.far (.inr ⟨by omega, hv6.out⟩) 0 (.slice f4 Y.length g4)).far (.inr ⟨by omega, hv6.out⟩) 1 (.slice f5 0 g5)).far (.inr ⟨by omega, hv6.out⟩) 2 (.int .i64 0))
 have Ka7 := hI (((Ka6.out.far ⟨Q2, 0, none⟩ (.slice f4 Y.length g4) (by dsimp only; omega)).far ⟨Q2, 1, none⟩ (.slice f5 0 g5) (by dsimp only; omega)).far ⟨Q2, 2, none⟩ (.int .i64 0) (by dsimp only; omega))
 have Kt7 := hI (Blk.set (Blk.set (Blk.set Kt6.out 0 (.slice f4 Y.length g4)) 1 (.slice f5 0 g5)) 2 (.int .i64 0))
 have Oa7 := hI (qaA (qaA (qaA Oa6.out ⟨Q2, 0, none⟩ (.slice f4 Y.length g4) (fun g hg => by have := hOa.out g hg; dsimp only; omega)) ⟨Q2, 1, none⟩ (.slice f5 0 g5) (fun g hg => by have := hOa.out g hg; dsimp only; omega)) ⟨Q2, 2, none⟩ (.int .i64 0) (fun g hg => by have := hOa.out g hg; dsimp only; omega))
 have Ot7 := hI (show Own2 (((w6.setCell ⟨Q2, 0, none⟩ (.slice f4 Y.length g4)).setCell ⟨Q2, 1, none⟩ (.slice f5 0 g5)).setCell ⟨Q2, 2, none⟩ (.int .i64 0)) W5.heap.size f4 g4 Y f5 g5 [] from ⟨fo6.out _ _ _ Ot6.out.1, fo6.out _ _ _ Ot6.out.2.1, Ot6.out.2.2⟩)
 have G7 := hI (show w.grownBy (((w6.setCell ⟨Q2, 0, none⟩ (.slice f4 Y.length g4)).setCell ⟨Q2, 1, none⟩ (.slice f5 0 g5)).setCell ⟨Q2, 2, none⟩ (.int .i64 0)) (some r) from ⟨G6.out.os, G6.out.tape, G6.out.output, by simpa using G6.out.size, fun j hj hne => by rw [Below.heap_setCell _ _ _ _ (by dsimp only; omega), Below.heap_setCell _ _ _ _ (by dsimp only; omega), Below.heap_setCell _ _ _ _ (by dsimp only; omega)]; exact G6.out.block j hj hne⟩)
 clear V6 Ka6 Kt6 Oa6 G6 Ot6 fo6
 go_upto_region 4 with fail
 generalize (((w6.setCell ⟨Q2, 0, none⟩ (.slice f4 Y.length g4)).setCell ⟨Q2, 1, none⟩ (.slice f5 0 g5)).setCell ⟨Q2, 2, none⟩ (.int .i64 0)) = W7 at V7 Ka7 Kt7 Oa7 Ot7 G7 ⊢
 clear u0 u1 u2 uf
 have u0 : W7.cell? ⟨Q2, 0, none⟩ = _ := cRn (Kt7.out.cell 0) rfl
 have u1 : W7.cell? ⟨Q2, 1, none⟩ = _ := cRn (Kt7.out.cell 1) rfl
 have u2 : W7.cell? ⟨Q2, 2, none⟩ = _ := cRn (Kt7.out.cell 2) rfl
 have hQ7 : Q2 < W7.heap.size := Kt7.out.lt
 go_wp2_with fail
 refine (CQ.out _ _ _ _ _ (qcZ Ot7.out.1) (qcZ Ot7.out.2.1)).mono ?_
 rintro e w8 ⟨b4, c4, b5, c5, rfl, ho, hb8⟩
 (try rw [List.length_nil])
 have V8 := hI (V7.out.later hb8)
 have Ka8 := bRn Ka7 hb8
 have Kt8 := bRn Kt7 hb8
 have Oa8 := hI (qaE Oa7.out hb8)
 have G8 := hI (qaK G7.out (qbO hb8))
 have Ot8 := hI ho
 have s78 := hb8.size
 have hW57 : W2.heap.size <= W7.heap.size := by omega
 clear ho hb8 u0 u1 u2 V7 Ka7 Kt7 Oa7 G7 CQ Ot7
 have u0 : w8.cell? ⟨Q2, 0, none⟩ = _ := cRn (Kt8.out.cell 0) rfl
 have u1 : w8.cell? ⟨Q2, 1, none⟩ = _ := cRn (Kt8.out.cell 1) rfl
 have u2 : w8.cell? ⟨Q2, 2, none⟩ = _ := cRn (Kt8.out.cell 2) rfl
 have uf (j) : w8.frozen? ⟨Q2, j, none⟩ = false := Kt8.out.froz j
 have fo8 := hI (show ∀ (b : Option Addr) (c : Nat) (l : List Ce), w8.ownsRow W7.heap.size 132 2 (.slice b l.length c) l.length (ces l) -> ((((w8.setCell ⟨Q2, 0, none⟩ (.slice b4 L.length c4)).setCell ⟨Q2, 1, none⟩ (.slice b5 0 c5)).setCell ⟨Q2, 2, none⟩ (.int .i64 0))).ownsRow W2.heap.size 132 2 (.slice b l.length c) l.length (ces l) from fun b c l ho => qaB (qaA (qaA (qaA ho _ _ (fun g hg => by have := (ho.lt g hg).1; dsimp only; omega)) _ _ (fun g hg => by have := (ho.lt g hg).1; dsimp only; omega)) _ _ (fun g hg => by have := (ho.lt g hg).1; dsimp only; omega)) hW57)
 have V := hI (((V8.out.far (.inr ⟨by omega, hv6.out⟩) 0 (.slice b4 L.length c4)).far (.inr ⟨by omega, hv6.out⟩) 1 (.slice b5 0 c5)).far (.inr ⟨by omega, hv6.out⟩) 2 (.int .i64 0))
 have Ka := hI (((Ka8.out.far ⟨Q2, 0, none⟩ (.slice b4 L.length c4) (by dsimp only; omega)).far ⟨Q2, 1, none⟩ (.slice b5 0 c5) (by dsimp only; omega)).far ⟨Q2, 2, none⟩ (.int .i64 0) (by dsimp only; omega))
 have Kt := hI (Blk.set (Blk.set (Blk.set Kt8.out 0 (.slice b4 L.length c4)) 1 (.slice b5 0 c5)) 2 (.int .i64 0))
 have Oa := hI (qaA (qaA (qaA Oa8.out ⟨Q2, 0, none⟩ (.slice b4 L.length c4) (fun g hg => by have := hOa.out g hg; dsimp only; omega)) ⟨Q2, 1, none⟩ (.slice b5 0 c5) (fun g hg => by have := hOa.out g hg; dsimp only; omega)) ⟨Q2, 2, none⟩ (.int .i64 0) (fun g hg => by have := hOa.out g hg; dsimp only; omega))
 have Ot := hI (show Own2 (((w8.setCell ⟨Q2, 0, none⟩ (.slice b4 L.length c4)).setCell ⟨Q2, 1, none⟩ (.slice b5 0 c5)).setCell ⟨Q2, 2, none⟩ (.int .i64 0)) W2.heap.size b4 c4 L b5 c5 [] from ⟨fo8.out _ _ _ Ot8.out.1, fo8.out _ _ _ Ot8.out.2.1, Ot8.out.2.2⟩)
 have G := hI (show w.grownBy (((w8.setCell ⟨Q2, 0, none⟩ (.slice b4 L.length c4)).setCell ⟨Q2, 1, none⟩ (.slice b5 0 c5)).setCell ⟨Q2, 2, none⟩ (.int .i64 0)) (some r) from ⟨G8.out.os, G8.out.tape, G8.out.output, by simpa using G8.out.size, fun j hj hne => by rw [Below.heap_setCell _ _ _ _ (by dsimp only; omega), Below.heap_setCell _ _ _ _ (by dsimp only; omega), Below.heap_setCell _ _ _ _ (by dsimp only; omega)]; exact G8.out.block j hj hne⟩)
 clear V8 Ka8 Kt8 Oa8 G8 Ot8 fo8
 go_upto_region 5 with fail
 generalize (((w8.setCell ⟨Q2, 0, none⟩ (.slice b4 L.length c4)).setCell ⟨Q2, 1, none⟩ (.slice b5 0 c5)).setCell ⟨Q2, 2, none⟩ (.int .i64 0)) = W at V Ka Kt Oa Ot G ⊢
 clear u0 u1 u2 uf hv6
 have hrQ1 : Q1 ≠ r := by omega
 have hrQ2 : Q2 ≠ r := by omega
 have z0 : W.cell? ⟨Q1, 0, none⟩ = some (.slice (some ⟨b1, 0, none⟩) X.length c1) := Ka.out.cell 0
 have z1 : W.cell? ⟨Q1, 1, none⟩ = _ := cRn (Ka.out.cell 1) rfl
 have z2 : W.cell? ⟨Q2, 0, none⟩ = _ := cRn (Kt.out.cell 0) rfl
 have z3 : W.cell? ⟨Q2, 1, none⟩ = _ := cRn (Kt.out.cell 1) rfl
 have z4 : W.cell? ⟨Q2, 2, none⟩ = _ := cRn (Kt.out.cell 2) rfl
 have y0 : W.cell? ⟨r, 0, none⟩ = _ := cRn (V.out.cell 0) rfl
 have y1 : W.cell? ⟨r, 1, none⟩ = _ := cRn (V.out.cell 1) rfl
 have y2 : W.cell? ⟨r, 2, none⟩ = _ := cRn (V.out.cell 2) rfl
 have y3 : W.cell? ⟨r, 3, none⟩ = _ := cRn (V.out.cell 3) rfl
 have y4 : W.cell? ⟨r, 4, none⟩ = _ := cRn (V.out.cell 4) rfl
 have yf (j) : W.frozen? ⟨r, j, none⟩ = false := V.out.var.froz j
 have q1 : ∀ (u : World) (i j : Nat) (v : Value), (u.setCell ⟨r, i, none⟩ v).cell? ⟨Q1, j, none⟩ = u.cell? ⟨Q1, j, none⟩ := fun u i j v => World.cell?_setCell_other _ _ _ _ (by intro e; injection e; omega)
 have q2 : ∀ (u : World) (i j : Nat) (v : Value), (u.setCell ⟨r, i, none⟩ v).cell? ⟨Q2, j, none⟩ = u.cell? ⟨Q2, j, none⟩ := fun u i j v => World.cell?_setCell_other _ _ _ _ (by intro e; injection e; omega)
 have OX := hI ((V.out.own.setA Oa.out hS1.out hB1.out.1 nx).setC (m := 0) Ot.out hS3.out hB3.out.1)
 have n0 : Hid (∀ g, (Value.slice (some ⟨b1, 0, none⟩) X.length c1).ownBlock = some g -> g ≠ r) := fun g hg => by have := (Oa.out.lt g hg).1; omega
 have n1 : Hid (∀ g, (Value.slice b4 L.length c4).ownBlock = some g -> g ≠ r) := fun g hg => by have := (Ot.out.1.lt g hg).1; have := hB3.out.2; omega
 have n2 : Hid (∀ g, (Value.slice b5 ([] : List Ce).length c5).ownBlock = some g -> g ≠ r) := fun g hg => by have := (Ot.out.2.1.lt g hg).1; have := hB3.out.2; omega
 have NX := hI (qcE (i := 2) (qcE (i := 1) (qcE (i := 0) V.out.ne n0.out) n1.out) n2.out)
 have VV := hI (VaH.put5 V.out OX.out NX.out)
 clear V OX NX Oa Ot Ka Kt hS1 hS3 hB1 hB3 n0 n1 n2
 go_region_held3 (fun w' => w'.cell? ⟨Q1, 0, none⟩ = some (.slice (some ⟨b1, 0, none⟩) X.length c1) /\ w'.cell? ⟨Q1, 1, none⟩ = some (.int .i64 nx) /\ w'.cell? ⟨Q2, 0, none⟩ = some (.slice b4 L.length c4) /\ w'.cell? ⟨Q2, 1, none⟩ = some (.slice b5 0 c5) /\ w'.cell? ⟨Q2, 2, none⟩ = some (.int .i64 0)) (simp only [World.cell?_drew, q1, q2, z0, z1, z2, z3, z4, and_self]) (fail)
 all_goals
  go_wp2
  refine bodyPost_end (results_none Tryz.results77 _ _ _) rfl ?_
  exact ⟨rfl, ⟨_, VV.out⟩, zbE (qbF (qbF (qbF (qbF (qbF G.out 0 _) 1 _) 2 _) 3 _) 4 _)⟩
theorem layI {w : World} {r B f : Nat} {A : NA} {N : Nr} {K : List ByteArray} (h : VaH w r B A N) (hl : SmN N) (hT : InT N.sl N.fr N.ce K) (hod : N.od = []) (hmv : N.mv = 0) (hn : K.Nodup) (hK : K.length + 2 <= N.ce.length) (hfr : N.fr = (f : Int)) (hf : f < N.sl.length) (k v : ByteArray) (hk : qcV k) (hk0 : k.toList ≠ []) (hkn : ¬ k ∈ K) (hv : v.size <= 20) :
  Calls Tryz.prog 77 #[.pointer (some ⟨r, 0, none⟩), .string k, .string v] w fun e w' => e = .returned (.tuple #[]) /\ ∃ A', VaH w' r B A' (qmK N k v) /\ w.grownBy w' (some r) := by
 have hok : OkT N.ce N.od N.mv := by rw [hod, hmv]; exact qcG.2 hT.tb
 have e : qmK N k v = { N with sl := N.sl.set f ⟨N.sl[f].gen, true, k, v, 0⟩, fr := N.sl[f].next, ce := layT N.ce k (24 * N.sl[f].gen + (f : Int)), od := [], mv := 0 } := by
  rw [qtB hfr hf k v, <- hod, <- hmv]
 rw [e]
 rcases qkN hT hn hK hk0 hkn (24 * N.sl[f].gen + (f : Int)) with h1 | ⟨h1, Y, h2, h3⟩
 ·exact zaZ h hl hok hT.ar hfr hf k v hk hv (by rw [hod, hmv]; exact h1)
 ·have hc := hT.clean h2
  have hY : Y.length <= 1048576 := by have := hc.tb.size; omega
  exact zeA h hl hok hT.ar hfr hf k v hk hv (by rw [hod, hmv]; exact h1) (by rw [hod]; exact h2) (qcG.2 hc.tb) hY h3
end Go.Proofs.YtigpjmmfelndkaaGreatDoor
