/- The statements' functions on councils: what reads the same is equal. -/
import Derived.Test.YtgehdgmllilmgaaYM
import Derived.Test.YtgehdgmllilmgaaYQ
import Derived.Deep.RegionHeld3
namespace Go.Proofs.Ytgehdgmllilmgaa
open Go.RowKit
set_option linter.unusedVariables false
variable {lo : Nat → Prop}

theorem rdZ_of {w : World} {a : Option Addr} {l : List Int} (h : RdG izE 1 w a l) : RdZ w a l := by
  intro i hi
  obtain ⟨b, o, h1, h2, h3⟩ := h i hi
  have := h3 0 (by omega)
  rw [Nat.mul_one] at this
  exact ⟨b, o, h1, h2, this⟩
theorem rdQ_of {w : World} {a : Option Addr} {l : List ByteArray} (h : RdG txE 1 w a l) : RdQ w a l := by
  intro i hi
  obtain ⟨b, o, h1, h2, h3⟩ := h i hi
  have := h3 0 (by omega)
  rw [Nat.mul_one] at this
  exact ⟨b, o, h1, h2, this⟩

set_option maxRecDepth 100000 in
set_option maxHeartbeats 1000000 in
theorem eqVoiceS_same (a b : Option Addr) (l : List Vo) (ca cb : Nat) (w : World) (hl : l.length ≤ 1048576) (ha : RdG voC 3 w a l) (hb : RdG voC 3 w b l) :
    Calls Try.prog 47 #[.slice a l.length ca, .slice b l.length cb] w fun e w' => e = .returned (.bool true) ∧ Below w.heap.size w w' := by
  have HA := hide1 ha
  have HB := hide1 hb
  clear ha hb
  have q0 : ((l.length : Int) != (l.length : Int)) = false := by simp
  go_enter Try.func47, Try.ntmps47
  go_wp2
  go_loopw [5] (fun iv wr => ∃ i : Nat, i ≤ l.length ∧ iv = .int .i64 (i : Int) ∧ Below w.heap.size w wr) (fun iv _ => l.length - (intOf iv).toNat)
  case atStart => exact ⟨0, by omega, rfl, Below.refl _ _⟩
  case round =>
    obtain ⟨i, hi, rfl, hbel⟩ := hrel
    by_cases hlt : i < l.length
    · have k1 : (i : Int) < (l.length : Int) := by omega
      obtain ⟨b1, o1, rfl, hg1, h1⟩ := HA.out i hlt
      obtain ⟨b2, o2, rfl, hg2, h2⟩ := HB.out i hlt
      have x0 : wr.cell? ⟨b1, o1 + i * 3, none⟩ = some (.int .i64 l[i].p) := (hbel.cell (p := ⟨b1, o1 + i * 3, none⟩) hg1).trans (h1 0 (by omega))
      have x1 : wr.cell? ⟨b1, o1 + i * 3 + 1, none⟩ = some (.int .i64 l[i].t) := (hbel.cell (p := ⟨b1, o1 + i * 3 + 1, none⟩) hg1).trans (h1 1 (by omega))
      have x2 : wr.cell? ⟨b1, o1 + i * 3 + 2, none⟩ = some (.string l[i].v) := (hbel.cell (p := ⟨b1, o1 + i * 3 + 2, none⟩) hg1).trans (h1 2 (by omega))
      have y0 : wr.cell? ⟨b2, o2 + i * 3, none⟩ = some (.int .i64 l[i].p) := (hbel.cell (p := ⟨b2, o2 + i * 3, none⟩) hg2).trans (h2 0 (by omega))
      have y1 : wr.cell? ⟨b2, o2 + i * 3 + 1, none⟩ = some (.int .i64 l[i].t) := (hbel.cell (p := ⟨b2, o2 + i * 3 + 1, none⟩) hg2).trans (h2 1 (by omega))
      have y2 : wr.cell? ⟨b2, o2 + i * 3 + 2, none⟩ = some (.string l[i].v) := (hbel.cell (p := ⟨b2, o2 + i * 3 + 2, none⟩) hg2).trans (h2 2 (by omega))
      have cc := hide1 (fun w => eqVoice_same l[i] w)
      have hw1 : b1 < wr.heap.size := Nat.lt_of_lt_of_le hg1 hbel.size
      have hw2 : b2 < wr.heap.size := Nat.lt_of_lt_of_le hg2 hbel.size
      clear h1 h2
      generalize l[i] = s at *
      unfold voV at cc
      go_wp2
      go_region_held3 (fun w' => w'.cell? ⟨b1, o1 + i * 3, none⟩ = some (.int .i64 s.p) ∧ w'.cell? ⟨b1, o1 + i * 3 + 1, none⟩ = some (.int .i64 s.t) ∧ w'.cell? ⟨b1, o1 + i * 3 + 2, none⟩ = some (.string s.v) ∧ w'.cell? ⟨b2, o2 + i * 3, none⟩ = some (.int .i64 s.p) ∧ w'.cell? ⟨b2, o2 + i * 3 + 1, none⟩ = some (.int .i64 s.t) ∧ w'.cell? ⟨b2, o2 + i * 3 + 2, none⟩ = some (.string s.v)) (first | go_keep | exact ⟨x0, x1, x2, y0, y1, y2⟩ | exact ⟨(hb2.cell hw1).trans x0, (hb2.cell hw1).trans x1, (hb2.cell hw1).trans x2, (hb2.cell hw2).trans y0, (hb2.cell hw2).trans y1, (hb2.cell hw2).trans y2⟩) ((go_at_call 82; refine (cc.out _).mono ?_; rintro e w2 ⟨rfl, hb2⟩))
      go_wp2
      go_roundw
      case rel => exact ⟨i + 1, by omega, by go_num, hbel.trans ((Below.refl _ _).drew.trans (hb2.mono hbel.size))⟩
      case measure => simp [intOf]; omega
    · go_wp2
      go_ret
      exact ⟨rfl, hbel⟩

/-- The rows of a try, read. -/
def TyR (w : World) (t : Tm) : Prop := RdG ntC 6 w t.pa t.y.ps ∧ RdG izE 1 w t.ka t.y.tk
theorem TyR.later {w w' : World} {t : Tm} (h : TyR w t) (hb : Below w.heap.size w w') : TyR w' t := ⟨h.1.later hb, h.2.later hb⟩
set_option maxRecDepth 100000 in
set_option maxHeartbeats 2000000 in
theorem eqTry_same (y : Ty) (t s : Tm) (w : World) (ht : t.y = y) (hs : s.y = y) (h1 : y.ps.length ≤ 1048576) (h2 : y.tk.length ≤ 1048576) (hT : TyR w t) (hS : TyR w s) :
    Calls Try.prog 83 #[.agg #[.int .i64 y.i, .int .i64 y.b, .string y.v, .slice t.pa y.ps.length t.pc, .bool y.as, .slice t.ka y.tk.length t.kc, .bool y.ch], .agg #[.int .i64 y.i, .int .i64 y.b, .string y.v, .slice s.pa y.ps.length s.pc, .bool y.as, .slice s.ka y.tk.length s.kc, .bool y.ch]] w fun e w' => e = .returned (.bool true) ∧ Below w.heap.size w w' := by
  unfold TyR at hT hS
  rw [ht] at hT
  rw [hs] at hS
  have F0 := hide1 (blkN2 w #[.int .i64 y.i, .int .i64 y.b, .string y.v, .slice t.pa y.ps.length t.pc, .bool y.as, .slice t.ka y.tk.length t.kc, .bool y.ch] #[.int .i64 y.i, .int .i64 y.b, .string y.v, .slice s.pa y.ps.length s.pc, .bool y.as, .slice s.ka y.tk.length s.kc, .bool y.ch] 47 47)
  have CN := hide1 (fun w' (h : Below w.heap.size w w') => eqNoteS_same t.pa s.pa y.ps t.pc s.pc w' h1 (rdN6_of_rdG (hT.1.later h)) (rdN6_of_rdG (hS.1.later h)))
  have CZ := hide1 (fun w' (h : Below w.heap.size w w') => eqIntS_own t.ka s.ka y.tk t.kc s.kc w' h2 (rdZ_of (hT.2.later h)) (rdZ_of (hS.2.later h)))
  clear hT hS ht hs
  have q1 : (y.i != y.i) = false := by simp
  have q2 : (y.b != y.b) = false := by simp
  obtain ⟨q3, q3'⟩ := tx_eq y.v
  have q4 : (y.as != y.as) = false := by simp
  have q5 : (y.ch != y.ch) = false := by simp
  go_enter Try.func83, Try.ntmps83
  go_wp2_with fail
  generalize ((w.alloc (.cells #[.int .i64 y.i, .int .i64 y.b, .string y.v, .slice t.pa y.ps.length t.pc, .bool y.as, .slice t.ka y.tk.length t.kc, .bool y.ch] 47)).alloc (.cells #[.int .i64 y.i, .int .i64 y.b, .string y.v, .slice s.pa y.ps.length s.pc, .bool y.as, .slice s.ka y.tk.length s.kc, .bool y.ch] 47)) = u at F0 ⊢
  refine (CN.out u F0.out.2.2).mono ?_
  rintro e w1 ⟨rfl, hb1⟩
  have K0 := hide1 (F0.out.1.below hb1 F0.out.1.lt)
  have K1 := hide1 (F0.out.2.1.below hb1 F0.out.2.1.lt)
  have B1 := hide1 (F0.out.2.2.trans (hb1.mono F0.out.2.2.size))
  clear hb1 F0 CN
  have x0 : w1.cell? ⟨w.heap.size, 0, none⟩ = some (.int .i64 y.i) := K0.out.cell 0
  have x1 : w1.cell? ⟨w.heap.size, 1, none⟩ = some (.int .i64 y.b) := K0.out.cell 1
  have x2 : w1.cell? ⟨w.heap.size, 2, none⟩ = some (.string y.v) := K0.out.cell 2
  have x3 : w1.cell? ⟨w.heap.size, 3, none⟩ = some (.slice t.pa y.ps.length t.pc) := K0.out.cell 3
  have x4 : w1.cell? ⟨w.heap.size, 4, none⟩ = some (.bool y.as) := K0.out.cell 4
  have x5 : w1.cell? ⟨w.heap.size, 5, none⟩ = some (.slice t.ka y.tk.length t.kc) := K0.out.cell 5
  have x6 : w1.cell? ⟨w.heap.size, 6, none⟩ = some (.bool y.ch) := K0.out.cell 6
  have y0 : w1.cell? ⟨w.heap.size + 1, 0, none⟩ = some (.int .i64 y.i) := K1.out.cell 0
  have y1 : w1.cell? ⟨w.heap.size + 1, 1, none⟩ = some (.int .i64 y.b) := K1.out.cell 1
  have y2 : w1.cell? ⟨w.heap.size + 1, 2, none⟩ = some (.string y.v) := K1.out.cell 2
  have y3 : w1.cell? ⟨w.heap.size + 1, 3, none⟩ = some (.slice s.pa y.ps.length s.pc) := K1.out.cell 3
  have y4 : w1.cell? ⟨w.heap.size + 1, 4, none⟩ = some (.bool y.as) := K1.out.cell 4
  have y5 : w1.cell? ⟨w.heap.size + 1, 5, none⟩ = some (.slice s.ka y.tk.length s.kc) := K1.out.cell 5
  have y6 : w1.cell? ⟨w.heap.size + 1, 6, none⟩ = some (.bool y.ch) := K1.out.cell 6
  go_wp2_with fail
  refine (CZ.out w1 B1.out).mono ?_
  rintro e w2 ⟨rfl, hb2⟩
  have B2 := hide1 (B1.out.trans (hb2.mono B1.out.size))
  clear x0 x1 x2 x3 x4 x5 x6 y0 y1 y2 y3 y4 y5 y6
  have x6 : w2.cell? ⟨w.heap.size, 6, none⟩ = some (.bool y.ch) := (K0.out.below hb2 K0.out.lt).cell 6
  have y6 : w2.cell? ⟨w.heap.size + 1, 6, none⟩ = some (.bool y.ch) := (K1.out.below hb2 K1.out.lt).cell 6
  clear hb2
  go_wp2
  go_ret
  exact ⟨rfl, B2.out⟩

set_option maxRecDepth 100000 in
set_option maxHeartbeats 4000000 in
theorem eqTryS_same (a b : Option Addr) (l : List Ty) (L M : List Tm) (ca cb : Nat) (w : World) (hl : l.length ≤ 1048576) (hL : L.map (·.y) = l) (hM : M.map (·.y) = l) (ha : RdG tmC 7 w a L) (hb : RdG tmC 7 w b M) (hT : ∀ t ∈ L, TyR w t) (hS : ∀ t ∈ M, TyR w t) (hz : ∀ y ∈ l, y.ps.length ≤ 1048576 ∧ y.tk.length ≤ 1048576) :
    Calls Try.prog 48 #[.slice a l.length ca, .slice b l.length cb] w fun e w' => e = .returned (.bool true) ∧ Below w.heap.size w w' := by
  have lL : L.length = l.length := by rw [← hL, List.length_map]
  have lM : M.length = l.length := by rw [← hM, List.length_map]
  have HL := hide1 lL
  have HM := hide1 lM
  have HA := hide1 ha
  have HB := hide1 hb
  have CC := hide1 (fun (i : Nat) (h : i < l.length) => (show ∃ t s : Tm, L[i]? = some t ∧ M[i]? = some s ∧ t.y = l[i] ∧ s.y = l[i] ∧ ∀ w', Below w.heap.size w w' → Calls Try.prog 83 #[.agg #[.int .i64 l[i].i, .int .i64 l[i].b, .string l[i].v, .slice t.pa l[i].ps.length t.pc, .bool l[i].as, .slice t.ka l[i].tk.length t.kc, .bool l[i].ch], .agg #[.int .i64 l[i].i, .int .i64 l[i].b, .string l[i].v, .slice s.pa l[i].ps.length s.pc, .bool l[i].as, .slice s.ka l[i].tk.length s.kc, .bool l[i].ch]] w' fun e w'' => e = .returned (.bool true) ∧ Below w'.heap.size w' w'' from by
    have e1 : (L[i]'(by omega)).y = l[i] := by have : (L.map (·.y))[i]'(by rw [List.length_map]; omega) = l[i] := by simp only [hL]
                                               rw [← this, List.getElem_map]
    have e2 : (M[i]'(by omega)).y = l[i] := by have : (M.map (·.y))[i]'(by rw [List.length_map]; omega) = l[i] := by simp only [hM]
                                               rw [← this, List.getElem_map]
    have z := hz l[i] (List.getElem_mem h)
    exact ⟨L[i]'(by omega), M[i]'(by omega), List.getElem?_eq_getElem _, List.getElem?_eq_getElem _, e1, e2, fun w' hw => eqTry_same l[i] _ _ w' e1 e2 z.1 z.2 ((hT _ (List.getElem_mem _)).later hw) ((hS _ (List.getElem_mem _)).later hw)⟩))
  clear ha hb hL hM lL lM hT hS hz
  have q0 : ((l.length : Int) != (l.length : Int)) = false := by simp
  go_enter Try.func48, Try.ntmps48
  go_wp2
  go_loopw [5] (fun iv wr => ∃ i : Nat, i ≤ l.length ∧ iv = .int .i64 (i : Int) ∧ Below w.heap.size w wr) (fun iv _ => l.length - (intOf iv).toNat)
  case atStart => exact ⟨0, by omega, rfl, Below.refl _ _⟩
  case round =>
    obtain ⟨i, hi, rfl, hbel⟩ := hrel
    by_cases hlt : i < l.length
    · have k1 : (i : Int) < (l.length : Int) := by omega
      obtain ⟨t, s, et, es, ey1, ey2, cc0⟩ := CC.out i hlt
      obtain ⟨b1, o1, rfl, hg1, h1⟩ := HA.out i (by rw [HL.out]; exact hlt)
      obtain ⟨b2, o2, rfl, hg2, h2⟩ := HB.out i (by rw [HM.out]; exact hlt)
      have e1 : L[i]'(by rw [HL.out]; exact hlt) = t := by rw [List.getElem?_eq_getElem (by rw [HL.out]; exact hlt)] at et; injection et
      have e2 : M[i]'(by rw [HM.out]; exact hlt) = s := by rw [List.getElem?_eq_getElem (by rw [HM.out]; exact hlt)] at es; injection es
      rw [e1] at h1
      rw [e2] at h2
      have cc := hide1 (cc0 wr.drew hbel.drew)
      unfold tmC at h1 h2
      rw [ey1] at h1
      rw [ey2] at h2
      clear et es e1 e2 ey1 ey2 cc0
      generalize l[i] = y at *
      have x0 : wr.cell? ⟨b1, o1 + i * 7, none⟩ = some (.int .i64 y.i) := (hbel.cell (p := ⟨b1, o1 + i * 7, none⟩) hg1).trans (h1 0 (by omega))
      have x1 : wr.cell? ⟨b1, o1 + i * 7 + 1, none⟩ = some (.int .i64 y.b) := (hbel.cell (p := ⟨b1, o1 + i * 7 + 1, none⟩) hg1).trans (h1 1 (by omega))
      have x2 : wr.cell? ⟨b1, o1 + i * 7 + 2, none⟩ = some (.string y.v) := (hbel.cell (p := ⟨b1, o1 + i * 7 + 2, none⟩) hg1).trans (h1 2 (by omega))
      have x3 : wr.cell? ⟨b1, o1 + i * 7 + 3, none⟩ = some (.slice t.pa y.ps.length t.pc) := (hbel.cell (p := ⟨b1, o1 + i * 7 + 3, none⟩) hg1).trans (h1 3 (by omega))
      have x4 : wr.cell? ⟨b1, o1 + i * 7 + 4, none⟩ = some (.bool y.as) := (hbel.cell (p := ⟨b1, o1 + i * 7 + 4, none⟩) hg1).trans (h1 4 (by omega))
      have x5 : wr.cell? ⟨b1, o1 + i * 7 + 5, none⟩ = some (.slice t.ka y.tk.length t.kc) := (hbel.cell (p := ⟨b1, o1 + i * 7 + 5, none⟩) hg1).trans (h1 5 (by omega))
      have x6 : wr.cell? ⟨b1, o1 + i * 7 + 6, none⟩ = some (.bool y.ch) := (hbel.cell (p := ⟨b1, o1 + i * 7 + 6, none⟩) hg1).trans (h1 6 (by omega))
      have y0 : wr.cell? ⟨b2, o2 + i * 7, none⟩ = some (.int .i64 y.i) := (hbel.cell (p := ⟨b2, o2 + i * 7, none⟩) hg2).trans (h2 0 (by omega))
      have y1 : wr.cell? ⟨b2, o2 + i * 7 + 1, none⟩ = some (.int .i64 y.b) := (hbel.cell (p := ⟨b2, o2 + i * 7 + 1, none⟩) hg2).trans (h2 1 (by omega))
      have y2 : wr.cell? ⟨b2, o2 + i * 7 + 2, none⟩ = some (.string y.v) := (hbel.cell (p := ⟨b2, o2 + i * 7 + 2, none⟩) hg2).trans (h2 2 (by omega))
      have y3 : wr.cell? ⟨b2, o2 + i * 7 + 3, none⟩ = some (.slice s.pa y.ps.length s.pc) := (hbel.cell (p := ⟨b2, o2 + i * 7 + 3, none⟩) hg2).trans (h2 3 (by omega))
      have y4 : wr.cell? ⟨b2, o2 + i * 7 + 4, none⟩ = some (.bool y.as) := (hbel.cell (p := ⟨b2, o2 + i * 7 + 4, none⟩) hg2).trans (h2 4 (by omega))
      have y5 : wr.cell? ⟨b2, o2 + i * 7 + 5, none⟩ = some (.slice s.ka y.tk.length s.kc) := (hbel.cell (p := ⟨b2, o2 + i * 7 + 5, none⟩) hg2).trans (h2 5 (by omega))
      have y6 : wr.cell? ⟨b2, o2 + i * 7 + 6, none⟩ = some (.bool y.ch) := (hbel.cell (p := ⟨b2, o2 + i * 7 + 6, none⟩) hg2).trans (h2 6 (by omega))
      have hw1 : b1 < wr.heap.size := Nat.lt_of_lt_of_le hg1 hbel.size
      have hw2 : b2 < wr.heap.size := Nat.lt_of_lt_of_le hg2 hbel.size
      clear h1 h2
      go_wp2
      go_region_held3 (fun w' => w'.cell? ⟨b1, o1 + i * 7, none⟩ = some (.int .i64 y.i) ∧ w'.cell? ⟨b1, o1 + i * 7 + 1, none⟩ = some (.int .i64 y.b) ∧ w'.cell? ⟨b1, o1 + i * 7 + 2, none⟩ = some (.string y.v) ∧ w'.cell? ⟨b1, o1 + i * 7 + 3, none⟩ = some (.slice t.pa y.ps.length t.pc) ∧ w'.cell? ⟨b1, o1 + i * 7 + 4, none⟩ = some (.bool y.as) ∧ w'.cell? ⟨b1, o1 + i * 7 + 5, none⟩ = some (.slice t.ka y.tk.length t.kc) ∧ w'.cell? ⟨b1, o1 + i * 7 + 6, none⟩ = some (.bool y.ch) ∧ w'.cell? ⟨b2, o2 + i * 7, none⟩ = some (.int .i64 y.i) ∧ w'.cell? ⟨b2, o2 + i * 7 + 1, none⟩ = some (.int .i64 y.b) ∧ w'.cell? ⟨b2, o2 + i * 7 + 2, none⟩ = some (.string y.v) ∧ w'.cell? ⟨b2, o2 + i * 7 + 3, none⟩ = some (.slice s.pa y.ps.length s.pc) ∧ w'.cell? ⟨b2, o2 + i * 7 + 4, none⟩ = some (.bool y.as) ∧ w'.cell? ⟨b2, o2 + i * 7 + 5, none⟩ = some (.slice s.ka y.tk.length s.kc) ∧ w'.cell? ⟨b2, o2 + i * 7 + 6, none⟩ = some (.bool y.ch)) (first | go_keep | exact ⟨x0, x1, x2, x3, x4, x5, x6, y0, y1, y2, y3, y4, y5, y6⟩ | exact ⟨(hb2.cell hw1).trans x0, (hb2.cell hw1).trans x1, (hb2.cell hw1).trans x2, (hb2.cell hw1).trans x3, (hb2.cell hw1).trans x4, (hb2.cell hw1).trans x5, (hb2.cell hw1).trans x6, (hb2.cell hw2).trans y0, (hb2.cell hw2).trans y1, (hb2.cell hw2).trans y2, (hb2.cell hw2).trans y3, (hb2.cell hw2).trans y4, (hb2.cell hw2).trans y5, (hb2.cell hw2).trans y6⟩) ((go_at_call 83; refine cc.out.mono ?_; rintro e w2 ⟨rfl, hb2⟩))
      go_wp2
      go_roundw
      case rel => exact ⟨i + 1, by omega, by go_num, hbel.trans ((Below.refl _ _).drew.trans (hb2.mono hbel.size))⟩
      case measure => simp [intOf]; omega
    · go_wp2
      go_ret
      exact ⟨rfl, hbel⟩

/-- What a council asks to be looked at whole. -/
structure Sm12 (c : Cn) : Prop where
  v : c.vs.length ≤ 1048576
  t : c.ts.length ≤ 1048576
  n : c.ns.length ≤ 1048576
  h : c.ch.length ≤ 1048576
  r : ∀ y ∈ c.ts, y.ps.length ≤ 1048576 ∧ y.tk.length ≤ 1048576
set_option maxRecDepth 100000 in
set_option maxHeartbeats 4000000 in
theorem eqCouncil_same (c : Cn) (A M : CA) (B D : Nat) (lo' : Nat → Prop) (w : World) (hs : Sm12 c) (ha : RdC12 lo w B A c) (hb : RdC12 lo' w D M c) :
    Calls Try.prog 24 #[.agg #[.slice A.va c.vs.length A.vc, .slice A.ta c.ts.length A.tc, .slice A.na c.ns.length A.nc, .slice A.ca c.ch.length A.cc], .agg #[.slice M.va c.vs.length M.vc, .slice M.ta c.ts.length M.tc, .slice M.na c.ns.length M.nc, .slice M.ca c.ch.length M.cc]] w fun e w' => e = .returned (.bool true) ∧ Below w.heap.size w w' := by
  have F0 := hide1 (blkN2 w #[.slice A.va c.vs.length A.vc, .slice A.ta c.ts.length A.tc, .slice A.na c.ns.length A.nc, .slice A.ca c.ch.length A.cc] #[.slice M.va c.vs.length M.vc, .slice M.ta c.ts.length M.tc, .slice M.na c.ns.length M.nc, .slice M.ca c.ch.length M.cc] 32 32)
  have C0 := hide1 (fun w' (h : Below w.heap.size w w') => eqVoiceS_same A.va M.va c.vs A.vc M.vc w' hs.v (ha.v.later h) (hb.v.later h))
  have C1 := hide1 (fun w' (h : Below w.heap.size w w') => eqTryS_same A.ta M.ta c.ts A.L M.L A.tc M.tc w' hs.t ha.e hb.e (ha.t.later h) (hb.t.later h) (fun t ht => ⟨(ha.r t ht).1.later h, (ha.r t ht).2.2.1.later h⟩) (fun t ht => ⟨(hb.r t ht).1.later h, (hb.r t ht).2.2.1.later h⟩) hs.r)
  have C2 := hide1 (fun w' (h : Below w.heap.size w w') => eqNoteS_same A.na M.na c.ns A.nc M.nc w' hs.n (rdN6_of_rdG (ha.n.later h)) (rdN6_of_rdG (hb.n.later h)))
  have C3 := hide1 (fun w' (h : Below w.heap.size w w') => (show Calls Try.prog 50 #[.slice A.ca c.ch.length A.cc, .slice M.ca c.ch.length M.cc] w' fun e w'' => e = .returned (.bool true) ∧ Below w'.heap.size w' w'' from (eqTextS_any A.ca M.ca c.ch c.ch A.cc M.cc w' hs.h (rdQ_of (ha.c.later h)) (rdQ_of (hb.c.later h))).mono (by rintro e w'' ⟨x, rfl, hx, hb⟩; exact ⟨by rw [hx.2 rfl], hb⟩)))
  clear ha hb hs
  go_enter Try.func24, Try.ntmps24
  go_wp2_with fail
  generalize ((w.alloc (.cells #[.slice A.va c.vs.length A.vc, .slice A.ta c.ts.length A.tc, .slice A.na c.ns.length A.nc, .slice A.ca c.ch.length A.cc] 32)).alloc (.cells #[.slice M.va c.vs.length M.vc, .slice M.ta c.ts.length M.tc, .slice M.na c.ns.length M.nc, .slice M.ca c.ch.length M.cc] 32)) = u at F0 ⊢
  have K0 := hide1 F0.out.1
  have K1 := hide1 F0.out.2.1
  have B0 := hide1 F0.out.2.2
  clear F0
  refine (C0.out u B0.out).mono ?_
  rintro e w1 ⟨rfl, hb1⟩
  have L0 := hide1 (K0.out.below hb1 K0.out.lt)
  have L1 := hide1 (K1.out.below hb1 K1.out.lt)
  have B1 := hide1 (B0.out.trans (hb1.mono B0.out.size))
  clear K0 K1 hb1 B0
  have K0 := hide1 L0.out
  have K1 := hide1 L1.out
  clear L0 L1
  have x1 : w1.cell? ⟨w.heap.size, 1, none⟩ = some (.slice A.ta c.ts.length A.tc) := K0.out.cell 1
  have y1 : w1.cell? ⟨w.heap.size + 1, 1, none⟩ = some (.slice M.ta c.ts.length M.tc) := K1.out.cell 1
  go_wp2_with fail
  refine (C1.out w1 B1.out).mono ?_
  rintro e w2 ⟨rfl, hb2⟩
  clear x1 y1
  have L0 := hide1 (K0.out.below hb2 K0.out.lt)
  have L1 := hide1 (K1.out.below hb2 K1.out.lt)
  have B2 := hide1 (B1.out.trans (hb2.mono B1.out.size))
  clear K0 K1 hb2 B1
  have K0 := hide1 L0.out
  have K1 := hide1 L1.out
  clear L0 L1
  have x2 : w2.cell? ⟨w.heap.size, 2, none⟩ = some (.slice A.na c.ns.length A.nc) := K0.out.cell 2
  have y2 : w2.cell? ⟨w.heap.size + 1, 2, none⟩ = some (.slice M.na c.ns.length M.nc) := K1.out.cell 2
  go_wp2_with fail
  refine (C2.out w2 B2.out).mono ?_
  rintro e w3 ⟨rfl, hb3⟩
  clear x2 y2
  have L0 := hide1 (K0.out.below hb3 K0.out.lt)
  have L1 := hide1 (K1.out.below hb3 K1.out.lt)
  have B3 := hide1 (B2.out.trans (hb3.mono B2.out.size))
  clear K0 K1 hb3 B2
  have K0 := hide1 L0.out
  have K1 := hide1 L1.out
  clear L0 L1
  have x3 : w3.cell? ⟨w.heap.size, 3, none⟩ = some (.slice A.ca c.ch.length A.cc) := K0.out.cell 3
  have y3 : w3.cell? ⟨w.heap.size + 1, 3, none⟩ = some (.slice M.ca c.ch.length M.cc) := K1.out.cell 3
  go_wp2_with fail
  refine (C3.out w3 B3.out).mono ?_
  rintro e w4 ⟨rfl, hb4⟩
  clear x3 y3
  have B4 := hide1 (B3.out.trans (hb4.mono B3.out.size))
  go_wp2
  go_ret
  exact ⟨rfl, B4.out⟩
end Go.Proofs.Ytgehdgmllilmgaa
