import Derived.Test.YtigpjmmfelndkaaGreatDoorLXV
import Derived.Test.YtigpjmmfelndkaaGreatDoorLXQK
namespace Go.Proofs.YtigpjmmfelndkaaGreatDoor
open Go.RowKit
set_option maxRecDepth 100000
set_option maxHeartbeats 8000000
theorem qsK {L : List Value} {i : Nat} {u : Value} {S : Nat} (h : L.Pairwise (fun u v => ∀ g, u.ownBlock = some g -> v.ownBlock ≠ some g)) (hS : ∀ v ∈ L, ∀ g, v.ownBlock = some g -> g < S) (hu : ∀ g, u.ownBlock = some g -> S <= g) : (L.set i u).Pairwise (fun u v => ∀ g, u.ownBlock = some g -> v.ownBlock ≠ some g) := by
 rw [List.pairwise_iff_getElem] at h ⊢
 intro a b ha hb hab g hg e
 rw [List.length_set] at ha hb
 by_cases h1 : i = a
 ·subst h1
  rw [List.getElem_set_self] at hg
  rw [List.getElem_set_ne (by omega)] at e
  have := hu g hg
  have := hS _ (List.getElem_mem hb) g e
  omega
 ·rw [List.getElem_set_ne h1] at hg
  by_cases h2 : i = b
  ·subst h2
   rw [List.getElem_set_self] at e
   have := hu g e
   have := hS _ (List.getElem_mem ha) g hg
   omega
  ·rw [List.getElem_set_ne h2] at e
   exact h a b ha hb hab g hg e
theorem OwnN.below_of {w : World} {B : Nat} {A : NA} {N : Nr} (h : OwnN w B A N) {S : Nat} (hS : w.heap.size <= S) : ∀ v ∈ vlN A N, ∀ g, v.ownBlock = some g -> g < S := fun v hv g hg => by have := (h.lt v hv g hg).2; omega
theorem OwnN.setK {w : World} {B S c : Nat} {A : NA} {N : Nr} {b : Option Addr} {l : List Int} (h : OwnN w B A N) (ho : OwnK w S b c l) (hS : ∀ v ∈ vlN A N, ∀ g, v.ownBlock = some g -> g < S) (hB : B <= S) (ad dr : Int) : OwnN w B { A with k := b, kc := c } { N with sk := l, ad := ad, dr := dr } :=
 ⟨h.fa, h.fc, h.fo, h.fw, h.ft, h.fs, ho.base hB, qsK (i := 6) h.ap hS (fun g hg => (ho.lt g hg).1)⟩
theorem OwnN.setW {w : World} {B S c : Nat} {A : NA} {N : Nr} {b : Option Addr} {l : List ByteArray} (h : OwnN w B A N) (ho : OwnQ w S b c l) (hS : ∀ v ∈ vlN A N, ∀ g, v.ownBlock = some g -> g < S) (hB : B <= S) (m : Int) : OwnN w B { A with w := b, wc := c } { N with w := l, wm := m } :=
 ⟨h.fa, h.fc, h.fo, ho.base hB, h.ft, h.fs, h.fk, qsK (i := 3) h.ap hS (fun g hg => (ho.lt g hg).1)⟩
theorem OwnN.setT {w : World} {B S c : Nat} {A : NA} {N : Nr} {b : Option Addr} {l : List ByteArray} (h : OwnN w B A N) (ho : OwnQ w S b c l) (hS : ∀ v ∈ vlN A N, ∀ g, v.ownBlock = some g -> g < S) (hB : B <= S) (m : Int) : OwnN w B { A with t := b, tc := c } { N with t := l, tm := m } :=
 ⟨h.fa, h.fc, h.fo, h.fw, ho.base hB, h.fs, h.fk, qsK (i := 4) h.ap hS (fun g hg => (ho.lt g hg).1)⟩
theorem OwnN.setS {w : World} {B S c : Nat} {A : NA} {N : Nr} {b : Option Addr} {l : List ByteArray} (h : OwnN w B A N) (ho : OwnQ w S b c l) (hS : ∀ v ∈ vlN A N, ∀ g, v.ownBlock = some g -> g < S) (hB : B <= S) (m : Int) : OwnN w B { A with s := b, sc := c } { N with s := l, sm := m } :=
 ⟨h.fa, h.fc, h.fo, h.fw, h.ft, ho.base hB, h.fk, qsK (i := 5) h.ap hS (fun g hg => (ho.lt g hg).1)⟩
theorem OwnN.setA {w : World} {B S c : Nat} {A : NA} {N : Nr} {b : Option Addr} {l : List Sl} (h : OwnN w B A N) (ho : w.ownsRow S 99 5 (.slice b l.length c) l.length (sls l)) (hS : ∀ v ∈ vlN A N, ∀ g, v.ownBlock = some g -> g < S) (hB : B <= S) (f : Int) : OwnN w B { A with a := b, ac := c } { N with sl := l, fr := f } :=
 ⟨qaB ho hB, h.fc, h.fo, h.fw, h.ft, h.fs, h.fk, qsK (i := 0) h.ap hS (fun g hg => (ho.lt g hg).1)⟩
theorem OwnN.setC {w : World} {B S c c' : Nat} {A : NA} {N : Nr} {b b' : Option Addr} {l l' : List Ce} (h : OwnN w B A N) (ho : Own2 w S b c l b' c' l') (hS : ∀ v ∈ vlN A N, ∀ g, v.ownBlock = some g -> g < S) (hB : B <= S) (m : Int) : OwnN w B { A with c := b, cc := c, o := b', oc := c' } { N with ce := l, od := l', mv := m } := by
 refine ⟨h.fa, qaB ho.1 hB, qaB ho.2.1 hB, h.fw, h.ft, h.fs, h.fk, ?_⟩
 have h1 := List.pairwise_iff_getElem.1 h.ap
 rw [List.pairwise_iff_getElem]
 have e : vlN { A with c := b, cc := c, o := b', oc := c' } { N with ce := l, od := l', mv := m } = ((vlN A N).set 1 (.slice b l.length c)).set 2 (.slice b' l'.length c') := rfl
 rw [e]
 intro i j hi hj hij g hg e2
 rw [List.length_set, List.length_set] at hi hj
 have n1 : ∀ g, (Value.slice b l.length c).ownBlock = some g -> S <= g := fun g hg => (ho.1.lt g hg).1
 have n2 : ∀ g, (Value.slice b' l'.length c').ownBlock = some g -> S <= g := fun g hg => (ho.2.1.lt g hg).1
 by_cases i2 : 2 = i
 ·subst i2
  rw [List.getElem_set_self] at hg
  rw [List.getElem_set_ne (by omega), List.getElem_set_ne (by omega)] at e2
  have := n2 g hg
  have := hS _ (List.getElem_mem hj) g e2
  omega
 ·rw [List.getElem_set_ne i2] at hg
  by_cases j2 : 2 = j
  ·subst j2
   rw [List.getElem_set_self] at e2
   by_cases i1 : 1 = i
   ·subst i1
    rw [List.getElem_set_self] at hg
    exact ho.2.2 g hg e2
   ·rw [List.getElem_set_ne i1] at hg
    have := n2 g e2
    have := hS _ (List.getElem_mem hi) g hg
    omega
  ·rw [List.getElem_set_ne j2] at e2
   by_cases i1 : 1 = i
   ·subst i1
    rw [List.getElem_set_self] at hg
    rw [List.getElem_set_ne (by omega)] at e2
    have := n1 g hg
    have := hS _ (List.getElem_mem hj) g e2
    omega
   ·rw [List.getElem_set_ne i1] at hg
    by_cases j1 : 1 = j
    ·subst j1
     rw [List.getElem_set_self] at e2
     have := n1 g e2
     have := hS _ (List.getElem_mem hi) g hg
     omega
    ·rw [List.getElem_set_ne j1] at e2
     exact h1 i j hi hj hij g hg e2
structure VaN (w : World) (r B : Nat) (A : NA) (N : Nr) : Prop where
 var : Blk w r 39 (neC A N)
 own : OwnN w B A N
 ne : ∀ v ∈ vlN A N, ∀ g, v.ownBlock = some g -> g ≠ r
 le : B <= w.heap.size /\ r < w.heap.size
theorem OwnN.off {w : World} {B : Nat} {A : NA} {N : Nr} (h : OwnN w B A N) (a : Addr) (u : Value) (hb : ∀ v ∈ vlN A N, ∀ k, v.ownBlock = some k -> k ≠ a.block) : OwnN (w.setCell a u) B A N :=
 ⟨qaA h.fa _ _ (hb _ (by simp [vlN])), qaA h.fc _ _ (hb _ (by simp [vlN])), qaA h.fo _ _ (hb _ (by simp [vlN])), qaA h.fw _ _ (hb _ (by simp [vlN])), qaA h.ft _ _ (hb _ (by simp [vlN])), qaA h.fs _ _ (hb _ (by simp [vlN])), qaA h.fk _ _ (hb _ (by simp [vlN])), h.ap⟩
theorem qcE {L : List Value} {i r : Nat} {u : Value} (h : ∀ v ∈ L, ∀ g, v.ownBlock = some g -> g ≠ r) (hu : ∀ g, u.ownBlock = some g -> g ≠ r) : ∀ v ∈ L.set i u, ∀ g, v.ownBlock = some g -> g ≠ r := by
 intro v hv
 rcases List.mem_or_eq_of_mem_set hv with h1 | rfl
 ·exact h v h1
 ·exact hu
theorem VaN.later {w w' : World} {r B : Nat} {A : NA} {N : Nr} (h : VaN w r B A N) (hb : Below w.heap.size w w') : VaN w' r B A N := ⟨h.var.below hb h.var.lt, h.own.later hb, h.ne, Nat.le_trans h.le.1 hb.size, Nat.lt_of_lt_of_le h.le.2 hb.size⟩
theorem VaN.cell {w : World} {r B : Nat} {A : NA} {N : Nr} (h : VaN w r B A N) (j : Nat) : w.cell? ⟨r, j, none⟩ = (neC A N)[j]? := h.var.cell j
theorem qeA {w : World} {r B : Nat} {A : NA} {N : Nr} (h : VaN w r B A N) (hl : SmN N) (k : ByteArray) (hk : k.size <= 1048576) :
  Calls Tryz.prog 38 #[.pointer (some ⟨r, 0, none⟩), .string k] w fun e w' => e = .returned (.tuple #[]) /\ ∃ A', VaN w' r B A' (cnN N k) /\ w.grownBy w' (some r) := by
 have CS := hI (fun w' => qjI N.dr k hk w')
 have CK := hI (fun w' => qpX N.dr k hk w')
 have CC := hI (fun w' (hb : Below w.heap.size w w') => qnU A.k N.sk A.kc N.ad k w' hk hl.fk ((h.own.later hb).fk.rd))
 unfold skV at CC
 have H := hI h
 have hrl := h.var.lt
 clear h hl
 have x13 : w.cell? ⟨r, 13, none⟩ = _ := cRn (H.out.cell 13) rfl
 go_enter Tryz.func38, Tryz.ntmps38
 go_wp2_with fail
 refine (CS.out w).mono ?_
 rintro e w1 ⟨rfl, hb1⟩
 have H1 := hI (H.out.later hb1)
 have B1 := hI hb1
 clear hb1 CS x13
 rcases hq : qhD N.dr k with _ | _
 ·have HN := hI (show cnN N k = { N with dr := qeP N.dr k } by unfold cnN; rw [hq]; rfl)
  have x13 : w1.cell? ⟨r, 13, none⟩ = _ := cRn (H1.out.cell 13) rfl
  clear hq CC
  go_wp2_with fail
  refine (CK.out w1).mono ?_
  rintro e w2 ⟨rfl, hb2⟩
  have H2 := hI (H1.out.later hb2)
  have B2 := tRn B1 hb2
  clear hb2 CK x13
  have y13 : w2.cell? ⟨r, 13, none⟩ = _ := cRn (H2.out.cell 13) rfl
  have yf (j) : w2.frozen? ⟨r, j, none⟩ = false := H2.out.var.froz j
  generalize qeP N.dr k = d at *
  go_wp2
  refine bodyPost_ret (results_none Tryz.results38 _ _ _) rfl ?_
  refine ⟨rfl, A, ?_, qbF (qbO B2.out) 13 _⟩
  rw [HN.out]
  exact ⟨Blk.set H2.out.var 13 (.int .i64 d), H2.out.own.off _ _ H2.out.ne |> fun o => ⟨o.fa, o.fc, o.fo, o.fw, o.ft, o.fs, o.fk, o.ap⟩, H2.out.ne, by simpa using H2.out.le⟩
 ·obtain ⟨R, hR⟩ : ∃ R, cntR N.sk N.ad k = R := ⟨_, rfl⟩
  obtain ⟨l, ad⟩ := R
  have HN := hI (show cnN N k = { N with sk := l, ad := ad, dr := if ad = 0 then 0 else N.dr } by unfold cnN; rw [hq, hR]; rfl)
  rw [hR] at CC
  have x11 : w1.cell? ⟨r, 11, none⟩ = _ := cRn (H1.out.cell 11) rfl
  have x12 : w1.cell? ⟨r, 12, none⟩ = _ := cRn (H1.out.cell 12) rfl
  clear hq CK hR
  go_wp2_with fail
  refine (CC.out w1 B1.out).mono ?_
  rintro e w2 ⟨b, c, rfl, ho, hb2⟩
  have H2 := hI (H1.out.later hb2)
  have B2 := tRn B1 hb2
  have hS := hI (show ∀ v ∈ vlN A N, ∀ g, v.ownBlock = some g -> g < w1.heap.size from H1.out.own.below_of (Nat.le_refl _))
  have hBS := H1.out.le.1
  have hrl1 : r < w1.heap.size := H1.out.var.lt
  have O2 : Hid (OwnK w2 w1.heap.size b c l) := ho
  clear hb2 ho CC x11 x12
  have y11 : w2.cell? ⟨r, 11, none⟩ = _ := cRn (H2.out.cell 11) rfl
  have y12 : w2.cell? ⟨r, 12, none⟩ = _ := cRn (H2.out.cell 12) rfl
  have y13 : w2.cell? ⟨r, 13, none⟩ = _ := cRn (H2.out.cell 13) rfl
  have yf (j) : w2.frozen? ⟨r, j, none⟩ = false := H2.out.var.froz j
  have OK : Hid (∀ v u, OwnK ((w2.setCell ⟨r, 11, none⟩ v).setCell ⟨r, 12, none⟩ u) w1.heap.size b c l) := fun v u => qaA (qaA O2.out _ _ (fun g hg => by have := (O2.out.lt g hg).1; dsimp only; omega)) _ _ (fun g hg => by have := (O2.out.lt g hg).1; dsimp only; omega)
  by_cases h0 : ad = 0
  ·have q0 : (ad == 0) = true := by simp [h0]
   have HZ := hI h0
   clear h0
   unfold skV
   dsimp only
   go_wp2
   refine bodyPost_end (results_none Tryz.results38 _ _ _) rfl ?_
   refine ⟨rfl, { A with k := b, kc := c }, ?_, qbF (qbF (qbF (qbO B2.out) 11 _) 12 _) 13 _⟩
   rw [HN.out, if_pos HZ.out]
   have hne2 : ∀ v ∈ vlN { A with k := b, kc := c } { N with sk := l, ad := ad, dr := 0 }, ∀ g, v.ownBlock = some g -> g ≠ r := qcE (i := 6) H2.out.ne (fun g hg => by have := (O2.out.lt g hg).1; omega)
   refine ⟨Blk.set (Blk.set (Blk.set H2.out.var 11 _) 12 _) 13 _, ?_, hne2, by simpa using H2.out.le⟩
   have o1 := ((H2.out.own.off ⟨r, 11, none⟩ (.slice b l.length c) H2.out.ne).off ⟨r, 12, none⟩ (.int .i64 ad) H2.out.ne)
   exact (o1.setK (OK.out _ _) hS.out hBS ad 0).off ⟨r, 13, none⟩ (.int .i64 0) hne2
  ·have q0 : (ad == 0) = false := by simpa using h0
   have HZ := hI h0
   clear h0
   unfold skV
   dsimp only
   go_wp2
   refine bodyPost_end (results_none Tryz.results38 _ _ _) rfl ?_
   refine ⟨rfl, { A with k := b, kc := c }, ?_, qbF (qbF (qbO B2.out) 11 _) 12 _⟩
   rw [HN.out, if_neg HZ.out]
   refine ⟨Blk.set (Blk.set H2.out.var 11 _) 12 _, ?_, qcE (i := 6) H2.out.ne (fun g hg => by have := (O2.out.lt g hg).1; omega), by simpa using H2.out.le⟩
   have o1 := ((H2.out.own.off ⟨r, 11, none⟩ (.slice b l.length c) H2.out.ne).off ⟨r, 12, none⟩ (.int .i64 ad) H2.out.ne)
   exact o1.setK (OK.out _ _) hS.out hBS ad N.dr
theorem qfG {w : World} {S c r i j : Nat} {b : Option Addr} {l : List ByteArray} (ho : OwnQ w S b c l) (hr : r < S) (u v : Value) : OwnQ ((w.setCell ⟨r, i, none⟩ u).setCell ⟨r, j, none⟩ v) S b c l :=
 qaA (qaA ho _ _ (fun g hg => by have := (ho.lt g hg).1; dsimp only; omega)) _ _ (fun g hg => by have := (ho.lt g hg).1; dsimp only; omega)
theorem VaN.putW {w : World} {r B S c : Nat} {A : NA} {N : Nr} {b : Option Addr} {l : List ByteArray} {m : Int} (h : VaN w r B A N) (ho : OwnQ w S b c l) (hS : ∀ v ∈ vlN A N, ∀ g, v.ownBlock = some g -> g < S) (hB : B <= S /\ r < S) : VaN ((w.setCell ⟨r, 5, none⟩ (.int .i64 m)).setCell ⟨r, 6, none⟩ (.slice b l.length c)) r B { A with w := b, wc := c } { N with w := l, wm := m } :=
 ⟨Blk.set (Blk.set h.var 5 _) 6 _, ((h.own.off _ _ h.ne).off _ _ h.ne).setW (qfG ho hB.2 _ _) hS hB.1 m, qcE (i := 3) h.ne (fun g hg => by have := (ho.lt g hg).1; have := hB.2; omega), by simpa using h.le⟩
theorem VaN.putT {w : World} {r B S c : Nat} {A : NA} {N : Nr} {b : Option Addr} {l : List ByteArray} {m : Int} (h : VaN w r B A N) (ho : OwnQ w S b c l) (hS : ∀ v ∈ vlN A N, ∀ g, v.ownBlock = some g -> g < S) (hB : B <= S /\ r < S) : VaN ((w.setCell ⟨r, 7, none⟩ (.int .i64 m)).setCell ⟨r, 8, none⟩ (.slice b l.length c)) r B { A with t := b, tc := c } { N with t := l, tm := m } :=
 ⟨Blk.set (Blk.set h.var 7 _) 8 _, ((h.own.off _ _ h.ne).off _ _ h.ne).setT (qfG ho hB.2 _ _) hS hB.1 m, qcE (i := 4) h.ne (fun g hg => by have := (ho.lt g hg).1; have := hB.2; omega), by simpa using h.le⟩
theorem VaN.putS {w : World} {r B S c : Nat} {A : NA} {N : Nr} {b : Option Addr} {l : List ByteArray} {m : Int} (h : VaN w r B A N) (ho : OwnQ w S b c l) (hS : ∀ v ∈ vlN A N, ∀ g, v.ownBlock = some g -> g < S) (hB : B <= S /\ r < S) : VaN ((w.setCell ⟨r, 9, none⟩ (.int .i64 m)).setCell ⟨r, 10, none⟩ (.slice b l.length c)) r B { A with s := b, sc := c } { N with s := l, sm := m } :=
 ⟨Blk.set (Blk.set h.var 9 _) 10 _, ((h.own.off _ _ h.ne).off _ _ h.ne).setS (qfG ho hB.2 _ _) hS hB.1 m, qcE (i := 5) h.ne (fun g hg => by have := (ho.lt g hg).1; have := hB.2; omega), by simpa using h.le⟩
theorem VaN.far {w : World} {r B q : Nat} {A : NA} {N : Nr} (h : VaN w r B A N) (hq : w.heap.size <= q ∨ (q ≠ r /\ ∀ v ∈ vlN A N, ∀ g, v.ownBlock = some g -> g ≠ q)) (j : Nat) (u : Value) : VaN (w.setCell ⟨q, j, none⟩ u) r B A N := by
 have hqr : r ≠ q := by
  rcases hq with h1 | h1
  ·have := h.var.lt; omega
  ·exact fun e => h1.1 e.symm
 have hb : ∀ v ∈ vlN A N, ∀ k, v.ownBlock = some k -> k ≠ q := fun v hv k hk => by
  rcases hq with h1 | h1
  ·have := (h.own.lt v hv k hk).2; omega
  ·exact h1.2 v hv k hk
 exact ⟨h.var.far _ _ hqr, ⟨qaA h.own.fa _ _ (hb _ (by simp [vlN])), qaA h.own.fc _ _ (hb _ (by simp [vlN])), qaA h.own.fo _ _ (hb _ (by simp [vlN])), qaA h.own.fw _ _ (hb _ (by simp [vlN])), qaA h.own.ft _ _ (hb _ (by simp [vlN])), qaA h.own.fs _ _ (hb _ (by simp [vlN])), qaA h.own.fk _ _ (hb _ (by simp [vlN])), h.own.ap⟩, h.ne, by simpa using h.le⟩
theorem qpK {w : World} {r B : Nat} {A : NA} {N : Nr} (h : VaN w r B A N) (hN : InN N) (hl : SmN N) (k : ByteArray) (hin : k ∈ N.w) :
  Calls Tryz.prog 43 #[.pointer (some ⟨r, 0, none⟩), .string k] w fun e w' => e = .returned (.tuple #[]) /\ ∃ A', VaN w' r B A' (qdR N k) /\ w.grownBy w' (some r) := by
 have H := hI h
 have HI := hI hN
 have s4 := hl.fw
 have s5 := hl.ft
 have s6 := hl.fs
 clear h hN hl
 have x5 : w.cell? ⟨r, 5, none⟩ = _ := cRn (H.out.cell 5) rfl
 have x6 : w.cell? ⟨r, 6, none⟩ = _ := cRn (H.out.cell 6) rfl
 have hqw := (qaF _ _).2 hin
 have HT := hI (show qdR N k = { N with w := k :: qaX N.w k } by unfold qdR; rw [if_pos hqw])
 obtain ⟨L, hL⟩ : ∃ L, k :: qaX N.w k = L := ⟨_, rfl⟩
 have RT := qeH HI.out.qw hin
 rw [hL] at RT HT
 have C1 := hI (qbH A.w N.w A.wc N.wm k w s4 H.out.own.rd.fw RT)
 clear RT hL hqw hin
 go_enter Tryz.func43, Tryz.ntmps43
 go_wp2_with fail
 refine C1.out.mono ?_
 rintro e w1 ⟨po, cp, rfl, ho, hb1⟩
 have F : Hid (VaN (w1.alloc (.cells #[.int .i64 N.wm, .slice po L.length cp] 32)) r B A N /\ Blk (w1.alloc (.cells #[.int .i64 N.wm, .slice po L.length cp] 32)) w1.heap.size 32 [.int .i64 N.wm, .slice po L.length cp] /\ OwnQ (w1.alloc (.cells #[.int .i64 N.wm, .slice po L.length cp] 32)) w.heap.size po cp L /\ w.grownBy (w1.alloc (.cells #[.int .i64 N.wm, .slice po L.length cp] 32)) (some r)) :=
  ⟨(H.out.later hb1).later (bAl _ _), Blk.new w1 _ _, ho.later (bAl _ _), qbO (hb1.alloc hb1.size _)⟩
 clear ho hb1 C1 x5 x6
 go_upto_region 1 with fail
 generalize (w1.alloc (.cells #[.int .i64 N.wm, .slice po L.length cp] 32)) = W at F ⊢
 generalize w1.heap.size = Q at F ⊢
 obtain ⟨V, K, O, G⟩ := F.out
 have z0 : W.cell? ⟨Q, 0, none⟩ = _ := cRn (K.cell 0) rfl
 have z1 : W.cell? ⟨Q, 1, none⟩ = _ := cRn (K.cell 1) rfl
 have y5 : W.cell? ⟨r, 5, none⟩ = _ := cRn (V.cell 5) rfl
 have y6 : W.cell? ⟨r, 6, none⟩ = _ := cRn (V.cell 6) rfl
 have yf (j) : W.frozen? ⟨r, j, none⟩ = false := V.var.froz j
 have VV := hI (V.putW (m := N.wm) O (H.out.own.below_of (Nat.le_refl _)) H.out.le)
 have GG := hI G
 clear V K O G F
 go_wp2
 refine bodyPost_ret (results_none Tryz.results43 _ _ _) rfl ?_
 exact ⟨rfl, _, by rw [HT.out]; exact VV.out, qbF (qbF GG.out 5 _) 6 _⟩
theorem qpM {w : World} {r B : Nat} {A : NA} {N : Nr} (h : VaN w r B A N) (hN : InN N) (hl : SmN N) (k : ByteArray) (hnw : ¬ k ∈ N.w) (hin : k ∈ N.s) :
  Calls Tryz.prog 43 #[.pointer (some ⟨r, 0, none⟩), .string k] w fun e w' => e = .returned (.tuple #[]) /\ ∃ A', VaN w' r B A' (qdR N k) /\ w.grownBy w' (some r) := by
 have H := hI h
 have HI := hI hN
 have s4 := hl.fw
 have s5 := hl.ft
 have s6 := hl.fs
 clear h hN hl
 have x5 : w.cell? ⟨r, 5, none⟩ = _ := cRn (H.out.cell 5) rfl
 have x6 : w.cell? ⟨r, 6, none⟩ = _ := cRn (H.out.cell 6) rfl
 have hqw : qeG N.w k = false := by
  rcases e : qeG N.w k with _ | _
  ·rfl
  ·exact absurd ((qaF _ _).1 e) hnw
 have C1 := hI (qbH A.w N.w A.wc N.wm k w s4 H.out.own.rd.fw (qfC (fun e => hnw e.2)))
 go_enter Tryz.func43, Tryz.ntmps43
 go_wp2_with fail
 refine C1.out.mono ?_
 rintro e w1 ⟨po, cp, rfl, ho, hb1⟩
 have F : Hid (VaN (w1.alloc (.cells #[.int .i64 0, .slice po 0 cp] 32)) r B A N /\ Blk (w1.alloc (.cells #[.int .i64 0, .slice po 0 cp] 32)) w1.heap.size 32 [.int .i64 0, .slice po 0 cp] /\ w.grownBy (w1.alloc (.cells #[.int .i64 0, .slice po 0 cp] 32)) (some r) /\ w.heap.size <= w1.heap.size) :=
  ⟨(H.out.later hb1).later (bAl _ _), Blk.new w1 _ _, qbO (hb1.alloc hb1.size _), hb1.size⟩
 clear ho hb1 C1 x5 x6
 rw [List.length_nil]
 go_upto_region 1 with fail
 generalize (w1.alloc (.cells #[.int .i64 0, .slice po 0 cp] 32)) = W at F ⊢
 generalize w1.heap.size = Q at F ⊢
 have VW := hI F.out.1
 have KQ := hI F.out.2.1
 have GW := hI F.out.2.2.1
 have hQ := F.out.2.2.2
 clear F
 have hQW : Q < W.heap.size := KQ.out.lt
 have x9 : W.cell? ⟨r, 9, none⟩ = _ := cRn (VW.out.cell 9) rfl
 have x10 : W.cell? ⟨r, 10, none⟩ = _ := cRn (VW.out.cell 10) rfl
 have hrw : r < w.heap.size := H.out.var.lt
 have hQ2 : Hid (∀ v ∈ vlN A N, ∀ g, v.ownBlock = some g -> g < w.heap.size) := H.out.own.below_of (Nat.le_refl _)
 have hqs := (qaF _ _).2 hin
 have HT := hI (show qdR N k = { N with s := k :: qaX N.s k } by unfold qdR; rw [if_neg (by rw [hqw]; simp), if_pos hqs])
 obtain ⟨L, hL⟩ : ∃ L, k :: qaX N.s k = L := ⟨_, rfl⟩
 have RT := qeH HI.out.qs hin
 rw [hL] at RT HT
 have C2 := hI (qbH A.s N.s A.sc N.sm k W s6 VW.out.own.rd.fs RT)
 clear RT hL hqw hqs hin
 go_wp2_with fail
 refine C2.out.mono ?_
 rintro e w2 ⟨p2, c2, rfl, ho, hb2⟩
 have V2 := hI (VW.out.later hb2)
 have K2 := bRn KQ hb2
 have G2 := hI (qaK GW.out (qbO hb2))
 have O2 := hI ho
 have hs2 : W.heap.size <= w2.heap.size := hb2.size
 clear hb2 ho C2 x9 x10
 have q0 : w2.cell? ⟨Q, 0, none⟩ = _ := cRn (K2.out.cell 0) rfl
 have q1 : w2.cell? ⟨Q, 1, none⟩ = _ := cRn (K2.out.cell 1) rfl
 have qf (j) : w2.frozen? ⟨Q, j, none⟩ = false := K2.out.froz j
 have hfar : Hid (Q ≠ r /\ ∀ v ∈ vlN A N, ∀ g, v.ownBlock = some g -> g ≠ Q) := ⟨by omega, fun v hv g hg => by have := hQ2.out v hv g hg; omega⟩
 have V3 := hI ((V2.out.far (.inr hfar.out) 0 (.int .i64 N.sm)).far (.inr hfar.out) 1 (.slice p2 L.length c2))
 have K3 := hI (Blk.set (Blk.set K2.out 0 (.int .i64 N.sm)) 1 (.slice p2 L.length c2))
 have O3 : Hid (OwnQ ((w2.setCell ⟨Q, 0, none⟩ (.int .i64 N.sm)).setCell ⟨Q, 1, none⟩ (.slice p2 L.length c2)) W.heap.size p2 c2 L) := qfG O2.out hQW _ _
 have G3 : Hid (w.grownBy ((w2.setCell ⟨Q, 0, none⟩ (.int .i64 N.sm)).setCell ⟨Q, 1, none⟩ (.slice p2 L.length c2)) (some r)) := ⟨G2.out.os, G2.out.tape, G2.out.output, by simpa using G2.out.size, fun j hj hne => by rw [Below.heap_setCell _ _ _ _ (by dsimp only; omega), Below.heap_setCell _ _ _ _ (by dsimp only; omega)]; exact G2.out.block j hj hne⟩
 have hz3 := hI (show w2.heap.size <= ((w2.setCell ⟨Q, 0, none⟩ (.int .i64 N.sm)).setCell ⟨Q, 1, none⟩ (.slice p2 L.length c2)).heap.size by simp)
 clear V2 K2 G2 O2
 go_upto_region 4 with fail
 generalize ((w2.setCell ⟨Q, 0, none⟩ (.int .i64 N.sm)).setCell ⟨Q, 1, none⟩ (.slice p2 L.length c2)) = W3 at O3 V3 K3 G3 hz3 ⊢
 have z0 : W3.cell? ⟨Q, 0, none⟩ = _ := cRn (K3.out.cell 0) rfl
 have z1 : W3.cell? ⟨Q, 1, none⟩ = _ := cRn (K3.out.cell 1) rfl
 have y9 : W3.cell? ⟨r, 9, none⟩ = _ := cRn (V3.out.cell 9) rfl
 have y10 : W3.cell? ⟨r, 10, none⟩ = _ := cRn (V3.out.cell 10) rfl
 have yf (j) : W3.frozen? ⟨r, j, none⟩ = false := V3.out.var.froz j
 have VV := hI (V3.out.putS (m := N.sm) O3.out (fun v hv g hg => by have := hQ2.out v hv g hg; omega) (by have := VW.out.le; exact ⟨by omega, by omega⟩))
 clear q0 q1 qf V3 K3 O3
 go_wp2
 refine bodyPost_ret (results_none Tryz.results43 _ _ _) rfl ?_
 exact ⟨rfl, _, by rw [HT.out]; exact VV.out, qbF (qbF G3.out 9 _) 10 _⟩
theorem qpJ {w : World} {r B : Nat} {A : NA} {N : Nr} (h : VaN w r B A N) (hN : InN N) (hl : SmN N) (k : ByteArray) (hnw : ¬ k ∈ N.w) (hns : ¬ k ∈ N.s) (hin : k ∈ N.t) (hz : N.sm = 0) :
  Calls Tryz.prog 43 #[.pointer (some ⟨r, 0, none⟩), .string k] w fun e w' => e = .returned (.tuple #[]) /\ ∃ A', VaN w' r B A' (qdR N k) /\ w.grownBy w' (some r) := by
 have H := hI h
 have HI := hI hN
 have s4 := hl.fw
 have s5 := hl.ft
 have s6 := hl.fs
 clear h hN hl
 have x5 : w.cell? ⟨r, 5, none⟩ = _ := cRn (H.out.cell 5) rfl
 have x6 : w.cell? ⟨r, 6, none⟩ = _ := cRn (H.out.cell 6) rfl
 have hqw : qeG N.w k = false := by
  rcases e : qeG N.w k with _ | _
  ·rfl
  ·exact absurd ((qaF _ _).1 e) hnw
 have hqs : qeG N.s k = false := by
  rcases e : qeG N.s k with _ | _
  ·rfl
  ·exact absurd ((qaF _ _).1 e) hns
 have HT := hI (show qdR N k = { N with t := k :: qaX N.t k } by unfold qdR; rw [if_neg (by rw [hqw]; simp), if_neg (by rw [hqs]; simp), if_pos hz])
 have HZ := hI hz
 have HIN := hI hin
 clear hqw hqs hz hin
 have C1 := hI (qbH A.w N.w A.wc N.wm k w s4 H.out.own.rd.fw (qfC (fun e => hnw e.2)))
 go_enter Tryz.func43, Tryz.ntmps43
 go_wp2_with fail
 refine C1.out.mono ?_
 rintro e w1 ⟨po, cp, rfl, ho, hb1⟩
 have F : Hid (VaN (w1.alloc (.cells #[.int .i64 0, .slice po 0 cp] 32)) r B A N /\ Blk (w1.alloc (.cells #[.int .i64 0, .slice po 0 cp] 32)) w1.heap.size 32 [.int .i64 0, .slice po 0 cp] /\ w.grownBy (w1.alloc (.cells #[.int .i64 0, .slice po 0 cp] 32)) (some r) /\ w.heap.size <= w1.heap.size) :=
  ⟨(H.out.later hb1).later (bAl _ _), Blk.new w1 _ _, qbO (hb1.alloc hb1.size _), hb1.size⟩
 clear ho hb1 C1 x5 x6
 rw [List.length_nil]
 go_upto_region 1 with fail
 generalize (w1.alloc (.cells #[.int .i64 0, .slice po 0 cp] 32)) = W at F ⊢
 generalize w1.heap.size = Q at F ⊢
 have VW := hI F.out.1
 have KQ := hI F.out.2.1
 have GW := hI F.out.2.2.1
 have hQ := F.out.2.2.2
 clear F
 have hQW : Q < W.heap.size := KQ.out.lt
 have x9 : W.cell? ⟨r, 9, none⟩ = _ := cRn (VW.out.cell 9) rfl
 have x10 : W.cell? ⟨r, 10, none⟩ = _ := cRn (VW.out.cell 10) rfl
 have hrw : r < w.heap.size := H.out.var.lt
 have hQ2 : Hid (∀ v ∈ vlN A N, ∀ g, v.ownBlock = some g -> g < w.heap.size) := H.out.own.below_of (Nat.le_refl _)
 have C2 := hI (qbH A.s N.s A.sc N.sm k W s6 VW.out.own.rd.fs (qfC (fun e => hns e.2)))
 go_wp2_with fail
 refine C2.out.mono ?_
 rintro e w2 ⟨p2, c2, rfl, ho, hb2⟩
 rw [List.length_nil]
 have V2 := hI (VW.out.later hb2)
 have K2 := bRn KQ hb2
 have G2 := hI (qaK GW.out (qbO hb2))
 have O2 := hI ho
 have hs2 : W.heap.size <= w2.heap.size := hb2.size
 clear hb2 ho C2 x9 x10
 have q0 : w2.cell? ⟨Q, 0, none⟩ = _ := cRn (K2.out.cell 0) rfl
 have q1 : w2.cell? ⟨Q, 1, none⟩ = _ := cRn (K2.out.cell 1) rfl
 have qf (j) : w2.frozen? ⟨Q, j, none⟩ = false := K2.out.froz j
 have hfar : Hid (Q ≠ r /\ ∀ v ∈ vlN A N, ∀ g, v.ownBlock = some g -> g ≠ Q) := ⟨by omega, fun v hv g hg => by have := hQ2.out v hv g hg; omega⟩
 have V3 := hI ((V2.out.far (.inr hfar.out) 0 (.int .i64 0)).far (.inr hfar.out) 1 (.slice p2 0 c2))
 have K3 := hI (Blk.set (Blk.set K2.out 0 (.int .i64 0)) 1 (.slice p2 0 c2))
 have G3 : Hid (w.grownBy ((w2.setCell ⟨Q, 0, none⟩ (.int .i64 0)).setCell ⟨Q, 1, none⟩ (.slice p2 0 c2)) (some r)) := ⟨G2.out.os, G2.out.tape, G2.out.output, by simpa using G2.out.size, fun j hj hne => by rw [Below.heap_setCell _ _ _ _ (by dsimp only; omega), Below.heap_setCell _ _ _ _ (by dsimp only; omega)]; exact G2.out.block j hj hne⟩
 have hz3 := hI (show w2.heap.size <= ((w2.setCell ⟨Q, 0, none⟩ (.int .i64 0)).setCell ⟨Q, 1, none⟩ (.slice p2 0 c2)).heap.size by simp)
 clear V2 K2 G2 O2
 go_upto_region 4 with fail
 generalize ((w2.setCell ⟨Q, 0, none⟩ (.int .i64 0)).setCell ⟨Q, 1, none⟩ (.slice p2 0 c2)) = W3 at V3 K3 G3 hz3 ⊢
 have y9 : W3.cell? ⟨r, 9, none⟩ = _ := cRn (V3.out.cell 9) rfl
 have hv3 : Hid (∀ v ∈ vlN A N, ∀ g, v.ownBlock = some g -> g < w2.heap.size) := fun v hv g hg => by have := hQ2.out v hv g hg; omega
 have hB3 := hI (show B <= w2.heap.size /\ r < w2.heap.size by have := VW.out.le; exact ⟨by omega, by omega⟩)
 clear q0 q1 qf K3
 obtain ⟨L, hL⟩ : ∃ L, k :: qaX N.t k = L := ⟨_, rfl⟩
 have RT := qeH HI.out.qt HIN.out
 rw [hL] at RT HT
 have C3 := hI (qbH A.t N.t A.tc N.tm k W3 s5 V3.out.own.rd.ft RT)
 clear RT hL
 rw [HZ.out] at y9
 have y7 : W3.cell? ⟨r, 7, none⟩ = _ := cRn (V3.out.cell 7) rfl
 have y8 : W3.cell? ⟨r, 8, none⟩ = _ := cRn (V3.out.cell 8) rfl
 go_upto_region 7 with fail
 go_wp2_with fail
 refine C3.out.mono ?_
 rintro e w4 ⟨p4, c4, rfl, ho, hb4⟩
 have V4 := hI (V3.out.later hb4)
 have G4 := hI (qaK G3.out (qbO hb4))
 have u7 : w4.cell? ⟨r, 7, none⟩ = _ := cRn (V4.out.cell 7) rfl
 have u8 : w4.cell? ⟨r, 8, none⟩ = _ := cRn (V4.out.cell 8) rfl
 have uf (j) : w4.frozen? ⟨r, j, none⟩ = false := V4.out.var.froz j
 have VV := hI (V4.out.putT (m := N.tm) ho (fun v hv g hg => Nat.lt_of_lt_of_le (hv3.out v hv g hg) hz3.out) ⟨Nat.le_trans hB3.out.1 hz3.out, Nat.lt_of_lt_of_le hB3.out.2 hz3.out⟩)
 clear y7 y8 y9 ho hb4 C3 V3 V4
 go_wp2
 refine bodyPost_ret (results_none Tryz.results43 _ _ _) rfl ?_
 exact ⟨rfl, _, by rw [HT.out]; exact VV.out, qbF (qbF G4.out 7 _) 8 _⟩
theorem InN.pushT {N : Nr} (h : InN N) {k : ByteArray} (ht : k ∈ N.t) (hkn : ¬ k ∈ N.s) (hm0 : ¬ N.sm = 0) :
  PshQ N.s N.sm k /\ ∀ x, (k :: N.s).getD N.sm.toNat ⟨#[]⟩ = x -> ¬ x = ⟨#[]⟩ -> pshR (qaX N.t k) N.tm x = ((x :: qaX N.t k, N.tm), (x :: qaX N.t k).getD N.tm.toNat ⟨#[]⟩, true) := by
 have hP : PshQ N.s N.sm k := ⟨h.qs, h.qt.2.2.2.1 k ht, hkn, hm0⟩
 refine ⟨hP, fun x hx hne => ?_⟩
 have hnd := h.nd
 unfold qaD at hnd
 rw [List.nodup_append, List.nodup_append] at hnd
 obtain ⟨_, _, dws⟩ := hnd
 have hlt := qiK ht
 have htl := h.qt.2.2.1
 have hsl := h.qs.2.2.1
 have h0 : 0 < N.t.length := List.length_pos_of_mem ht
 have hq0 := h.qs.1
 have hxm : x ∈ N.s := by
  rcases qkJ (l := N.s) (m := N.sm.toNat) (k := k) (by omega) (by omega) with ⟨_, _, e2⟩ | ⟨_, s0, y, es, _, e2⟩
  ·exact absurd (hx.symm.trans e2) hne
  ·rw [<- hx, e2, es]; simp
 have hxt : ¬ x ∈ N.t := fun e => dws x (List.mem_append_right _ e) x hxm rfl
 rw [qcC ⟨h.qt.drop, h.qs.2.2.2.1 x hxm, fun e => hxt ((qbN _ _ _).1 e).1, by omega⟩]
 rw [List.take_of_length_le (by simp only [List.length_cons]; omega)]
theorem qpL {w : World} {r B : Nat} {A : NA} {N : Nr} (h : VaN w r B A N) (hN : InN N) (hl : SmN N) (k : ByteArray) (hnw : ¬ k ∈ N.w) (hns : ¬ k ∈ N.s) (hin : k ∈ N.t) (hz : ¬ N.sm = 0) :
  Calls Tryz.prog 43 #[.pointer (some ⟨r, 0, none⟩), .string k] w fun e w' => e = .returned (.tuple #[]) /\ ∃ A', VaN w' r B A' (qdR N k) /\ w.grownBy w' (some r) := by
 have H := hI h
 have HI := hI hN
 have s4 := hl.fw
 have s5 := hl.ft
 have s6 := hl.fs
 clear h hN hl
 have x5 : w.cell? ⟨r, 5, none⟩ = _ := cRn (H.out.cell 5) rfl
 have x6 : w.cell? ⟨r, 6, none⟩ = _ := cRn (H.out.cell 6) rfl
 have hqw : qeG N.w k = false := by
  rcases e : qeG N.w k with _ | _
  ·rfl
  ·exact absurd ((qaF _ _).1 e) hnw
 have hqs : qeG N.s k = false := by
  rcases e : qeG N.s k with _ | _
  ·rfl
  ·exact absurd ((qaF _ _).1 e) hns
 obtain ⟨hP, hX⟩ := HI.out.pushT hin hns hz
 have RP := qcC hP
 obtain ⟨x, hx⟩ : ∃ x, (k :: N.s).getD N.sm.toNat ⟨#[]⟩ = x := ⟨_, rfl⟩
 obtain ⟨M, hM⟩ : ∃ M, (k :: N.s).take N.sm.toNat = M := ⟨_, rfl⟩
 obtain ⟨L, hL⟩ : ∃ L, qaX N.t k = L := ⟨_, rfl⟩
 have RD := qiE HI.out.qt hin
 have HT := hI (show qdR N k = { N with s := M, t := if x = ⟨#[]⟩ then L else x :: L } by unfold qdR; rw [if_neg (by rw [hqw]; simp), if_neg (by rw [hqs]; simp), if_neg hz, hx, hM, hL])
 have HX := hI (hX x hx)
 have hLl : L.length <= 1048576 := by have := qbT N.t k; rw [hL] at this; omega
 rw [hx, hM] at RP
 rw [hL] at RD HX
 have HP := hI RP
 have HD := hI RD
 have hzz : (N.sm == 0) = false := by simpa using hz
 have HZZ := hI hzz
 clear hqw hqs hz hin hP hX RP RD hx hM hL hzz
 have C1 := hI (qbH A.w N.w A.wc N.wm k w s4 H.out.own.rd.fw (qfC (fun e => hnw e.2)))
 go_enter Tryz.func43, Tryz.ntmps43
 go_wp2_with fail
 refine C1.out.mono ?_
 rintro e w1 ⟨po, cp, rfl, ho, hb1⟩
 have F : Hid (VaN (w1.alloc (.cells #[.int .i64 0, .slice po 0 cp] 32)) r B A N /\ Blk (w1.alloc (.cells #[.int .i64 0, .slice po 0 cp] 32)) w1.heap.size 32 [.int .i64 0, .slice po 0 cp] /\ w.grownBy (w1.alloc (.cells #[.int .i64 0, .slice po 0 cp] 32)) (some r) /\ w.heap.size <= w1.heap.size) :=
  ⟨(H.out.later hb1).later (bAl _ _), Blk.new w1 _ _, qbO (hb1.alloc hb1.size _), hb1.size⟩
 clear ho hb1 C1 x5 x6
 rw [List.length_nil]
 go_upto_region 1 with fail
 generalize (w1.alloc (.cells #[.int .i64 0, .slice po 0 cp] 32)) = W at F ⊢
 generalize w1.heap.size = Q at F ⊢
 have VW := hI F.out.1
 have KQ := hI F.out.2.1
 have GW := hI F.out.2.2.1
 have hQ := F.out.2.2.2
 clear F
 have hQW : Q < W.heap.size := KQ.out.lt
 have x9 : W.cell? ⟨r, 9, none⟩ = _ := cRn (VW.out.cell 9) rfl
 have x10 : W.cell? ⟨r, 10, none⟩ = _ := cRn (VW.out.cell 10) rfl
 have hrw : r < w.heap.size := H.out.var.lt
 have hQ2 : Hid (∀ v ∈ vlN A N, ∀ g, v.ownBlock = some g -> g < w.heap.size) := H.out.own.below_of (Nat.le_refl _)
 have C2 := hI (qbH A.s N.s A.sc N.sm k W s6 VW.out.own.rd.fs (qfC (fun e => hns e.2)))
 go_wp2_with fail
 refine C2.out.mono ?_
 rintro e w2 ⟨p2, c2, rfl, ho, hb2⟩
 rw [List.length_nil]
 have V2 := hI (VW.out.later hb2)
 have K2 := bRn KQ hb2
 have G2 := hI (qaK GW.out (qbO hb2))
 have O2 := hI ho
 have hs2 : W.heap.size <= w2.heap.size := hb2.size
 clear hb2 ho C2 x9 x10
 have q0 : w2.cell? ⟨Q, 0, none⟩ = _ := cRn (K2.out.cell 0) rfl
 have q1 : w2.cell? ⟨Q, 1, none⟩ = _ := cRn (K2.out.cell 1) rfl
 have qf (j) : w2.frozen? ⟨Q, j, none⟩ = false := K2.out.froz j
 have hfar : Hid (Q ≠ r /\ ∀ v ∈ vlN A N, ∀ g, v.ownBlock = some g -> g ≠ Q) := ⟨by omega, fun v hv g hg => by have := hQ2.out v hv g hg; omega⟩
 have V3 := hI ((V2.out.far (.inr hfar.out) 0 (.int .i64 0)).far (.inr hfar.out) 1 (.slice p2 0 c2))
 have K3 := hI (Blk.set (Blk.set K2.out 0 (.int .i64 0)) 1 (.slice p2 0 c2))
 have G3 : Hid (w.grownBy ((w2.setCell ⟨Q, 0, none⟩ (.int .i64 0)).setCell ⟨Q, 1, none⟩ (.slice p2 0 c2)) (some r)) := ⟨G2.out.os, G2.out.tape, G2.out.output, by simpa using G2.out.size, fun j hj hne => by rw [Below.heap_setCell _ _ _ _ (by dsimp only; omega), Below.heap_setCell _ _ _ _ (by dsimp only; omega)]; exact G2.out.block j hj hne⟩
 have hz3 := hI (show w2.heap.size <= ((w2.setCell ⟨Q, 0, none⟩ (.int .i64 0)).setCell ⟨Q, 1, none⟩ (.slice p2 0 c2)).heap.size by simp)
 clear V2 K2 G2 O2
 go_upto_region 4 with fail
 generalize ((w2.setCell ⟨Q, 0, none⟩ (.int .i64 0)).setCell ⟨Q, 1, none⟩ (.slice p2 0 c2)) = W3 at V3 K3 G3 hz3 ⊢
 have y9 : W3.cell? ⟨r, 9, none⟩ = _ := cRn (V3.out.cell 9) rfl
 have hv3 : Hid (∀ v ∈ vlN A N, ∀ g, v.ownBlock = some g -> g < w2.heap.size) := fun v hv g hg => by have := hQ2.out v hv g hg; omega
 have hB3 := hI (show B <= w2.heap.size /\ r < w2.heap.size by have := VW.out.le; exact ⟨by omega, by omega⟩)
 clear q0 q1 qf K3
 have C3 := hI (qjM A.t N.t A.tc N.tm k W3 s5 V3.out.own.rd.ft HD.out)
 have y7 : W3.cell? ⟨r, 7, none⟩ = _ := cRn (V3.out.cell 7) rfl
 have y8 : W3.cell? ⟨r, 8, none⟩ = _ := cRn (V3.out.cell 8) rfl
 have hzz := HZZ.out
 go_upto_region 8 with fail
 clear hzz y9
 go_wp2_with fail
 refine C3.out.mono ?_
 rintro e w4 ⟨p4, c4, rfl, ho, hb4⟩
 have V4 := hI (V3.out.later hb4)
 have G4 := hI (qaK G3.out (qbO hb4))
 have u7 : w4.cell? ⟨r, 7, none⟩ = _ := cRn (V4.out.cell 7) rfl
 have u8 : w4.cell? ⟨r, 8, none⟩ = _ := cRn (V4.out.cell 8) rfl
 have uf (j) : w4.frozen? ⟨r, j, none⟩ = false := V4.out.var.froz j
 have V5 := hI (V4.out.putT (m := N.tm) ho (fun v hv g hg => Nat.lt_of_lt_of_le (hv3.out v hv g hg) hz3.out) ⟨Nat.le_trans hB3.out.1 hz3.out, Nat.lt_of_lt_of_le hB3.out.2 hz3.out⟩)
 have G5 := hI (qbF (qbF G4.out 7 (.int .i64 N.tm)) 8 (.slice p4 L.length c4))
 clear y7 y8 ho hb4 C3 V3 G3 V4 G4 hz3 hv3 hB3 VW KQ GW
 go_upto_region 9 with fail
 generalize ((w4.setCell ⟨r, 7, none⟩ (.int .i64 N.tm)).setCell ⟨r, 8, none⟩ (.slice p4 L.length c4)) = W5 at V5 G5 ⊢
 clear u7 u8 uf
 have t9 : W5.cell? ⟨r, 9, none⟩ = _ := cRn (V5.out.cell 9) rfl
 have t10 : W5.cell? ⟨r, 10, none⟩ = _ := cRn (V5.out.cell 10) rfl
 have C5 := hI (qbZ A.s N.s A.sc N.sm k W5 s6 V5.out.own.rd.fs HP.out)
 go_wp2_with fail
 refine C5.out.mono ?_
 rintro e w6 ⟨p6, c6, rfl, ho, hb6⟩
 have F : Hid (VaN (w6.alloc (.cells #[.int .i64 N.sm, .slice p6 M.length c6] 32)) r B { A with t := p4, tc := c4 } { N with t := L, tm := N.tm } /\ Blk (w6.alloc (.cells #[.int .i64 N.sm, .slice p6 M.length c6] 32)) w6.heap.size 32 [.int .i64 N.sm, .slice p6 M.length c6] /\ OwnQ (w6.alloc (.cells #[.int .i64 N.sm, .slice p6 M.length c6] 32)) W5.heap.size p6 c6 M /\ w.grownBy (w6.alloc (.cells #[.int .i64 N.sm, .slice p6 M.length c6] 32)) (some r)) :=
  ⟨(V5.out.later hb6).later (bAl _ _), Blk.new w6 _ _, ho.later (bAl _ _), qaK G5.out (qbO (hb6.alloc hb6.size _))⟩
 have hv5 : Hid (∀ v ∈ vlN { A with t := p4, tc := c4 } { N with t := L, tm := N.tm }, ∀ g, v.ownBlock = some g -> g < W5.heap.size) := V5.out.own.below_of (Nat.le_refl _)
 have hB5 := hI V5.out.le
 clear ho hb6 C5 t9 t10 V5 G5
 go_upto_region 10 with fail
 generalize (w6.alloc (.cells #[.int .i64 N.sm, .slice p6 M.length c6] 32)) = W7 at F ⊢
 generalize w6.heap.size = Q7 at F ⊢
 have V7 := hI F.out.1
 have K7 := hI F.out.2.1
 have O7 := hI F.out.2.2.1
 have G7 := hI F.out.2.2.2
 clear F
 have z0 : W7.cell? ⟨Q7, 0, none⟩ = _ := cRn (K7.out.cell 0) rfl
 have z1 : W7.cell? ⟨Q7, 1, none⟩ = _ := cRn (K7.out.cell 1) rfl
 have z9 : W7.cell? ⟨r, 9, none⟩ = _ := cRn (V7.out.cell 9) rfl
 have z10 : W7.cell? ⟨r, 10, none⟩ = _ := cRn (V7.out.cell 10) rfl
 have zf (j) : W7.frozen? ⟨r, j, none⟩ = false := V7.out.var.froz j
 have V8 := hI (V7.out.putS (m := N.sm) O7.out hv5.out hB5.out)
 have G8 := hI (qbF (qbF G7.out 9 (.int .i64 N.sm)) 10 (.slice p6 M.length c6))
 clear V7 K7 O7 G7 hv5 hB5
 go_upto_region 11 with fail
 generalize ((W7.setCell ⟨r, 9, none⟩ (.int .i64 N.sm)).setCell ⟨r, 10, none⟩ (.slice p6 M.length c6)) = W8 at V8 G8 ⊢
 clear z0 z1 z9 z10 zf
 by_cases hx : x = ⟨#[]⟩
 ·have HT2 := hI (HT.out.trans (by rw [if_pos hx]))
  have q : x.toList.isEmpty = true := by rw [hx]; simp
  clear hx HT
  go_wp2
  refine bodyPost_end (results_none Tryz.results43 _ _ _) rfl ?_
  exact ⟨rfl, ⟨_, by rw [HT2.out]; exact V8.out⟩, G8.out⟩
 ·have HT2 := hI (HT.out.trans (by rw [if_neg hx]))
  have HR := hI (HX.out hx)
  have q : x.toList.isEmpty = false := by
   obtain ⟨q, _⟩ := qdX hx
   rcases e : x.toList with _ | _
   ·rw [e] at q; simp at q
   ·rfl
  have C8 := hI (qbZ p4 L c4 N.tm x W8 hLl V8.out.own.rd.ft HR.out)
  have e7 : W8.cell? ⟨r, 7, none⟩ = _ := cRn (V8.out.cell 7) rfl
  have e8 : W8.cell? ⟨r, 8, none⟩ = _ := cRn (V8.out.cell 8) rfl
  clear hx HT HR
  go_upto_region 12 with fail
  clear q
  go_wp2_with fail
  refine C8.out.mono ?_
  rintro e w9 ⟨p9, c9, rfl, ho, hb9⟩
  have V9 := hI (V8.out.later hb9)
  have G9 := hI (qaK G8.out (qbO hb9))
  have u7 : w9.cell? ⟨r, 7, none⟩ = _ := cRn (V9.out.cell 7) rfl
  have u8 : w9.cell? ⟨r, 8, none⟩ = _ := cRn (V9.out.cell 8) rfl
  have uf (j) : w9.frozen? ⟨r, j, none⟩ = false := V9.out.var.froz j
  have VV := hI (V9.out.putT (m := N.tm) ho (V8.out.own.below_of (Nat.le_refl _)) V8.out.le)
  clear ho hb9 C8 e7 e8 V8 G8 V9
  go_wp2
  refine bodyPost_end (results_none Tryz.results43 _ _ _) rfl ?_
  exact ⟨rfl, _, by rw [HT2.out]; exact VV.out, qbF (qbF G9.out 7 _) 8 _⟩
theorem qkW {w : World} {r B : Nat} {A : NA} {N : Nr} (h : VaN w r B A N) (hN : InN N) (hl : SmN N) (k : ByteArray) (hk : k ∈ qaD N) :
  Calls Tryz.prog 43 #[.pointer (some ⟨r, 0, none⟩), .string k] w fun e w' => e = .returned (.tuple #[]) /\ ∃ A', VaN w' r B A' (qdR N k) /\ w.grownBy w' (some r) := by
 by_cases h1 : k ∈ N.w
 ·exact qpK h hN hl k h1
 by_cases h2 : k ∈ N.s
 ·exact qpM h hN hl k h1 h2
 have h3 : k ∈ N.t := by
  rcases InN.mem.1 hk with a | a | a
  ·exact absurd a h1
  ·exact a
  ·exact absurd a h2
 by_cases h4 : N.sm = 0
 ·exact qpJ h hN hl k h1 h2 h3 h4
 ·exact qpL h hN hl k h1 h2 h3 h4
end Go.Proofs.YtigpjmmfelndkaaGreatDoor
