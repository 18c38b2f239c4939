/- Rows of near entries set anew; a key counted, by the model. -/
import Derived.Test.YtjgiobdpbbhekaaGreatDoorXV
import Derived.Test.YtjgiobdpbbhekaaGreatDoorXP
import Derived.Test.YtjgiobdpbbhekaaGreatDoorXTD
import Derived.Test.YtjgiobdpbbhekaaGreatDoorXSM
import Derived.Test.YtjgiobdpbbhekaaGreatDoorXQK
namespace Go.Proofs.YtjgiobdpbbhekaaGreatDoor
open Go.RowKit

/-- Values that are pairwise apart stay so when one is new. -/
theorem ap_set {L : List Value} {i : Nat} {u : Value} {S : Nat} (h : L.Pairwise (fun u v => ∀ g, u.ownBlock = some g → v.ownBlock ≠ some g)) (hS : ∀ v ∈ L, ∀ g, v.ownBlock = some g → g < S) (hu : ∀ g, u.ownBlock = some g → S ≤ g) : (L.set i u).Pairwise (fun u v => ∀ g, u.ownBlock = some g → v.ownBlock ≠ some g) := by
  rw [List.pairwise_iff_getElem] at h ⊢
  intro a b ha hb hab g hg e
  rw [List.length_set] at ha hb
  by_cases h1 : i = a
  · subst h1
    rw [List.getElem_set_self] at hg
    rw [List.getElem_set_ne (by omega)] at e
    have := hu g hg
    have := hS _ (List.getElem_mem hb) g e
    omega
  · rw [List.getElem_set_ne h1] at hg
    by_cases h2 : i = b
    · subst h2
      rw [List.getElem_set_self] at e
      have := hu g e
      have := hS _ (List.getElem_mem ha) g hg
      omega
    · rw [List.getElem_set_ne h2] at e
      exact h a b ha hb hab g hg e
theorem OwnN.below_of {w : World} {B : Nat} {A : NA} {N : Nr} (h : OwnN w B A N) {S : Nat} (hS : w.heap.size ≤ S) : ∀ v ∈ vlN A N, ∀ g, v.ownBlock = some g → g < S := fun v hv g hg => by have := (h.lt v hv g hg).2; omega
/-- Each row set anew: the others as they were in an elder world whose blocks lie below S. -/
theorem OwnN.setK {w : World} {B S c : Nat} {A : NA} {N : Nr} {b : Option Addr} {l : List Int} (h : OwnN w B A N) (ho : OwnK w S b c l) (hS : ∀ v ∈ vlN A N, ∀ g, v.ownBlock = some g → g < S) (hB : B ≤ S) (ad dr : Int) : OwnN w B { A with k := b, kc := c } { N with sk := l, ad := ad, dr := dr } :=
  ⟨h.fa, h.fc, h.fo, h.fw, h.ft, h.fs, ho.base hB, ap_set (i := 6) h.ap hS (fun g hg => (ho.lt g hg).1)⟩
theorem OwnN.setW {w : World} {B S c : Nat} {A : NA} {N : Nr} {b : Option Addr} {l : List ByteArray} (h : OwnN w B A N) (ho : OwnQ w S b c l) (hS : ∀ v ∈ vlN A N, ∀ g, v.ownBlock = some g → g < S) (hB : B ≤ S) (m : Int) : OwnN w B { A with w := b, wc := c } { N with w := l, wm := m } :=
  ⟨h.fa, h.fc, h.fo, ho.base hB, h.ft, h.fs, h.fk, ap_set (i := 3) h.ap hS (fun g hg => (ho.lt g hg).1)⟩
theorem OwnN.setT {w : World} {B S c : Nat} {A : NA} {N : Nr} {b : Option Addr} {l : List ByteArray} (h : OwnN w B A N) (ho : OwnQ w S b c l) (hS : ∀ v ∈ vlN A N, ∀ g, v.ownBlock = some g → g < S) (hB : B ≤ S) (m : Int) : OwnN w B { A with t := b, tc := c } { N with t := l, tm := m } :=
  ⟨h.fa, h.fc, h.fo, h.fw, ho.base hB, h.fs, h.fk, ap_set (i := 4) h.ap hS (fun g hg => (ho.lt g hg).1)⟩
theorem OwnN.setS {w : World} {B S c : Nat} {A : NA} {N : Nr} {b : Option Addr} {l : List ByteArray} (h : OwnN w B A N) (ho : OwnQ w S b c l) (hS : ∀ v ∈ vlN A N, ∀ g, v.ownBlock = some g → g < S) (hB : B ≤ S) (m : Int) : OwnN w B { A with s := b, sc := c } { N with s := l, sm := m } :=
  ⟨h.fa, h.fc, h.fo, h.fw, h.ft, ho.base hB, h.fk, ap_set (i := 5) h.ap hS (fun g hg => (ho.lt g hg).1)⟩
theorem OwnN.setA {w : World} {B S c : Nat} {A : NA} {N : Nr} {b : Option Addr} {l : List Sl} (h : OwnN w B A N) (ho : w.ownsRow S 99 5 (.slice b l.length c) l.length (sls l)) (hS : ∀ v ∈ vlN A N, ∀ g, v.ownBlock = some g → g < S) (hB : B ≤ S) (f : Int) : OwnN w B { A with a := b, ac := c } { N with sl := l, fr := f } :=
  ⟨own_base ho hB, h.fc, h.fo, h.fw, h.ft, h.fs, h.fk, ap_set (i := 0) h.ap hS (fun g hg => (ho.lt g hg).1)⟩
theorem OwnN.setC {w : World} {B S c c' : Nat} {A : NA} {N : Nr} {b b' : Option Addr} {l l' : List Ce} (h : OwnN w B A N) (ho : Own2 w S b c l b' c' l') (hS : ∀ v ∈ vlN A N, ∀ g, v.ownBlock = some g → g < S) (hB : B ≤ S) (m : Int) : OwnN w B { A with c := b, cc := c, o := b', oc := c' } { N with ce := l, od := l', mv := m } := by
  refine ⟨h.fa, own_base ho.1 hB, own_base ho.2.1 hB, h.fw, h.ft, h.fs, h.fk, ?_⟩
  have h1 := List.pairwise_iff_getElem.1 h.ap
  rw [List.pairwise_iff_getElem]
  have e : vlN { A with c := b, cc := c, o := b', oc := c' } { N with ce := l, od := l', mv := m } = ((vlN A N).set 1 (.slice b l.length c)).set 2 (.slice b' l'.length c') := rfl
  rw [e]
  intro i j hi hj hij g hg e2
  rw [List.length_set, List.length_set] at hi hj
  have n1 : ∀ g, (Value.slice b l.length c).ownBlock = some g → S ≤ g := fun g hg => (ho.1.lt g hg).1
  have n2 : ∀ g, (Value.slice b' l'.length c').ownBlock = some g → S ≤ g := fun g hg => (ho.2.1.lt g hg).1
  by_cases i2 : 2 = i
  · subst i2
    rw [List.getElem_set_self] at hg
    rw [List.getElem_set_ne (by omega), List.getElem_set_ne (by omega)] at e2
    have := n2 g hg
    have := hS _ (List.getElem_mem hj) g e2
    omega
  · rw [List.getElem_set_ne i2] at hg
    by_cases j2 : 2 = j
    · subst j2
      rw [List.getElem_set_self] at e2
      by_cases i1 : 1 = i
      · subst i1
        rw [List.getElem_set_self] at hg
        exact ho.2.2 g hg e2
      · rw [List.getElem_set_ne i1] at hg
        have := n2 g e2
        have := hS _ (List.getElem_mem hi) g hg
        omega
    · rw [List.getElem_set_ne j2] at e2
      by_cases i1 : 1 = i
      · subst i1
        rw [List.getElem_set_self] at hg
        rw [List.getElem_set_ne (by omega)] at e2
        have := n1 g hg
        have := hS _ (List.getElem_mem hj) g e2
        omega
      · rw [List.getElem_set_ne i1] at hg
        by_cases j1 : 1 = j
        · subst j1
          rw [List.getElem_set_self] at e2
          have := n1 g e2
          have := hS _ (List.getElem_mem hi) g hg
          omega
        · rw [List.getElem_set_ne j1] at e2
          exact h1 i j hi hj hij g hg e2
/-- Near entries in a variable, their rows the call's own. -/
structure VaN (w : World) (r B : Nat) (A : NA) (N : Nr) : Prop where
  var : Blk w r 39 (neC A N)
  own : OwnN w B A N
  ne : ∀ v ∈ vlN A N, ∀ g, v.ownBlock = some g → g ≠ r
  le : B ≤ w.heap.size ∧ r < w.heap.size
/-- A store into a block that is none of the rows. -/
theorem OwnN.off {w : World} {B : Nat} {A : NA} {N : Nr} (h : OwnN w B A N) (a : Addr) (u : Value) (hb : ∀ v ∈ vlN A N, ∀ k, v.ownBlock = some k → k ≠ a.block) : OwnN (w.setCell a u) B A N :=
  ⟨own_far h.fa _ _ (hb _ (by simp [vlN])), own_far h.fc _ _ (hb _ (by simp [vlN])), own_far h.fo _ _ (hb _ (by simp [vlN])), own_far h.fw _ _ (hb _ (by simp [vlN])), own_far h.ft _ _ (hb _ (by simp [vlN])), own_far h.fs _ _ (hb _ (by simp [vlN])), own_far h.fk _ _ (hb _ (by simp [vlN])), h.ap⟩
theorem ne_set {L : List Value} {i r : Nat} {u : Value} (h : ∀ v ∈ L, ∀ g, v.ownBlock = some g → g ≠ r) (hu : ∀ g, u.ownBlock = some g → g ≠ r) : ∀ v ∈ L.set i u, ∀ g, v.ownBlock = some g → g ≠ r := by
  intro v hv
  rcases List.mem_or_eq_of_mem_set hv with h1 | rfl
  · exact h v h1
  · exact hu
theorem VaN.later {w w' : World} {r B : Nat} {A : NA} {N : Nr} (h : VaN w r B A N) (hb : Below w.heap.size w w') : VaN w' r B A N := ⟨h.var.below hb h.var.lt, h.own.later hb, h.ne, Nat.le_trans h.le.1 hb.size, Nat.lt_of_lt_of_le h.le.2 hb.size⟩
theorem VaN.cell {w : World} {r B : Nat} {A : NA} {N : Nr} (h : VaN w r B A N) (j : Nat) : w.cell? ⟨r, j, none⟩ = (neC A N)[j]? := h.var.cell j

set_option maxRecDepth 100000 in
set_option maxHeartbeats 4000000 in
theorem specCnt_any {w : World} {r B : Nat} {A : NA} {N : Nr} (h : VaN w r B A N) (hl : SmN N) (k : ByteArray) (hk : k.size ≤ 1048576) :
    Calls Tryz.prog 39 #[.pointer (some ⟨r, 0, none⟩), .string k] w fun e w' => e = .returned (.tuple #[]) ∧ ∃ A', VaN w' r B A' (cnN N k) ∧ w.grownBy w' (some r) := by
  have CS := hide1 (fun w' => specSeen_any N.dr k hk w')
  have CK := hide1 (fun w' => specMark_any N.dr k hk w')
  have CC := hide1 (fun w' (hb : Below w.heap.size w w') => specCount_any A.k N.sk A.kc N.ad k w' hk hl.fk ((h.own.later hb).fk.rd))
  unfold skV at CC
  have H := hide1 h
  have hrl := h.var.lt
  clear h hl
  have x13 : w.cell? ⟨r, 13, none⟩ = some (.int .i64 N.dr) := H.out.cell 13
  go_enter Tryz.func39, Tryz.ntmps39
  go_wp2_with fail
  refine (CS.out w).mono ?_
  rintro e w1 ⟨rfl, hb1⟩
  have H1 := hide1 (H.out.later hb1)
  have B1 := hide1 hb1
  clear hb1 CS x13
  rcases hq : seenD N.dr k with _ | _
  · have HN := hide1 (show cnN N k = { N with dr := markD N.dr k } by unfold cnN; rw [hq]; rfl)
    have x13 : w1.cell? ⟨r, 13, none⟩ = some (.int .i64 N.dr) := H1.out.cell 13
    clear hq CC
    go_wp2_with fail
    refine (CK.out w1).mono ?_
    rintro e w2 ⟨rfl, hb2⟩
    have H2 := hide1 (H1.out.later hb2)
    have B2 := hide1 (B1.out.trans (hb2.mono B1.out.size))
    clear hb2 CK x13
    have y13 : w2.cell? ⟨r, 13, none⟩ = some (.int .i64 N.dr) := H2.out.cell 13
    have yf : ∀ j, w2.frozen? ⟨r, j, none⟩ = false := fun j => H2.out.var.froz j
    generalize markD N.dr k = d at *
    go_wp2
    refine bodyPost_ret (results_none Tryz.results39 _ _ _) rfl ?_
    refine ⟨rfl, A, ?_, gset (gnew B2.out) 13 _⟩
    rw [HN.out]
    exact ⟨Blk.set H2.out.var 13 (.int .i64 d), H2.out.own.off _ _ H2.out.ne |> fun o => ⟨o.fa, o.fc, o.fo, o.fw, o.ft, o.fs, o.fk, o.ap⟩, H2.out.ne, by simpa using H2.out.le⟩
  · obtain ⟨R, hR⟩ : ∃ R, cntR N.sk N.ad k = R := ⟨_, rfl⟩
    obtain ⟨l, ad⟩ := R
    have HN := hide1 (show cnN N k = { N with sk := l, ad := ad, dr := if ad = 0 then 0 else N.dr } by unfold cnN; rw [hq, hR]; rfl)
    rw [hR] at CC
    have x11 : w1.cell? ⟨r, 11, none⟩ = some (.slice A.k N.sk.length A.kc) := H1.out.cell 11
    have x12 : w1.cell? ⟨r, 12, none⟩ = some (.int .i64 N.ad) := H1.out.cell 12
    clear hq CK hR
    go_wp2_with fail
    refine (CC.out w1 B1.out).mono ?_
    rintro e w2 ⟨b, c, rfl, ho, hb2⟩
    have H2 := hide1 (H1.out.later hb2)
    have B2 := hide1 (B1.out.trans (hb2.mono B1.out.size))
    have hS := hide1 (show ∀ v ∈ vlN A N, ∀ g, v.ownBlock = some g → g < w1.heap.size from H1.out.own.below_of (Nat.le_refl _))
    have hBS := H1.out.le.1
    have hrl1 : r < w1.heap.size := H1.out.var.lt
    have O2 : Hid (OwnK w2 w1.heap.size b c l) := ho
    clear hb2 ho CC x11 x12
    have y11 : w2.cell? ⟨r, 11, none⟩ = some (.slice A.k N.sk.length A.kc) := H2.out.cell 11
    have y12 : w2.cell? ⟨r, 12, none⟩ = some (.int .i64 N.ad) := H2.out.cell 12
    have y13 : w2.cell? ⟨r, 13, none⟩ = some (.int .i64 N.dr) := H2.out.cell 13
    have yf : ∀ j, w2.frozen? ⟨r, j, none⟩ = false := fun j => H2.out.var.froz j
    have OK : Hid (∀ v u, OwnK ((w2.setCell ⟨r, 11, none⟩ v).setCell ⟨r, 12, none⟩ u) w1.heap.size b c l) := fun v u => own_far (own_far O2.out _ _ (fun g hg => by have := (O2.out.lt g hg).1; dsimp only; omega)) _ _ (fun g hg => by have := (O2.out.lt g hg).1; dsimp only; omega)
    by_cases h0 : ad = 0
    · have q0 : (ad == 0) = true := by simp [h0]
      have HZ := hide1 h0
      clear h0
      unfold skV
      dsimp only
      go_wp2
      refine bodyPost_end (results_none Tryz.results39 _ _ _) rfl ?_
      refine ⟨rfl, { A with k := b, kc := c }, ?_, gset (gset (gset (gnew B2.out) 11 _) 12 _) 13 _⟩
      rw [HN.out, if_pos HZ.out]
      have hne2 : ∀ v ∈ vlN { A with k := b, kc := c } { N with sk := l, ad := ad, dr := 0 }, ∀ g, v.ownBlock = some g → g ≠ r := ne_set (i := 6) H2.out.ne (fun g hg => by have := (O2.out.lt g hg).1; omega)
      refine ⟨Blk.set (Blk.set (Blk.set H2.out.var 11 _) 12 _) 13 _, ?_, hne2, by simpa using H2.out.le⟩
      have o1 := ((H2.out.own.off ⟨r, 11, none⟩ (.slice b l.length c) H2.out.ne).off ⟨r, 12, none⟩ (.int .i64 ad) H2.out.ne)
      exact (o1.setK (OK.out _ _) hS.out hBS ad 0).off ⟨r, 13, none⟩ (.int .i64 0) hne2
    · have q0 : (ad == 0) = false := by simpa using h0
      have HZ := hide1 h0
      clear h0
      unfold skV
      dsimp only
      go_wp2
      refine bodyPost_end (results_none Tryz.results39 _ _ _) rfl ?_
      refine ⟨rfl, { A with k := b, kc := c }, ?_, gset (gset (gnew B2.out) 11 _) 12 _⟩
      rw [HN.out, if_neg HZ.out]
      refine ⟨Blk.set (Blk.set H2.out.var 11 _) 12 _, ?_, ne_set (i := 6) H2.out.ne (fun g hg => by have := (O2.out.lt g hg).1; omega), by simpa using H2.out.le⟩
      have o1 := ((H2.out.own.off ⟨r, 11, none⟩ (.slice b l.length c) H2.out.ne).off ⟨r, 12, none⟩ (.int .i64 ad) H2.out.ne)
      exact o1.setK (OK.out _ _) hS.out hBS ad N.dr
end Go.Proofs.YtjgiobdpbbhekaaGreatDoor
namespace Go.Proofs.YtjgiobdpbbhekaaGreatDoor
open Go.RowKit

theorem own_far2 {w : World} {S c r i j : Nat} {b : Option Addr} {l : List ByteArray} (ho : OwnQ w S b c l) (hr : r < S) (u v : Value) : OwnQ ((w.setCell ⟨r, i, none⟩ u).setCell ⟨r, j, none⟩ v) S b c l :=
  own_far (own_far ho _ _ (fun g hg => by have := (ho.lt g hg).1; dsimp only; omega)) _ _ (fun g hg => by have := (ho.lt g hg).1; dsimp only; omega)
theorem VaN.putW {w : World} {r B S c : Nat} {A : NA} {N : Nr} {b : Option Addr} {l : List ByteArray} {m : Int} (h : VaN w r B A N) (ho : OwnQ w S b c l) (hS : ∀ v ∈ vlN A N, ∀ g, v.ownBlock = some g → g < S) (hB : B ≤ S ∧ r < S) : VaN ((w.setCell ⟨r, 5, none⟩ (.int .i64 m)).setCell ⟨r, 6, none⟩ (.slice b l.length c)) r B { A with w := b, wc := c } { N with w := l, wm := m } :=
  ⟨Blk.set (Blk.set h.var 5 _) 6 _, ((h.own.off _ _ h.ne).off _ _ h.ne).setW (own_far2 ho hB.2 _ _) hS hB.1 m, ne_set (i := 3) h.ne (fun g hg => by have := (ho.lt g hg).1; have := hB.2; omega), by simpa using h.le⟩
theorem VaN.putT {w : World} {r B S c : Nat} {A : NA} {N : Nr} {b : Option Addr} {l : List ByteArray} {m : Int} (h : VaN w r B A N) (ho : OwnQ w S b c l) (hS : ∀ v ∈ vlN A N, ∀ g, v.ownBlock = some g → g < S) (hB : B ≤ S ∧ r < S) : VaN ((w.setCell ⟨r, 7, none⟩ (.int .i64 m)).setCell ⟨r, 8, none⟩ (.slice b l.length c)) r B { A with t := b, tc := c } { N with t := l, tm := m } :=
  ⟨Blk.set (Blk.set h.var 7 _) 8 _, ((h.own.off _ _ h.ne).off _ _ h.ne).setT (own_far2 ho hB.2 _ _) hS hB.1 m, ne_set (i := 4) h.ne (fun g hg => by have := (ho.lt g hg).1; have := hB.2; omega), by simpa using h.le⟩
theorem VaN.putS {w : World} {r B S c : Nat} {A : NA} {N : Nr} {b : Option Addr} {l : List ByteArray} {m : Int} (h : VaN w r B A N) (ho : OwnQ w S b c l) (hS : ∀ v ∈ vlN A N, ∀ g, v.ownBlock = some g → g < S) (hB : B ≤ S ∧ r < S) : VaN ((w.setCell ⟨r, 9, none⟩ (.int .i64 m)).setCell ⟨r, 10, none⟩ (.slice b l.length c)) r B { A with s := b, sc := c } { N with s := l, sm := m } :=
  ⟨Blk.set (Blk.set h.var 9 _) 10 _, ((h.own.off _ _ h.ne).off _ _ h.ne).setS (own_far2 ho hB.2 _ _) hS hB.1 m, ne_set (i := 5) h.ne (fun g hg => by have := (ho.lt g hg).1; have := hB.2; omega), by simpa using h.le⟩
theorem VaN.far {w : World} {r B q : Nat} {A : NA} {N : Nr} (h : VaN w r B A N) (hq : w.heap.size ≤ q ∨ (q ≠ r ∧ ∀ v ∈ vlN A N, ∀ g, v.ownBlock = some g → g ≠ q)) (j : Nat) (u : Value) : VaN (w.setCell ⟨q, j, none⟩ u) r B A N := by
  have hqr : r ≠ q := by
    rcases hq with h1 | h1
    · have := h.var.lt; omega
    · exact fun e => h1.1 e.symm
  have hb : ∀ v ∈ vlN A N, ∀ k, v.ownBlock = some k → k ≠ q := fun v hv k hk => by
    rcases hq with h1 | h1
    · have := (h.own.lt v hv k hk).2; omega
    · exact h1.2 v hv k hk
  exact ⟨h.var.far _ _ hqr, ⟨own_far h.own.fa _ _ (hb _ (by simp [vlN])), own_far h.own.fc _ _ (hb _ (by simp [vlN])), own_far h.own.fo _ _ (hb _ (by simp [vlN])), own_far h.own.fw _ _ (hb _ (by simp [vlN])), own_far h.own.ft _ _ (hb _ (by simp [vlN])), own_far h.own.fs _ _ (hb _ (by simp [vlN])), own_far h.own.fk _ _ (hb _ (by simp [vlN])), h.own.ap⟩, h.ne, by simpa using h.le⟩

set_option maxRecDepth 100000 in
set_option maxHeartbeats 8000000 in
theorem specTchW_any {w : World} {r B : Nat} {A : NA} {N : Nr} (h : VaN w r B A N) (hN : InN N) (hl : SmN N) (k : ByteArray) (hin : k ∈ N.w) :
    Calls Tryz.prog 44 #[.pointer (some ⟨r, 0, none⟩), .string k] w fun e w' => e = .returned (.tuple #[]) ∧ ∃ A', VaN w' r B A' (tchN N k) ∧ w.grownBy w' (some r) := by
  have H := hide1 h
  have HI := hide1 hN
  have s4 := hl.fw
  have s5 := hl.ft
  have s6 := hl.fs
  clear h hN hl
  have x5 : w.cell? ⟨r, 5, none⟩ = some (.int .i64 N.wm) := H.out.cell 5
  have x6 : w.cell? ⟨r, 6, none⟩ = some (.slice A.w N.w.length A.wc) := H.out.cell 6
  have hqw := (hasQ_iff _ _).2 hin
  have HT := hide1 (show tchN N k = { N with w := k :: wthQ N.w k } by unfold tchN; rw [if_pos hqw])
  obtain ⟨L, hL⟩ : ∃ L, k :: wthQ N.w k = L := ⟨_, rfl⟩
  have RT := touR_yes HI.out.qw hin
  rw [hL] at RT HT
  have C1 := hide1 (specTouch_own A.w N.w A.wc N.wm k w s4 H.out.own.rd.fw RT)
  clear RT hL hqw hin
  go_enter Tryz.func44, Tryz.ntmps44
  go_wp2_with fail
  refine C1.out.mono ?_
  rintro e w1 ⟨po, cp, rfl, ho, hb1⟩
  have F : Hid (VaN (w1.alloc (.cells #[.int .i64 N.wm, .slice po L.length cp] 32)) r B A N ∧ Blk (w1.alloc (.cells #[.int .i64 N.wm, .slice po L.length cp] 32)) w1.heap.size 32 [.int .i64 N.wm, .slice po L.length cp] ∧ OwnQ (w1.alloc (.cells #[.int .i64 N.wm, .slice po L.length cp] 32)) w.heap.size po cp L ∧ w.grownBy (w1.alloc (.cells #[.int .i64 N.wm, .slice po L.length cp] 32)) (some r)) :=
    ⟨(H.out.later hb1).later ((Below.refl _ _).alloc (Nat.le_refl _) _), Blk.new w1 _ _, ho.later ((Below.refl _ _).alloc (Nat.le_refl _) _), gnew (hb1.alloc hb1.size _)⟩
  clear ho hb1 C1 x5 x6
  go_upto_region 1 with fail
  generalize (w1.alloc (.cells #[.int .i64 N.wm, .slice po L.length cp] 32)) = W at F ⊢
  generalize w1.heap.size = Q at F ⊢
  obtain ⟨V, K, O, G⟩ := F.out
  have z0 : W.cell? ⟨Q, 0, none⟩ = some (.int .i64 N.wm) := K.cell 0
  have z1 : W.cell? ⟨Q, 1, none⟩ = some (.slice po L.length cp) := K.cell 1
  have y5 : W.cell? ⟨r, 5, none⟩ = some (.int .i64 N.wm) := V.cell 5
  have y6 : W.cell? ⟨r, 6, none⟩ = some (.slice A.w N.w.length A.wc) := V.cell 6
  have yf : ∀ j, W.frozen? ⟨r, j, none⟩ = false := fun j => V.var.froz j
  have VV := hide1 (V.putW (m := N.wm) O (H.out.own.below_of (Nat.le_refl _)) H.out.le)
  have GG := hide1 G
  clear V K O G F
  go_wp2
  refine bodyPost_ret (results_none Tryz.results44 _ _ _) rfl ?_
  exact ⟨rfl, _, by rw [HT.out]; exact VV.out, gset (gset GG.out 5 _) 6 _⟩
set_option maxRecDepth 100000 in
set_option maxHeartbeats 8000000 in
theorem specTchS_any {w : World} {r B : Nat} {A : NA} {N : Nr} (h : VaN w r B A N) (hN : InN N) (hl : SmN N) (k : ByteArray) (hnw : ¬ k ∈ N.w) (hin : k ∈ N.s) :
    Calls Tryz.prog 44 #[.pointer (some ⟨r, 0, none⟩), .string k] w fun e w' => e = .returned (.tuple #[]) ∧ ∃ A', VaN w' r B A' (tchN N k) ∧ w.grownBy w' (some r) := by
  have H := hide1 h
  have HI := hide1 hN
  have s4 := hl.fw
  have s5 := hl.ft
  have s6 := hl.fs
  clear h hN hl
  have x5 : w.cell? ⟨r, 5, none⟩ = some (.int .i64 N.wm) := H.out.cell 5
  have x6 : w.cell? ⟨r, 6, none⟩ = some (.slice A.w N.w.length A.wc) := H.out.cell 6
  have hqw : hasQ N.w k = false := by
    rcases e : hasQ N.w k with _ | _
    · rfl
    · exact absurd ((hasQ_iff _ _).1 e) hnw
  have C1 := hide1 (specTouch_own A.w N.w A.wc N.wm k w s4 H.out.own.rd.fw (touR_no (fun e => hnw e.2)))
  go_enter Tryz.func44, Tryz.ntmps44
  go_wp2_with fail
  refine C1.out.mono ?_
  rintro e w1 ⟨po, cp, rfl, ho, hb1⟩
  have F : Hid (VaN (w1.alloc (.cells #[.int .i64 0, .slice po 0 cp] 32)) r B A N ∧ Blk (w1.alloc (.cells #[.int .i64 0, .slice po 0 cp] 32)) w1.heap.size 32 [.int .i64 0, .slice po 0 cp] ∧ w.grownBy (w1.alloc (.cells #[.int .i64 0, .slice po 0 cp] 32)) (some r) ∧ w.heap.size ≤ w1.heap.size) :=
    ⟨(H.out.later hb1).later ((Below.refl _ _).alloc (Nat.le_refl _) _), Blk.new w1 _ _, gnew (hb1.alloc hb1.size _), hb1.size⟩
  clear ho hb1 C1 x5 x6
  rw [List.length_nil]
  go_upto_region 1 with fail
  generalize (w1.alloc (.cells #[.int .i64 0, .slice po 0 cp] 32)) = W at F ⊢
  generalize w1.heap.size = Q at F ⊢
  have VW := hide1 F.out.1
  have KQ := hide1 F.out.2.1
  have GW := hide1 F.out.2.2.1
  have hQ := F.out.2.2.2
  clear F
  have hQW : Q < W.heap.size := KQ.out.lt
  have x9 : W.cell? ⟨r, 9, none⟩ = some (.int .i64 N.sm) := VW.out.cell 9
  have x10 : W.cell? ⟨r, 10, none⟩ = some (.slice A.s N.s.length A.sc) := VW.out.cell 10
  have hrw : r < w.heap.size := H.out.var.lt
  have hQ2 : Hid (∀ v ∈ vlN A N, ∀ g, v.ownBlock = some g → g < w.heap.size) := H.out.own.below_of (Nat.le_refl _)
  have hqs := (hasQ_iff _ _).2 hin
  have HT := hide1 (show tchN N k = { N with s := k :: wthQ N.s k } by unfold tchN; rw [if_neg (by rw [hqw]; simp), if_pos hqs])
  obtain ⟨L, hL⟩ : ∃ L, k :: wthQ N.s k = L := ⟨_, rfl⟩
  have RT := touR_yes HI.out.qs hin
  rw [hL] at RT HT
  have C2 := hide1 (specTouch_own A.s N.s A.sc N.sm k W s6 VW.out.own.rd.fs RT)
  clear RT hL hqw hqs hin
  go_wp2_with fail
  refine C2.out.mono ?_
  rintro e w2 ⟨p2, c2, rfl, ho, hb2⟩
  have V2 := hide1 (VW.out.later hb2)
  have K2 := hide1 (KQ.out.below hb2 KQ.out.lt)
  have G2 := hide1 (gtrans GW.out (gnew hb2))
  have O2 := hide1 ho
  have hs2 : W.heap.size ≤ w2.heap.size := hb2.size
  clear hb2 ho C2 x9 x10
  have q0 : w2.cell? ⟨Q, 0, none⟩ = some (.int .i64 0) := K2.out.cell 0
  have q1 : w2.cell? ⟨Q, 1, none⟩ = some (.slice po 0 cp) := K2.out.cell 1
  have qf : ∀ j, w2.frozen? ⟨Q, j, none⟩ = false := fun j => K2.out.froz j
  have hfar : Hid (Q ≠ r ∧ ∀ v ∈ vlN A N, ∀ g, v.ownBlock = some g → g ≠ Q) := ⟨by omega, fun v hv g hg => by have := hQ2.out v hv g hg; omega⟩
  have V3 := hide1 ((V2.out.far (.inr hfar.out) 0 (.int .i64 N.sm)).far (.inr hfar.out) 1 (.slice p2 L.length c2))
  have K3 := hide1 (Blk.set (Blk.set K2.out 0 (.int .i64 N.sm)) 1 (.slice p2 L.length c2))
  have O3 : Hid (OwnQ ((w2.setCell ⟨Q, 0, none⟩ (.int .i64 N.sm)).setCell ⟨Q, 1, none⟩ (.slice p2 L.length c2)) W.heap.size p2 c2 L) := own_far2 O2.out hQW _ _
  have G3 : Hid (w.grownBy ((w2.setCell ⟨Q, 0, none⟩ (.int .i64 N.sm)).setCell ⟨Q, 1, none⟩ (.slice p2 L.length c2)) (some r)) := ⟨G2.out.os, G2.out.tape, G2.out.output, by simpa using G2.out.size, fun j hj hne => by rw [Below.heap_setCell _ _ _ _ (by dsimp only; omega), Below.heap_setCell _ _ _ _ (by dsimp only; omega)]; exact G2.out.block j hj hne⟩
  have hz3 := hide1 (show w2.heap.size ≤ ((w2.setCell ⟨Q, 0, none⟩ (.int .i64 N.sm)).setCell ⟨Q, 1, none⟩ (.slice p2 L.length c2)).heap.size by simp)
  clear V2 K2 G2 O2
  go_upto_region 4 with fail
  generalize ((w2.setCell ⟨Q, 0, none⟩ (.int .i64 N.sm)).setCell ⟨Q, 1, none⟩ (.slice p2 L.length c2)) = W3 at O3 V3 K3 G3 hz3 ⊢
  have z0 : W3.cell? ⟨Q, 0, none⟩ = some (.int .i64 N.sm) := K3.out.cell 0
  have z1 : W3.cell? ⟨Q, 1, none⟩ = some (.slice p2 L.length c2) := K3.out.cell 1
  have y9 : W3.cell? ⟨r, 9, none⟩ = some (.int .i64 N.sm) := V3.out.cell 9
  have y10 : W3.cell? ⟨r, 10, none⟩ = some (.slice A.s N.s.length A.sc) := V3.out.cell 10
  have yf : ∀ j, W3.frozen? ⟨r, j, none⟩ = false := fun j => V3.out.var.froz j
  have VV := hide1 (V3.out.putS (m := N.sm) O3.out (fun v hv g hg => by have := hQ2.out v hv g hg; omega) (by have := VW.out.le; exact ⟨by omega, by omega⟩))
  clear q0 q1 qf V3 K3 O3
  go_wp2
  refine bodyPost_ret (results_none Tryz.results44 _ _ _) rfl ?_
  exact ⟨rfl, _, by rw [HT.out]; exact VV.out, gset (gset G3.out 9 _) 10 _⟩
end Go.Proofs.YtjgiobdpbbhekaaGreatDoor
namespace Go.Proofs.YtjgiobdpbbhekaaGreatDoor
open Go.RowKit

set_option maxRecDepth 100000 in
set_option maxHeartbeats 8000000 in
theorem specTchZ_any {w : World} {r B : Nat} {A : NA} {N : Nr} (h : VaN w r B A N) (hN : InN N) (hl : SmN N) (k : ByteArray) (hnw : ¬ k ∈ N.w) (hns : ¬ k ∈ N.s) (hin : k ∈ N.t) (hz : N.sm = 0) :
    Calls Tryz.prog 44 #[.pointer (some ⟨r, 0, none⟩), .string k] w fun e w' => e = .returned (.tuple #[]) ∧ ∃ A', VaN w' r B A' (tchN N k) ∧ w.grownBy w' (some r) := by
  have H := hide1 h
  have HI := hide1 hN
  have s4 := hl.fw
  have s5 := hl.ft
  have s6 := hl.fs
  clear h hN hl
  have x5 : w.cell? ⟨r, 5, none⟩ = some (.int .i64 N.wm) := H.out.cell 5
  have x6 : w.cell? ⟨r, 6, none⟩ = some (.slice A.w N.w.length A.wc) := H.out.cell 6
  have hqw : hasQ N.w k = false := by
    rcases e : hasQ N.w k with _ | _
    · rfl
    · exact absurd ((hasQ_iff _ _).1 e) hnw
  have hqs : hasQ N.s k = false := by
    rcases e : hasQ N.s k with _ | _
    · rfl
    · exact absurd ((hasQ_iff _ _).1 e) hns
  have HT := hide1 (show tchN N k = { N with t := k :: wthQ N.t k } by unfold tchN; rw [if_neg (by rw [hqw]; simp), if_neg (by rw [hqs]; simp), if_pos hz])
  have HZ := hide1 hz
  have HIN := hide1 hin
  clear hqw hqs hz hin
  have C1 := hide1 (specTouch_own A.w N.w A.wc N.wm k w s4 H.out.own.rd.fw (touR_no (fun e => hnw e.2)))
  go_enter Tryz.func44, Tryz.ntmps44
  go_wp2_with fail
  refine C1.out.mono ?_
  rintro e w1 ⟨po, cp, rfl, ho, hb1⟩
  have F : Hid (VaN (w1.alloc (.cells #[.int .i64 0, .slice po 0 cp] 32)) r B A N ∧ Blk (w1.alloc (.cells #[.int .i64 0, .slice po 0 cp] 32)) w1.heap.size 32 [.int .i64 0, .slice po 0 cp] ∧ w.grownBy (w1.alloc (.cells #[.int .i64 0, .slice po 0 cp] 32)) (some r) ∧ w.heap.size ≤ w1.heap.size) :=
    ⟨(H.out.later hb1).later ((Below.refl _ _).alloc (Nat.le_refl _) _), Blk.new w1 _ _, gnew (hb1.alloc hb1.size _), hb1.size⟩
  clear ho hb1 C1 x5 x6
  rw [List.length_nil]
  go_upto_region 1 with fail
  generalize (w1.alloc (.cells #[.int .i64 0, .slice po 0 cp] 32)) = W at F ⊢
  generalize w1.heap.size = Q at F ⊢
  have VW := hide1 F.out.1
  have KQ := hide1 F.out.2.1
  have GW := hide1 F.out.2.2.1
  have hQ := F.out.2.2.2
  clear F
  have hQW : Q < W.heap.size := KQ.out.lt
  have x9 : W.cell? ⟨r, 9, none⟩ = some (.int .i64 N.sm) := VW.out.cell 9
  have x10 : W.cell? ⟨r, 10, none⟩ = some (.slice A.s N.s.length A.sc) := VW.out.cell 10
  have hrw : r < w.heap.size := H.out.var.lt
  have hQ2 : Hid (∀ v ∈ vlN A N, ∀ g, v.ownBlock = some g → g < w.heap.size) := H.out.own.below_of (Nat.le_refl _)
  have C2 := hide1 (specTouch_own A.s N.s A.sc N.sm k W s6 VW.out.own.rd.fs (touR_no (fun e => hns e.2)))
  go_wp2_with fail
  refine C2.out.mono ?_
  rintro e w2 ⟨p2, c2, rfl, ho, hb2⟩
  rw [List.length_nil]
  have V2 := hide1 (VW.out.later hb2)
  have K2 := hide1 (KQ.out.below hb2 KQ.out.lt)
  have G2 := hide1 (gtrans GW.out (gnew hb2))
  have O2 := hide1 ho
  have hs2 : W.heap.size ≤ w2.heap.size := hb2.size
  clear hb2 ho C2 x9 x10
  have q0 : w2.cell? ⟨Q, 0, none⟩ = some (.int .i64 0) := K2.out.cell 0
  have q1 : w2.cell? ⟨Q, 1, none⟩ = some (.slice po 0 cp) := K2.out.cell 1
  have qf : ∀ j, w2.frozen? ⟨Q, j, none⟩ = false := fun j => K2.out.froz j
  have hfar : Hid (Q ≠ r ∧ ∀ v ∈ vlN A N, ∀ g, v.ownBlock = some g → g ≠ Q) := ⟨by omega, fun v hv g hg => by have := hQ2.out v hv g hg; omega⟩
  have V3 := hide1 ((V2.out.far (.inr hfar.out) 0 (.int .i64 0)).far (.inr hfar.out) 1 (.slice p2 0 c2))
  have K3 := hide1 (Blk.set (Blk.set K2.out 0 (.int .i64 0)) 1 (.slice p2 0 c2))
  have G3 : Hid (w.grownBy ((w2.setCell ⟨Q, 0, none⟩ (.int .i64 0)).setCell ⟨Q, 1, none⟩ (.slice p2 0 c2)) (some r)) := ⟨G2.out.os, G2.out.tape, G2.out.output, by simpa using G2.out.size, fun j hj hne => by rw [Below.heap_setCell _ _ _ _ (by dsimp only; omega), Below.heap_setCell _ _ _ _ (by dsimp only; omega)]; exact G2.out.block j hj hne⟩
  have hz3 := hide1 (show w2.heap.size ≤ ((w2.setCell ⟨Q, 0, none⟩ (.int .i64 0)).setCell ⟨Q, 1, none⟩ (.slice p2 0 c2)).heap.size by simp)
  clear V2 K2 G2 O2
  go_upto_region 4 with fail
  generalize ((w2.setCell ⟨Q, 0, none⟩ (.int .i64 0)).setCell ⟨Q, 1, none⟩ (.slice p2 0 c2)) = W3 at V3 K3 G3 hz3 ⊢
  have y9 : W3.cell? ⟨r, 9, none⟩ = some (.int .i64 N.sm) := V3.out.cell 9
  have hv3 : Hid (∀ v ∈ vlN A N, ∀ g, v.ownBlock = some g → g < w2.heap.size) := fun v hv g hg => by have := hQ2.out v hv g hg; omega
  have hB3 := hide1 (show B ≤ w2.heap.size ∧ r < w2.heap.size by have := VW.out.le; exact ⟨by omega, by omega⟩)
  clear q0 q1 qf K3
  obtain ⟨L, hL⟩ : ∃ L, k :: wthQ N.t k = L := ⟨_, rfl⟩
  have RT := touR_yes HI.out.qt HIN.out
  rw [hL] at RT HT
  have C3 := hide1 (specTouch_own A.t N.t A.tc N.tm k W3 s5 V3.out.own.rd.ft RT)
  clear RT hL
  rw [HZ.out] at y9
  have y7 : W3.cell? ⟨r, 7, none⟩ = some (.int .i64 N.tm) := V3.out.cell 7
  have y8 : W3.cell? ⟨r, 8, none⟩ = some (.slice A.t N.t.length A.tc) := V3.out.cell 8
  go_upto_region 7 with fail
  go_wp2_with fail
  refine C3.out.mono ?_
  rintro e w4 ⟨p4, c4, rfl, ho, hb4⟩
  have V4 := hide1 (V3.out.later hb4)
  have G4 := hide1 (gtrans G3.out (gnew hb4))
  have u7 : w4.cell? ⟨r, 7, none⟩ = some (.int .i64 N.tm) := V4.out.cell 7
  have u8 : w4.cell? ⟨r, 8, none⟩ = some (.slice A.t N.t.length A.tc) := V4.out.cell 8
  have uf : ∀ j, w4.frozen? ⟨r, j, none⟩ = false := fun j => V4.out.var.froz j
  have VV := hide1 (V4.out.putT (m := N.tm) ho (fun v hv g hg => Nat.lt_of_lt_of_le (hv3.out v hv g hg) hz3.out) ⟨Nat.le_trans hB3.out.1 hz3.out, Nat.lt_of_lt_of_le hB3.out.2 hz3.out⟩)
  clear y7 y8 y9 ho hb4 C3 V3 V4
  go_wp2
  refine bodyPost_ret (results_none Tryz.results44 _ _ _) rfl ?_
  exact ⟨rfl, _, by rw [HT.out]; exact VV.out, gset (gset G4.out 7 _) 8 _⟩
end Go.Proofs.YtjgiobdpbbhekaaGreatDoor
namespace Go.Proofs.YtjgiobdpbbhekaaGreatDoor
open Go.RowKit

theorem InN.pushT {N : Nr} (h : InN N) {k : ByteArray} (ht : k ∈ N.t) (hkn : ¬ k ∈ N.s) (hm0 : ¬ N.sm = 0) :
    PshQ N.s N.sm k ∧ ∀ x, (k :: N.s).getD N.sm.toNat ⟨#[]⟩ = x → ¬ x = ⟨#[]⟩ → pshR (wthQ N.t k) N.tm x = ((x :: wthQ N.t k, N.tm), (x :: wthQ N.t k).getD N.tm.toNat ⟨#[]⟩, true) := by
  have hP : PshQ N.s N.sm k := ⟨h.qs, h.qt.2.2.2.1 k ht, hkn, hm0⟩
  refine ⟨hP, fun x hx hne => ?_⟩
  have hnd := h.nd
  unfold keysN at hnd
  rw [List.nodup_append, List.nodup_append] at hnd
  obtain ⟨_, _, dws⟩ := hnd
  have hlt := wthQ_lt ht
  have htl := h.qt.2.2.1
  have hsl := h.qs.2.2.1
  have h0 : 0 < N.t.length := List.length_pos_of_mem ht
  have hq0 := h.qs.1
  have hxm : x ∈ N.s := by
    rcases push_two (l := N.s) (m := N.sm.toNat) (k := k) (by omega) (by omega) with ⟨_, _, e2⟩ | ⟨_, s0, y, es, _, e2⟩
    · exact absurd (hx.symm.trans e2) hne
    · rw [← hx, e2, es]; simp
  have hxt : ¬ x ∈ N.t := fun e => dws x (List.mem_append_right _ e) x hxm rfl
  rw [pshR_yes ⟨h.qt.drop, h.qs.2.2.2.1 x hxm, fun e => hxt ((wthQ_mem _ _ _).1 e).1, by omega⟩]
  rw [List.take_of_length_le (by simp only [List.length_cons]; omega)]
set_option maxRecDepth 100000 in
set_option maxHeartbeats 8000000 in
theorem specTchT_any {w : World} {r B : Nat} {A : NA} {N : Nr} (h : VaN w r B A N) (hN : InN N) (hl : SmN N) (k : ByteArray) (hnw : ¬ k ∈ N.w) (hns : ¬ k ∈ N.s) (hin : k ∈ N.t) (hz : ¬ N.sm = 0) :
    Calls Tryz.prog 44 #[.pointer (some ⟨r, 0, none⟩), .string k] w fun e w' => e = .returned (.tuple #[]) ∧ ∃ A', VaN w' r B A' (tchN N k) ∧ w.grownBy w' (some r) := by
  have H := hide1 h
  have HI := hide1 hN
  have s4 := hl.fw
  have s5 := hl.ft
  have s6 := hl.fs
  clear h hN hl
  have x5 : w.cell? ⟨r, 5, none⟩ = some (.int .i64 N.wm) := H.out.cell 5
  have x6 : w.cell? ⟨r, 6, none⟩ = some (.slice A.w N.w.length A.wc) := H.out.cell 6
  have hqw : hasQ N.w k = false := by
    rcases e : hasQ N.w k with _ | _
    · rfl
    · exact absurd ((hasQ_iff _ _).1 e) hnw
  have hqs : hasQ N.s k = false := by
    rcases e : hasQ N.s k with _ | _
    · rfl
    · exact absurd ((hasQ_iff _ _).1 e) hns
  obtain ⟨hP, hX⟩ := HI.out.pushT hin hns hz
  have RP := pshR_yes hP
  obtain ⟨x, hx⟩ : ∃ x, (k :: N.s).getD N.sm.toNat ⟨#[]⟩ = x := ⟨_, rfl⟩
  obtain ⟨M, hM⟩ : ∃ M, (k :: N.s).take N.sm.toNat = M := ⟨_, rfl⟩
  obtain ⟨L, hL⟩ : ∃ L, wthQ N.t k = L := ⟨_, rfl⟩
  have RD := drpR_yes HI.out.qt hin
  have HT := hide1 (show tchN N k = { N with s := M, t := if x = ⟨#[]⟩ then L else x :: L } by unfold tchN; rw [if_neg (by rw [hqw]; simp), if_neg (by rw [hqs]; simp), if_neg hz, hx, hM, hL])
  have HX := hide1 (hX x hx)
  have hLl : L.length ≤ 1048576 := by have := wthQ_length N.t k; rw [hL] at this; omega
  rw [hx, hM] at RP
  rw [hL] at RD HX
  have HP := hide1 RP
  have HD := hide1 RD
  have hzz : (N.sm == 0) = false := by simpa using hz
  have HZZ := hide1 hzz
  clear hqw hqs hz hin hP hX RP RD hx hM hL hzz
  have C1 := hide1 (specTouch_own A.w N.w A.wc N.wm k w s4 H.out.own.rd.fw (touR_no (fun e => hnw e.2)))
  go_enter Tryz.func44, Tryz.ntmps44
  go_wp2_with fail
  refine C1.out.mono ?_
  rintro e w1 ⟨po, cp, rfl, ho, hb1⟩
  have F : Hid (VaN (w1.alloc (.cells #[.int .i64 0, .slice po 0 cp] 32)) r B A N ∧ Blk (w1.alloc (.cells #[.int .i64 0, .slice po 0 cp] 32)) w1.heap.size 32 [.int .i64 0, .slice po 0 cp] ∧ w.grownBy (w1.alloc (.cells #[.int .i64 0, .slice po 0 cp] 32)) (some r) ∧ w.heap.size ≤ w1.heap.size) :=
    ⟨(H.out.later hb1).later ((Below.refl _ _).alloc (Nat.le_refl _) _), Blk.new w1 _ _, gnew (hb1.alloc hb1.size _), hb1.size⟩
  clear ho hb1 C1 x5 x6
  rw [List.length_nil]
  go_upto_region 1 with fail
  generalize (w1.alloc (.cells #[.int .i64 0, .slice po 0 cp] 32)) = W at F ⊢
  generalize w1.heap.size = Q at F ⊢
  have VW := hide1 F.out.1
  have KQ := hide1 F.out.2.1
  have GW := hide1 F.out.2.2.1
  have hQ := F.out.2.2.2
  clear F
  have hQW : Q < W.heap.size := KQ.out.lt
  have x9 : W.cell? ⟨r, 9, none⟩ = some (.int .i64 N.sm) := VW.out.cell 9
  have x10 : W.cell? ⟨r, 10, none⟩ = some (.slice A.s N.s.length A.sc) := VW.out.cell 10
  have hrw : r < w.heap.size := H.out.var.lt
  have hQ2 : Hid (∀ v ∈ vlN A N, ∀ g, v.ownBlock = some g → g < w.heap.size) := H.out.own.below_of (Nat.le_refl _)
  have C2 := hide1 (specTouch_own A.s N.s A.sc N.sm k W s6 VW.out.own.rd.fs (touR_no (fun e => hns e.2)))
  go_wp2_with fail
  refine C2.out.mono ?_
  rintro e w2 ⟨p2, c2, rfl, ho, hb2⟩
  rw [List.length_nil]
  have V2 := hide1 (VW.out.later hb2)
  have K2 := hide1 (KQ.out.below hb2 KQ.out.lt)
  have G2 := hide1 (gtrans GW.out (gnew hb2))
  have O2 := hide1 ho
  have hs2 : W.heap.size ≤ w2.heap.size := hb2.size
  clear hb2 ho C2 x9 x10
  have q0 : w2.cell? ⟨Q, 0, none⟩ = some (.int .i64 0) := K2.out.cell 0
  have q1 : w2.cell? ⟨Q, 1, none⟩ = some (.slice po 0 cp) := K2.out.cell 1
  have qf : ∀ j, w2.frozen? ⟨Q, j, none⟩ = false := fun j => K2.out.froz j
  have hfar : Hid (Q ≠ r ∧ ∀ v ∈ vlN A N, ∀ g, v.ownBlock = some g → g ≠ Q) := ⟨by omega, fun v hv g hg => by have := hQ2.out v hv g hg; omega⟩
  have V3 := hide1 ((V2.out.far (.inr hfar.out) 0 (.int .i64 0)).far (.inr hfar.out) 1 (.slice p2 0 c2))
  have K3 := hide1 (Blk.set (Blk.set K2.out 0 (.int .i64 0)) 1 (.slice p2 0 c2))
  have G3 : Hid (w.grownBy ((w2.setCell ⟨Q, 0, none⟩ (.int .i64 0)).setCell ⟨Q, 1, none⟩ (.slice p2 0 c2)) (some r)) := ⟨G2.out.os, G2.out.tape, G2.out.output, by simpa using G2.out.size, fun j hj hne => by rw [Below.heap_setCell _ _ _ _ (by dsimp only; omega), Below.heap_setCell _ _ _ _ (by dsimp only; omega)]; exact G2.out.block j hj hne⟩
  have hz3 := hide1 (show w2.heap.size ≤ ((w2.setCell ⟨Q, 0, none⟩ (.int .i64 0)).setCell ⟨Q, 1, none⟩ (.slice p2 0 c2)).heap.size by simp)
  clear V2 K2 G2 O2
  go_upto_region 4 with fail
  generalize ((w2.setCell ⟨Q, 0, none⟩ (.int .i64 0)).setCell ⟨Q, 1, none⟩ (.slice p2 0 c2)) = W3 at V3 K3 G3 hz3 ⊢
  have y9 : W3.cell? ⟨r, 9, none⟩ = some (.int .i64 N.sm) := V3.out.cell 9
  have hv3 : Hid (∀ v ∈ vlN A N, ∀ g, v.ownBlock = some g → g < w2.heap.size) := fun v hv g hg => by have := hQ2.out v hv g hg; omega
  have hB3 := hide1 (show B ≤ w2.heap.size ∧ r < w2.heap.size by have := VW.out.le; exact ⟨by omega, by omega⟩)
  clear q0 q1 qf K3
  have C3 := hide1 (specDrop_own A.t N.t A.tc N.tm k W3 s5 V3.out.own.rd.ft HD.out)
  have y7 : W3.cell? ⟨r, 7, none⟩ = some (.int .i64 N.tm) := V3.out.cell 7
  have y8 : W3.cell? ⟨r, 8, none⟩ = some (.slice A.t N.t.length A.tc) := V3.out.cell 8
  have hzz := HZZ.out
  go_upto_region 8 with fail
  clear hzz y9
  go_wp2_with fail
  refine C3.out.mono ?_
  rintro e w4 ⟨p4, c4, rfl, ho, hb4⟩
  have V4 := hide1 (V3.out.later hb4)
  have G4 := hide1 (gtrans G3.out (gnew hb4))
  have u7 : w4.cell? ⟨r, 7, none⟩ = some (.int .i64 N.tm) := V4.out.cell 7
  have u8 : w4.cell? ⟨r, 8, none⟩ = some (.slice A.t N.t.length A.tc) := V4.out.cell 8
  have uf : ∀ j, w4.frozen? ⟨r, j, none⟩ = false := fun j => V4.out.var.froz j
  have V5 := hide1 (V4.out.putT (m := N.tm) ho (fun v hv g hg => Nat.lt_of_lt_of_le (hv3.out v hv g hg) hz3.out) ⟨Nat.le_trans hB3.out.1 hz3.out, Nat.lt_of_lt_of_le hB3.out.2 hz3.out⟩)
  have G5 := hide1 (gset (gset G4.out 7 (.int .i64 N.tm)) 8 (.slice p4 L.length c4))
  clear y7 y8 ho hb4 C3 V3 G3 V4 G4 hz3 hv3 hB3 VW KQ GW
  go_upto_region 9 with fail
  generalize ((w4.setCell ⟨r, 7, none⟩ (.int .i64 N.tm)).setCell ⟨r, 8, none⟩ (.slice p4 L.length c4)) = W5 at V5 G5 ⊢
  clear u7 u8 uf
  have t9 : W5.cell? ⟨r, 9, none⟩ = some (.int .i64 N.sm) := V5.out.cell 9
  have t10 : W5.cell? ⟨r, 10, none⟩ = some (.slice A.s N.s.length A.sc) := V5.out.cell 10
  have C5 := hide1 (specPush_own A.s N.s A.sc N.sm k W5 s6 V5.out.own.rd.fs HP.out)
  go_wp2_with fail
  refine C5.out.mono ?_
  rintro e w6 ⟨p6, c6, rfl, ho, hb6⟩
  have F : Hid (VaN (w6.alloc (.cells #[.int .i64 N.sm, .slice p6 M.length c6] 32)) r B { A with t := p4, tc := c4 } { N with t := L, tm := N.tm } ∧ Blk (w6.alloc (.cells #[.int .i64 N.sm, .slice p6 M.length c6] 32)) w6.heap.size 32 [.int .i64 N.sm, .slice p6 M.length c6] ∧ OwnQ (w6.alloc (.cells #[.int .i64 N.sm, .slice p6 M.length c6] 32)) W5.heap.size p6 c6 M ∧ w.grownBy (w6.alloc (.cells #[.int .i64 N.sm, .slice p6 M.length c6] 32)) (some r)) :=
    ⟨(V5.out.later hb6).later ((Below.refl _ _).alloc (Nat.le_refl _) _), Blk.new w6 _ _, ho.later ((Below.refl _ _).alloc (Nat.le_refl _) _), gtrans G5.out (gnew (hb6.alloc hb6.size _))⟩
  have hv5 : Hid (∀ v ∈ vlN { A with t := p4, tc := c4 } { N with t := L, tm := N.tm }, ∀ g, v.ownBlock = some g → g < W5.heap.size) := V5.out.own.below_of (Nat.le_refl _)
  have hB5 := hide1 V5.out.le
  clear ho hb6 C5 t9 t10 V5 G5
  go_upto_region 10 with fail
  generalize (w6.alloc (.cells #[.int .i64 N.sm, .slice p6 M.length c6] 32)) = W7 at F ⊢
  generalize w6.heap.size = Q7 at F ⊢
  have V7 := hide1 F.out.1
  have K7 := hide1 F.out.2.1
  have O7 := hide1 F.out.2.2.1
  have G7 := hide1 F.out.2.2.2
  clear F
  have z0 : W7.cell? ⟨Q7, 0, none⟩ = some (.int .i64 N.sm) := K7.out.cell 0
  have z1 : W7.cell? ⟨Q7, 1, none⟩ = some (.slice p6 M.length c6) := K7.out.cell 1
  have z9 : W7.cell? ⟨r, 9, none⟩ = some (.int .i64 N.sm) := V7.out.cell 9
  have z10 : W7.cell? ⟨r, 10, none⟩ = some (.slice A.s N.s.length A.sc) := V7.out.cell 10
  have zf : ∀ j, W7.frozen? ⟨r, j, none⟩ = false := fun j => V7.out.var.froz j
  have V8 := hide1 (V7.out.putS (m := N.sm) O7.out hv5.out hB5.out)
  have G8 := hide1 (gset (gset G7.out 9 (.int .i64 N.sm)) 10 (.slice p6 M.length c6))
  clear V7 K7 O7 G7 hv5 hB5
  go_upto_region 11 with fail
  generalize ((W7.setCell ⟨r, 9, none⟩ (.int .i64 N.sm)).setCell ⟨r, 10, none⟩ (.slice p6 M.length c6)) = W8 at V8 G8 ⊢
  clear z0 z1 z9 z10 zf
  by_cases hx : x = ⟨#[]⟩
  · have HT2 := hide1 (HT.out.trans (by rw [if_pos hx]))
    have q : x.toList.isEmpty = true := by rw [hx]; simp
    clear hx HT
    go_wp2
    refine bodyPost_end (results_none Tryz.results44 _ _ _) rfl ?_
    exact ⟨rfl, ⟨_, by rw [HT2.out]; exact V8.out⟩, G8.out⟩
  · have HT2 := hide1 (HT.out.trans (by rw [if_neg hx]))
    have HR := hide1 (HX.out hx)
    have q : x.toList.isEmpty = false := by
      obtain ⟨q, _⟩ := text_ne hx
      rcases e : x.toList with _ | _
      · rw [e] at q; simp at q
      · rfl
    have C8 := hide1 (specPush_own p4 L c4 N.tm x W8 hLl V8.out.own.rd.ft HR.out)
    have e7 : W8.cell? ⟨r, 7, none⟩ = some (.int .i64 N.tm) := V8.out.cell 7
    have e8 : W8.cell? ⟨r, 8, none⟩ = some (.slice p4 L.length c4) := V8.out.cell 8
    clear hx HT HR
    go_upto_region 12 with fail
    clear q
    go_wp2_with fail
    refine C8.out.mono ?_
    rintro e w9 ⟨p9, c9, rfl, ho, hb9⟩
    have V9 := hide1 (V8.out.later hb9)
    have G9 := hide1 (gtrans G8.out (gnew hb9))
    have u7 : w9.cell? ⟨r, 7, none⟩ = some (.int .i64 N.tm) := V9.out.cell 7
    have u8 : w9.cell? ⟨r, 8, none⟩ = some (.slice p4 L.length c4) := V9.out.cell 8
    have uf : ∀ j, w9.frozen? ⟨r, j, none⟩ = false := fun j => V9.out.var.froz j
    have VV := hide1 (V9.out.putT (m := N.tm) ho (V8.out.own.below_of (Nat.le_refl _)) V8.out.le)
    clear ho hb9 C8 e7 e8 V8 G8 V9
    go_wp2
    refine bodyPost_end (results_none Tryz.results44 _ _ _) rfl ?_
    exact ⟨rfl, _, by rw [HT2.out]; exact VV.out, gset (gset G9.out 7 _) 8 _⟩
theorem specTch_any {w : World} {r B : Nat} {A : NA} {N : Nr} (h : VaN w r B A N) (hN : InN N) (hl : SmN N) (k : ByteArray) (hk : k ∈ keysN N) :
    Calls Tryz.prog 44 #[.pointer (some ⟨r, 0, none⟩), .string k] w fun e w' => e = .returned (.tuple #[]) ∧ ∃ A', VaN w' r B A' (tchN N k) ∧ w.grownBy w' (some r) := by
  by_cases h1 : k ∈ N.w
  · exact specTchW_any h hN hl k h1
  by_cases h2 : k ∈ N.s
  · exact specTchS_any h hN hl k h1 h2
  have h3 : k ∈ N.t := by
    rcases InN.mem.1 hk with a | a | a
    · exact absurd a h1
    · exact a
    · exact absurd a h2
  by_cases h4 : N.sm = 0
  · exact specTchZ_any h hN hl k h1 h2 h3 h4
  · exact specTchT_any h hN hl k h1 h2 h3 h4
end Go.Proofs.YtjgiobdpbbhekaaGreatDoor
