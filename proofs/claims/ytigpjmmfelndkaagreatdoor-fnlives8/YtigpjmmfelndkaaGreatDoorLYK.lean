import Derived.LoopN
import Derived.Test.YtigpjmmfelndkaaGreatDoorLXVY
import Derived.Test.YtigpjmmfelndkaaGreatDoorLYE
namespace Go.Proofs.YtigpjmmfelndkaaGreatDoor
open Go.RowKit
set_option linter.unusedVariables false
set_option maxRecDepth 100000
set_option maxHeartbeats 4000000
structure VaH (w : World) (r B : Nat) (A : NA) (N : Nr) : Prop where
 var : Blk w r 75 (neC A N)
 own : OwnN w B A N
 ne : ∀ v ∈ vlN A N, ∀ g, v.ownBlock = some g -> g ≠ r
 le : B <= w.heap.size /\ r < w.heap.size
theorem VaH.later {w w' : World} {r B : Nat} {A : NA} {N : Nr} (h : VaH w r B A N) (hb : Below w.heap.size w w') : VaH w' r B A N := ⟨h.var.below hb h.var.lt, h.own.later hb, h.ne, Nat.le_trans h.le.1 hb.size, Nat.lt_of_lt_of_le h.le.2 hb.size⟩
theorem VaH.cell {w : World} {r B : Nat} {A : NA} {N : Nr} (h : VaH w r B A N) (j : Nat) : w.cell? ⟨r, j, none⟩ = (neC A N)[j]? := h.var.cell j
theorem VaH.putW {w : World} {r B S c : Nat} {A : NA} {N : Nr} {b : Option Addr} {l : List ByteArray} {m : Int} (h : VaH w r B A N) (ho : OwnQ w S b c l) (hS : ∀ v ∈ vlN A N, ∀ g, v.ownBlock = some g -> g < S) (hB : B <= S /\ r < S) : VaH ((w.setCell ⟨r, 5, none⟩ (.int .i64 m)).setCell ⟨r, 6, none⟩ (.slice b l.length c)) r B { A with w := b, wc := c } { N with w := l, wm := m } :=
 ⟨Blk.set (Blk.set h.var 5 _) 6 _, ((h.own.off _ _ h.ne).off _ _ h.ne).setW (qfG ho hB.2 _ _) hS hB.1 m, qcE (i := 3) h.ne (fun g hg => by have := (ho.lt g hg).1; have := hB.2; omega), by simpa using h.le⟩
theorem VaH.putT {w : World} {r B S c : Nat} {A : NA} {N : Nr} {b : Option Addr} {l : List ByteArray} {m : Int} (h : VaH w r B A N) (ho : OwnQ w S b c l) (hS : ∀ v ∈ vlN A N, ∀ g, v.ownBlock = some g -> g < S) (hB : B <= S /\ r < S) : VaH ((w.setCell ⟨r, 7, none⟩ (.int .i64 m)).setCell ⟨r, 8, none⟩ (.slice b l.length c)) r B { A with t := b, tc := c } { N with t := l, tm := m } :=
 ⟨Blk.set (Blk.set h.var 7 _) 8 _, ((h.own.off _ _ h.ne).off _ _ h.ne).setT (qfG ho hB.2 _ _) hS hB.1 m, qcE (i := 4) h.ne (fun g hg => by have := (ho.lt g hg).1; have := hB.2; omega), by simpa using h.le⟩
theorem VaH.putS {w : World} {r B S c : Nat} {A : NA} {N : Nr} {b : Option Addr} {l : List ByteArray} {m : Int} (h : VaH w r B A N) (ho : OwnQ w S b c l) (hS : ∀ v ∈ vlN A N, ∀ g, v.ownBlock = some g -> g < S) (hB : B <= S /\ r < S) : VaH ((w.setCell ⟨r, 9, none⟩ (.int .i64 m)).setCell ⟨r, 10, none⟩ (.slice b l.length c)) r B { A with s := b, sc := c } { N with s := l, sm := m } :=
 ⟨Blk.set (Blk.set h.var 9 _) 10 _, ((h.own.off _ _ h.ne).off _ _ h.ne).setS (qfG ho hB.2 _ _) hS hB.1 m, qcE (i := 5) h.ne (fun g hg => by have := (ho.lt g hg).1; have := hB.2; omega), by simpa using h.le⟩
theorem VaH.far {w : World} {r B q : Nat} {A : NA} {N : Nr} (h : VaH w r B A N) (hq : w.heap.size <= q ∨ (q ≠ r /\ ∀ v ∈ vlN A N, ∀ g, v.ownBlock = some g -> g ≠ q)) (j : Nat) (u : Value) : VaH (w.setCell ⟨q, j, none⟩ u) r B A N := by
 have hqr : r ≠ q := by
  rcases hq with h1 | h1
  ·have := h.var.lt; omega
  ·exact fun e => h1.1 e.symm
 have hb : ∀ v ∈ vlN A N, ∀ k, v.ownBlock = some k -> k ≠ q := fun v hv k hk => by
  rcases hq with h1 | h1
  ·have := (h.own.lt v hv k hk).2; omega
  ·exact h1.2 v hv k hk
 exact ⟨h.var.far _ _ hqr, ⟨qaA h.own.fa _ _ (hb _ (by simp [vlN])), qaA h.own.fc _ _ (hb _ (by simp [vlN])), qaA h.own.fo _ _ (hb _ (by simp [vlN])), qaA h.own.fw _ _ (hb _ (by simp [vlN])), qaA h.own.ft _ _ (hb _ (by simp [vlN])), qaA h.own.fs _ _ (hb _ (by simp [vlN])), qaA h.own.fk _ _ (hb _ (by simp [vlN])), h.own.ap⟩, h.ne, by simpa using h.le⟩
theorem VaH.putA {w : World} {r B S c : Nat} {A : NA} {N : Nr} {b : Option Addr} {l : List Sl} {f : Int} (h : VaH w r B A N) (ho : w.ownsRow S 99 5 (.slice b l.length c) l.length (sls l)) (hS : ∀ v ∈ vlN A N, ∀ g, v.ownBlock = some g -> g < S) (hB : B <= S /\ r < S) : VaH ((w.setCell ⟨r, 0, none⟩ (.slice b l.length c)).setCell ⟨r, 1, none⟩ (.int .i64 f)) r B { A with a := b, ac := c } { N with sl := l, fr := f } :=
 have hne : ∀ g, (Value.slice b l.length c).ownBlock = some g -> g ≠ r := fun g hg => by have := (ho.lt g hg).1; have := hB.2; omega
 ⟨Blk.set (Blk.set h.var 0 _) 1 _, ((h.own.off _ _ h.ne).off _ _ h.ne).setA (qaA (qaA ho _ _ hne) _ _ hne) hS hB.1 f, qcE (i := 0) h.ne hne, by simpa using h.le⟩
theorem VaH.putC {w : World} {r B S c c' : Nat} {A : NA} {N : Nr} {b b' : Option Addr} {l l' : List Ce} {m : Int} (h : VaH w r B A N) (ho : Own2 w S b c l b' c' l') (hS : ∀ v ∈ vlN A N, ∀ g, v.ownBlock = some g -> g < S) (hB : B <= S /\ r < S) : VaH (((w.setCell ⟨r, 2, none⟩ (.slice b l.length c)).setCell ⟨r, 3, none⟩ (.slice b' l'.length c')).setCell ⟨r, 4, none⟩ (.int .i64 m)) r B { A with c := b, cc := c, o := b', oc := c' } { N with ce := l, od := l', mv := m } :=
 have hn1 : ∀ g, (Value.slice b l.length c).ownBlock = some g -> g ≠ r := fun g hg => by have := (ho.1.lt g hg).1; have := hB.2; omega
 have hn2 : ∀ g, (Value.slice b' l'.length c').ownBlock = some g -> g ≠ r := fun g hg => by have := (ho.2.1.lt g hg).1; have := hB.2; omega
 ⟨Blk.set (Blk.set (Blk.set h.var 2 _) 3 _) 4 _, (((h.own.off _ _ h.ne).off _ _ h.ne).off _ _ h.ne).setC ⟨qaA (qaA (qaA ho.1 _ _ hn1) _ _ hn1) _ _ hn1, qaA (qaA (qaA ho.2.1 _ _ hn2) _ _ hn2) _ _ hn2, ho.2.2⟩ hS hB.1 m, qcE (i := 2) (qcE (i := 1) h.ne hn1) hn2, by simpa using h.le⟩
theorem qrE (ao a' : Option Addr) (l o : List Ce) (ca ca' : Nat) (mv : Int) (key : ByteArray) (w : World) (hl : l.length <= 1048576) (hl' : o.length <= 1048576) (hk : key.size <= 1048576) (hA : RdC w ao l) (hA' : RdC w a' o) (hok : OkT l o mv) (hk0 : key.toList ≠ []) {L O : List Ce} {M : Int} (hR : qbY l o mv key = some (L, O, M)) :
  Calls Tryz.prog 136 #[tbV ao l.length ca a' o.length ca' mv, .string key] w fun e w' => ∃ b c b' c', e = .returned (.tuple #[tbV b L.length c b' O.length c' M, .bool true]) /\ Own2 w' w.heap.size b c L b' c' O /\ Below w.heap.size w w' := by
 refine (qrF ao a' l o ca ca' mv key w hl hl' hk hA.toJ hA'.toJ).mono ?_
 rintro e w' ⟨b, L', c, b', O', c', M', t, rfl, ha, h1, h2, h3, hb⟩
 obtain ⟨rfl, rfl, rfl, rfl⟩ := Ans.det ha (.inl ⟨⟨hok, hk0⟩, hR, rfl⟩)
 exact ⟨b, c, b', c', rfl, ⟨h1, h2, h3⟩, hb⟩
theorem qjX (ao a' : Option Addr) (l o : List Ce) (ca ca' : Nat) (mv : Int) (key : ByteArray) (w : World) (hl : l.length <= 1048576) (hl' : o.length <= 1048576) (hk : key.size <= 1048576) (hA : RdC w ao l) (hA' : RdC w a' o) (hok : OkT l o mv) (hk0 : key.toList ≠ []) {h : Int} (hR : qcP l o key = some h) :
  Calls Tryz.prog 78 #[tbV ao l.length ca a' o.length ca' mv, .string key] w fun e w' => e = .returned (.tuple #[.int .i64 h, .bool true]) /\ Below w.heap.size w w' := by
 refine (qjY ao a' l o ca ca' mv key w hl hl' hk hA.toJ hA'.toJ).mono ?_
 rintro e w' ⟨h', t, rfl, ha, hb⟩
 obtain ⟨rfl, rfl⟩ := SeekA.det ha (.inl ⟨rfl, hok, hk0, hR⟩)
 exact ⟨rfl, hb⟩
theorem qtH (ao a' : Option Addr) (l o : List Ce) (ca ca' : Nat) (mv : Int) (key : ByteArray) (w : World) (hl : l.length <= 1048576) (hl' : o.length <= 1048576) (hk : key.size <= 1048576) (hA : RdC w ao l) (hA' : RdC w a' o) (hR : ¬ (OkT l o mv /\ key.toList ≠ [] /\ ∃ h, qcP l o key = some h)) :
  Calls Tryz.prog 78 #[tbV ao l.length ca a' o.length ca' mv, .string key] w fun e w' => ∃ h, e = .returned (.tuple #[.int .i64 h, .bool false]) /\ Below w.heap.size w w' := by
 refine (qjY ao a' l o ca ca' mv key w hl hl' hk hA.toJ hA'.toJ).mono ?_
 rintro e w' ⟨h', t, rfl, ha, hb⟩
 rcases ha with ⟨rfl, h1, h2, h3⟩ | ⟨rfl, _⟩
 ·exact absurd ⟨h1, h2, _, h3⟩ hR
 ·exact ⟨h', rfl, hb⟩
theorem qrO (ao : Option Addr) (l : List Sl) (ca : Nat) (f h : Int) (w : World) (hl : l.length <= 1048576) (h1 : -9223372036854775808 <= h) (h2 : h <= 9223372036854775807) (hA : RdA w ao l) {j : Nat} (hj : j < l.length) (hat : AtA l f h j) :
  Calls Tryz.prog 143 #[arV ao l.length ca f, .int .i64 h] w fun e w' => ∃ b c, e = .returned (.tuple #[arV (some ⟨b, 0, none⟩) (l.set j (qaS l[j] f)).length c (j : Int), .bool true]) /\ w'.ownsRow w.heap.size 99 5 (.slice (some ⟨b, 0, none⟩) (l.set j (qaS l[j] f)).length c) (l.set j (qaS l[j] f)).length (sls (l.set j (qaS l[j] f))) /\ Below w.heap.size w w' := by
 refine (qrP ao l ca f h w hl h1 h2 hA).mono ?_
 rintro e w' ⟨⟨k, b, c, hk, rfl, ha, ho⟩ | ⟨_, hn⟩, hb⟩
 ·obtain rfl : k = j := by have a := ha.place; have b := hat.place; omega
  rw [List.length_set]
  exact ⟨b, c, rfl, ho, hb⟩
 ·exact absurd hat (hn j)
theorem qrM (ao : Option Addr) (l : List Sl) (ca : Nat) (f h : Int) (w : World) (hl : l.length <= 1048576) (h1 : -9223372036854775808 <= h) (h2 : h <= 9223372036854775807) (hA : RdA w ao l) {j : Nat} (hj : j < l.length) (hat : AtA l f h j) :
  Calls Tryz.prog 79 #[arV ao l.length ca f, .int .i64 h] w fun e w' => e = .returned (.tuple #[.string l[j].key, .string l[j].val, .bool true]) /\ Below w.heap.size w w' := by
 refine (qrN ao l ca f h w hl h1 h2 hA).mono ?_
 rintro e w' ⟨⟨k, hk, rfl, ha⟩ | ⟨_, hn⟩, hb⟩
 ·obtain rfl : k = j := by have a := ha.place; have b := hat.place; omega
  exact ⟨rfl, hb⟩
 ·exact absurd hat (hn j)
theorem InN.noSk {N : Nr} (h : InN N) {k : ByteArray} (hk : ¬ k ∈ qaD N) : ¬ (k.toList ≠ [] /\ ∃ x, qcP N.ce N.od k = some x) := by
 rintro ⟨h0, x, hx⟩
 rw [h.od, h.inT.none h0 hk] at hx
 cases hx
theorem valI {w : World} {r B : Nat} {A : NA} {N : Nr} (h : VaH w r B A N) (hN : InN N) (k : ByteArray) (hks : k.size <= 1048576) :
  Calls Tryz.prog 32 #[.pointer (some ⟨r, 0, none⟩), .string k] w fun e w' => ((∃ v, e = .returned (.tuple #[.string v, .bool true]) /\ qkI N.sl k v /\ k ∈ qaD N) ∨ (e = .returned (.tuple #[.string ⟨#[]⟩, .bool false]) /\ ¬ k ∈ qaD N)) /\ Below w.heap.size w w' := by
 have hl := hN.small
 have x0 : w.cell? ⟨r, 2, none⟩ = _ := cRn (h.cell 2) rfl
 have x1 : w.cell? ⟨r, 3, none⟩ = _ := cRn (h.cell 3) rfl
 have x2 : w.cell? ⟨r, 4, none⟩ = _ := cRn (h.cell 4) rfl
 have hrl := h.var.lt
 by_cases hk : k ∈ qaD N
 ·obtain ⟨j, hj, hu, hkj⟩ := hN.inT.ent k hk
  obtain ⟨hkq, hk0⟩ := hN.inT.key hk
  have hS := hN.inT.handle hj hu
  have hAt := hN.inT.at hj hu
  have hOk : OkT N.ce N.od N.mv := by rw [hN.od, hN.mv]; exact qcG.2 hN.inT.tb
  have hsl := hN.inT.ar.slots j hj
  have hsm := hN.inT.ar.most
  rw [hkj] at hS
  obtain ⟨hd, hhd⟩ : ∃ hd, 24 * N.sl[j].gen + (j : Int) = hd := ⟨_, rfl⟩
  rw [hhd] at hS hAt
  have hd1 : -9223372036854775808 <= hd /\ hd <= 9223372036854775807 := by have h1 := hsl.1; have h2 := hsl.2.1; omega
  have C1 := hI (qjX A.c A.o N.ce N.od A.cc A.oc N.mv k w hl.fc hl.fo hks h.own.rd.fc h.own.rd.fo hOk hk0 (by rw [hN.od]; exact hS))
  have C2 := hI (fun w' (h' : VaH w' r B A N) => qrM A.a N.sl A.ac N.fr hd w' hl.fa hd1.1 hd1.2 h'.own.rd.fa hj hAt)
  have HV := hI (show qkI N.sl k N.sl[j].val /\ k ∈ qaD N from ⟨⟨j, hj, hu, hkj, rfl⟩, hk⟩)
  generalize N.sl[j].val = vv at C2 HV
  generalize N.sl[j].key = kk at C2
  unfold tbV at C1
  unfold arV at C2
  have H := hI h
  clear h hN hl hk hj hu hkj hkq hk0 hS hAt hOk hsl hsm hhd hd1 hks
  go_enter Tryz.func32, Tryz.ntmps32
  go_wp2_with fail
  refine C1.out.mono ?_
  rintro e w1 ⟨rfl, hb1⟩
  have V1 := hI (H.out.later hb1)
  have B1 := hI hb1
  clear C1 hb1 x0 x1 x2 H
  have x0 : w1.cell? ⟨r, 0, none⟩ = _ := cRn (V1.out.cell 0) rfl
  have x1 : w1.cell? ⟨r, 1, none⟩ = _ := cRn (V1.out.cell 1) rfl
  go_wp2_with fail
  refine (C2.out _ V1.out).mono ?_
  rintro e w2 ⟨rfl, hb2⟩
  have B2 := tRn B1 hb2
  clear hb2 C2 x0 x1 V1 B1
  go_wp2
  go_ret2
  exact ⟨.inl ⟨vv, rfl, HV.out⟩, B2.out⟩
 ·have C1 := hI (qtH A.c A.o N.ce N.od A.cc A.oc N.mv k w hl.fc hl.fo hks h.own.rd.fc h.own.rd.fo (fun e => hN.noSk hk e.2))
  have HV := hI hk
  unfold tbV at C1
  clear h hN hl hk hks
  go_enter Tryz.func32, Tryz.ntmps32
  go_wp2_with fail
  refine C1.out.mono ?_
  rintro e w1 ⟨hd, rfl, hb1⟩
  have B1 := hI hb1
  clear C1 hb1 x0 x1 x2
  go_wp2
  go_ret2
  exact ⟨.inr ⟨rfl, HV.out⟩, B1.out⟩
theorem zeH {w : World} {r B : Nat} {A : NA} {N : Nr} {K : List ByteArray} (h : VaH w r B A N) (hl : SmN N) (hT : InT N.sl N.fr N.ce K) (hod : N.od = []) (hmv : N.mv = 0) {j : Nat} (hj : j < N.sl.length) (hu : N.sl[j].used = true) (k : ByteArray) (hkj : N.sl[j].key = k) :
  Calls Tryz.prog 80 #[.pointer (some ⟨r, 0, none⟩), .string k] w fun e w' => e = .returned (.tuple #[]) /\ ∃ A', VaH w' r B A' { N with sl := N.sl.set j (qaS N.sl[j] N.fr), fr := (j : Int) } /\ w.grownBy w' (some r) := by
 have hk : k ∈ K := by rw [<- hkj]; exact (hT.used j hj hu).1
 obtain ⟨hkq, hk0⟩ := hT.key hk
 have hks := qbP hkq
 have hS := hT.handle hj hu
 have hAt := hT.at hj hu
 have hOk : OkT N.ce N.od N.mv := by rw [hod, hmv]; exact qcG.2 hT.tb
 have hsl := hT.ar.slots j hj
 have hsm := hT.ar.most
 rw [hkj] at hS
 obtain ⟨hd, hhd⟩ : ∃ hd, 24 * N.sl[j].gen + (j : Int) = hd := ⟨_, rfl⟩
 rw [hhd] at hS hAt
 have hd1 : -9223372036854775808 <= hd /\ hd <= 9223372036854775807 := by have h1 := hsl.1; have h2 := hsl.2.1; omega
 have C1 := hI (qjX A.c A.o N.ce N.od A.cc A.oc N.mv k w hl.fc hl.fo hks h.own.rd.fc h.own.rd.fo hOk hk0 (by rw [hod]; exact hS))
 have C2 := hI (fun w' (h' : VaH w' r B A N) => qrO A.a N.sl A.ac N.fr hd w' hl.fa hd1.1 hd1.2 h'.own.rd.fa hj hAt)
 generalize N.sl.set j (qaS N.sl[j] N.fr) = X at *
 unfold tbV at C1
 unfold arV at C2
 have H := hI h
 have x0 : w.cell? ⟨r, 2, none⟩ = _ := cRn (h.cell 2) rfl
 have x1 : w.cell? ⟨r, 3, none⟩ = _ := cRn (h.cell 3) rfl
 have x2 : w.cell? ⟨r, 4, none⟩ = _ := cRn (h.cell 4) rfl
 clear h hl hT hod hmv hk hu hkj hkq hk0 hS hAt hOk hsl hsm hhd hd1 hks
 go_enter Tryz.func80, Tryz.ntmps80
 go_wp2_with fail
 refine C1.out.mono ?_
 rintro e w1 ⟨rfl, hb1⟩
 have V1 := hI (H.out.later hb1)
 have G1 := hI (show w.grownBy w1 (some r) from qbO hb1)
 clear C1 hb1 x0 x1 x2 H
 have x0 : w1.cell? ⟨r, 0, none⟩ = _ := cRn (V1.out.cell 0) rfl
 have x1 : w1.cell? ⟨r, 1, none⟩ = _ := cRn (V1.out.cell 1) rfl
 go_wp2_with fail
 refine (C2.out _ V1.out).mono ?_
 rintro e w2 ⟨b2, c2, rfl, ho, hb2⟩
 have hS1 := hI (V1.out.own.below_of (Nat.le_refl _))
 have hB1 := hI V1.out.le
 have V2 := hI (V1.out.later hb2)
 have G2 := hI (qaK G1.out (qbO hb2))
 have O2 := hI ho
 clear ho hb2 C2 x0 x1 V1 G1
 have x0 : w2.cell? ⟨r, 0, none⟩ = _ := cRn (V2.out.cell 0) rfl
 have x1 : w2.cell? ⟨r, 1, none⟩ = _ := cRn (V2.out.cell 1) rfl
 have xf : ∀ i, w2.frozen? ⟨r, i, none⟩ = false := fun i => V2.out.var.froz i
 have VV := hI (V2.out.putA (f := (j : Int)) O2.out hS1.out hB1.out)
 clear V2 O2
 go_wp2
 refine bodyPost_end (results_none Tryz.results80 _ _ _) rfl ?_
 exact ⟨rfl, _, VV.out, qbF (qbF G2.out 0 _) 1 _⟩
theorem zbR {w : World} {r B : Nat} {A : NA} {N : Nr} {K : List ByteArray} (h : VaH w r B A N) (hl : SmN N) (hT : InT N.sl N.fr N.ce K) (hod : N.od = []) (hmv : N.mv = 0) (k : ByteArray) (hk : k ∈ K) :
  Calls Tryz.prog 76 #[.pointer (some ⟨r, 0, none⟩), .string k] w fun e w' => e = .returned (.tuple #[]) /\ ∃ A', VaH w' r B A' (qdE N k) /\ w.grownBy w' (some r) := by
 obtain ⟨j, hj, hu, hkj⟩ := hT.ent k hk
 obtain ⟨hkq, hk0⟩ := hT.key hk
 have hks := qbP hkq
 obtain ⟨L, hL, hLc⟩ := hT.take hj hu
 have hOk : OkT N.ce N.od N.mv := by rw [hod, hmv]; exact qcG.2 hT.tb
 have HT := hI (show qdE N k = { N with sl := N.sl.set j (qaS N.sl[j] N.fr), fr := (j : Int), ce := L, od := [], mv := 0 } by
  unfold qdE
  rw [<- hkj, qoN hT hj hu, List.getElem?_eq_getElem hj, hL, <- hod, <- hmv])
 rw [hkj] at hL
 have C1 := hI (zeH h hl hT hod hmv hj hu k hkj)
 have C3 := hI (fun w' A1 X f (h' : VaH w' r B A1 { N with sl := X, fr := f }) => qrE A1.c A1.o N.ce N.od A1.cc A1.oc N.mv k w' hl.fc hl.fo hks h'.own.rd.fc h'.own.rd.fo hOk hk0 (L := L) (O := []) (M := 0) (by rw [hod, hmv]; exact hL))
 generalize N.sl.set j (qaS N.sl[j] N.fr) = X at *
 unfold tbV at C3
 clear hLc h hl hT hod hmv hk hu hkj hkq hk0 hL hOk hks
 go_enter Tryz.func76, Tryz.ntmps76
 go_wp2_with fail
 refine C1.out.mono ?_
 rintro e w1 ⟨rfl, A1, V, G⟩
 have V1 := hI V
 have G1 := hI G
 clear C1 V G
 have x0 : w1.cell? ⟨r, 2, none⟩ = _ := cRn (V1.out.cell 2) rfl
 have x1 : w1.cell? ⟨r, 3, none⟩ = _ := cRn (V1.out.cell 3) rfl
 have x2 : w1.cell? ⟨r, 4, none⟩ = _ := cRn (V1.out.cell 4) rfl
 go_wp2_with fail
 refine (C3.out _ _ _ _ V1.out).mono ?_
 rintro e w4 ⟨b4, c4, b5, c5, rfl, ho, hb4⟩
 rw [List.length_nil]
 have hS1 := hI (V1.out.own.below_of (Nat.le_refl _))
 have hB1 := hI V1.out.le
 have V2 := hI (V1.out.later hb4)
 have G2 := hI (qaK G1.out (qbO hb4))
 have O2 := hI ho
 clear ho hb4 C3 x0 x1 x2 V1 G1
 have x0 : w4.cell? ⟨r, 2, none⟩ = _ := cRn (V2.out.cell 2) rfl
 have x1 : w4.cell? ⟨r, 3, none⟩ = _ := cRn (V2.out.cell 3) rfl
 have x2 : w4.cell? ⟨r, 4, none⟩ = _ := cRn (V2.out.cell 4) rfl
 have xf : ∀ i, w4.frozen? ⟨r, i, none⟩ = false := fun i => V2.out.var.froz i
 have VV := hI (V2.out.putC (m := 0) O2.out hS1.out hB1.out)
 clear V2 O2
 go_wp2
 refine bodyPost_end (results_none Tryz.results76 _ _ _) rfl ?_
 exact ⟨rfl, _, by rw [HT.out]; exact VV.out, qbF (qbF (qbF G2.out 2 _) 3 _) 4 _⟩
end Go.Proofs.YtigpjmmfelndkaaGreatDoor
