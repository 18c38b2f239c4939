/- A hall of the program: near entries in a block, their rows the call's own; the program's contracts in one form. -/
import Derived.Test.YtjgiobdpbbhekaaGreatDoorXVY
import Derived.Test.YtjgiobdpbbhekaaGreatDoorXRI
import Derived.Test.YtjgiobdpbbhekaaGreatDoorXI
import Derived.Test.YtjgiobdpbbhekaaGreatDoorYE
import Derived.LoopN
namespace Go.Proofs.YtjgiobdpbbhekaaGreatDoor
open Go.RowKit

/-- Near entries in a variable, their rows the call's own. -/
structure VaH (w : World) (r B : Nat) (A : NA) (N : Nr) : Prop where
  var : Blk w r 75 (neC A N)
  own : OwnN w B A N
  ne : ∀ v ∈ vlN A N, ∀ g, v.ownBlock = some g → g ≠ r
  le : B ≤ w.heap.size ∧ r < w.heap.size
theorem VaH.later {w w' : World} {r B : Nat} {A : NA} {N : Nr} (h : VaH w r B A N) (hb : Below w.heap.size w w') : VaH w' r B A N := ⟨h.var.below hb h.var.lt, h.own.later hb, h.ne, Nat.le_trans h.le.1 hb.size, Nat.lt_of_lt_of_le h.le.2 hb.size⟩
theorem VaH.cell {w : World} {r B : Nat} {A : NA} {N : Nr} (h : VaH w r B A N) (j : Nat) : w.cell? ⟨r, j, none⟩ = (neC A N)[j]? := h.var.cell j
theorem VaH.putW {w : World} {r B S c : Nat} {A : NA} {N : Nr} {b : Option Addr} {l : List ByteArray} {m : Int} (h : VaH w r B A N) (ho : OwnQ w S b c l) (hS : ∀ v ∈ vlN A N, ∀ g, v.ownBlock = some g → g < S) (hB : B ≤ S ∧ r < S) : VaH ((w.setCell ⟨r, 5, none⟩ (.int .i64 m)).setCell ⟨r, 6, none⟩ (.slice b l.length c)) r B { A with w := b, wc := c } { N with w := l, wm := m } :=
  ⟨Blk.set (Blk.set h.var 5 _) 6 _, ((h.own.off _ _ h.ne).off _ _ h.ne).setW (own_far2 ho hB.2 _ _) hS hB.1 m, ne_set (i := 3) h.ne (fun g hg => by have := (ho.lt g hg).1; have := hB.2; omega), by simpa using h.le⟩
theorem VaH.putT {w : World} {r B S c : Nat} {A : NA} {N : Nr} {b : Option Addr} {l : List ByteArray} {m : Int} (h : VaH w r B A N) (ho : OwnQ w S b c l) (hS : ∀ v ∈ vlN A N, ∀ g, v.ownBlock = some g → g < S) (hB : B ≤ S ∧ r < S) : VaH ((w.setCell ⟨r, 7, none⟩ (.int .i64 m)).setCell ⟨r, 8, none⟩ (.slice b l.length c)) r B { A with t := b, tc := c } { N with t := l, tm := m } :=
  ⟨Blk.set (Blk.set h.var 7 _) 8 _, ((h.own.off _ _ h.ne).off _ _ h.ne).setT (own_far2 ho hB.2 _ _) hS hB.1 m, ne_set (i := 4) h.ne (fun g hg => by have := (ho.lt g hg).1; have := hB.2; omega), by simpa using h.le⟩
theorem VaH.putS {w : World} {r B S c : Nat} {A : NA} {N : Nr} {b : Option Addr} {l : List ByteArray} {m : Int} (h : VaH w r B A N) (ho : OwnQ w S b c l) (hS : ∀ v ∈ vlN A N, ∀ g, v.ownBlock = some g → g < S) (hB : B ≤ S ∧ r < S) : VaH ((w.setCell ⟨r, 9, none⟩ (.int .i64 m)).setCell ⟨r, 10, none⟩ (.slice b l.length c)) r B { A with s := b, sc := c } { N with s := l, sm := m } :=
  ⟨Blk.set (Blk.set h.var 9 _) 10 _, ((h.own.off _ _ h.ne).off _ _ h.ne).setS (own_far2 ho hB.2 _ _) hS hB.1 m, ne_set (i := 5) h.ne (fun g hg => by have := (ho.lt g hg).1; have := hB.2; omega), by simpa using h.le⟩
theorem VaH.far {w : World} {r B q : Nat} {A : NA} {N : Nr} (h : VaH w r B A N) (hq : w.heap.size ≤ q ∨ (q ≠ r ∧ ∀ v ∈ vlN A N, ∀ g, v.ownBlock = some g → g ≠ q)) (j : Nat) (u : Value) : VaH (w.setCell ⟨q, j, none⟩ u) r B A N := by
  have hqr : r ≠ q := by
    rcases hq with h1 | h1
    · have := h.var.lt; omega
    · exact fun e => h1.1 e.symm
  have hb : ∀ v ∈ vlN A N, ∀ k, v.ownBlock = some k → k ≠ q := fun v hv k hk => by
    rcases hq with h1 | h1
    · have := (h.own.lt v hv k hk).2; omega
    · exact h1.2 v hv k hk
  exact ⟨h.var.far _ _ hqr, ⟨own_far h.own.fa _ _ (hb _ (by simp [vlN])), own_far h.own.fc _ _ (hb _ (by simp [vlN])), own_far h.own.fo _ _ (hb _ (by simp [vlN])), own_far h.own.fw _ _ (hb _ (by simp [vlN])), own_far h.own.ft _ _ (hb _ (by simp [vlN])), own_far h.own.fs _ _ (hb _ (by simp [vlN])), own_far h.own.fk _ _ (hb _ (by simp [vlN])), h.own.ap⟩, h.ne, by simpa using h.le⟩
theorem VaH.putA {w : World} {r B S c : Nat} {A : NA} {N : Nr} {b : Option Addr} {l : List Sl} {f : Int} (h : VaH w r B A N) (ho : w.ownsRow S 99 5 (.slice b l.length c) l.length (sls l)) (hS : ∀ v ∈ vlN A N, ∀ g, v.ownBlock = some g → g < S) (hB : B ≤ S ∧ r < S) : VaH ((w.setCell ⟨r, 0, none⟩ (.slice b l.length c)).setCell ⟨r, 1, none⟩ (.int .i64 f)) r B { A with a := b, ac := c } { N with sl := l, fr := f } :=
  have hne : ∀ g, (Value.slice b l.length c).ownBlock = some g → g ≠ r := fun g hg => by have := (ho.lt g hg).1; have := hB.2; omega
  ⟨Blk.set (Blk.set h.var 0 _) 1 _, ((h.own.off _ _ h.ne).off _ _ h.ne).setA (own_far (own_far ho _ _ hne) _ _ hne) hS hB.1 f, ne_set (i := 0) h.ne hne, by simpa using h.le⟩
theorem VaH.putC {w : World} {r B S c c' : Nat} {A : NA} {N : Nr} {b b' : Option Addr} {l l' : List Ce} {m : Int} (h : VaH w r B A N) (ho : Own2 w S b c l b' c' l') (hS : ∀ v ∈ vlN A N, ∀ g, v.ownBlock = some g → g < S) (hB : B ≤ S ∧ r < S) : VaH (((w.setCell ⟨r, 2, none⟩ (.slice b l.length c)).setCell ⟨r, 3, none⟩ (.slice b' l'.length c')).setCell ⟨r, 4, none⟩ (.int .i64 m)) r B { A with c := b, cc := c, o := b', oc := c' } { N with ce := l, od := l', mv := m } :=
  have hn1 : ∀ g, (Value.slice b l.length c).ownBlock = some g → g ≠ r := fun g hg => by have := (ho.1.lt g hg).1; have := hB.2; omega
  have hn2 : ∀ g, (Value.slice b' l'.length c').ownBlock = some g → g ≠ r := fun g hg => by have := (ho.2.1.lt g hg).1; have := hB.2; omega
  ⟨Blk.set (Blk.set (Blk.set h.var 2 _) 3 _) 4 _, (((h.own.off _ _ h.ne).off _ _ h.ne).off _ _ h.ne).setC ⟨own_far (own_far (own_far ho.1 _ _ hn1) _ _ hn1) _ _ hn1, own_far (own_far (own_far ho.2.1 _ _ hn2) _ _ hn2) _ _ hn2, ho.2.2⟩ hS hB.1 m, ne_set (i := 2) (ne_set (i := 1) h.ne hn1) hn2, by simpa using h.le⟩
theorem implSeek_own (ao a' : Option Addr) (l o : List Ce) (ca ca' : Nat) (mv : Int) (key : ByteArray) (w : World) (hl : l.length ≤ 1048576) (hl' : o.length ≤ 1048576) (hk : key.size ≤ 1048576) (hA : RdC w ao l) (hA' : RdC w a' o) (hok : OkT l o mv) (hk0 : key.toList ≠ []) {h : Int} (hR : seekT l o key = some h) :
    Calls Tryz.prog 79 #[tbV ao l.length ca a' o.length ca' mv, .string key] w fun e w' => e = .returned (.tuple #[.int .i64 h, .bool true]) ∧ Below w.heap.size w w' := by
  refine (implSeek_any ao a' l o ca ca' mv key w hl hl' hk hA.toJ hA'.toJ).mono ?_
  rintro e w' ⟨h', t, rfl, ha, hb⟩
  obtain ⟨rfl, rfl⟩ := SeekA.det ha (.inl ⟨rfl, hok, hk0, hR⟩)
  exact ⟨rfl, hb⟩
theorem implSeek_no (ao a' : Option Addr) (l o : List Ce) (ca ca' : Nat) (mv : Int) (key : ByteArray) (w : World) (hl : l.length ≤ 1048576) (hl' : o.length ≤ 1048576) (hk : key.size ≤ 1048576) (hA : RdC w ao l) (hA' : RdC w a' o) (hR : ¬ (OkT l o mv ∧ key.toList ≠ [] ∧ ∃ h, seekT l o key = some h)) :
    Calls Tryz.prog 79 #[tbV ao l.length ca a' o.length ca' mv, .string key] w fun e w' => ∃ h, e = .returned (.tuple #[.int .i64 h, .bool false]) ∧ Below w.heap.size w w' := by
  refine (implSeek_any ao a' l o ca ca' mv key w hl hl' hk hA.toJ hA'.toJ).mono ?_
  rintro e w' ⟨h', t, rfl, ha, hb⟩
  rcases ha with ⟨rfl, h1, h2, h3⟩ | ⟨rfl, _⟩
  · exact absurd ⟨h1, h2, _, h3⟩ hR
  · exact ⟨h', rfl, hb⟩
theorem implLook_own (ao : Option Addr) (l : List Sl) (ca : Nat) (f h : Int) (w : World) (hl : l.length ≤ 1048576) (h1 : -9223372036854775808 ≤ h) (h2 : h ≤ 9223372036854775807) (hA : RdA w ao l) {j : Nat} (hj : j < l.length) (hat : AtA l f h j) :
    Calls Tryz.prog 80 #[arV ao l.length ca f, .int .i64 h] w fun e w' => e = .returned (.tuple #[.string l[j].key, .string l[j].val, .bool true]) ∧ Below w.heap.size w w' := by
  refine (implLook_any ao l ca f h w hl h1 h2 hA).mono ?_
  rintro e w' ⟨⟨k, hk, rfl, ha⟩ | ⟨_, hn⟩, hb⟩
  · obtain rfl : k = j := by have a := ha.place; have b := hat.place; omega
    exact ⟨rfl, hb⟩
  · exact absurd hat (hn j)
end Go.Proofs.YtjgiobdpbbhekaaGreatDoor
namespace Go.Proofs.YtjgiobdpbbhekaaGreatDoor
open Go.RowKit
set_option linter.unusedVariables false

theorem InN.noSk {N : Nr} (h : InN N) {k : ByteArray} (hk : ¬ k ∈ keysN N) : ¬ (k.toList ≠ [] ∧ ∃ x, seekT N.ce N.od k = some x) := by
  rintro ⟨h0, x, hx⟩
  rw [h.od, h.inT.none h0 hk] at hx
  cases hx

set_option maxRecDepth 100000 in
set_option maxHeartbeats 4000000 in
theorem valI {w : World} {r B : Nat} {A : NA} {N : Nr} (h : VaH w r B A N) (hN : InN N) (k : ByteArray) (hks : k.size ≤ 1048576) :
    Calls Tryz.prog 33 #[.pointer (some ⟨r, 0, none⟩), .string k] w fun e w' => ((∃ v, e = .returned (.tuple #[.string v, .bool true]) ∧ HasV N.sl k v ∧ k ∈ keysN N) ∨ (e = .returned (.tuple #[.string ⟨#[]⟩, .bool false]) ∧ ¬ k ∈ keysN N)) ∧ Below w.heap.size w w' := by
  have hl := hN.small
  have x0 : w.cell? ⟨r, 2, none⟩ = some (.slice A.c N.ce.length A.cc) := h.cell 2
  have x1 : w.cell? ⟨r, 3, none⟩ = some (.slice A.o N.od.length A.oc) := h.cell 3
  have x2 : w.cell? ⟨r, 4, none⟩ = some (.int .i64 N.mv) := h.cell 4
  have hrl := h.var.lt
  by_cases hk : k ∈ keysN N
  · obtain ⟨j, hj, hu, hkj⟩ := hN.inT.ent k hk
    obtain ⟨hkq, hk0⟩ := hN.inT.key hk
    have hS := hN.inT.handle hj hu
    have hAt := hN.inT.at hj hu
    have hOk : OkT N.ce N.od N.mv := by rw [hN.od, hN.mv]; exact okN_iff.2 hN.inT.tb
    have hsl := hN.inT.ar.slots j hj
    have hsm := hN.inT.ar.most
    rw [hkj] at hS
    obtain ⟨hd, hhd⟩ : ∃ hd, 24 * N.sl[j].gen + (j : Int) = hd := ⟨_, rfl⟩
    rw [hhd] at hS hAt
    have hd1 : -9223372036854775808 ≤ hd ∧ hd ≤ 9223372036854775807 := by have h1 := hsl.1; have h2 := hsl.2.1; omega
    have C1 := hide1 (implSeek_own A.c A.o N.ce N.od A.cc A.oc N.mv k w hl.fc hl.fo hks h.own.rd.fc h.own.rd.fo hOk hk0 (by rw [hN.od]; exact hS))
    have C2 := hide1 (fun w' (h' : VaH w' r B A N) => implLook_own A.a N.sl A.ac N.fr hd w' hl.fa hd1.1 hd1.2 h'.own.rd.fa hj hAt)
    have HV := hide1 (show HasV N.sl k N.sl[j].val ∧ k ∈ keysN N from ⟨⟨j, hj, hu, hkj, rfl⟩, hk⟩)
    generalize N.sl[j].val = vv at C2 HV
    generalize N.sl[j].key = kk at C2
    unfold tbV at C1
    unfold arV at C2
    have H := hide1 h
    clear h hN hl hk hj hu hkj hkq hk0 hS hAt hOk hsl hsm hhd hd1 hks
    go_enter Tryz.func33, Tryz.ntmps33
    go_wp2_with fail
    refine C1.out.mono ?_
    rintro e w1 ⟨rfl, hb1⟩
    have V1 := hide1 (H.out.later hb1)
    have B1 := hide1 hb1
    clear C1 hb1 x0 x1 x2 H
    have x0 : w1.cell? ⟨r, 0, none⟩ = some (.slice A.a N.sl.length A.ac) := V1.out.cell 0
    have x1 : w1.cell? ⟨r, 1, none⟩ = some (.int .i64 N.fr) := V1.out.cell 1
    go_wp2_with fail
    refine (C2.out _ V1.out).mono ?_
    rintro e w2 ⟨rfl, hb2⟩
    have B2 := hide1 (B1.out.trans (hb2.mono B1.out.size))
    clear hb2 C2 x0 x1 V1 B1
    go_wp2
    go_ret2
    exact ⟨.inl ⟨vv, rfl, HV.out⟩, B2.out⟩
  · have C1 := hide1 (implSeek_no A.c A.o N.ce N.od A.cc A.oc N.mv k w hl.fc hl.fo hks h.own.rd.fc h.own.rd.fo (fun e => hN.noSk hk e.2))
    have HV := hide1 hk
    unfold tbV at C1
    clear h hN hl hk hks
    go_enter Tryz.func33, Tryz.ntmps33
    go_wp2_with fail
    refine C1.out.mono ?_
    rintro e w1 ⟨hd, rfl, hb1⟩
    have B1 := hide1 hb1
    clear C1 hb1 x0 x1 x2
    go_wp2
    go_ret2
    exact ⟨.inr ⟨rfl, HV.out⟩, B1.out⟩

end Go.Proofs.YtjgiobdpbbhekaaGreatDoor
namespace Go.Proofs.YtjgiobdpbbhekaaGreatDoor
open Go.RowKit
set_option linter.unusedVariables false

end Go.Proofs.YtjgiobdpbbhekaaGreatDoor
