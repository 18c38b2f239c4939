/- A hall of the program: near entries in a block, their rows the call's own; the program's contracts in one form. -/
import Derived.Test.YtjgiobdpbbhekaaGreatXVW
import Derived.Test.YtjgiobdpbbhekaaGreatXRI
import Derived.Test.YtjgiobdpbbhekaaGreatXI
import Derived.Test.YtjgiobdpbbhekaaGreatYE
import Derived.LoopN
namespace Go.Proofs.YtjgiobdpbbhekaaGreat
open Go.RowKit

/-- Near entries in a variable, their rows the call's own. -/
structure VaH (w : World) (r B : Nat) (A : NA) (N : Nr) : Prop where
  var : Blk w r 67 (neC A N)
  own : OwnN w B A N
  ne : ∀ v ∈ vlN A N, ∀ g, v.ownBlock = some g → g ≠ r
  le : B ≤ w.heap.size ∧ r < w.heap.size
theorem VaH.later {w w' : World} {r B : Nat} {A : NA} {N : Nr} (h : VaH w r B A N) (hb : Below w.heap.size w w') : VaH w' r B A N := ⟨h.var.below hb h.var.lt, h.own.later hb, h.ne, Nat.le_trans h.le.1 hb.size, Nat.lt_of_lt_of_le h.le.2 hb.size⟩
theorem VaH.cell {w : World} {r B : Nat} {A : NA} {N : Nr} (h : VaH w r B A N) (j : Nat) : w.cell? ⟨r, j, none⟩ = (neC A N)[j]? := h.var.cell j
theorem VaH.putW {w : World} {r B S c : Nat} {A : NA} {N : Nr} {b : Option Addr} {l : List ByteArray} {m : Int} (h : VaH w r B A N) (ho : OwnQ w S b c l) (hS : ∀ v ∈ vlN A N, ∀ g, v.ownBlock = some g → g < S) (hB : B ≤ S ∧ r < S) : VaH ((w.setCell ⟨r, 5, none⟩ (.int .i64 m)).setCell ⟨r, 6, none⟩ (.slice b l.length c)) r B { A with w := b, wc := c } { N with w := l, wm := m } :=
  ⟨Blk.set (Blk.set h.var 5 _) 6 _, ((h.own.off _ _ h.ne).off _ _ h.ne).setW (own_far2 ho hB.2 _ _) hS hB.1 m, ne_set (i := 3) h.ne (fun g hg => by have := (ho.lt g hg).1; have := hB.2; omega), by simpa using h.le⟩
theorem VaH.putT {w : World} {r B S c : Nat} {A : NA} {N : Nr} {b : Option Addr} {l : List ByteArray} {m : Int} (h : VaH w r B A N) (ho : OwnQ w S b c l) (hS : ∀ v ∈ vlN A N, ∀ g, v.ownBlock = some g → g < S) (hB : B ≤ S ∧ r < S) : VaH ((w.setCell ⟨r, 7, none⟩ (.int .i64 m)).setCell ⟨r, 8, none⟩ (.slice b l.length c)) r B { A with t := b, tc := c } { N with t := l, tm := m } :=
  ⟨Blk.set (Blk.set h.var 7 _) 8 _, ((h.own.off _ _ h.ne).off _ _ h.ne).setT (own_far2 ho hB.2 _ _) hS hB.1 m, ne_set (i := 4) h.ne (fun g hg => by have := (ho.lt g hg).1; have := hB.2; omega), by simpa using h.le⟩
theorem VaH.putS {w : World} {r B S c : Nat} {A : NA} {N : Nr} {b : Option Addr} {l : List ByteArray} {m : Int} (h : VaH w r B A N) (ho : OwnQ w S b c l) (hS : ∀ v ∈ vlN A N, ∀ g, v.ownBlock = some g → g < S) (hB : B ≤ S ∧ r < S) : VaH ((w.setCell ⟨r, 9, none⟩ (.int .i64 m)).setCell ⟨r, 10, none⟩ (.slice b l.length c)) r B { A with s := b, sc := c } { N with s := l, sm := m } :=
  ⟨Blk.set (Blk.set h.var 9 _) 10 _, ((h.own.off _ _ h.ne).off _ _ h.ne).setS (own_far2 ho hB.2 _ _) hS hB.1 m, ne_set (i := 5) h.ne (fun g hg => by have := (ho.lt g hg).1; have := hB.2; omega), by simpa using h.le⟩
theorem VaH.far {w : World} {r B q : Nat} {A : NA} {N : Nr} (h : VaH w r B A N) (hq : w.heap.size ≤ q ∨ (q ≠ r ∧ ∀ v ∈ vlN A N, ∀ g, v.ownBlock = some g → g ≠ q)) (j : Nat) (u : Value) : VaH (w.setCell ⟨q, j, none⟩ u) r B A N := by
  have hqr : r ≠ q := by
    rcases hq with h1 | h1
    · have := h.var.lt; omega
    · exact fun e => h1.1 e.symm
  have hb : ∀ v ∈ vlN A N, ∀ k, v.ownBlock = some k → k ≠ q := fun v hv k hk => by
    rcases hq with h1 | h1
    · have := (h.own.lt v hv k hk).2; omega
    · exact h1.2 v hv k hk
  exact ⟨h.var.far _ _ hqr, ⟨own_far h.own.fa _ _ (hb _ (by simp [vlN])), own_far h.own.fc _ _ (hb _ (by simp [vlN])), own_far h.own.fo _ _ (hb _ (by simp [vlN])), own_far h.own.fw _ _ (hb _ (by simp [vlN])), own_far h.own.ft _ _ (hb _ (by simp [vlN])), own_far h.own.fs _ _ (hb _ (by simp [vlN])), own_far h.own.fk _ _ (hb _ (by simp [vlN])), h.own.ap⟩, h.ne, by simpa using h.le⟩
theorem VaH.putA {w : World} {r B S c : Nat} {A : NA} {N : Nr} {b : Option Addr} {l : List Sl} {f : Int} (h : VaH w r B A N) (ho : w.ownsRow S 72 5 (.slice b l.length c) l.length (sls l)) (hS : ∀ v ∈ vlN A N, ∀ g, v.ownBlock = some g → g < S) (hB : B ≤ S ∧ r < S) : VaH ((w.setCell ⟨r, 0, none⟩ (.slice b l.length c)).setCell ⟨r, 1, none⟩ (.int .i64 f)) r B { A with a := b, ac := c } { N with sl := l, fr := f } :=
  have hne : ∀ g, (Value.slice b l.length c).ownBlock = some g → g ≠ r := fun g hg => by have := (ho.lt g hg).1; have := hB.2; omega
  ⟨Blk.set (Blk.set h.var 0 _) 1 _, ((h.own.off _ _ h.ne).off _ _ h.ne).setA (own_far (own_far ho _ _ hne) _ _ hne) hS hB.1 f, ne_set (i := 0) h.ne hne, by simpa using h.le⟩
theorem VaH.putC {w : World} {r B S c c' : Nat} {A : NA} {N : Nr} {b b' : Option Addr} {l l' : List Ce} {m : Int} (h : VaH w r B A N) (ho : Own2 w S b c l b' c' l') (hS : ∀ v ∈ vlN A N, ∀ g, v.ownBlock = some g → g < S) (hB : B ≤ S ∧ r < S) : VaH (((w.setCell ⟨r, 2, none⟩ (.slice b l.length c)).setCell ⟨r, 3, none⟩ (.slice b' l'.length c')).setCell ⟨r, 4, none⟩ (.int .i64 m)) r B { A with c := b, cc := c, o := b', oc := c' } { N with ce := l, od := l', mv := m } :=
  have hn1 : ∀ g, (Value.slice b l.length c).ownBlock = some g → g ≠ r := fun g hg => by have := (ho.1.lt g hg).1; have := hB.2; omega
  have hn2 : ∀ g, (Value.slice b' l'.length c').ownBlock = some g → g ≠ r := fun g hg => by have := (ho.2.1.lt g hg).1; have := hB.2; omega
  ⟨Blk.set (Blk.set (Blk.set h.var 2 _) 3 _) 4 _, (((h.own.off _ _ h.ne).off _ _ h.ne).off _ _ h.ne).setC ⟨own_far (own_far (own_far ho.1 _ _ hn1) _ _ hn1) _ _ hn1, own_far (own_far (own_far ho.2.1 _ _ hn2) _ _ hn2) _ _ hn2, ho.2.2⟩ hS hB.1 m, ne_set (i := 2) (ne_set (i := 1) h.ne hn1) hn2, by simpa using h.le⟩
/-- A block made in a region that draws. -/
theorem blkD (w : World) (t : TypeId) (cs : Array Value) : Blk (w.alloc (.cells cs t)).drew w.heap.size t cs.toList ∧ Below w.heap.size w (w.alloc (.cells cs t)).drew := ⟨Blk.new w t cs, ((Below.refl _ _).alloc (Nat.le_refl _) _).drew⟩
theorem implTake_own (ao a' : Option Addr) (l o : List Ce) (ca ca' : Nat) (mv : Int) (key : ByteArray) (w : World) (hl : l.length ≤ 1048576) (hl' : o.length ≤ 1048576) (hk : key.size ≤ 1048576) (hA : RdC w ao l) (hA' : RdC w a' o) (hok : OkT l o mv) (hk0 : key.toList ≠ []) {L O : List Ce} {M : Int} (hR : takeR l o mv key = some (L, O, M)) :
    Calls Tryz.prog 40 #[tbV ao l.length ca a' o.length ca' mv, .string key] w fun e w' => ∃ b c b' c', e = .returned (.tuple #[tbV b L.length c b' O.length c' M, .bool true]) ∧ Own2 w' w.heap.size b c L b' c' O ∧ Below w.heap.size w w' := by
  refine (implTake_any ao a' l o ca ca' mv key w hl hl' hk hA.toJ hA'.toJ).mono ?_
  rintro e w' ⟨b, L', c, b', O', c', M', t, rfl, ha, h1, h2, h3, hb⟩
  obtain ⟨rfl, rfl, rfl, rfl⟩ := Ans.det ha (.inl ⟨⟨hok, hk0⟩, hR, rfl⟩)
  exact ⟨b, c, b', c', rfl, ⟨h1, h2, h3⟩, hb⟩
theorem implSeek_own (ao a' : Option Addr) (l o : List Ce) (ca ca' : Nat) (mv : Int) (key : ByteArray) (w : World) (hl : l.length ≤ 1048576) (hl' : o.length ≤ 1048576) (hk : key.size ≤ 1048576) (hA : RdC w ao l) (hA' : RdC w a' o) (hok : OkT l o mv) (hk0 : key.toList ≠ []) {h : Int} (hR : seekT l o key = some h) :
    Calls Tryz.prog 35 #[tbV ao l.length ca a' o.length ca' mv, .string key] w fun e w' => e = .returned (.tuple #[.int .i64 h, .bool true]) ∧ Below w.heap.size w w' := by
  refine (implSeek_any ao a' l o ca ca' mv key w hl hl' hk hA.toJ hA'.toJ).mono ?_
  rintro e w' ⟨h', t, rfl, ha, hb⟩
  obtain ⟨rfl, rfl⟩ := SeekA.det ha (.inl ⟨rfl, hok, hk0, hR⟩)
  exact ⟨rfl, hb⟩
theorem implSeek_no (ao a' : Option Addr) (l o : List Ce) (ca ca' : Nat) (mv : Int) (key : ByteArray) (w : World) (hl : l.length ≤ 1048576) (hl' : o.length ≤ 1048576) (hk : key.size ≤ 1048576) (hA : RdC w ao l) (hA' : RdC w a' o) (hR : ¬ (OkT l o mv ∧ key.toList ≠ [] ∧ ∃ h, seekT l o key = some h)) :
    Calls Tryz.prog 35 #[tbV ao l.length ca a' o.length ca' mv, .string key] w fun e w' => ∃ h, e = .returned (.tuple #[.int .i64 h, .bool false]) ∧ Below w.heap.size w w' := by
  refine (implSeek_any ao a' l o ca ca' mv key w hl hl' hk hA.toJ hA'.toJ).mono ?_
  rintro e w' ⟨h', t, rfl, ha, hb⟩
  rcases ha with ⟨rfl, h1, h2, h3⟩ | ⟨rfl, _⟩
  · exact absurd ⟨h1, h2, _, h3⟩ hR
  · exact ⟨h', rfl, hb⟩
theorem implLift_own (ao : Option Addr) (l : List Sl) (ca : Nat) (f h : Int) (w : World) (hl : l.length ≤ 1048576) (h1 : -9223372036854775808 ≤ h) (h2 : h ≤ 9223372036854775807) (hA : RdA w ao l) {j : Nat} (hj : j < l.length) (hat : AtA l f h j) :
    Calls Tryz.prog 82 #[arV ao l.length ca f, .int .i64 h] w fun e w' => ∃ b c, e = .returned (.tuple #[arV (some ⟨b, 0, none⟩) (l.set j (lifted l[j] f)).length c (j : Int), .bool true]) ∧ w'.ownsRow w.heap.size 72 5 (.slice (some ⟨b, 0, none⟩) (l.set j (lifted l[j] f)).length c) (l.set j (lifted l[j] f)).length (sls (l.set j (lifted l[j] f))) ∧ Below w.heap.size w w' := by
  refine (implLift_any ao l ca f h w hl h1 h2 hA).mono ?_
  rintro e w' ⟨⟨k, b, c, hk, rfl, ha, ho⟩ | ⟨_, hn⟩, hb⟩
  · obtain rfl : k = j := by have a := ha.place; have b := hat.place; omega
    rw [List.length_set]
    exact ⟨b, c, rfl, ho, hb⟩
  · exact absurd hat (hn j)
theorem implLook_own (ao : Option Addr) (l : List Sl) (ca : Nat) (f h : Int) (w : World) (hl : l.length ≤ 1048576) (h1 : -9223372036854775808 ≤ h) (h2 : h ≤ 9223372036854775807) (hA : RdA w ao l) {j : Nat} (hj : j < l.length) (hat : AtA l f h j) :
    Calls Tryz.prog 36 #[arV ao l.length ca f, .int .i64 h] w fun e w' => e = .returned (.tuple #[.string l[j].key, .string l[j].val, .bool true]) ∧ Below w.heap.size w w' := by
  refine (implLook_any ao l ca f h w hl h1 h2 hA).mono ?_
  rintro e w' ⟨⟨k, hk, rfl, ha⟩ | ⟨_, hn⟩, hb⟩
  · obtain rfl : k = j := by have a := ha.place; have b := hat.place; omega
    exact ⟨rfl, hb⟩
  · exact absurd hat (hn j)
end Go.Proofs.YtjgiobdpbbhekaaGreat
namespace Go.Proofs.YtjgiobdpbbhekaaGreat
open Go.RowKit
set_option linter.unusedVariables false

theorem InN.noSk {N : Nr} (h : InN N) {k : ByteArray} (hk : ¬ k ∈ keysN N) : ¬ (k.toList ≠ [] ∧ ∃ x, seekT N.ce N.od k = some x) := by
  rintro ⟨h0, x, hx⟩
  rw [h.od, h.inT.none h0 hk] at hx
  cases hx

set_option maxRecDepth 100000 in
set_option maxHeartbeats 4000000 in
theorem valI {w : World} {r B : Nat} {A : NA} {N : Nr} (h : VaH w r B A N) (hN : InN N) (k : ByteArray) (hks : k.size ≤ 1048576) :
    Calls Tryz.prog 19 #[.pointer (some ⟨r, 0, none⟩), .string k] w fun e w' => ((∃ v, e = .returned (.tuple #[.string v, .bool true]) ∧ HasV N.sl k v ∧ k ∈ keysN N) ∨ (e = .returned (.tuple #[.string ⟨#[]⟩, .bool false]) ∧ ¬ k ∈ keysN N)) ∧ Below w.heap.size w w' := by
  have hl := hN.small
  have x0 : w.cell? ⟨r, 2, none⟩ = some (.slice A.c N.ce.length A.cc) := h.cell 2
  have x1 : w.cell? ⟨r, 3, none⟩ = some (.slice A.o N.od.length A.oc) := h.cell 3
  have x2 : w.cell? ⟨r, 4, none⟩ = some (.int .i64 N.mv) := h.cell 4
  have hrl := h.var.lt
  by_cases hk : k ∈ keysN N
  · obtain ⟨j, hj, hu, hkj⟩ := hN.inT.ent k hk
    obtain ⟨hkq, hk0⟩ := hN.inT.key hk
    have hS := hN.inT.handle hj hu
    have hAt := hN.inT.at hj hu
    have hOk : OkT N.ce N.od N.mv := by rw [hN.od, hN.mv]; exact okN_iff.2 hN.inT.tb
    have hsl := hN.inT.ar.slots j hj
    have hsm := hN.inT.ar.most
    rw [hkj] at hS
    obtain ⟨hd, hhd⟩ : ∃ hd, 24 * N.sl[j].gen + (j : Int) = hd := ⟨_, rfl⟩
    rw [hhd] at hS hAt
    have hd1 : -9223372036854775808 ≤ hd ∧ hd ≤ 9223372036854775807 := by have h1 := hsl.1; have h2 := hsl.2.1; omega
    have C1 := hide1 (implSeek_own A.c A.o N.ce N.od A.cc A.oc N.mv k w hl.fc hl.fo hks h.own.rd.fc h.own.rd.fo hOk hk0 (by rw [hN.od]; exact hS))
    have C2 := hide1 (fun w' (h' : VaH w' r B A N) => implLook_own A.a N.sl A.ac N.fr hd w' hl.fa hd1.1 hd1.2 h'.own.rd.fa hj hAt)
    have HV := hide1 (show HasV N.sl k N.sl[j].val ∧ k ∈ keysN N from ⟨⟨j, hj, hu, hkj, rfl⟩, hk⟩)
    generalize N.sl[j].val = vv at C2 HV
    generalize N.sl[j].key = kk at C2
    unfold tbV at C1
    unfold arV at C2
    have H := hide1 h
    clear h hN hl hk hj hu hkj hkq hk0 hS hAt hOk hsl hsm hhd hd1 hks
    go_enter Tryz.func19, Tryz.ntmps19
    go_wp2_with fail
    refine C1.out.mono ?_
    rintro e w1 ⟨rfl, hb1⟩
    have V1 := hide1 (H.out.later hb1)
    have B1 := hide1 hb1
    clear C1 hb1 x0 x1 x2 H
    have x0 : w1.cell? ⟨r, 0, none⟩ = some (.slice A.a N.sl.length A.ac) := V1.out.cell 0
    have x1 : w1.cell? ⟨r, 1, none⟩ = some (.int .i64 N.fr) := V1.out.cell 1
    go_wp2_with fail
    refine (C2.out _ V1.out).mono ?_
    rintro e w2 ⟨rfl, hb2⟩
    have B2 := hide1 (B1.out.trans (hb2.mono B1.out.size))
    clear hb2 C2 x0 x1 V1 B1
    go_wp2
    go_ret2
    exact ⟨.inl ⟨vv, rfl, HV.out⟩, B2.out⟩
  · have C1 := hide1 (implSeek_no A.c A.o N.ce N.od A.cc A.oc N.mv k w hl.fc hl.fo hks h.own.rd.fc h.own.rd.fo (fun e => hN.noSk hk e.2))
    have HV := hide1 hk
    unfold tbV at C1
    clear h hN hl hk hks
    go_enter Tryz.func19, Tryz.ntmps19
    go_wp2_with fail
    refine C1.out.mono ?_
    rintro e w1 ⟨hd, rfl, hb1⟩
    have B1 := hide1 hb1
    clear C1 hb1 x0 x1 x2
    go_wp2
    go_ret2
    exact ⟨.inr ⟨rfl, HV.out⟩, B1.out⟩

set_option maxRecDepth 100000 in
set_option maxHeartbeats 4000000 in
theorem freeI {w : World} {r B : Nat} {A : NA} {N : Nr} {K : List ByteArray} (h : VaH w r B A N) (hl : SmN N) (hT : InT N.sl N.fr N.ce K) (hod : N.od = []) (hmv : N.mv = 0) {j : Nat} (hj : j < N.sl.length) (hu : N.sl[j].used = true) (k : ByteArray) (hkj : N.sl[j].key = k) :
    Calls Tryz.prog 39 #[.pointer (some ⟨r, 0, none⟩), .string k] w fun e w' => e = .returned (.tuple #[]) ∧ ∃ A', VaH w' r B A' { N with sl := N.sl.set j (lifted N.sl[j] N.fr), fr := (j : Int) } ∧ w.grownBy w' (some r) := by
  have hk : k ∈ K := by rw [← hkj]; exact (hT.used j hj hu).1
  obtain ⟨hkq, hk0⟩ := hT.key hk
  have hks := keyQ_size hkq
  have hS := hT.handle hj hu
  have hAt := hT.at hj hu
  have hOk : OkT N.ce N.od N.mv := by rw [hod, hmv]; exact okN_iff.2 hT.tb
  have hsl := hT.ar.slots j hj
  have hsm := hT.ar.most
  rw [hkj] at hS
  obtain ⟨hd, hhd⟩ : ∃ hd, 24 * N.sl[j].gen + (j : Int) = hd := ⟨_, rfl⟩
  rw [hhd] at hS hAt
  have hd1 : -9223372036854775808 ≤ hd ∧ hd ≤ 9223372036854775807 := by have h1 := hsl.1; have h2 := hsl.2.1; omega
  have C1 := hide1 (implSeek_own A.c A.o N.ce N.od A.cc A.oc N.mv k w hl.fc hl.fo hks h.own.rd.fc h.own.rd.fo hOk hk0 (by rw [hod]; exact hS))
  have C2 := hide1 (fun w' (h' : VaH w' r B A N) => implLift_own A.a N.sl A.ac N.fr hd w' hl.fa hd1.1 hd1.2 h'.own.rd.fa hj hAt)
  generalize N.sl.set j (lifted N.sl[j] N.fr) = X at *
  unfold tbV at C1
  unfold arV at C2
  have H := hide1 h
  have x0 : w.cell? ⟨r, 2, none⟩ = some (.slice A.c N.ce.length A.cc) := h.cell 2
  have x1 : w.cell? ⟨r, 3, none⟩ = some (.slice A.o N.od.length A.oc) := h.cell 3
  have x2 : w.cell? ⟨r, 4, none⟩ = some (.int .i64 N.mv) := h.cell 4
  clear h hl hT hod hmv hk hu hkj hkq hk0 hS hAt hOk hsl hsm hhd hd1 hks
  go_enter Tryz.func39, Tryz.ntmps39
  go_wp2_with fail
  refine C1.out.mono ?_
  rintro e w1 ⟨rfl, hb1⟩
  have V1 := hide1 (H.out.later hb1)
  have G1 := hide1 (show w.grownBy w1 (some r) from gnew hb1)
  clear C1 hb1 x0 x1 x2 H
  have x0 : w1.cell? ⟨r, 0, none⟩ = some (.slice A.a N.sl.length A.ac) := V1.out.cell 0
  have x1 : w1.cell? ⟨r, 1, none⟩ = some (.int .i64 N.fr) := V1.out.cell 1
  go_wp2_with fail
  refine (C2.out _ V1.out).mono ?_
  rintro e w2 ⟨b2, c2, rfl, ho, hb2⟩
  have hS1 := hide1 (V1.out.own.below_of (Nat.le_refl _))
  have hB1 := hide1 V1.out.le
  have V2 := hide1 (V1.out.later hb2)
  have G2 := hide1 (gtrans G1.out (gnew hb2))
  have O2 := hide1 ho
  clear ho hb2 C2 x0 x1 V1 G1
  have x0 : w2.cell? ⟨r, 0, none⟩ = some (.slice A.a N.sl.length A.ac) := V2.out.cell 0
  have x1 : w2.cell? ⟨r, 1, none⟩ = some (.int .i64 N.fr) := V2.out.cell 1
  have xf : ∀ i, w2.frozen? ⟨r, i, none⟩ = false := fun i => V2.out.var.froz i
  have VV := hide1 (V2.out.putA (f := (j : Int)) O2.out hS1.out hB1.out)
  clear V2 O2
  go_wp2
  refine bodyPost_end (results_none Tryz.results39 _ _ _) rfl ?_
  exact ⟨rfl, _, VV.out, gset (gset G2.out 0 _) 1 _⟩

set_option maxRecDepth 100000 in
set_option maxHeartbeats 4000000 in
theorem removeI {w : World} {r B : Nat} {A : NA} {N : Nr} {K : List ByteArray} (h : VaH w r B A N) (hl : SmN N) (hT : InT N.sl N.fr N.ce K) (hod : N.od = []) (hmv : N.mv = 0) (k : ByteArray) (hk : k ∈ K) :
    Calls Tryz.prog 21 #[.pointer (some ⟨r, 0, none⟩), .string k] w fun e w' => e = .returned (.tuple #[]) ∧ ∃ A', VaH w' r B A' (liftN N k) ∧ w.grownBy w' (some r) := by
  obtain ⟨j, hj, hu, hkj⟩ := hT.ent k hk
  obtain ⟨hkq, hk0⟩ := hT.key hk
  have hks := keyQ_size hkq
  obtain ⟨L, hL, hLc⟩ := hT.take hj hu
  have hOk : OkT N.ce N.od N.mv := by rw [hod, hmv]; exact okN_iff.2 hT.tb
  have HT := hide1 (show liftN N k = { N with sl := N.sl.set j (lifted N.sl[j] N.fr), fr := (j : Int), ce := L, od := [], mv := 0 } by
    unfold liftN
    rw [← hkj, idxN_eq hT hj hu, List.getElem?_eq_getElem hj, hL, ← hod, ← hmv])
  rw [hkj] at hL
  have C1 := hide1 (freeI h hl hT hod hmv hj hu k hkj)
  have C3 := hide1 (fun w' A1 X f (h' : VaH w' r B A1 { N with sl := X, fr := f }) => implTake_own A1.c A1.o N.ce N.od A1.cc A1.oc N.mv k w' hl.fc hl.fo hks h'.own.rd.fc h'.own.rd.fo hOk hk0 (L := L) (O := []) (M := 0) (by rw [hod, hmv]; exact hL))
  generalize N.sl.set j (lifted N.sl[j] N.fr) = X at *
  unfold tbV at C3
  clear hLc h hl hT hod hmv hk hu hkj hkq hk0 hL hOk hks
  go_enter Tryz.func21, Tryz.ntmps21
  go_wp2_with fail
  refine C1.out.mono ?_
  rintro e w1 ⟨rfl, A1, V, G⟩
  have V1 := hide1 V
  have G1 := hide1 G
  clear C1 V G
  have x0 : w1.cell? ⟨r, 2, none⟩ = some (.slice A1.c N.ce.length A1.cc) := V1.out.cell 2
  have x1 : w1.cell? ⟨r, 3, none⟩ = some (.slice A1.o N.od.length A1.oc) := V1.out.cell 3
  have x2 : w1.cell? ⟨r, 4, none⟩ = some (.int .i64 N.mv) := V1.out.cell 4
  go_wp2_with fail
  refine (C3.out _ _ _ _ V1.out).mono ?_
  rintro e w4 ⟨b4, c4, b5, c5, rfl, ho, hb4⟩
  rw [List.length_nil]
  have hS1 := hide1 (V1.out.own.below_of (Nat.le_refl _))
  have hB1 := hide1 V1.out.le
  have V2 := hide1 (V1.out.later hb4)
  have G2 := hide1 (gtrans G1.out (gnew hb4))
  have O2 := hide1 ho
  clear ho hb4 C3 x0 x1 x2 V1 G1
  have x0 : w4.cell? ⟨r, 2, none⟩ = some (.slice A1.c N.ce.length A1.cc) := V2.out.cell 2
  have x1 : w4.cell? ⟨r, 3, none⟩ = some (.slice A1.o N.od.length A1.oc) := V2.out.cell 3
  have x2 : w4.cell? ⟨r, 4, none⟩ = some (.int .i64 N.mv) := V2.out.cell 4
  have xf : ∀ i, w4.frozen? ⟨r, i, none⟩ = false := fun i => V2.out.var.froz i
  have VV := hide1 (V2.out.putC (m := 0) O2.out hS1.out hB1.out)
  clear V2 O2
  go_wp2
  refine bodyPost_end (results_none Tryz.results21 _ _ _) rfl ?_
  exact ⟨rfl, _, by rw [HT.out]; exact VV.out, gset (gset (gset G2.out 2 _) 3 _) 4 _⟩
end Go.Proofs.YtjgiobdpbbhekaaGreat
namespace Go.Proofs.YtjgiobdpbbhekaaGreat
open Go.RowKit
set_option linter.unusedVariables false

def leaveN (N : Nr) (k : ByteArray) : Nr := { N with w := wthQ N.w k, t := wthQ N.t k, s := wthQ N.s k }

set_option maxRecDepth 100000 in
set_option maxHeartbeats 4000000 in
theorem leaveI_w {w : World} {r B : Nat} {A : NA} {N : Nr} (h : VaH w r B A N) (hl : SmN N) (k : ByteArray) (hq : OkQ N.w N.wm) (hin : k ∈ N.w) (h1 : ¬ k ∈ N.t) (h2 : ¬ k ∈ N.s) :
    Calls Tryz.prog 20 #[.pointer (some ⟨r, 5, none⟩), .string k] w fun e w' => e = .returned (.tuple #[]) ∧ ∃ A', VaH w' r B A' (leaveN N k) ∧ w.grownBy w' (some r) := by
  have HT := hide1 (show leaveN N k = { N with w := wthQ N.w k } by unfold leaveN; rw [wthQ_none h1, wthQ_none h2])
  have qw : hasQ N.w k = true := (hasQ_iff _ _).2 hin
  have CW := hide1 (fun w' (hA : RdQ w' A.w N.w) => implHas_any A.w N.w A.wc N.wm k w' hl.fw hA)
  rw [qw] at CW
  have qt : hasQ N.t k = false := (by rcases e : hasQ N.t k with _ | _ <;> first | rfl | exact absurd ((hasQ_iff _ _).1 e) h1)
  have CT := hide1 (fun w' (hA : RdQ w' A.t N.t) => implHas_any A.t N.t A.tc N.tm k w' hl.ft hA)
  rw [qt] at CT
  have qs : hasQ N.s k = false := (by rcases e : hasQ N.s k with _ | _ <;> first | rfl | exact absurd ((hasQ_iff _ _).1 e) h2)
  have CS := hide1 (fun w' (hA : RdQ w' A.s N.s) => implHas_any A.s N.s A.sc N.sm k w' hl.fs hA)
  rw [qs] at CS
  have CD := hide1 (fun w' (hA : RdQ w' A.w N.w) => implDrop_own A.w N.w A.wc N.wm k w' hl.fw h.own.fw.cap.1 h.own.fw.cap.2 hA (drpR_yes hq hin))
  generalize wthQ N.w k = L at *
  have H := hide1 h
  have hrl := h.var.lt
  clear h hl hq hin h1 h2 qw qt qs
  have BX := hide1 (blkD w 90 #[.pointer (some ⟨r, 5, none⟩), .pointer (some ⟨r, 7, none⟩), .pointer (some ⟨r, 9, none⟩)])
  go_enter Tryz.func20, Tryz.ntmps20
  go_wp2_with fail
  go_region_with (fail)
  go_wp2_with fail
  generalize (w.alloc (.cells #[.pointer (some ⟨r, 5, none⟩), .pointer (some ⟨r, 7, none⟩), .pointer (some ⟨r, 9, none⟩)] 90)).drew = w0 at BX ⊢
  have V0 := hide1 (H.out.later BX.out.2)
  have G0 := hide1 (show w.grownBy w0 (some r) from gnew BX.out.2)
  have K0 := hide1 BX.out.1
  have hQr : w.heap.size ≠ r := by omega
  clear BX H
  generalize w.heap.size = Q at K0 hQr ⊢
  refine wp_loop_rounds 4 ?_
  have y0 : w0.cell? ⟨r, 5, none⟩ = some (.int .i64 N.wm) := V0.out.cell 5
  have y1 : w0.cell? ⟨r, 6, none⟩ = some (.slice A.w N.w.length A.wc) := V0.out.cell 6
  have y2 : w0.cell? ⟨Q, 0, none⟩ = some (.pointer (some ⟨r, 5, none⟩)) := K0.out.cell 0
  rw [rounds_succ]
  go_wp2_with fail
  refine (CW.out w0 (V0.out.own.rd.fw)).mono ?_
  rintro e w0a ⟨rfl, hb⟩
  have V0a := hide1 (V0.out.later hb)
  have K0a := hide1 (K0.out.below hb K0.out.lt)
  have G0a := hide1 (gtrans G0.out (gnew hb))
  clear hb y0 y1 y2
  have y0 : w0a.cell? ⟨r, 5, none⟩ = some (.int .i64 N.wm) := V0a.out.cell 5
  have y1 : w0a.cell? ⟨r, 6, none⟩ = some (.slice A.w N.w.length A.wc) := V0a.out.cell 6
  go_wp2_with fail
  refine (CD.out w0a V0a.out.own.rd.fw).mono ?_
  rintro e wd ⟨po, cp, rfl, ho, hb⟩
  have hS1 := hide1 (V0a.out.own.below_of (Nat.le_refl _))
  have hB1 := hide1 V0a.out.le
  have Vd := hide1 (V0a.out.later hb)
  have Kd := hide1 (K0a.out.below hb K0a.out.lt)
  have Gd := hide1 (gtrans G0a.out (gnew hb))
  have Od := hide1 ho
  clear hb ho y0 y1
  have y0 : wd.cell? ⟨r, 5, none⟩ = some (.int .i64 N.wm) := Vd.out.cell 5
  have y1 : wd.cell? ⟨r, 6, none⟩ = some (.slice A.w N.w.length A.wc) := Vd.out.cell 6
  have yf : ∀ j, wd.frozen? ⟨r, j, none⟩ = false := fun j => Vd.out.var.froz j
  have V0b := hide1 (Vd.out.putW (m := N.wm) Od.out hS1.out hB1.out)
  have K0b := hide1 (Blk.far2 (i := 5) (j := 6) Kd.out hQr (.int .i64 N.wm) (.slice po L.length cp))
  have G0b := hide1 (gset (gset Gd.out 5 (.int .i64 N.wm)) 6 (.slice po L.length cp))
  clear Vd Kd Gd Od hS1 hB1
  go_wp2_with fail
  generalize ((wd.setCell ⟨r, 5, none⟩ (.int .i64 N.wm)).setCell ⟨r, 6, none⟩ (.slice po L.length cp)) = w0b at V0b K0b G0b ⊢
  clear y0 y1 yf
  have y0 : w0b.cell? ⟨r, 7, none⟩ = some (.int .i64 N.tm) := V0b.out.cell 7
  have y1 : w0b.cell? ⟨r, 8, none⟩ = some (.slice A.t N.t.length A.tc) := V0b.out.cell 8
  have y2 : w0b.cell? ⟨Q, 1, none⟩ = some (.pointer (some ⟨r, 7, none⟩)) := K0b.out.cell 1
  rw [rounds_succ]
  go_wp2_with fail
  refine (CT.out w0b (V0b.out.own.rd.ft)).mono ?_
  rintro e w0ba ⟨rfl, hb⟩
  have V0ba := hide1 (V0b.out.later hb)
  have K0ba := hide1 (K0b.out.below hb K0b.out.lt)
  have G0ba := hide1 (gtrans G0b.out (gnew hb))
  clear hb y0 y1 y2
  go_wp2_with fail
  have y0 : w0ba.cell? ⟨r, 9, none⟩ = some (.int .i64 N.sm) := V0ba.out.cell 9
  have y1 : w0ba.cell? ⟨r, 10, none⟩ = some (.slice A.s N.s.length A.sc) := V0ba.out.cell 10
  have y2 : w0ba.cell? ⟨Q, 2, none⟩ = some (.pointer (some ⟨r, 9, none⟩)) := K0ba.out.cell 2
  rw [rounds_succ]
  go_wp2_with fail
  refine (CS.out w0ba (V0ba.out.own.rd.fs)).mono ?_
  rintro e w0baa ⟨rfl, hb⟩
  have V0baa := hide1 (V0ba.out.later hb)
  have K0baa := hide1 (K0ba.out.below hb K0ba.out.lt)
  have G0baa := hide1 (gtrans G0ba.out (gnew hb))
  clear hb y0 y1 y2
  go_wp2_with fail
  rw [rounds_succ]
  go_wp2
  refine bodyPost_end (results_none Tryz.results20 _ _ _) rfl ?_
  exact ⟨rfl, _, by rw [HT.out]; exact V0baa.out, G0baa.out⟩

set_option maxRecDepth 100000 in
set_option maxHeartbeats 4000000 in
theorem leaveI_t {w : World} {r B : Nat} {A : NA} {N : Nr} (h : VaH w r B A N) (hl : SmN N) (k : ByteArray) (hq : OkQ N.t N.tm) (hin : k ∈ N.t) (h1 : ¬ k ∈ N.w) (h2 : ¬ k ∈ N.s) :
    Calls Tryz.prog 20 #[.pointer (some ⟨r, 5, none⟩), .string k] w fun e w' => e = .returned (.tuple #[]) ∧ ∃ A', VaH w' r B A' (leaveN N k) ∧ w.grownBy w' (some r) := by
  have HT := hide1 (show leaveN N k = { N with t := wthQ N.t k } by unfold leaveN; rw [wthQ_none h1, wthQ_none h2])
  have qw : hasQ N.w k = false := (by rcases e : hasQ N.w k with _ | _ <;> first | rfl | exact absurd ((hasQ_iff _ _).1 e) h1)
  have CW := hide1 (fun w' (hA : RdQ w' A.w N.w) => implHas_any A.w N.w A.wc N.wm k w' hl.fw hA)
  rw [qw] at CW
  have qt : hasQ N.t k = true := (hasQ_iff _ _).2 hin
  have CT := hide1 (fun w' (hA : RdQ w' A.t N.t) => implHas_any A.t N.t A.tc N.tm k w' hl.ft hA)
  rw [qt] at CT
  have qs : hasQ N.s k = false := (by rcases e : hasQ N.s k with _ | _ <;> first | rfl | exact absurd ((hasQ_iff _ _).1 e) h2)
  have CS := hide1 (fun w' (hA : RdQ w' A.s N.s) => implHas_any A.s N.s A.sc N.sm k w' hl.fs hA)
  rw [qs] at CS
  have CD := hide1 (fun w' (hA : RdQ w' A.t N.t) => implDrop_own A.t N.t A.tc N.tm k w' hl.ft h.own.ft.cap.1 h.own.ft.cap.2 hA (drpR_yes hq hin))
  generalize wthQ N.t k = L at *
  have H := hide1 h
  have hrl := h.var.lt
  clear h hl hq hin h1 h2 qw qt qs
  have BX := hide1 (blkD w 90 #[.pointer (some ⟨r, 5, none⟩), .pointer (some ⟨r, 7, none⟩), .pointer (some ⟨r, 9, none⟩)])
  go_enter Tryz.func20, Tryz.ntmps20
  go_wp2_with fail
  go_region_with (fail)
  go_wp2_with fail
  generalize (w.alloc (.cells #[.pointer (some ⟨r, 5, none⟩), .pointer (some ⟨r, 7, none⟩), .pointer (some ⟨r, 9, none⟩)] 90)).drew = w0 at BX ⊢
  have V0 := hide1 (H.out.later BX.out.2)
  have G0 := hide1 (show w.grownBy w0 (some r) from gnew BX.out.2)
  have K0 := hide1 BX.out.1
  have hQr : w.heap.size ≠ r := by omega
  clear BX H
  generalize w.heap.size = Q at K0 hQr ⊢
  refine wp_loop_rounds 4 ?_
  have y0 : w0.cell? ⟨r, 5, none⟩ = some (.int .i64 N.wm) := V0.out.cell 5
  have y1 : w0.cell? ⟨r, 6, none⟩ = some (.slice A.w N.w.length A.wc) := V0.out.cell 6
  have y2 : w0.cell? ⟨Q, 0, none⟩ = some (.pointer (some ⟨r, 5, none⟩)) := K0.out.cell 0
  rw [rounds_succ]
  go_wp2_with fail
  refine (CW.out w0 (V0.out.own.rd.fw)).mono ?_
  rintro e w0a ⟨rfl, hb⟩
  have V0a := hide1 (V0.out.later hb)
  have K0a := hide1 (K0.out.below hb K0.out.lt)
  have G0a := hide1 (gtrans G0.out (gnew hb))
  clear hb y0 y1 y2
  go_wp2_with fail
  have y0 : w0a.cell? ⟨r, 7, none⟩ = some (.int .i64 N.tm) := V0a.out.cell 7
  have y1 : w0a.cell? ⟨r, 8, none⟩ = some (.slice A.t N.t.length A.tc) := V0a.out.cell 8
  have y2 : w0a.cell? ⟨Q, 1, none⟩ = some (.pointer (some ⟨r, 7, none⟩)) := K0a.out.cell 1
  rw [rounds_succ]
  go_wp2_with fail
  refine (CT.out w0a (V0a.out.own.rd.ft)).mono ?_
  rintro e w0aa ⟨rfl, hb⟩
  have V0aa := hide1 (V0a.out.later hb)
  have K0aa := hide1 (K0a.out.below hb K0a.out.lt)
  have G0aa := hide1 (gtrans G0a.out (gnew hb))
  clear hb y0 y1 y2
  have y0 : w0aa.cell? ⟨r, 7, none⟩ = some (.int .i64 N.tm) := V0aa.out.cell 7
  have y1 : w0aa.cell? ⟨r, 8, none⟩ = some (.slice A.t N.t.length A.tc) := V0aa.out.cell 8
  go_wp2_with fail
  refine (CD.out w0aa V0aa.out.own.rd.ft).mono ?_
  rintro e wd ⟨po, cp, rfl, ho, hb⟩
  have hS1 := hide1 (V0aa.out.own.below_of (Nat.le_refl _))
  have hB1 := hide1 V0aa.out.le
  have Vd := hide1 (V0aa.out.later hb)
  have Kd := hide1 (K0aa.out.below hb K0aa.out.lt)
  have Gd := hide1 (gtrans G0aa.out (gnew hb))
  have Od := hide1 ho
  clear hb ho y0 y1
  have y0 : wd.cell? ⟨r, 7, none⟩ = some (.int .i64 N.tm) := Vd.out.cell 7
  have y1 : wd.cell? ⟨r, 8, none⟩ = some (.slice A.t N.t.length A.tc) := Vd.out.cell 8
  have yf : ∀ j, wd.frozen? ⟨r, j, none⟩ = false := fun j => Vd.out.var.froz j
  have V1b := hide1 (Vd.out.putT (m := N.tm) Od.out hS1.out hB1.out)
  have K1b := hide1 (Blk.far2 (i := 7) (j := 8) Kd.out hQr (.int .i64 N.tm) (.slice po L.length cp))
  have G1b := hide1 (gset (gset Gd.out 7 (.int .i64 N.tm)) 8 (.slice po L.length cp))
  clear Vd Kd Gd Od hS1 hB1
  go_wp2_with fail
  generalize ((wd.setCell ⟨r, 7, none⟩ (.int .i64 N.tm)).setCell ⟨r, 8, none⟩ (.slice po L.length cp)) = w1b at V1b K1b G1b ⊢
  clear y0 y1 yf
  have y0 : w1b.cell? ⟨r, 9, none⟩ = some (.int .i64 N.sm) := V1b.out.cell 9
  have y1 : w1b.cell? ⟨r, 10, none⟩ = some (.slice A.s N.s.length A.sc) := V1b.out.cell 10
  have y2 : w1b.cell? ⟨Q, 2, none⟩ = some (.pointer (some ⟨r, 9, none⟩)) := K1b.out.cell 2
  rw [rounds_succ]
  go_wp2_with fail
  refine (CS.out w1b (V1b.out.own.rd.fs)).mono ?_
  rintro e w1ba ⟨rfl, hb⟩
  have V1ba := hide1 (V1b.out.later hb)
  have K1ba := hide1 (K1b.out.below hb K1b.out.lt)
  have G1ba := hide1 (gtrans G1b.out (gnew hb))
  clear hb y0 y1 y2
  go_wp2_with fail
  rw [rounds_succ]
  go_wp2
  refine bodyPost_end (results_none Tryz.results20 _ _ _) rfl ?_
  exact ⟨rfl, _, by rw [HT.out]; exact V1ba.out, G1ba.out⟩

set_option maxRecDepth 100000 in
set_option maxHeartbeats 4000000 in
theorem leaveI_s {w : World} {r B : Nat} {A : NA} {N : Nr} (h : VaH w r B A N) (hl : SmN N) (k : ByteArray) (hq : OkQ N.s N.sm) (hin : k ∈ N.s) (h1 : ¬ k ∈ N.w) (h2 : ¬ k ∈ N.t) :
    Calls Tryz.prog 20 #[.pointer (some ⟨r, 5, none⟩), .string k] w fun e w' => e = .returned (.tuple #[]) ∧ ∃ A', VaH w' r B A' (leaveN N k) ∧ w.grownBy w' (some r) := by
  have HT := hide1 (show leaveN N k = { N with s := wthQ N.s k } by unfold leaveN; rw [wthQ_none h1, wthQ_none h2])
  have qw : hasQ N.w k = false := (by rcases e : hasQ N.w k with _ | _ <;> first | rfl | exact absurd ((hasQ_iff _ _).1 e) h1)
  have CW := hide1 (fun w' (hA : RdQ w' A.w N.w) => implHas_any A.w N.w A.wc N.wm k w' hl.fw hA)
  rw [qw] at CW
  have qt : hasQ N.t k = false := (by rcases e : hasQ N.t k with _ | _ <;> first | rfl | exact absurd ((hasQ_iff _ _).1 e) h2)
  have CT := hide1 (fun w' (hA : RdQ w' A.t N.t) => implHas_any A.t N.t A.tc N.tm k w' hl.ft hA)
  rw [qt] at CT
  have qs : hasQ N.s k = true := (hasQ_iff _ _).2 hin
  have CS := hide1 (fun w' (hA : RdQ w' A.s N.s) => implHas_any A.s N.s A.sc N.sm k w' hl.fs hA)
  rw [qs] at CS
  have CD := hide1 (fun w' (hA : RdQ w' A.s N.s) => implDrop_own A.s N.s A.sc N.sm k w' hl.fs h.own.fs.cap.1 h.own.fs.cap.2 hA (drpR_yes hq hin))
  generalize wthQ N.s k = L at *
  have H := hide1 h
  have hrl := h.var.lt
  clear h hl hq hin h1 h2 qw qt qs
  have BX := hide1 (blkD w 90 #[.pointer (some ⟨r, 5, none⟩), .pointer (some ⟨r, 7, none⟩), .pointer (some ⟨r, 9, none⟩)])
  go_enter Tryz.func20, Tryz.ntmps20
  go_wp2_with fail
  go_region_with (fail)
  go_wp2_with fail
  generalize (w.alloc (.cells #[.pointer (some ⟨r, 5, none⟩), .pointer (some ⟨r, 7, none⟩), .pointer (some ⟨r, 9, none⟩)] 90)).drew = w0 at BX ⊢
  have V0 := hide1 (H.out.later BX.out.2)
  have G0 := hide1 (show w.grownBy w0 (some r) from gnew BX.out.2)
  have K0 := hide1 BX.out.1
  have hQr : w.heap.size ≠ r := by omega
  clear BX H
  generalize w.heap.size = Q at K0 hQr ⊢
  refine wp_loop_rounds 4 ?_
  have y0 : w0.cell? ⟨r, 5, none⟩ = some (.int .i64 N.wm) := V0.out.cell 5
  have y1 : w0.cell? ⟨r, 6, none⟩ = some (.slice A.w N.w.length A.wc) := V0.out.cell 6
  have y2 : w0.cell? ⟨Q, 0, none⟩ = some (.pointer (some ⟨r, 5, none⟩)) := K0.out.cell 0
  rw [rounds_succ]
  go_wp2_with fail
  refine (CW.out w0 (V0.out.own.rd.fw)).mono ?_
  rintro e w0a ⟨rfl, hb⟩
  have V0a := hide1 (V0.out.later hb)
  have K0a := hide1 (K0.out.below hb K0.out.lt)
  have G0a := hide1 (gtrans G0.out (gnew hb))
  clear hb y0 y1 y2
  go_wp2_with fail
  have y0 : w0a.cell? ⟨r, 7, none⟩ = some (.int .i64 N.tm) := V0a.out.cell 7
  have y1 : w0a.cell? ⟨r, 8, none⟩ = some (.slice A.t N.t.length A.tc) := V0a.out.cell 8
  have y2 : w0a.cell? ⟨Q, 1, none⟩ = some (.pointer (some ⟨r, 7, none⟩)) := K0a.out.cell 1
  rw [rounds_succ]
  go_wp2_with fail
  refine (CT.out w0a (V0a.out.own.rd.ft)).mono ?_
  rintro e w0aa ⟨rfl, hb⟩
  have V0aa := hide1 (V0a.out.later hb)
  have K0aa := hide1 (K0a.out.below hb K0a.out.lt)
  have G0aa := hide1 (gtrans G0a.out (gnew hb))
  clear hb y0 y1 y2
  go_wp2_with fail
  have y0 : w0aa.cell? ⟨r, 9, none⟩ = some (.int .i64 N.sm) := V0aa.out.cell 9
  have y1 : w0aa.cell? ⟨r, 10, none⟩ = some (.slice A.s N.s.length A.sc) := V0aa.out.cell 10
  have y2 : w0aa.cell? ⟨Q, 2, none⟩ = some (.pointer (some ⟨r, 9, none⟩)) := K0aa.out.cell 2
  rw [rounds_succ]
  go_wp2_with fail
  refine (CS.out w0aa (V0aa.out.own.rd.fs)).mono ?_
  rintro e w0aaa ⟨rfl, hb⟩
  have V0aaa := hide1 (V0aa.out.later hb)
  have K0aaa := hide1 (K0aa.out.below hb K0aa.out.lt)
  have G0aaa := hide1 (gtrans G0aa.out (gnew hb))
  clear hb y0 y1 y2
  have y0 : w0aaa.cell? ⟨r, 9, none⟩ = some (.int .i64 N.sm) := V0aaa.out.cell 9
  have y1 : w0aaa.cell? ⟨r, 10, none⟩ = some (.slice A.s N.s.length A.sc) := V0aaa.out.cell 10
  go_wp2_with fail
  refine (CD.out w0aaa V0aaa.out.own.rd.fs).mono ?_
  rintro e wd ⟨po, cp, rfl, ho, hb⟩
  have hS1 := hide1 (V0aaa.out.own.below_of (Nat.le_refl _))
  have hB1 := hide1 V0aaa.out.le
  have Vd := hide1 (V0aaa.out.later hb)
  have Kd := hide1 (K0aaa.out.below hb K0aaa.out.lt)
  have Gd := hide1 (gtrans G0aaa.out (gnew hb))
  have Od := hide1 ho
  clear hb ho y0 y1
  have y0 : wd.cell? ⟨r, 9, none⟩ = some (.int .i64 N.sm) := Vd.out.cell 9
  have y1 : wd.cell? ⟨r, 10, none⟩ = some (.slice A.s N.s.length A.sc) := Vd.out.cell 10
  have yf : ∀ j, wd.frozen? ⟨r, j, none⟩ = false := fun j => Vd.out.var.froz j
  have V2b := hide1 (Vd.out.putS (m := N.sm) Od.out hS1.out hB1.out)
  have K2b := hide1 (Blk.far2 (i := 9) (j := 10) Kd.out hQr (.int .i64 N.sm) (.slice po L.length cp))
  have G2b := hide1 (gset (gset Gd.out 9 (.int .i64 N.sm)) 10 (.slice po L.length cp))
  clear Vd Kd Gd Od hS1 hB1
  go_wp2_with fail
  generalize ((wd.setCell ⟨r, 9, none⟩ (.int .i64 N.sm)).setCell ⟨r, 10, none⟩ (.slice po L.length cp)) = w2b at V2b K2b G2b ⊢
  clear y0 y1 yf
  rw [rounds_succ]
  go_wp2
  refine bodyPost_end (results_none Tryz.results20 _ _ _) rfl ?_
  exact ⟨rfl, _, by rw [HT.out]; exact V2b.out, G2b.out⟩
end Go.Proofs.YtjgiobdpbbhekaaGreat
