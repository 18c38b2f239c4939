/- The arena and the table of near entries, stored anew; what is sought and taken there, by the model. -/
import Derived.Test.YtjgiobdpbbhekaaGreatXVY
namespace Go.Proofs.YtjgiobdpbbhekaaGreat
open Go.RowKit

theorem VaN.putA {w : World} {r B S c : Nat} {A : NA} {N : Nr} {b : Option Addr} {l : List Sl} {f : Int} (h : VaN w r B A N) (ho : w.ownsRow S 72 5 (.slice b l.length c) l.length (sls l)) (hS : ∀ v ∈ vlN A N, ∀ g, v.ownBlock = some g → g < S) (hB : B ≤ S ∧ r < S) : VaN ((w.setCell ⟨r, 0, none⟩ (.slice b l.length c)).setCell ⟨r, 1, none⟩ (.int .i64 f)) r B { A with a := b, ac := c } { N with sl := l, fr := f } :=
  have hne : ∀ g, (Value.slice b l.length c).ownBlock = some g → g ≠ r := fun g hg => by have := (ho.lt g hg).1; have := hB.2; omega
  ⟨Blk.set (Blk.set h.var 0 _) 1 _, ((h.own.off _ _ h.ne).off _ _ h.ne).setA (own_far (own_far ho _ _ hne) _ _ hne) hS hB.1 f, ne_set (i := 0) h.ne hne, by simpa using h.le⟩
theorem VaN.putC {w : World} {r B S c c' : Nat} {A : NA} {N : Nr} {b b' : Option Addr} {l l' : List Ce} {m : Int} (h : VaN w r B A N) (ho : Own2 w S b c l b' c' l') (hS : ∀ v ∈ vlN A N, ∀ g, v.ownBlock = some g → g < S) (hB : B ≤ S ∧ r < S) : VaN (((w.setCell ⟨r, 2, none⟩ (.slice b l.length c)).setCell ⟨r, 3, none⟩ (.slice b' l'.length c')).setCell ⟨r, 4, none⟩ (.int .i64 m)) r B { A with c := b, cc := c, o := b', oc := c' } { N with ce := l, od := l', mv := m } :=
  have hn1 : ∀ g, (Value.slice b l.length c).ownBlock = some g → g ≠ r := fun g hg => by have := (ho.1.lt g hg).1; have := hB.2; omega
  have hn2 : ∀ g, (Value.slice b' l'.length c').ownBlock = some g → g ≠ r := fun g hg => by have := (ho.2.1.lt g hg).1; have := hB.2; omega
  ⟨Blk.set (Blk.set (Blk.set h.var 2 _) 3 _) 4 _, (((h.own.off _ _ h.ne).off _ _ h.ne).off _ _ h.ne).setC ⟨own_far (own_far (own_far ho.1 _ _ hn1) _ _ hn1) _ _ hn1, own_far (own_far (own_far ho.2.1 _ _ hn2) _ _ hn2) _ _ hn2, ho.2.2⟩ hS hB.1 m, ne_set (i := 2) (ne_set (i := 1) h.ne hn1) hn2, by simpa using h.le⟩
theorem specTake_own (ao a' : Option Addr) (l o : List Ce) (ca ca' : Nat) (mv : Int) (key : ByteArray) (w : World) (hl : l.length ≤ 1048576) (hl' : o.length ≤ 1048576) (hk : key.size ≤ 1048576) (hA : RdC w ao l) (hA' : RdC w a' o) (hok : OkT l o mv) (hk0 : key.toList ≠ []) {L O : List Ce} {M : Int} (hR : takeR l o mv key = some (L, O, M)) :
    Calls Tryz.prog 115 #[tbV ao l.length ca a' o.length ca' mv, .string key] w fun e w' => ∃ b c b' c', e = .returned (.tuple #[tbV b L.length c b' O.length c' M, .bool true]) ∧ Own2 w' w.heap.size b c L b' c' O ∧ Below w.heap.size w w' := by
  refine (specTake_any ao a' l o ca ca' mv key w hl hl' hk hA hA').mono ?_
  rintro e w' ⟨b, L', c, b', O', c', M', t, rfl, ha, h1, h2, h3, hb⟩
  obtain ⟨rfl, rfl, rfl, rfl⟩ := Ans.det ha (.inl ⟨⟨hok, hk0⟩, hR, rfl⟩)
  exact ⟨b, c, b', c', rfl, ⟨h1, h2, h3⟩, hb⟩
theorem specSeek_own (ao a' : Option Addr) (l o : List Ce) (ca ca' : Nat) (mv : Int) (key : ByteArray) (w : World) (hl : l.length ≤ 1048576) (hl' : o.length ≤ 1048576) (hk : key.size ≤ 1048576) (hA : RdC w ao l) (hA' : RdC w a' o) (hok : OkT l o mv) (hk0 : key.toList ≠ []) {h : Int} (hR : seekT l o key = some h) :
    Calls Tryz.prog 63 #[tbV ao l.length ca a' o.length ca' mv, .string key] w fun e w' => e = .returned (.tuple #[.int .i64 h, .bool true]) ∧ Below w.heap.size w w' := by
  refine (specSeekKey_any ao a' l o ca ca' mv key w hl hl' hk hA hA').mono ?_
  rintro e w' ⟨h', t, rfl, ha, hb⟩
  obtain ⟨rfl, rfl⟩ := SeekA.det ha (.inl ⟨rfl, hok, hk0, hR⟩)
  exact ⟨rfl, hb⟩
theorem specLift_own (ao : Option Addr) (l : List Sl) (ca : Nat) (f h : Int) (w : World) (hl : l.length ≤ 1048576) (h1 : -9223372036854775808 ≤ h) (h2 : h ≤ 9223372036854775807) (hA : RdA w ao l) {j : Nat} (hj : j < l.length) (hat : AtA l f h j) :
    Calls Tryz.prog 68 #[arV ao l.length ca f, .int .i64 h] w fun e w' => ∃ b c, e = .returned (.tuple #[arV (some ⟨b, 0, none⟩) (l.set j (lifted l[j] f)).length c (j : Int), .bool true]) ∧ w'.ownsRow w.heap.size 72 5 (.slice (some ⟨b, 0, none⟩) (l.set j (lifted l[j] f)).length c) (l.set j (lifted l[j] f)).length (sls (l.set j (lifted l[j] f))) ∧ Below w.heap.size w w' := by
  refine (specLift_any ao l ca f h w hl h1 h2 hA).mono ?_
  rintro e w' ⟨⟨k, b, c, hk, rfl, ha, ho⟩ | ⟨_, hn⟩, hb⟩
  · obtain rfl : k = j := by have a := ha.place; have b := hat.place; omega
    rw [List.length_set]
    exact ⟨b, c, rfl, ho, hb⟩
  · exact absurd hat (hn j)
end Go.Proofs.YtjgiobdpbbhekaaGreat
namespace Go.Proofs.YtjgiobdpbbhekaaGreat
open Go.RowKit

theorem Blk.far2 {w : World} {q r i j : Nat} {t : TypeId} {xs : List Value} (h : Blk w q t xs) (hne : q ≠ r) (u v : Value) : Blk ((w.setCell ⟨r, i, none⟩ u).setCell ⟨r, j, none⟩ v) q t xs := (h.far _ _ hne).far _ _ hne
set_option maxRecDepth 100000 in
set_option maxHeartbeats 3200000 in
theorem specLft_any {w : World} {r B : Nat} {A : NA} {N : Nr} {K : List ByteArray} (h : VaN w r B A N) (hl : SmN N) (hT : InT N.sl N.fr N.ce K) (hod : N.od = []) (hmv : N.mv = 0) (k : ByteArray) (hk : k ∈ K) :
    Calls Tryz.prog 66 #[.pointer (some ⟨r, 0, none⟩), .string k] w fun e w' => e = .returned (.tuple #[]) ∧ ∃ A', VaN w' r B A' (liftN N k) ∧ w.grownBy w' (some r) := by
  obtain ⟨j, hj, hu, hkj⟩ := hT.ent k hk
  obtain ⟨hkq, hk0⟩ := hT.key hk
  have hks := keyQ_size hkq
  obtain ⟨L, hL, hLc⟩ := hT.take hj hu
  have hS := hT.handle hj hu
  have hAt := hT.at hj hu
  have hOk : OkT N.ce N.od N.mv := by rw [hod, hmv]; exact okN_iff.2 hT.tb
  have hsl := hT.ar.slots j hj
  have hsm := hT.ar.most
  have HT := hide1 (show liftN N k = { N with sl := N.sl.set j (lifted N.sl[j] N.fr), fr := (j : Int), ce := L, od := [], mv := 0 } by
    unfold liftN
    rw [← hkj, idxN_eq hT hj hu, List.getElem?_eq_getElem hj, hL, ← hod, ← hmv])
  rw [hkj] at hL hS
  obtain ⟨hd, hhd⟩ : ∃ hd, 24 * N.sl[j].gen + (j : Int) = hd := ⟨_, rfl⟩
  rw [hhd] at hS hAt
  have hd1 : -9223372036854775808 ≤ hd ∧ hd ≤ 9223372036854775807 := by have h1 := hsl.1; have h2 := hsl.2.1; omega
  have C1 := hide1 (specSeek_own A.c A.o N.ce N.od A.cc A.oc N.mv k w hl.fc hl.fo hks h.own.rd.fc h.own.rd.fo hOk hk0 (by rw [hod]; exact hS))
  have C2 := hide1 (fun w' (h' : VaN w' r B A N) => specLift_own A.a N.sl A.ac N.fr hd w' hl.fa hd1.1 hd1.2 h'.own.rd.fa hj hAt)
  have C3 := hide1 (fun w' (h' : VaN w' r B A N) => specTake_own A.c A.o N.ce N.od A.cc A.oc N.mv k w' hl.fc hl.fo hks h'.own.rd.fc h'.own.rd.fo hOk hk0 (L := L) (O := []) (M := 0) (by rw [hod, hmv]; exact hL))
  generalize N.sl.set j (lifted N.sl[j] N.fr) = X at *
  unfold tbV at C1 C3
  unfold arV at C2
  have H := hide1 h
  have x0 : w.cell? ⟨r, 2, none⟩ = some (.slice A.c N.ce.length A.cc) := h.cell 2
  have x1 : w.cell? ⟨r, 3, none⟩ = some (.slice A.o N.od.length A.oc) := h.cell 3
  have x2 : w.cell? ⟨r, 4, none⟩ = some (.int .i64 N.mv) := h.cell 4
  clear hLc h hl hT hod hmv hk hu hkj hkq hk0 hL hS hAt hOk hsl hsm hhd hd1 hks
  go_enter Tryz.func66, Tryz.ntmps66
  go_wp2_with fail
  refine C1.out.mono ?_
  rintro e w1 ⟨rfl, hb1⟩
  have V1 := hide1 (H.out.later hb1)
  have G1 := hide1 (show w.grownBy w1 (some r) from gnew hb1)
  clear C1 hb1 x0 x1 x2 H
  have x0 : w1.cell? ⟨r, 0, none⟩ = some (.slice A.a N.sl.length A.ac) := V1.out.cell 0
  have x1 : w1.cell? ⟨r, 1, none⟩ = some (.int .i64 N.fr) := V1.out.cell 1
  go_wp2_with fail
  refine (C2.out _ V1.out).mono ?_
  rintro e w2 ⟨b2, c2, rfl, ho, hb2⟩
  have hS1 := hide1 (V1.out.own.below_of (Nat.le_refl _))
  have F : Hid (VaN (w2.alloc (.cells #[.slice (some ⟨b2, 0, none⟩) X.length c2, .int .i64 (j : Int)] 26)) r B A N ∧ Blk (w2.alloc (.cells #[.slice (some ⟨b2, 0, none⟩) X.length c2, .int .i64 (j : Int)] 26)) w2.heap.size 26 [.slice (some ⟨b2, 0, none⟩) X.length c2, .int .i64 (j : Int)] ∧ (w2.alloc (.cells #[.slice (some ⟨b2, 0, none⟩) X.length c2, .int .i64 (j : Int)] 26)).ownsRow w1.heap.size 72 5 (.slice (some ⟨b2, 0, none⟩) X.length c2) X.length (sls X) ∧ w.grownBy (w2.alloc (.cells #[.slice (some ⟨b2, 0, none⟩) X.length c2, .int .i64 (j : Int)] 26)) (some r) ∧ w1.heap.size ≤ w2.heap.size) :=
    ⟨(V1.out.later hb2).later ((Below.refl _ _).alloc (Nat.le_refl _) _), Blk.new w2 _ _, own_kept ho ((Below.refl _ _).alloc (Nat.le_refl _) _), gtrans G1.out (gnew (hb2.alloc hb2.size _)), hb2.size⟩
  have hB1 := hide1 V1.out.le
  have hr1 := V1.out.var.lt
  clear ho hb2 C2 x0 x1 V1 G1
  go_upto_region 2 with fail
  generalize (w2.alloc (.cells #[.slice (some ⟨b2, 0, none⟩) X.length c2, .int .i64 (j : Int)] 26)) = W3 at F ⊢
  generalize w2.heap.size = Q1 at F ⊢
  have V3 := hide1 F.out.1
  have K3 := hide1 F.out.2.1
  have O3 := hide1 F.out.2.2.1
  have G3 := hide1 F.out.2.2.2.1
  have hQ1 := F.out.2.2.2.2
  clear F
  have hS3 := hide1 ((V3.out.own.setA O3.out hS1.out hB1.out.1 (j : Int)).below_of (Nat.le_refl _))
  have hB3 := hide1 V3.out.le
  have x0 : W3.cell? ⟨r, 2, none⟩ = some (.slice A.c N.ce.length A.cc) := V3.out.cell 2
  have x1 : W3.cell? ⟨r, 3, none⟩ = some (.slice A.o N.od.length A.oc) := V3.out.cell 3
  have x2 : W3.cell? ⟨r, 4, none⟩ = some (.int .i64 N.mv) := V3.out.cell 4
  go_wp2_with fail
  refine (C3.out _ V3.out).mono ?_
  rintro e w4 ⟨b4, c4, b5, c5, rfl, ho, hb4⟩
  rw [List.length_nil]
  have hlt3 : Q1 < W3.heap.size := K3.out.lt
  have F : Hid (VaN (w4.alloc (.cells #[.slice b4 L.length c4, .slice b5 0 c5, .int .i64 0] 29)) r B A N ∧ Blk (w4.alloc (.cells #[.slice b4 L.length c4, .slice b5 0 c5, .int .i64 0] 29)) Q1 26 [.slice (some ⟨b2, 0, none⟩) X.length c2, .int .i64 (j : Int)] ∧ Blk (w4.alloc (.cells #[.slice b4 L.length c4, .slice b5 0 c5, .int .i64 0] 29)) w4.heap.size 29 [.slice b4 L.length c4, .slice b5 0 c5, .int .i64 0] ∧ (w4.alloc (.cells #[.slice b4 L.length c4, .slice b5 0 c5, .int .i64 0] 29)).ownsRow w1.heap.size 72 5 (.slice (some ⟨b2, 0, none⟩) X.length c2) X.length (sls X) ∧ Own2 (w4.alloc (.cells #[.slice b4 L.length c4, .slice b5 0 c5, .int .i64 0] 29)) W3.heap.size b4 c4 L b5 c5 [] ∧ w.grownBy (w4.alloc (.cells #[.slice b4 L.length c4, .slice b5 0 c5, .int .i64 0] 29)) (some r) ∧ W3.heap.size ≤ w4.heap.size) :=
    ⟨(V3.out.later hb4).later ((Below.refl _ _).alloc (Nat.le_refl _) _), (K3.out.below hb4 hlt3).below ((Below.refl w4.heap.size w4).alloc (Nat.le_refl _) _) (Nat.lt_of_lt_of_le hlt3 hb4.size), Blk.new w4 _ _, own_kept (own_kept O3.out hb4) ((Below.refl _ _).alloc (Nat.le_refl _) _), ho.later ((Below.refl _ _).alloc (Nat.le_refl _) _), gtrans G3.out (gnew (hb4.alloc hb4.size _)), hb4.size⟩
  clear ho hb4 C3 x0 x1 x2 V3 K3 O3 G3
  go_upto_region 3 with fail
  generalize (w4.alloc (.cells #[.slice b4 L.length c4, .slice b5 0 c5, .int .i64 0] 29)) = W5 at F ⊢
  generalize w4.heap.size = Q2 at F ⊢
  have V5 := hide1 F.out.1
  have K5 := hide1 F.out.2.1
  have K6 := hide1 F.out.2.2.1
  have O5 := hide1 F.out.2.2.2.1
  have O6 := hide1 F.out.2.2.2.2.1
  have G5 := hide1 F.out.2.2.2.2.2.1
  have hQ2 := F.out.2.2.2.2.2.2
  clear F
  have x0 : W5.cell? ⟨r, 0, none⟩ = some (.slice A.a N.sl.length A.ac) := V5.out.cell 0
  have x1 : W5.cell? ⟨r, 1, none⟩ = some (.int .i64 N.fr) := V5.out.cell 1
  have z0 : W5.cell? ⟨Q1, 0, none⟩ = some (.slice (some ⟨b2, 0, none⟩) X.length c2) := K5.out.cell 0
  have z1 : W5.cell? ⟨Q1, 1, none⟩ = some (.int .i64 (j : Int)) := K5.out.cell 1
  have xf : ∀ i, W5.frozen? ⟨r, i, none⟩ = false := fun i => V5.out.var.froz i
  have V7 := hide1 (V5.out.putA (f := (j : Int)) O5.out hS1.out hB1.out)
  have K7 := hide1 (Blk.far2 (i := 0) (j := 1) K6.out (show Q2 ≠ r by omega) (.slice (some ⟨b2, 0, none⟩) X.length c2) (.int .i64 (j : Int)))
  have G7 := hide1 (gset (gset G5.out 0 (.slice (some ⟨b2, 0, none⟩) X.length c2)) 1 (.int .i64 (j : Int)))
  have O7 : Hid (Own2 ((W5.setCell ⟨r, 0, none⟩ (.slice (some ⟨b2, 0, none⟩) X.length c2)).setCell ⟨r, 1, none⟩ (.int .i64 (j : Int))) W3.heap.size b4 c4 L b5 c5 []) :=
    ⟨own_far (own_far O6.out.1 _ _ (fun g hg => by have := (O6.out.1.lt g hg).1; dsimp only; omega)) _ _ (fun g hg => by have := (O6.out.1.lt g hg).1; dsimp only; omega), own_far (own_far O6.out.2.1 _ _ (fun g hg => by have := (O6.out.2.1.lt g hg).1; dsimp only; omega)) _ _ (fun g hg => by have := (O6.out.2.1.lt g hg).1; dsimp only; omega), O6.out.2.2⟩
  clear V5 K5 K6 O5 O6 G5
  go_upto_region 4 with fail
  generalize ((W5.setCell ⟨r, 0, none⟩ (.slice (some ⟨b2, 0, none⟩) X.length c2)).setCell ⟨r, 1, none⟩ (.int .i64 (j : Int))) = W7 at V7 K7 G7 O7 ⊢
  clear x0 x1 z0 z1 xf
  have x0 : W7.cell? ⟨r, 2, none⟩ = some (.slice A.c N.ce.length A.cc) := V7.out.cell 2
  have x1 : W7.cell? ⟨r, 3, none⟩ = some (.slice A.o N.od.length A.oc) := V7.out.cell 3
  have x2 : W7.cell? ⟨r, 4, none⟩ = some (.int .i64 N.mv) := V7.out.cell 4
  have z0 : W7.cell? ⟨Q2, 0, none⟩ = some (.slice b4 L.length c4) := K7.out.cell 0
  have z1 : W7.cell? ⟨Q2, 1, none⟩ = some (.slice b5 0 c5) := K7.out.cell 1
  have z2 : W7.cell? ⟨Q2, 2, none⟩ = some (.int .i64 0) := K7.out.cell 2
  have xf : ∀ i, W7.frozen? ⟨r, i, none⟩ = false := fun i => V7.out.var.froz i
  have VV := hide1 (V7.out.putC (m := 0) O7.out hS3.out hB3.out)
  clear V7 K7 O7
  go_wp2
  refine bodyPost_end (results_none Tryz.results66 _ _ _) rfl ?_
  exact ⟨rfl, ⟨_, by rw [HT.out]; exact VV.out⟩, gset (gset (gset G7.out 2 _) 3 _) 4 _⟩
end Go.Proofs.YtjgiobdpbbhekaaGreat
namespace Go.Proofs.YtjgiobdpbbhekaaGreat
open Go.RowKit

theorem specPut_own (ao a' : Option Addr) (l o : List Ce) (ca ca' : Nat) (mv : Int) (key : ByteArray) (h : Int) (w : World) (hl : l.length ≤ 1048576) (hl' : o.length ≤ 1048576) (hk : keyQ key) (hA : RdC w ao l) (hA' : RdC w a' o) (hok : OkT l o mv) (hh : 0 ≤ h) {L O : List Ce} {M : Int} (hR : putR l o mv key h = some (L, O, M)) :
    Calls Tryz.prog 70 #[tbV ao l.length ca a' o.length ca' mv, .string key, .int .i64 h] w fun e w' => ∃ b c b' c', e = .returned (.tuple #[tbV b L.length c b' O.length c' M, .bool true]) ∧ Own2 w' w.heap.size b c L b' c' O ∧ Below w.heap.size w w' := by
  refine (specPutKey_any ao a' l o ca ca' mv key h w hl hl' (keyQ_size hk) hA hA').mono ?_
  rintro e w' ⟨b, L', c, b', O', c', M', t, rfl, ha, h1, h2, h3, hb⟩
  obtain ⟨rfl, rfl, rfl, rfl⟩ := Ans.det ha (.inl ⟨⟨hok, hk.1, hk.2, hh⟩, hR, rfl⟩)
  exact ⟨b, c, b', c', rfl, ⟨h1, h2, h3⟩, hb⟩
theorem specPut_no (ao a' : Option Addr) (l o : List Ce) (ca ca' : Nat) (mv : Int) (key : ByteArray) (h : Int) (w : World) (hl : l.length ≤ 1048576) (hl' : o.length ≤ 1048576) (hk : keyQ key) (hA : RdC w ao l) (hA' : RdC w a' o) (hR : putR l o mv key h = none) :
    Calls Tryz.prog 70 #[tbV ao l.length ca a' o.length ca' mv, .string key, .int .i64 h] w fun e w' => ∃ b c b' c', e = .returned (.tuple #[tbV b 0 c b' 0 c' 0, .bool false]) ∧ Below w.heap.size w w' := by
  refine (specPutKey_any ao a' l o ca ca' mv key h w hl hl' (keyQ_size hk) hA hA').mono ?_
  rintro e w' ⟨b, L', c, b', O', c', M', t, rfl, ha, h1, h2, h3, hb⟩
  obtain ⟨rfl, rfl, rfl, rfl⟩ := Ans.det ha (.inr ⟨(fun hh => by obtain ⟨_, x, hx⟩ := hh; rw [hR] at hx; cases hx), rfl, rfl, rfl, rfl⟩)
  exact ⟨b, c, b', c', rfl, hb⟩
theorem specClean_own (ao a' : Option Addr) (l o : List Ce) (ca ca' : Nat) (mv : Int) (w : World) (hl : l.length ≤ 1048576) (hl' : o.length ≤ 1048576) (hA : RdC w ao l) (hA' : RdC w a' o) (hok : OkT l o mv) {L O : List Ce} {M : Int} (hR : cleanR l o = some (L, O, M)) :
    Calls Tryz.prog 121 #[tbV ao l.length ca a' o.length ca' mv] w fun e w' => ∃ b c b' c', e = .returned (.tuple #[tbV b L.length c b' O.length c' M, .bool true]) ∧ Own2 w' w.heap.size b c L b' c' O ∧ Below w.heap.size w w' := by
  refine (specClean_any ao a' l o ca ca' mv w hl hl' hA hA').mono ?_
  rintro e w' ⟨b, L', c, b', O', c', M', t, rfl, ha, h1, h2, h3, hb⟩
  obtain ⟨rfl, rfl, rfl, rfl⟩ := Ans.det ha (.inl ⟨hok, hR, rfl⟩)
  exact ⟨b, c, b', c', rfl, ⟨h1, h2, h3⟩, hb⟩
theorem specLay_own (ao : Option Addr) (l : List Sl) (ca : Nat) (f : Nat) (ky vl : ByteArray) (w : World) (hl : l.length ≤ 1048576) (hA : RdA w ao l) (hf : f < l.length) (hok : OkA l (f : Int)) (hk : keyQ ky) (hv : vl.size ≤ 20) :
    Calls Tryz.prog 69 #[arV ao l.length ca (f : Int), .string ky, .string vl] w fun e w' => ∃ b c, e = .returned (.tuple #[arV (some ⟨b, 0, none⟩) (l.set f ⟨l[f].gen, true, ky, vl, 0⟩).length c l[f].next, .int .i64 (24 * l[f].gen + (f : Int)), .bool true]) ∧ w'.ownsRow w.heap.size 72 5 (.slice (some ⟨b, 0, none⟩) (l.set f ⟨l[f].gen, true, ky, vl, 0⟩).length c) (l.set f ⟨l[f].gen, true, ky, vl, 0⟩).length (sls (l.set f ⟨l[f].gen, true, ky, vl, 0⟩)) ∧ Below w.heap.size w w' := by
  refine (specLay_any ao l ca (f : Int) ky vl w hl hA).mono ?_
  rintro e w' ⟨⟨k, b, c, hk', rfl, hfk, _, _, _, _, ho⟩ | ⟨_, hn⟩, hb⟩
  · obtain rfl : k = f := by omega
    rw [List.length_set]
    exact ⟨b, c, rfl, ho, hb⟩
  · exact absurd ⟨hok, by omega, hk.1, hk.2, hv⟩ hn
end Go.Proofs.YtjgiobdpbbhekaaGreat
