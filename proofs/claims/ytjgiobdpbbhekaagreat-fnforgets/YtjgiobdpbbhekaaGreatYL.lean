/- What is in a hall is given out, by the program. -/
import Derived.Test.YtjgiobdpbbhekaaGreatYW
import Derived.Test.YtjgiobdpbbhekaaGreatYK
import Derived.Test.YtjgiobdpbbhekaaGreatYE
import Derived.LoopN
namespace Go.Proofs.YtjgiobdpbbhekaaGreat
open Go.RowKit
set_option linter.unusedVariables false

set_option maxRecDepth 100000 in
set_option maxHeartbeats 8000000 in
theorem nearI {w : World} {r B : Nat} {A : NA} {N : Nr} (h : VaH w r B A N) (hl : SmN N) (hq : N.w.length ≤ 65536 ∧ N.t.length ≤ 65536 ∧ N.s.length ≤ 65536) :
    Calls Tryz.prog 22 #[.pointer (some ⟨r, 0, none⟩)] w fun e w' => ∃ A', e = .returned (neV A' N) ∧ OwnN w' w.heap.size A' N ∧ Below w.heap.size w w' := by
  have F0 := hide1 (show Blk (w.alloc (.cells #[.slice none 0 0, .int .i64 0, .slice none 0 0, .slice none 0 0, .int .i64 0, .int .i64 0, .slice none 0 0, .int .i64 0, .slice none 0 0, .int .i64 0, .slice none 0 0, .slice none 0 0, .int .i64 0, .int .i64 0] 39)) w.heap.size 39 [.slice none 0 0, .int .i64 0, .slice none 0 0, .slice none 0 0, .int .i64 0, .int .i64 0, .slice none 0 0, .int .i64 0, .slice none 0 0, .int .i64 0, .slice none 0 0, .slice none 0 0, .int .i64 0, .int .i64 0] ∧ Below w.heap.size w (w.alloc (.cells #[.slice none 0 0, .int .i64 0, .slice none 0 0, .slice none 0 0, .int .i64 0, .int .i64 0, .slice none 0 0, .int .i64 0, .slice none 0 0, .int .i64 0, .slice none 0 0, .slice none 0 0, .int .i64 0, .int .i64 0] 39)) from ⟨Blk.new w _ _, (Below.refl _ _).alloc (Nat.le_refl _) _⟩)
  have C0 := hide1 (fun w' (hb : Below w.heap.size w w') => newNearI (A := A) hl hq (h.own.rd.later hb))
  have H := hide1 h
  unfold neV at C0 ⊢
  clear h hl hq
  go_enter Tryz.func22, Tryz.ntmps22
  go_wp2_with fail
  generalize (w.alloc (.cells #[.slice none 0 0, .int .i64 0, .slice none 0 0, .slice none 0 0, .int .i64 0, .int .i64 0, .slice none 0 0, .int .i64 0, .slice none 0 0, .int .i64 0, .slice none 0 0, .slice none 0 0, .int .i64 0, .int .i64 0] 39)) = w0 at F0 ⊢
  obtain ⟨R0, B0⟩ := F0.out
  have R0 := hide1 R0
  have B0 := hide1 B0
  have V0 := hide1 (H.out.later B0.out)
  have hr := H.out.var.lt
  have sz0 : w.heap.size < w0.heap.size := R0.out.lt
  clear F0 H
  obtain ⟨_, x0, x1, x2, x3, x4, x5, x6, x7, x8, x9, x10, x11, x12, x13⟩ := (show r < w0.heap.size ∧ _ from nbox V0.out.var)
  have qq : ∀ (u : World) (i j : Nat) (v : Value), (u.setCell ⟨w.heap.size, i, none⟩ v).cell? ⟨r, j, none⟩ = u.cell? ⟨r, j, none⟩ := fun u i j v => World.cell?_setCell_other _ _ _ _ (by intro e; injection e; omega)
  go_region_held3 (fun w' => w'.cell? ⟨r, 0, none⟩ = some (.slice A.a N.sl.length A.ac) ∧ w'.cell? ⟨r, 1, none⟩ = some (.int .i64 N.fr) ∧ w'.cell? ⟨r, 2, none⟩ = some (.slice A.c N.ce.length A.cc) ∧ w'.cell? ⟨r, 3, none⟩ = some (.slice A.o N.od.length A.oc) ∧ w'.cell? ⟨r, 4, none⟩ = some (.int .i64 N.mv) ∧ w'.cell? ⟨r, 5, none⟩ = some (.int .i64 N.wm) ∧ w'.cell? ⟨r, 6, none⟩ = some (.slice A.w N.w.length A.wc) ∧ w'.cell? ⟨r, 7, none⟩ = some (.int .i64 N.tm) ∧ w'.cell? ⟨r, 8, none⟩ = some (.slice A.t N.t.length A.tc) ∧ w'.cell? ⟨r, 9, none⟩ = some (.int .i64 N.sm) ∧ w'.cell? ⟨r, 10, none⟩ = some (.slice A.s N.s.length A.sc) ∧ w'.cell? ⟨r, 11, none⟩ = some (.slice A.k N.sk.length A.kc) ∧ w'.cell? ⟨r, 12, none⟩ = some (.int .i64 N.ad) ∧ w'.cell? ⟨r, 13, none⟩ = some (.int .i64 N.dr)) (first | simp only [World.cell?_drew, x0, x1, x2, x3, x4, x5, x6, x7, x8, x9, x10, x11, x12, x13, and_self] | simp only [x0, x1, x2, x3, x4, x5, x6, x7, x8, x9, x10, x11, x12, x13, and_self] | simp only [qq, x0, x1, x2, x3, x4, x5, x6, x7, x8, x9, x10, x11, x12, x13, and_self] | simp only [World.cell?_drew, qq, x0, x1, x2, x3, x4, x5, x6, x7, x8, x9, x10, x11, x12, x13, and_self]) ((first | (go_at_call 41; refine (C0.out _ (B0.out.trans (show Below w.heap.size w0 _ by go_grown))).mono ?_; rintro e w1 ⟨A1, rfl, ho, hb⟩; have b1 : Hid (Below w0.heap.size w0 w1) := (show Below w0.heap.size w0 _ by go_grown).trans (hb.mono (by go_size)); have O1 : Hid (OwnN w1 w0.heap.size A1 N) := ho.base (by go_size); clear ho hb x0 x1 x2 x3 x4 x5 x6 x7 x8 x9 x10 x11 x12 x13; obtain ⟨_, x0, x1, x2, x3, x4, x5, x6, x7, x8, x9, x10, x11, x12, x13⟩ := (show r < w1.heap.size ∧ _ from nbox (V0.out.later b1.out).var); have R1 := hide1 (R0.out.below b1.out sz0); have y0 : w1.cell? ⟨w.heap.size, 0, none⟩ = some (.slice none 0 0) := R1.out.cell 0; have y1 : w1.cell? ⟨w.heap.size, 1, none⟩ = some (.int .i64 0) := R1.out.cell 1; have y2 : w1.cell? ⟨w.heap.size, 2, none⟩ = some (.slice none 0 0) := R1.out.cell 2; have y3 : w1.cell? ⟨w.heap.size, 3, none⟩ = some (.slice none 0 0) := R1.out.cell 3; have y4 : w1.cell? ⟨w.heap.size, 4, none⟩ = some (.int .i64 0) := R1.out.cell 4; have y5 : w1.cell? ⟨w.heap.size, 5, none⟩ = some (.int .i64 0) := R1.out.cell 5; have y6 : w1.cell? ⟨w.heap.size, 6, none⟩ = some (.slice none 0 0) := R1.out.cell 6; have y7 : w1.cell? ⟨w.heap.size, 7, none⟩ = some (.int .i64 0) := R1.out.cell 7; have y8 : w1.cell? ⟨w.heap.size, 8, none⟩ = some (.slice none 0 0) := R1.out.cell 8; have y9 : w1.cell? ⟨w.heap.size, 9, none⟩ = some (.int .i64 0) := R1.out.cell 9; have y10 : w1.cell? ⟨w.heap.size, 10, none⟩ = some (.slice none 0 0) := R1.out.cell 10; have y11 : w1.cell? ⟨w.heap.size, 11, none⟩ = some (.slice none 0 0) := R1.out.cell 11; have y12 : w1.cell? ⟨w.heap.size, 12, none⟩ = some (.int .i64 0) := R1.out.cell 12; have y13 : w1.cell? ⟨w.heap.size, 13, none⟩ = some (.int .i64 0) := R1.out.cell 13; have yf : ∀ j, w1.frozen? ⟨w.heap.size, j, none⟩ = false := (fun j => R1.out.froz j))))
  all_goals
    have HH := hide1 (Blk.set (Blk.set (Blk.set (Blk.set (Blk.set (Blk.set (Blk.set (Blk.set (Blk.set (Blk.set (Blk.set (Blk.set (Blk.set (Blk.set (R1.out) 0 (.slice A1.a N.sl.length A1.ac)) 1 (.int .i64 N.fr)) 2 (.slice A1.c N.ce.length A1.cc)) 3 (.slice A1.o N.od.length A1.oc)) 4 (.int .i64 N.mv)) 5 (.int .i64 N.wm)) 6 (.slice A1.w N.w.length A1.wc)) 7 (.int .i64 N.tm)) 8 (.slice A1.t N.t.length A1.tc)) 9 (.int .i64 N.sm)) 10 (.slice A1.s N.s.length A1.sc)) 11 (.slice A1.k N.sk.length A1.kc)) 12 (.int .i64 N.ad)) 13 (.int .i64 N.dr))
    have OX := hide1 (OwnN.put14 (s := w.heap.size) O1.out (by omega) (.slice A1.a N.sl.length A1.ac) (.int .i64 N.fr) (.slice A1.c N.ce.length A1.cc) (.slice A1.o N.od.length A1.oc) (.int .i64 N.mv) (.int .i64 N.wm) (.slice A1.w N.w.length A1.wc) (.int .i64 N.tm) (.slice A1.t N.t.length A1.tc) (.int .i64 N.sm) (.slice A1.s N.s.length A1.sc) (.slice A1.k N.sk.length A1.kc) (.int .i64 N.ad) (.int .i64 N.dr))
    have BX := hide1 (below_put14 (s := w.heap.size) (B0.out.trans (b1.out.mono B0.out.size)) (Nat.le_refl _) (.slice A1.a N.sl.length A1.ac) (.int .i64 N.fr) (.slice A1.c N.ce.length A1.cc) (.slice A1.o N.od.length A1.oc) (.int .i64 N.mv) (.int .i64 N.wm) (.slice A1.w N.w.length A1.wc) (.int .i64 N.tm) (.slice A1.t N.t.length A1.tc) (.int .i64 N.sm) (.slice A1.s N.s.length A1.sc) (.slice A1.k N.sk.length A1.kc) (.int .i64 N.ad) (.int .i64 N.dr))
    go_wp2
    refine bodyPost_ret (results_cell_row Tryz.results22 _ _ w.heap.size 39 #[.slice A1.a N.sl.length A1.ac, .int .i64 N.fr, .slice A1.c N.ce.length A1.cc, .slice A1.o N.od.length A1.oc, .int .i64 N.mv, .int .i64 N.wm, .slice A1.w N.w.length A1.wc, .int .i64 N.tm, .slice A1.t N.t.length A1.tc, .int .i64 N.sm, .slice A1.s N.s.length A1.sc, .slice A1.k N.sk.length A1.kc, .int .i64 N.ad, .int .i64 N.dr] (0, 0) _ rfl HH.out Tryz.underlying39 rfl (by kernel_rfl)) rfl ?_
    exact ⟨A1, rfl, OX.out.base (by omega), BX.out⟩
end Go.Proofs.YtjgiobdpbbhekaaGreat
namespace Go.Proofs.YtjgiobdpbbhekaaGreat
open Go.RowKit
set_option linter.unusedVariables false

set_option maxRecDepth 100000 in
set_option maxHeartbeats 4000000 in
theorem hallOfI {w : World} {B : Nat} {A : NA} {N : Nr} (h : InN N) (hA : OwnN w B A N) (hB : B ≤ w.heap.size) :
    Calls Tryz.prog 18 #[neV A N] w fun e w' => ∃ r, e = .returned (.tuple #[.pointer (some ⟨r, 0, none⟩), .bool true]) ∧ VaH w' r B A N ∧ w.heap.size ≤ r ∧ Below w.heap.size w w' := by
  have BX := hide1 (And.intro (show Blk (w.alloc (.cells #[.slice A.a N.sl.length A.ac, .int .i64 N.fr, .slice A.c N.ce.length A.cc, .slice A.o N.od.length A.oc, .int .i64 N.mv, .int .i64 N.wm, .slice A.w N.w.length A.wc, .int .i64 N.tm, .slice A.t N.t.length A.tc, .int .i64 N.sm, .slice A.s N.s.length A.sc, .slice A.k N.sk.length A.kc, .int .i64 N.ad, .int .i64 N.dr] 39)) w.heap.size 39 (neC A N) from Blk.new w 39 _) ((Below.refl w.heap.size w).alloc (Nat.le_refl _) (.cells #[.slice A.a N.sl.length A.ac, .int .i64 N.fr, .slice A.c N.ce.length A.cc, .slice A.o N.od.length A.oc, .int .i64 N.mv, .int .i64 N.wm, .slice A.w N.w.length A.wc, .int .i64 N.tm, .slice A.t N.t.length A.tc, .int .i64 N.sm, .slice A.s N.s.length A.sc, .slice A.k N.sk.length A.kc, .int .i64 N.ad, .int .i64 N.dr] 39)))
  have C1 := hide1 (fun w' (hb : Below w.heap.size w w') => nearOkI h (hA.rd.later hb) hA.caps)
  have HA := hide1 hA
  unfold neV at C1 ⊢
  clear h hA
  go_enter Tryz.func18, Tryz.ntmps18
  go_wp2_with fail
  generalize (w.alloc (.cells #[.slice A.a N.sl.length A.ac, .int .i64 N.fr, .slice A.c N.ce.length A.cc, .slice A.o N.od.length A.oc, .int .i64 N.mv, .int .i64 N.wm, .slice A.w N.w.length A.wc, .int .i64 N.tm, .slice A.t N.t.length A.tc, .int .i64 N.sm, .slice A.s N.s.length A.sc, .slice A.k N.sk.length A.kc, .int .i64 N.ad, .int .i64 N.dr] 39)) = w0 at BX ⊢
  obtain ⟨K0, B0⟩ := BX.out
  have K0 := hide1 K0
  have B0 := hide1 B0
  clear BX
  refine (C1.out w0 B0.out).mono ?_
  rintro e w1 ⟨rfl, hb1⟩
  have K1 := hide1 (K0.out.below hb1 K0.out.lt)
  have B1 := hide1 (B0.out.trans (hb1.mono B0.out.size))
  clear hb1 C1 K0 B0
  obtain ⟨_, v0, v1, v2, v3, v4, v5, v6, v7, v8, v9, v10, v11, v12, v13⟩ := nbox K1.out
  go_wp2
  go_ret2
  have hs := B1.out.size
  refine ⟨w1.heap.size, rfl, ⟨Blk.new w1 67 _, (HA.out.later B1.out).later ((Below.refl _ _).alloc (Nat.le_refl _) _), fun v hv g hg => by have := (HA.out.lt v hv g hg).2; omega, by rw [World.size_alloc]; omega⟩, hs, B1.out.alloc hs _⟩
end Go.Proofs.YtjgiobdpbbhekaaGreat
namespace Go.Proofs.YtjgiobdpbbhekaaGreat
open Go.RowKit
set_option linter.unusedVariables false

theorem lift_leave {N : Nr} (h : InN N) {k : ByteArray} (hk : k ∈ keysN N) : liftN (leaveN N k) k = frgN N k := by
  obtain ⟨j, hj, hu, rfl⟩ := h.inT.ent k hk
  obtain ⟨L, e, hl, el⟩ := InN.liftN_eq h.inT hj hu
  have h2 : InT (leaveN N N.sl[j].key).sl (leaveN N N.sl[j].key).fr (leaveN N N.sl[j].key).ce (keysN N) := h.inT
  obtain ⟨L2, e2, hl2, el2⟩ := InN.liftN_eq (N := leaveN N N.sl[j].key) h2 hj hu
  have hL : L2 = L := by
    have e3 : takeR N.ce [] 0 N.sl[j].key = some (L2, [], 0) := e2
    rw [e] at e3
    injection e3 with e3
    injection e3 with e3
    exact e3.symm
  unfold frgN
  rw [el]
  subst hL
  exact el2
/-- The key leaves the one queue in which it is. -/
theorem leaveI {w : World} {r B : Nat} {A : NA} {N : Nr} (h : VaH w r B A N) (hN : InN N) (k : ByteArray) (hk : k ∈ keysN N) :
    Calls Tryz.prog 20 #[.pointer (some ⟨r, 5, none⟩), .string k] w fun e w' => e = .returned (.tuple #[]) ∧ ∃ A', VaH w' r B A' (leaveN N k) ∧ w.grownBy w' (some r) := by
  obtain ⟨_, _, _, d1, d2, d3⟩ := nodup3.1 hN.nd
  have hl := hN.small
  rw [InN.mem] at hk
  rcases hk with hk | hk | hk
  · exact leaveI_w h hl k hN.qw hk (fun e => d1 k hk e) (fun e => d2 k hk e)
  · exact leaveI_t h hl k hN.qt hk (fun e => d1 k e hk) (fun e => d3 k hk e)
  · exact leaveI_s h hl k hN.qs hk (fun e => d2 k e hk) (fun e => d3 k e hk)
theorem leave_small {N : Nr} (h : SmN N) (k : ByteArray) : SmN (leaveN N k) :=
  ⟨h.fa, h.fc, h.fo, Nat.le_trans (wthQ_length _ _) h.fw, Nat.le_trans (wthQ_length _ _) h.ft, Nat.le_trans (wthQ_length _ _) h.fs, h.fk⟩

set_option maxRecDepth 100000 in
set_option maxHeartbeats 8000000 in
theorem forgetI {w : World} {B : Nat} {A : NA} {N : Nr} (h : InN N) (hA : OwnN w B A N) (hB : B ≤ w.heap.size) (k : ByteArray) (hk : k ∈ keysN N) :
    Calls Tryz.prog 6 #[neV A N, .string k] w fun e w' => ∃ A', e = .returned (.tuple #[neV A' (frgN N k), .bool true]) ∧ OwnN w' w.heap.size A' (frgN N k) ∧ Below w.heap.size w w' := by
  have hmf : ∀ (fn : Fn) (first cap : Array Value) (w : World), (Instr.makeFunc fn first cap).run Tryz.prog w = .ok (.func fn first cap) w := fun _ _ _ _ => rfl
  have F0 := hide1 (blkN2 w #[.slice A.a N.sl.length A.ac, .int .i64 N.fr, .slice A.c N.ce.length A.cc, .slice A.o N.od.length A.oc, .int .i64 N.mv, .int .i64 N.wm, .slice A.w N.w.length A.wc, .int .i64 N.tm, .slice A.t N.t.length A.tc, .int .i64 N.sm, .slice A.s N.s.length A.sc, .slice A.k N.sk.length A.kc, .int .i64 N.ad, .int .i64 N.dr] #[.slice none 0 0, .int .i64 0, .slice none 0 0, .slice none 0 0, .int .i64 0, .int .i64 0, .slice none 0 0, .int .i64 0, .slice none 0 0, .int .i64 0, .slice none 0 0, .slice none 0 0, .int .i64 0, .int .i64 0] 39 39)
  have hks : k.size ≤ 1048576 := by have := (h.key hk).2; omega
  have C0 := hide1 (fun w' (hb : Below w.heap.size w w') => hallOfI h (hA.later hb) (Nat.le_trans hB hb.size))
  have C1 := hide1 (fun w' r (V : VaH w' r B A N) => valI V h k hks)
  have C2 := hide1 (fun w' r (V : VaH w' r B A N) => leaveI V h k hk)
  have HLV := hide1 (lift_leave h hk)
  have C3 := hide1 (fun w' r A' (V : VaH w' r B A' (leaveN N k)) => removeI V (leave_small h.small k) h.inT h.od h.mv k hk)
  rw [HLV.out] at C3
  have hf := (h.frg hk).1
  have C4 := hide1 (fun w' r A' (V : VaH w' r B A' (frgN N k)) => nearI V hf.small ⟨by have := hf.qw.small; omega, by have := hf.qt.small; omega, by have := hf.qs.small; omega⟩)
  have HK := hide1 hk
  generalize frgN N k = N5 at *
  generalize leaveN N k = N4 at *
  unfold neV at C0 C4 ⊢
  clear h hA hks HLV hf hk
  go_enter Tryz.func6, Tryz.ntmps6
  go_wp2_with fail
  generalize ((w.alloc (.cells #[.slice A.a N.sl.length A.ac, .int .i64 N.fr, .slice A.c N.ce.length A.cc, .slice A.o N.od.length A.oc, .int .i64 N.mv, .int .i64 N.wm, .slice A.w N.w.length A.wc, .int .i64 N.tm, .slice A.t N.t.length A.tc, .int .i64 N.sm, .slice A.s N.s.length A.sc, .slice A.k N.sk.length A.kc, .int .i64 N.ad, .int .i64 N.dr] 39)).alloc (.cells #[.slice none 0 0, .int .i64 0, .slice none 0 0, .slice none 0 0, .int .i64 0, .int .i64 0, .slice none 0 0, .int .i64 0, .slice none 0 0, .int .i64 0, .slice none 0 0, .slice none 0 0, .int .i64 0, .int .i64 0] 39)) = w0 at F0 ⊢
  obtain ⟨P0, R0, B0⟩ := F0.out
  have R0 := hide1 R0
  have B0 := hide1 B0
  have sz0 : w.heap.size + 2 ≤ w0.heap.size := by have := R0.out.lt; omega
  clear F0 P0
  refine (C0.out w0 B0.out).mono ?_
  rintro e w1 ⟨r, rfl, hV, hr, hb⟩
  have V1 := hide1 hV
  have R1 := hide1 (R0.out.below hb R0.out.lt)
  have B1 := hide1 (B0.out.trans (hb.mono B0.out.size))
  clear C0 hV hb R0 B0
  go_wp2_with fail
  refine (C1.out w1 r V1.out).mono ?_
  rintro e w2 ⟨⟨v, rfl, _⟩ | ⟨_, hn⟩, hb⟩
  case inr => exact absurd HK.out hn
  have V2 := hide1 (V1.out.later hb)
  have R2 := hide1 (R1.out.below hb R1.out.lt)
  have B2 := hide1 (B1.out.trans (hb.mono B1.out.size))
  clear C1 hb V1 R1 B1
  have BX := hide1 (blkD w2 68 #[.func (.func 20) #[.pointer (some ⟨r, 5, none⟩)] #[], .func (.func 21) #[.pointer (some ⟨r, 0, none⟩)] #[]])
  go_wp2_with fail
  go_region_with (fail)
  all_goals
    go_wp2_with fail
    generalize (w2.alloc (.cells #[.func (.func 20) #[.pointer (some ⟨r, 5, none⟩)] #[], .func (.func 21) #[.pointer (some ⟨r, 0, none⟩)] #[]] 68)).drew = w3 at BX ⊢
    have V3 := hide1 (V2.out.later BX.out.2)
    have R3 := hide1 (R2.out.below BX.out.2 R2.out.lt)
    have B3 := hide1 (B2.out.trans (BX.out.2.mono B2.out.size))
    have K3 := hide1 BX.out.1
    have hrl := V2.out.var.lt
    have hRl := R2.out.lt
    have hQr : w2.heap.size ≠ r := by omega
    clear BX V2 R2 B2
    generalize w2.heap.size = Q at K3 hQr hrl hRl ⊢
    refine wp_loop_rounds 3 ?_
    have y0 : w3.cell? ⟨Q, 0, none⟩ = some (.func (.func 20) #[.pointer (some ⟨r, 5, none⟩)] #[]) := K3.out.cell 0
    rw [rounds_succ]
    go_wp2_with fail
    refine (C2.out w3 r V3.out).mono ?_
    rintro e w4 ⟨rfl, A4, V, G⟩
    have V4 := hide1 V
    have R4 := hide1 (gblk G R3.out (fun e => by injection e with e; omega))
    have B4 := hide1 (B3.out.trans (gbelow G (fun g' e => by injection e with e; omega) B3.out.size))
    have K4 := hide1 (gblk G K3.out (fun e => by injection e with e; omega))
    clear V G V3 R3 B3 K3 y0 C2
    go_wp2_with fail
    have y0 : w4.cell? ⟨Q, 1, none⟩ = some (.func (.func 21) #[.pointer (some ⟨r, 0, none⟩)] #[]) := K4.out.cell 1
    rw [rounds_succ]
    go_wp2_with fail
    refine (C3.out w4 r A4 V4.out).mono ?_
    rintro e w5 ⟨rfl, A5, V, G⟩
    have V5 := hide1 V
    have R5 := hide1 (gblk G R4.out (fun e => by injection e with e; omega))
    have B5 := hide1 (B4.out.trans (gbelow G (fun g' e => by injection e with e; omega) B4.out.size))
    clear V G V4 R4 B4 K4 y0 C3
    go_wp2_with fail
    rw [rounds_succ]
    go_wp2_with fail
    refine (C4.out w5 r A5 V5.out).mono ?_
    rintro e w6 ⟨A6, rfl, ho, hb⟩
    have R6 := hide1 (R5.out.below hb R5.out.lt)
    have B6 := hide1 (B5.out.trans (hb.mono B5.out.size))
    have O6 := hide1 ho
    have hs5 : w.heap.size + 1 < w5.heap.size := R5.out.lt
    clear ho hb V5 R5 B5 C4
    have u0 : w6.cell? ⟨w.heap.size + 1, 0, none⟩ = some (.slice none 0 0) := R6.out.cell 0
    have u1 : w6.cell? ⟨w.heap.size + 1, 1, none⟩ = some (.int .i64 0) := R6.out.cell 1
    have u2 : w6.cell? ⟨w.heap.size + 1, 2, none⟩ = some (.slice none 0 0) := R6.out.cell 2
    have u3 : w6.cell? ⟨w.heap.size + 1, 3, none⟩ = some (.slice none 0 0) := R6.out.cell 3
    have u4 : w6.cell? ⟨w.heap.size + 1, 4, none⟩ = some (.int .i64 0) := R6.out.cell 4
    have u5 : w6.cell? ⟨w.heap.size + 1, 5, none⟩ = some (.int .i64 0) := R6.out.cell 5
    have u6 : w6.cell? ⟨w.heap.size + 1, 6, none⟩ = some (.slice none 0 0) := R6.out.cell 6
    have u7 : w6.cell? ⟨w.heap.size + 1, 7, none⟩ = some (.int .i64 0) := R6.out.cell 7
    have u8 : w6.cell? ⟨w.heap.size + 1, 8, none⟩ = some (.slice none 0 0) := R6.out.cell 8
    have u9 : w6.cell? ⟨w.heap.size + 1, 9, none⟩ = some (.int .i64 0) := R6.out.cell 9
    have u10 : w6.cell? ⟨w.heap.size + 1, 10, none⟩ = some (.slice none 0 0) := R6.out.cell 10
    have u11 : w6.cell? ⟨w.heap.size + 1, 11, none⟩ = some (.slice none 0 0) := R6.out.cell 11
    have u12 : w6.cell? ⟨w.heap.size + 1, 12, none⟩ = some (.int .i64 0) := R6.out.cell 12
    have u13 : w6.cell? ⟨w.heap.size + 1, 13, none⟩ = some (.int .i64 0) := R6.out.cell 13
    have uf : ∀ j, w6.frozen? ⟨w.heap.size + 1, j, none⟩ = false := fun j => R6.out.froz j
    have HH := hide1 (Blk.set (Blk.set (Blk.set (Blk.set (Blk.set (Blk.set (Blk.set (Blk.set (Blk.set (Blk.set (Blk.set (Blk.set (Blk.set (Blk.set (R6.out) 0 (.slice A6.a N5.sl.length A6.ac)) 1 (.int .i64 N5.fr)) 2 (.slice A6.c N5.ce.length A6.cc)) 3 (.slice A6.o N5.od.length A6.oc)) 4 (.int .i64 N5.mv)) 5 (.int .i64 N5.wm)) 6 (.slice A6.w N5.w.length A6.wc)) 7 (.int .i64 N5.tm)) 8 (.slice A6.t N5.t.length A6.tc)) 9 (.int .i64 N5.sm)) 10 (.slice A6.s N5.s.length A6.sc)) 11 (.slice A6.k N5.sk.length A6.kc)) 12 (.int .i64 N5.ad)) 13 (.int .i64 N5.dr))
    have OX := hide1 (OwnN.put14 (s := w.heap.size + 1) O6.out (by omega) (.slice A6.a N5.sl.length A6.ac) (.int .i64 N5.fr) (.slice A6.c N5.ce.length A6.cc) (.slice A6.o N5.od.length A6.oc) (.int .i64 N5.mv) (.int .i64 N5.wm) (.slice A6.w N5.w.length A6.wc) (.int .i64 N5.tm) (.slice A6.t N5.t.length A6.tc) (.int .i64 N5.sm) (.slice A6.s N5.s.length A6.sc) (.slice A6.k N5.sk.length A6.kc) (.int .i64 N5.ad) (.int .i64 N5.dr))
    have BX := hide1 (below_put14 (s := w.heap.size + 1) B6.out (by omega) (.slice A6.a N5.sl.length A6.ac) (.int .i64 N5.fr) (.slice A6.c N5.ce.length A6.cc) (.slice A6.o N5.od.length A6.oc) (.int .i64 N5.mv) (.int .i64 N5.wm) (.slice A6.w N5.w.length A6.wc) (.int .i64 N5.tm) (.slice A6.t N5.t.length A6.tc) (.int .i64 N5.sm) (.slice A6.s N5.s.length A6.sc) (.slice A6.k N5.sk.length A6.kc) (.int .i64 N5.ad) (.int .i64 N5.dr))
    go_wp2
    refine bodyPost_ret (resQ2 Tryz.results6 _ _ (w.heap.size + 1) 39 #[.slice A6.a N5.sl.length A6.ac, .int .i64 N5.fr, .slice A6.c N5.ce.length A6.cc, .slice A6.o N5.od.length A6.oc, .int .i64 N5.mv, .int .i64 N5.wm, .slice A6.w N5.w.length A6.wc, .int .i64 N5.tm, .slice A6.t N5.t.length A6.tc, .int .i64 N5.sm, .slice A6.s N5.s.length A6.sc, .slice A6.k N5.sk.length A6.kc, .int .i64 N5.ad, .int .i64 N5.dr] (0, 0) _ rfl HH.out Tryz.underlying39 rfl (by kernel_rfl)) rfl ?_
    exact ⟨A6, rfl, OX.out.base (by omega), BX.out⟩

set_option maxRecDepth 100000 in
set_option maxHeartbeats 8000000 in
theorem forgetNoI {w : World} {B : Nat} {A : NA} {N : Nr} (h : InN N) (hA : OwnN w B A N) (hB : B ≤ w.heap.size) (k : ByteArray) (hks : k.size ≤ 1048576) (hk : ¬ k ∈ keysN N) :
    Calls Tryz.prog 6 #[neV A N, .string k] w fun e w' => e = .returned (.tuple #[.agg #[.slice none 0 0, .int .i64 0, .slice none 0 0, .slice none 0 0, .int .i64 0, .int .i64 0, .slice none 0 0, .int .i64 0, .slice none 0 0, .int .i64 0, .slice none 0 0, .slice none 0 0, .int .i64 0, .int .i64 0], .bool false]) ∧ Below w.heap.size w w' := by
  have F0 := hide1 (blkN2 w #[.slice A.a N.sl.length A.ac, .int .i64 N.fr, .slice A.c N.ce.length A.cc, .slice A.o N.od.length A.oc, .int .i64 N.mv, .int .i64 N.wm, .slice A.w N.w.length A.wc, .int .i64 N.tm, .slice A.t N.t.length A.tc, .int .i64 N.sm, .slice A.s N.s.length A.sc, .slice A.k N.sk.length A.kc, .int .i64 N.ad, .int .i64 N.dr] #[.slice none 0 0, .int .i64 0, .slice none 0 0, .slice none 0 0, .int .i64 0, .int .i64 0, .slice none 0 0, .int .i64 0, .slice none 0 0, .int .i64 0, .slice none 0 0, .slice none 0 0, .int .i64 0, .int .i64 0] 39 39)
  have C0 := hide1 (fun w' (hb : Below w.heap.size w w') => hallOfI h (hA.later hb) (Nat.le_trans hB hb.size))
  have C1 := hide1 (fun w' r (V : VaH w' r B A N) => valI V h k hks)
  have HK := hide1 hk
  unfold neV at C0 ⊢
  clear h hA hks hk
  go_enter Tryz.func6, Tryz.ntmps6
  go_wp2_with fail
  generalize ((w.alloc (.cells #[.slice A.a N.sl.length A.ac, .int .i64 N.fr, .slice A.c N.ce.length A.cc, .slice A.o N.od.length A.oc, .int .i64 N.mv, .int .i64 N.wm, .slice A.w N.w.length A.wc, .int .i64 N.tm, .slice A.t N.t.length A.tc, .int .i64 N.sm, .slice A.s N.s.length A.sc, .slice A.k N.sk.length A.kc, .int .i64 N.ad, .int .i64 N.dr] 39)).alloc (.cells #[.slice none 0 0, .int .i64 0, .slice none 0 0, .slice none 0 0, .int .i64 0, .int .i64 0, .slice none 0 0, .int .i64 0, .slice none 0 0, .int .i64 0, .slice none 0 0, .slice none 0 0, .int .i64 0, .int .i64 0] 39)) = w0 at F0 ⊢
  obtain ⟨P0, R0, B0⟩ := F0.out
  have R0 := hide1 R0
  have B0 := hide1 B0
  have sz0 : w.heap.size + 2 ≤ w0.heap.size := by have := R0.out.lt; omega
  clear F0 P0
  refine (C0.out w0 B0.out).mono ?_
  rintro e w1 ⟨r, rfl, hV, hr, hb⟩
  have V1 := hide1 hV
  have R1 := hide1 (R0.out.below hb R0.out.lt)
  have B1 := hide1 (B0.out.trans (hb.mono B0.out.size))
  clear C0 hV hb R0 B0
  go_wp2_with fail
  refine (C1.out w1 r V1.out).mono ?_
  rintro e w2 ⟨⟨v, _, _, hn⟩ | ⟨rfl, hn⟩, hb⟩
  case inl => exact absurd hn HK.out
  have R2 := hide1 (R1.out.below hb R1.out.lt)
  have B2 := hide1 (B1.out.trans (hb.mono B1.out.size))
  clear C1 hb V1 R1 B1 hn
  have u0 : w2.cell? ⟨w.heap.size + 1, 0, none⟩ = some (.slice none 0 0) := R2.out.cell 0
  have u1 : w2.cell? ⟨w.heap.size + 1, 1, none⟩ = some (.int .i64 0) := R2.out.cell 1
  have u2 : w2.cell? ⟨w.heap.size + 1, 2, none⟩ = some (.slice none 0 0) := R2.out.cell 2
  have u3 : w2.cell? ⟨w.heap.size + 1, 3, none⟩ = some (.slice none 0 0) := R2.out.cell 3
  have u4 : w2.cell? ⟨w.heap.size + 1, 4, none⟩ = some (.int .i64 0) := R2.out.cell 4
  have u5 : w2.cell? ⟨w.heap.size + 1, 5, none⟩ = some (.int .i64 0) := R2.out.cell 5
  have u6 : w2.cell? ⟨w.heap.size + 1, 6, none⟩ = some (.slice none 0 0) := R2.out.cell 6
  have u7 : w2.cell? ⟨w.heap.size + 1, 7, none⟩ = some (.int .i64 0) := R2.out.cell 7
  have u8 : w2.cell? ⟨w.heap.size + 1, 8, none⟩ = some (.slice none 0 0) := R2.out.cell 8
  have u9 : w2.cell? ⟨w.heap.size + 1, 9, none⟩ = some (.int .i64 0) := R2.out.cell 9
  have u10 : w2.cell? ⟨w.heap.size + 1, 10, none⟩ = some (.slice none 0 0) := R2.out.cell 10
  have u11 : w2.cell? ⟨w.heap.size + 1, 11, none⟩ = some (.slice none 0 0) := R2.out.cell 11
  have u12 : w2.cell? ⟨w.heap.size + 1, 12, none⟩ = some (.int .i64 0) := R2.out.cell 12
  have u13 : w2.cell? ⟨w.heap.size + 1, 13, none⟩ = some (.int .i64 0) := R2.out.cell 13
  have uf : ∀ j, w2.frozen? ⟨w.heap.size + 1, j, none⟩ = false := fun j => R2.out.froz j
  have HH := hide1 (Blk.set (Blk.set (Blk.set (Blk.set (Blk.set (Blk.set (Blk.set (Blk.set (Blk.set (Blk.set (Blk.set (Blk.set (Blk.set (Blk.set (R2.out) 0 (.slice none 0 0)) 1 (.int .i64 0)) 2 (.slice none 0 0)) 3 (.slice none 0 0)) 4 (.int .i64 0)) 5 (.int .i64 0)) 6 (.slice none 0 0)) 7 (.int .i64 0)) 8 (.slice none 0 0)) 9 (.int .i64 0)) 10 (.slice none 0 0)) 11 (.slice none 0 0)) 12 (.int .i64 0)) 13 (.int .i64 0))
  have BX := hide1 (below_put14 (s := w.heap.size + 1) B2.out (by omega) (.slice none 0 0) (.int .i64 0) (.slice none 0 0) (.slice none 0 0) (.int .i64 0) (.int .i64 0) (.slice none 0 0) (.int .i64 0) (.slice none 0 0) (.int .i64 0) (.slice none 0 0) (.slice none 0 0) (.int .i64 0) (.int .i64 0))
  go_wp2
  refine bodyPost_ret (resQ2 Tryz.results6 _ _ (w.heap.size + 1) 39 #[.slice none 0 0, .int .i64 0, .slice none 0 0, .slice none 0 0, .int .i64 0, .int .i64 0, .slice none 0 0, .int .i64 0, .slice none 0 0, .int .i64 0, .slice none 0 0, .slice none 0 0, .int .i64 0, .int .i64 0] (0, 0) _ rfl HH.out Tryz.underlying39 rfl (by kernel_rfl)) rfl ?_
  exact ⟨rfl, BX.out⟩
end Go.Proofs.YtjgiobdpbbhekaaGreat
