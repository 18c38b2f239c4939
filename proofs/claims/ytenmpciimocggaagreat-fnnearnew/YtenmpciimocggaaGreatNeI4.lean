/- Whether right near entries are right, by the program; how many they are. -/
import Derived.Test.YtenmpciimocggaaGreatNeI3
import Derived.Test.YtenmpciimocggaaGreatNeSr
import Derived.Test.YtenmpciimocggaaGreatNeCc
import Derived.Test.YtenmpciimocggaaGreatXM
namespace Go.Proofs.YtenmpciimocggaaGreat
open Go.RowKit Go.Shelf
set_option linter.unusedVariables false

theorem sortQ2_any (L : List ByteArray) (base cap : Nat) (po : Option Addr) (w : World) (h : OwnQ w base po cap L) (hl : L.length ≤ 1048576) :
    Calls Tryz.prog 43 #[.slice po L.length cap] w fun e w' => e = .returned (.tuple #[]) ∧ RdQ w' po (srtB L) ∧ Below base w w' := by
  rcases h.2 with ⟨hv, h0⟩ | ⟨g, c, cur, hv, _⟩
  · have hcon := Any.slices_Sort_string_none sortS po cap w
    change Calls Tryz.prog 43 _ _ _ at hcon
    rw [h0]
    refine hcon.mono ?_
    rintro e w' ⟨rfl, rfl⟩
    refine ⟨rfl, fun i hi => ?_, Below.refl _ _⟩
    rw [srtB_length, h0] at hi
    omega
  · simp only [Value.slice.injEq] at hv
    obtain ⟨rfl, _, rfl⟩ := hv
    exact sortQ_any L base g cap w h hl
theorem srt_keys {N : Nr} (h : InN N) : srtB (N.w ++ N.t ++ N.s) = keysL (sortE (entT N.ce N.od)) := by
  have hok : OkT N.ce N.od N.mv := by rw [h.od, h.mv]; exact okN_iff.2 h.inT.tb
  refine asc_uniq _ _ (srtB_asc h.nd) (keys_asc hok) (fun z => ?_)
  rw [keys_mem hok, (srtB_perm _).mem_iff, h.od]
  constructor
  · intro hz
    obtain ⟨j, hj, hu, hkj⟩ := h.inT.ent z hz
    have := (h.inT.used j hj hu).2
    rw [hkj] at this
    exact ⟨(h.inT.key hz).2, _, this⟩
  · rintro ⟨hz, x, hx⟩
    exact h.inT.back z x hz hx

set_option maxRecDepth 100000 in
set_option maxHeartbeats 4000000 in
theorem keysI {w : World} {A : NA} {N : Nr} (h : InN N) (hA : RdN w A N) :
    Calls Tryz.prog 24 #[neV A N] w fun e w' => e = .returned (.bool true) ∧ Below w.heap.size w w' := by
  have hl := h.small
  have hok : OkT N.ce N.od N.mv := by rw [h.od, h.mv]; exact okN_iff.2 h.inT.tb
  have BX := hide1 (blkN2 w #[.slice A.a N.sl.length A.ac, .int .i64 N.fr, .slice A.c N.ce.length A.cc, .slice A.o N.od.length A.oc, .int .i64 N.mv, .int .i64 N.wm, .slice A.w N.w.length A.wc, .int .i64 N.tm, .slice A.t N.t.length A.tc, .int .i64 N.sm, .slice A.s N.s.length A.sc, .slice A.k N.sk.length A.kc, .int .i64 N.ad, .int .i64 N.dr] #[.slice A.w N.w.length A.wc, .slice A.t N.t.length A.tc, .slice A.s N.s.length A.sc] 40 31)
  have CC : Hid (∀ w' P t, Below w.heap.size w w' → Blk w' P t [.slice A.w N.w.length A.wc, .slice A.t N.t.length A.tc, .slice A.s N.s.length A.sc] → _) := fun w' P t hb hP => concat3_any hP (hA.fw.later hb) (hA.ft.later hb) (hA.fs.later hb) (by have := h.qw.small; omega) (by have := h.qt.small; omega) (by have := h.qs.small; omega)
  have CK := hide1 (fun w' (hb : Below w.heap.size w w') => implKeys_any A.c A.o N.ce N.od A.cc A.oc N.mv w' hl.fc hl.fo (hA.fc.later hb).toJ (hA.fo.later hb).toJ)
  have CU := hide1 (fun w' (hb : Below w.heap.size w w') => implUsed_any A.a N.sl A.ac N.fr w' hl.fa (hA.fa.later hb))
  have CH := hide1 (fun w' (hb : Below w.heap.size w w') => handlesI h (hA.later hb))
  unfold tbV at CK
  unfold arV at CU
  unfold neV at CH
  have HK := hide1 (srt_keys h)
  have HN := hide1 (show OkA N.sl N.fr ∧ usedN N.sl N.sl.length = (N.w ++ N.t ++ N.s).length from ⟨h.inT.ar, h.inT.count h.nd⟩)
  have HOK := hide1 hok
  have hsz : (N.w ++ N.t ++ N.s).length ≤ 1048576 := by have := h.qw.small; have := h.qt.small; have := h.qs.small; simp only [List.length_append]; omega
  generalize hL : N.w ++ N.t ++ N.s = L at *
  clear hL hA hl h hok
  unfold neV
  go_enter Tryz.func24, Tryz.ntmps24
  go_wp2_with fail
  generalize ((w.alloc (.cells #[.slice A.a N.sl.length A.ac, .int .i64 N.fr, .slice A.c N.ce.length A.cc, .slice A.o N.od.length A.oc, .int .i64 N.mv, .int .i64 N.wm, .slice A.w N.w.length A.wc, .int .i64 N.tm, .slice A.t N.t.length A.tc, .int .i64 N.sm, .slice A.s N.s.length A.sc, .slice A.k N.sk.length A.kc, .int .i64 N.ad, .int .i64 N.dr] 40)).alloc (.cells #[.slice A.w N.w.length A.wc, .slice A.t N.t.length A.tc, .slice A.s N.s.length A.sc] 31)) = w0 at BX ⊢
  obtain ⟨K0, P0, B0⟩ := BX.out
  have K0 := hide1 K0
  have B0 := hide1 B0
  clear BX
  refine (CC.out w0 _ _ B0.out P0).mono ?_
  clear P0
  rintro e w1 ⟨po, pc, rfl, ho1, hb1⟩
  have K1 := hide1 (K0.out.below hb1 K0.out.lt)
  have B1 := hide1 (B0.out.trans (hb1.mono B0.out.size))
  have O1 := hide1 ho1
  have s01 : w.heap.size < w0.heap.size := K0.out.lt
  clear hb1 CC ho1
  go_wp2_with fail
  refine (sortQ2_any L w0.heap.size pc po w1 O1.out hsz).mono ?_
  rintro e w2 ⟨rfl, hr2, hb2⟩
  have K2 := hide1 (K1.out.below hb2 s01)
  have B2 := hide1 (B1.out.trans (hb2.mono B0.out.size))
  have R2 := hide1 hr2
  clear hb2 K1 hr2 O1 K0 B0 B1
  have x2 : w2.cell? ⟨w.heap.size, 2, none⟩ = some (.slice A.c N.ce.length A.cc) := K2.out.cell 2
  have x3 : w2.cell? ⟨w.heap.size, 3, none⟩ = some (.slice A.o N.od.length A.oc) := K2.out.cell 3
  have x4 : w2.cell? ⟨w.heap.size, 4, none⟩ = some (.int .i64 N.mv) := K2.out.cell 4
  go_wp2_with fail
  refine (CK.out w2 B2.out).mono ?_
  rintro e w3 ⟨qo, ks, qc, rfl, hks, ho3, hb3⟩
  have hks2 : srtB L = ks := HK.out.trans (KeysA.det (.inl ⟨HOK.out, rfl⟩) hks)
  have K3 := hide1 (K2.out.below hb3 K2.out.lt)
  have B3 := hide1 (B2.out.trans (hb3.mono B2.out.size))
  have R3 := hide1 (R2.out.later hb3)
  have Q3 := hide1 (show RdQ w3 qo ks from rdQ_of_own ho3)
  have hlen : L.length = ks.length := by rw [← hks2, srtB_length]
  rw [hks2] at R3
  clear hb3 ho3 hks hks2 HK CK K2 B2 R2 x2 x3 x4
  rw [hlen] at hsz HN ⊢
  have CE := hide1 (equalQ_any (c := pc) (d := qc) R3.out Q3.out hsz)
  clear hlen R3 Q3
  go_wp2_with fail
  refine CE.out.mono ?_
  rintro e w4 ⟨rfl, hb4⟩
  have K4 := hide1 (K3.out.below hb4 K3.out.lt)
  have B4 := hide1 (B3.out.trans (hb4.mono B3.out.size))
  clear hb4 CE K3 B3
  have x0 : w4.cell? ⟨w.heap.size, 0, none⟩ = some (.slice A.a N.sl.length A.ac) := K4.out.cell 0
  have x1 : w4.cell? ⟨w.heap.size, 1, none⟩ = some (.int .i64 N.fr) := K4.out.cell 1
  go_wp2_with fail
  refine (CU.out w4 B4.out).mono ?_
  rintro e w5 ⟨⟨r, rfl, hr, _⟩, hb5⟩
  obtain rfl : r = ks.length := (hr HN.out.1).trans HN.out.2
  have K5 := hide1 (K4.out.below hb5 K4.out.lt)
  have B5 := hide1 (B4.out.trans (hb5.mono B4.out.size))
  clear hb5 hr CU K4 B4 x0 x1
  obtain ⟨_, v0, v1, v2, v3, v4, v5, v6, v7, v8, v9, v10, v11, v12, v13⟩ := nbox K5.out
  have qq : ((ks.length : Int) == (ks.length : Int)) = true := by simp
  go_wp2_with fail
  refine (CH.out w5 B5.out).mono ?_
  rintro e w6 ⟨rfl, hb6⟩
  have B6 := hide1 (B5.out.trans (hb6.mono B5.out.size))
  clear hb6
  go_wp2
  go_ret
  exact ⟨rfl, B6.out⟩

set_option maxRecDepth 100000 in
set_option maxHeartbeats 2000000 in
theorem nearOkI {w : World} {A : NA} {N : Nr} (h : InN N) (hA : RdN w A N) (hc : CapN A N) :
    Calls Tryz.prog 8 #[neV A N] w fun e w' => e = .returned (.bool true) ∧ Below w.heap.size w w' := by
  have BX := hide1 (And.intro (show Blk (w.alloc (.cells #[.slice A.a N.sl.length A.ac, .int .i64 N.fr, .slice A.c N.ce.length A.cc, .slice A.o N.od.length A.oc, .int .i64 N.mv, .int .i64 N.wm, .slice A.w N.w.length A.wc, .int .i64 N.tm, .slice A.t N.t.length A.tc, .int .i64 N.sm, .slice A.s N.s.length A.sc, .slice A.k N.sk.length A.kc, .int .i64 N.ad, .int .i64 N.dr] 40)) w.heap.size 40 (neC A N) from Blk.new w 40 _) ((Below.refl w.heap.size w).alloc (Nat.le_refl _) (.cells #[.slice A.a N.sl.length A.ac, .int .i64 N.fr, .slice A.c N.ce.length A.cc, .slice A.o N.od.length A.oc, .int .i64 N.mv, .int .i64 N.wm, .slice A.w N.w.length A.wc, .int .i64 N.tm, .slice A.t N.t.length A.tc, .int .i64 N.sm, .slice A.s N.s.length A.sc, .slice A.k N.sk.length A.kc, .int .i64 N.ad, .int .i64 N.dr] 40)))
  have C1 := hide1 (fun w' (hb : Below w.heap.size w w') => partsI h (hA.later hb) hc)
  have C2 := hide1 (fun w' => shapeI (w := w') (A := A) h)
  have C3 := hide1 (fun w' (hb : Below w.heap.size w w') => keysI h (hA.later hb))
  unfold neV at C1 C2 C3 ⊢
  clear h hA hc
  go_enter Tryz.func8, Tryz.ntmps8
  go_wp2_with fail
  generalize (w.alloc (.cells #[.slice A.a N.sl.length A.ac, .int .i64 N.fr, .slice A.c N.ce.length A.cc, .slice A.o N.od.length A.oc, .int .i64 N.mv, .int .i64 N.wm, .slice A.w N.w.length A.wc, .int .i64 N.tm, .slice A.t N.t.length A.tc, .int .i64 N.sm, .slice A.s N.s.length A.sc, .slice A.k N.sk.length A.kc, .int .i64 N.ad, .int .i64 N.dr] 40)) = w0 at BX ⊢
  obtain ⟨K0, B0⟩ := BX.out
  have K0 := hide1 K0
  have B0 := hide1 B0
  clear BX
  refine (C1.out w0 B0.out).mono ?_
  rintro e w1 ⟨rfl, hb1⟩
  have K1 := hide1 (K0.out.below hb1 K0.out.lt)
  have B1 := hide1 (B0.out.trans (hb1.mono B0.out.size))
  clear hb1 C1 K0 B0
  obtain ⟨_, v0, v1, v2, v3, v4, v5, v6, v7, v8, v9, v10, v11, v12, v13⟩ := nbox K1.out
  go_wp2_with fail
  refine (C2.out w1).mono ?_
  rintro e w2 ⟨rfl, hb2⟩
  have K2 := hide1 (K1.out.below hb2 K1.out.lt)
  have B2 := hide1 (B1.out.trans (hb2.mono B1.out.size))
  clear hb2 C2 K1 B1 v0 v1 v2 v3 v4 v5 v6 v7 v8 v9 v10 v11 v12 v13
  obtain ⟨_, v0, v1, v2, v3, v4, v5, v6, v7, v8, v9, v10, v11, v12, v13⟩ := nbox K2.out
  go_wp2_with fail
  refine (C3.out w2 B2.out).mono ?_
  rintro e w3 ⟨rfl, hb3⟩
  have B3 := hide1 (B2.out.trans (hb3.mono B2.out.size))
  clear hb3 C3 K2 B2 v0 v1 v2 v3 v4 v5 v6 v7 v8 v9 v10 v11 v12 v13
  go_wp2
  go_ret
  exact ⟨rfl, B3.out⟩

set_option maxRecDepth 100000 in
set_option maxHeartbeats 2000000 in
theorem sizeI {w : World} {A : NA} {N : Nr} (h : InN N) (hA : RdN w A N) (hc : CapN A N) :
    Calls Tryz.prog 9 #[neV A N] w fun e w' => e = .returned (.int .i64 ((keysN N).length : Int)) ∧ Below w.heap.size w w' := by
  have hl := h.small
  have BX := hide1 (And.intro (show Blk (w.alloc (.cells #[.slice A.a N.sl.length A.ac, .int .i64 N.fr, .slice A.c N.ce.length A.cc, .slice A.o N.od.length A.oc, .int .i64 N.mv, .int .i64 N.wm, .slice A.w N.w.length A.wc, .int .i64 N.tm, .slice A.t N.t.length A.tc, .int .i64 N.sm, .slice A.s N.s.length A.sc, .slice A.k N.sk.length A.kc, .int .i64 N.ad, .int .i64 N.dr] 40)) w.heap.size 40 (neC A N) from Blk.new w 40 _) ((Below.refl w.heap.size w).alloc (Nat.le_refl _) (.cells #[.slice A.a N.sl.length A.ac, .int .i64 N.fr, .slice A.c N.ce.length A.cc, .slice A.o N.od.length A.oc, .int .i64 N.mv, .int .i64 N.wm, .slice A.w N.w.length A.wc, .int .i64 N.tm, .slice A.t N.t.length A.tc, .int .i64 N.sm, .slice A.s N.s.length A.sc, .slice A.k N.sk.length A.kc, .int .i64 N.ad, .int .i64 N.dr] 40)))
  have C1 := hide1 (fun w' (hb : Below w.heap.size w w') => nearOkI h (hA.later hb) hc)
  have CU := hide1 (fun w' (hb : Below w.heap.size w w') => implUsed_any A.a N.sl A.ac N.fr w' hl.fa (hA.fa.later hb))
  have HN := hide1 (show OkA N.sl N.fr ∧ usedN N.sl N.sl.length = (keysN N).length from ⟨h.inT.ar, h.inT.count h.nd⟩)
  unfold arV at CU
  unfold neV at C1 ⊢
  generalize (keysN N).length = n at *
  clear h hA hc hl
  go_enter Tryz.func9, Tryz.ntmps9
  go_wp2_with fail
  generalize (w.alloc (.cells #[.slice A.a N.sl.length A.ac, .int .i64 N.fr, .slice A.c N.ce.length A.cc, .slice A.o N.od.length A.oc, .int .i64 N.mv, .int .i64 N.wm, .slice A.w N.w.length A.wc, .int .i64 N.tm, .slice A.t N.t.length A.tc, .int .i64 N.sm, .slice A.s N.s.length A.sc, .slice A.k N.sk.length A.kc, .int .i64 N.ad, .int .i64 N.dr] 40)) = w0 at BX ⊢
  obtain ⟨K0, B0⟩ := BX.out
  have K0 := hide1 K0
  have B0 := hide1 B0
  clear BX
  refine (C1.out w0 B0.out).mono ?_
  rintro e w1 ⟨rfl, hb1⟩
  have K1 := hide1 (K0.out.below hb1 K0.out.lt)
  have B1 := hide1 (B0.out.trans (hb1.mono B0.out.size))
  clear hb1 C1 K0 B0
  have x0 : w1.cell? ⟨w.heap.size, 0, none⟩ = some (.slice A.a N.sl.length A.ac) := K1.out.cell 0
  have x1 : w1.cell? ⟨w.heap.size, 1, none⟩ = some (.int .i64 N.fr) := K1.out.cell 1
  go_wp2_with fail
  refine (CU.out w1 B1.out).mono ?_
  rintro e w2 ⟨⟨r, rfl, hr, _⟩, hb2⟩
  obtain rfl : r = n := (hr HN.out.1).trans HN.out.2
  have B2 := hide1 (B1.out.trans (hb2.mono B1.out.size))
  clear hb2 hr CU K1 B1 x0 x1
  go_wp2
  go_ret
  exact ⟨rfl, B2.out⟩
end Go.Proofs.YtenmpciimocggaaGreat
