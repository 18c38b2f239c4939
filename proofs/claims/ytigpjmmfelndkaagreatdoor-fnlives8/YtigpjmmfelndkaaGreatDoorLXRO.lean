import Derived.Laws.StructEq
import Derived.Laws.CopyRow
import Derived.Test.YtigpjmmfelndkaaGreatDoorLXRP
namespace Go.Proofs.YtigpjmmfelndkaaGreatDoor
open Go.RowKit
set_option maxRecDepth 100000
set_option maxHeartbeats 2000000
theorem qzJ (l : List Sl) : (sls l).toArray.all (·.oneCell') = true := by
 rw [List.all_toArray, List.all_eq_true]
 intro v hv
 obtain ⟨s, _, hs⟩ := List.mem_flatMap.1 hv
 simp only [slC, List.mem_cons, List.not_mem_nil, or_false] at hs
 rcases hs with rfl | rfl | rfl | rfl | rfl <;> rfl
theorem qkF {P : Program} {ops : Array Oper} {rest : List Oper} {o : Oper} {a : Act} {w : World} {Q : Exit -> Act -> World -> Prop} (hgd : o.guard = none) (ty : TypeId) (x y : Operand) (ho : o.op = .store ty x y)
  (g : Nat) (cells : Array Value) (hx : a.eval x = .pointer (some ⟨g, 0, none⟩)) (hy : a.eval y = .agg cells)
  (t : TypeId) (old : Array Value) (hg : w.heap[g]? = some (.cells old t (0, 0))) (hi : (P.info? ty).map (·.size) = some cells.size)
  (hold : old.size = cells.size) (h1 : cells.all (·.oneCell') = true)
  (h : wpList P ops Q rest (a.put o.dst undef) (w.setRow g cells)) : wpList P ops Q (o :: rest) a w :=
 wpList_plain hgd fun _ hK => wp_store_row ty x y ho g cells hx hy t old hg hi hold h1 (hK _ _ h)
theorem qzW {w : World} {B : Nat} {ky vl : ByteArray} (h : w.cell? ⟨B, 2, none⟩ = some (.string ky) /\ w.cell? ⟨B, 3, none⟩ = some (.string vl) /\ w.frozen? ⟨B, 2, none⟩ = false /\ w.frozen? ⟨B, 3, none⟩ = false) :
  (w.setCell ⟨B, 2, none⟩ (.string ky)).cell? ⟨B, 2, none⟩ = some (.string ky) /\ (w.setCell ⟨B, 2, none⟩ (.string ky)).cell? ⟨B, 3, none⟩ = some (.string vl) /\ (w.setCell ⟨B, 2, none⟩ (.string ky)).frozen? ⟨B, 2, none⟩ = false /\ (w.setCell ⟨B, 2, none⟩ (.string ky)).frozen? ⟨B, 3, none⟩ = false :=
 ⟨World.cell?_setCell_same _ _ _ h.1, (World.cell?_setCell_other _ _ _ _ (by simp)).trans h.2.1, (World.frozen?_setCell ..).trans h.2.2.1, (World.frozen?_setCell ..).trans h.2.2.2⟩
theorem qzV {w : World} {B : Nat} {ky vl : ByteArray} (h : w.cell? ⟨B, 2, none⟩ = some (.string ky) /\ w.cell? ⟨B, 3, none⟩ = some (.string vl) /\ w.frozen? ⟨B, 2, none⟩ = false /\ w.frozen? ⟨B, 3, none⟩ = false) :
  (w.setCell ⟨B, 3, none⟩ (.string vl)).cell? ⟨B, 2, none⟩ = some (.string ky) /\ (w.setCell ⟨B, 3, none⟩ (.string vl)).cell? ⟨B, 3, none⟩ = some (.string vl) /\ (w.setCell ⟨B, 3, none⟩ (.string vl)).frozen? ⟨B, 2, none⟩ = false /\ (w.setCell ⟨B, 3, none⟩ (.string vl)).frozen? ⟨B, 3, none⟩ = false :=
 ⟨(World.cell?_setCell_other _ _ _ _ (by simp)).trans h.1, World.cell?_setCell_same _ _ _ h.2.1, (World.frozen?_setCell ..).trans h.2.2.1, (World.frozen?_setCell ..).trans h.2.2.2⟩
theorem qjT (ao : Option Addr) (M : List Sl) (ca : Nat) (f : Int) (w : World) (hn : M.length <= 1048576) (hA : RdA w ao M) :
  Calls Tryz.prog 123 #[arV ao M.length ca f] w fun e w' => ∃ b c, e = .returned (arV (some ⟨b, 0, none⟩) M.length c f) /\ w'.ownsRow w.heap.size 99 5 (.slice (some ⟨b, 0, none⟩) M.length c) M.length (sls M) /\ Below w.heap.size w w' := by
 obtain ⟨i0, hi0, hz0, hz1, hz2⟩ := info_parts Tryz.infoSlot
 have F0 := hI (qdI w #[.slice ao M.length ca, .int .i64 f] #[.slice none 0 0, .int .i64 0] 26 26)
 have HA := hI hA
 have n1 : (M.length : Int) <= 1048576 := by omega
 clear hA
 unfold arV
 go_enter Tryz.func123, Tryz.ntmps123
 go_wp2_with (at_make; (generalize ((w.alloc (.cells #[.slice ao M.length ca, .int .i64 f] 26)).alloc (.cells #[.slice none 0 0, .int .i64 0] 26)) = w2 at F0 ⊢; (refine wpList_make_full _ rfl _ _ 24 rfl w2.heap.size 99 i0 (slV zS) 5 Tryz.underlying24 hi0 hz0 hz1 _ _ _ _ M.length rfl rfl rfl rfl (by rw [hz2]; omega) (by unfold maxLen; omega) (Nat.le_refl _) ?_; intro w3 hown0 hg0; have x3 : w3.cell? ⟨w.heap.size, 0, none⟩ = some (.slice ao M.length ca) := hg0.cell (F0.out.1.cell 0) (by simp))))
 rw [made5] at hown0
 have HO := hI hown0
 obtain ⟨FP, FN, FW⟩ := F0.out
 have FP := hI FP
 have FN := hI FN
 have FW := hI FW
 have hp2 : w.heap.size < w2.heap.size := FP.out.lt
 have hn2 : w.heap.size + 1 < w2.heap.size := FN.out.lt
 have B3 : Hid (Below w2.heap.size w2 w3) := Below.grown (Below.refl _ _) hg0 (Nat.le_refl _) (by intro k hk; cases hk)
 clear hown0 hg0 F0 x3
 go_loopw [13] (fun iv wr => ∃ i : Nat, i <= M.length /\ iv = .int .i64 (i : Int) /\ Hid (wr.ownsRow w2.heap.size 99 5 (.slice (some ⟨w2.heap.size, 0, none⟩) M.length M.length) M.length (sls (M.take i ++ List.replicate (M.length - i) zS))) /\ Hid (Below w2.heap.size w2 wr)) (fun iv _ => M.length - (intOf iv).toNat)
 case atStart => exact ⟨0, by omega, rfl, by have := HO.out; simpa [Hid] using this, B3⟩
 case round =>
  obtain ⟨i, hi, rfl, hown, hbel⟩ := hrel
  by_cases hlt : i < M.length
  ·have k1 : (i : Int) < (M.length : Int) := by omega
   have BW : Below w.heap.size w wr := FW.out.trans (hbel.out.mono FW.out.size)
   obtain ⟨g, hao, hg, y0, y1, y2, y3, y4⟩ := (HA.out.later BW).at i hlt
   clear BW
   generalize hs : M[i] = s at *
   have HS := hI hs
   have HAO := hI hao
   rw [hao]
   clear hs hao
   obtain ⟨gn, us, ky, vl, nx⟩ := s
   simp only at y0 y1 y2 y3 y4
   have NN : Hid (slotAt (wr.alloc (.cells #[.int .i64 gn, .bool us, .string ky, .string vl, .int .i64 nx] 99)) wr.heap.size 0 ⟨gn, us, ky, vl, nx⟩ /\ (∀ j, (wr.alloc (.cells #[.int .i64 gn, .bool us, .string ky, .string vl, .int .i64 nx] 99)).frozen? ⟨wr.heap.size, j, none⟩ = false) /\ Below wr.heap.size wr (wr.alloc (.cells #[.int .i64 gn, .bool us, .string ky, .string vl, .int .i64 nx] 99)) /\ wr.heap.size < (wr.alloc (.cells #[.int .i64 gn, .bool us, .string ky, .string vl, .int .i64 nx] 99)).heap.size) :=
    ⟨⟨World.cell?_alloc_at _ _ _ _ rfl, World.cell?_alloc_at _ _ _ _ rfl, World.cell?_alloc_at _ _ _ _ rfl, World.cell?_alloc_at _ _ _ _ rfl, World.cell?_alloc_at _ _ _ _ rfl⟩, fun j => World.frozen?_alloc_at _ _ _ _ rfl, bAl _ _, by rw [World.size_alloc]; omega⟩
   go_upto_region 5 with fail
   generalize (wr.alloc (.cells #[.int .i64 gn, .bool us, .string ky, .string vl, .int .i64 nx] 99)) = wn at NN ⊢
   clear y0 y1 y2 y3 y4
   obtain ⟨⟨n0, n1, n2, n3, n4⟩, nf, nb, nl⟩ := NN.out
   simp only [Nat.zero_mul, Nat.zero_add] at n0 n1 n2 n3 n4
   have NB := hI nb
   have N5 := hI (And.intro n2 (And.intro n3 (And.intro (nf 2) (nf 3))))
   clear nb NN nf n2 n3
   go_region_held3 (fun w' => w'.cell? ⟨wr.heap.size, 2, none⟩ = some (.string ky) /\ w'.cell? ⟨wr.heap.size, 3, none⟩ = some (.string vl) /\ w'.frozen? ⟨wr.heap.size, 2, none⟩ = false /\ w'.frozen? ⟨wr.heap.size, 3, none⟩ = false) (((try simp only [World.cell?_drew, World.frozen?_drew]); first | exact qzV (qzW ⟨(HBc.cell nl).trans N5.out.1, (HBc.cell nl).trans N5.out.2.1, (HBc.frozen nl).trans N5.out.2.2.1, (HBc.frozen nl).trans N5.out.2.2.2⟩) | exact qzW (qzV ⟨(HBc.cell nl).trans N5.out.1, (HBc.cell nl).trans N5.out.2.1, (HBc.frozen nl).trans N5.out.2.2.1, (HBc.frozen nl).trans N5.out.2.2.2⟩) | exact qzW ⟨(HBc.cell nl).trans N5.out.1, (HBc.cell nl).trans N5.out.2.1, (HBc.frozen nl).trans N5.out.2.2.1, (HBc.frozen nl).trans N5.out.2.2.2⟩ | exact qzV ⟨(HBc.cell nl).trans N5.out.1, (HBc.cell nl).trans N5.out.2.1, (HBc.frozen nl).trans N5.out.2.2.1, (HBc.frozen nl).trans N5.out.2.2.2⟩ | exact ⟨(HBc.cell nl).trans N5.out.1, (HBc.cell nl).trans N5.out.2.1, (HBc.frozen nl).trans N5.out.2.2.1, (HBc.frozen nl).trans N5.out.2.2.2⟩ | exact N5.out)) ((go_at_call 134; refine (qkL _ _).mono ?_; rintro e wk ⟨rfl, hbk⟩; have HBc : Below wn.heap.size wn wk := (by first | exact HBc.trans (hbk.mono HBc.size) | exact HBc.drew.trans (hbk.mono HBc.size) | exact hbk | exact (Below.refl _ _).drew.trans hbk)))
   have BK : Below wr.heap.size wr wk := NB.out.trans (HBc.mono (by omega))
   have own2 : ((wk.setCell ⟨wr.heap.size, 2, none⟩ (.string ky)).setCell ⟨wr.heap.size, 3, none⟩ (.string vl)).ownsRow w2.heap.size 99 5 (.slice (some ⟨w2.heap.size, 0, none⟩) M.length M.length) M.length (sls (M.take i ++ List.replicate (M.length - i) zS)) := by
    have hk := qaE hown.out BK
    have hne : ∀ k, (Value.slice (some ⟨w2.heap.size, 0, none⟩) M.length M.length).ownBlock = some k -> k ≠ wr.heap.size := by
     intro k hk2
     have := (hown.out.lt k hk2).2
     omega
    exact qaA (qaA hk _ _ hne) _ _ hne
   have BL2 : Hid (Below w2.heap.size w2 ((wk.setCell ⟨wr.heap.size, 2, none⟩ (.string ky)).setCell ⟨wr.heap.size, 3, none⟩ (.string vl))) :=
    ((hbel.out.trans (BK.mono hbel.out.size)).setCell (p := ⟨wr.heap.size, 2, none⟩) hbel.out.size _).setCell (p := ⟨wr.heap.size, 3, none⟩) hbel.out.size _
   have K5 := hI (qzV (qzW ⟨(HBc.cell nl).trans N5.out.1, (HBc.cell nl).trans N5.out.2.1, (HBc.frozen nl).trans N5.out.2.2.1, (HBc.frozen nl).trans N5.out.2.2.2⟩))
   have K0 : Hid (((wk.setCell ⟨wr.heap.size, 2, none⟩ (.string ky)).setCell ⟨wr.heap.size, 3, none⟩ (.string vl)).cell? ⟨wr.heap.size, 0, none⟩ = some (.int .i64 gn) /\ ((wk.setCell ⟨wr.heap.size, 2, none⟩ (.string ky)).setCell ⟨wr.heap.size, 3, none⟩ (.string vl)).cell? ⟨wr.heap.size, 1, none⟩ = some (.bool us) /\ ((wk.setCell ⟨wr.heap.size, 2, none⟩ (.string ky)).setCell ⟨wr.heap.size, 3, none⟩ (.string vl)).cell? ⟨wr.heap.size, 4, none⟩ = some (.int .i64 nx)) := by
    refine ⟨?_, ?_, ?_⟩
    ·rw [World.cell?_setCell_other _ _ _ _ (by simp), World.cell?_setCell_other _ _ _ _ (by simp), HBc.cell nl]; exact n0
    ·rw [World.cell?_setCell_other _ _ _ _ (by simp), World.cell?_setCell_other _ _ _ _ (by simp), HBc.cell nl]; exact n1
    ·rw [World.cell?_setCell_other _ _ _ _ (by simp), World.cell?_setCell_other _ _ _ _ (by simp), HBc.cell nl]; exact n4
   have O2 := hI own2
   clear own2 BK hown hbel n0 n1 n4 HBc
   go_upto_region 6 with fail
   generalize ((wk.setCell ⟨wr.heap.size, 2, none⟩ (.string ky)).setCell ⟨wr.heap.size, 3, none⟩ (.string vl)) = wf at O2 BL2 K5 K0 ⊢
   obtain ⟨n2, n3, _, _⟩ := K5.out
   obtain ⟨n0, n1, n4⟩ := K0.out
   obtain ⟨u0, z0⟩ := qaQ O2.out (i * 5) (by omega)
   obtain ⟨u1, z1⟩ := qaQ O2.out (i * 5 + 1) (by omega)
   obtain ⟨u2, z2⟩ := qaQ O2.out (i * 5 + 2) (by omega)
   obtain ⟨u3, z3⟩ := qaQ O2.out (i * 5 + 3) (by omega)
   obtain ⟨u4, z4⟩ := qaQ O2.out (i * 5 + 4) (by omega)
   have f0 := O2.out.frozenAt (i * 5)
   have f1 := O2.out.frozenAt (i * 5 + 1)
   have f2 := O2.out.frozenAt (i * 5 + 2)
   have f3 := O2.out.frozenAt (i * 5 + 3)
   have f4 := O2.out.frozenAt (i * 5 + 4)
   have OS := hI (qoC O2.out (show (M.take i ++ List.replicate (M.length - i) zS).length = M.length by simp; omega) i hlt ⟨gn, us, ky, vl, nx⟩)
   rw [zaI M zS _ i hlt HS.out] at OS
   have BS := hI (qdW BL2.out (Nat.le_refl _) i ⟨gn, us, ky, vl, nx⟩)
   clear K5 K0
   go_wp2
   go_roundw
   case rel =>
    exact ⟨i + 1, by omega, by go_num, OS, BS⟩
   case measure => simp [intOf]; omega
  ·obtain rfl : i = M.length := by omega
   have own3 : Hid (wr.ownsRow w2.heap.size 99 5 (.slice (some ⟨w2.heap.size, 0, none⟩) M.length M.length) M.length (sls M)) := by
    have := hown.out
    simpa [Hid] using this
   have BT : Hid (Below w.heap.size w wr) := FW.out.trans (hbel.out.mono FW.out.size)
   have FP2 := FP.out.below hbel.out FP.out.lt
   have FN2 := FN.out.below hbel.out FN.out.lt
   have x1 : wr.cell? ⟨w.heap.size, 1, none⟩ = some (.int .i64 f) := FP2.cell 1
   have y0 : wr.cell? ⟨w.heap.size + 1, 0, none⟩ = some (.slice none 0 0) := FN2.cell 0
   have y1 : wr.cell? ⟨w.heap.size + 1, 1, none⟩ = some (.int .i64 0) := FN2.cell 1
   have f0 (j) : wr.frozen? ⟨w.heap.size + 1, j, none⟩ = false := FN2.froz j
   have HN := hI (Blk.set (Blk.set FN2 0 (.slice (some ⟨w2.heap.size, 0, none⟩) M.length M.length)) 1 (.int .i64 f))
   clear FN2 FP2 hown hbel FN FP FW HO HA
   go_wp2
   refine bodyPost_ret (results_cell_row Tryz.results123 _ _ (w.heap.size + 1) 26 #[.slice (some ⟨w2.heap.size, 0, none⟩) M.length M.length, .int .i64 f] (0, 0) _ rfl HN.out Tryz.underlying26 rfl (by kernel_rfl)) rfl ?_
   refine ⟨_, _, rfl, qaB (qaA (qaA own3.out _ _ ?_) _ _ ?_) (by omega), ?_⟩
   ·intro k hk; have := (own3.out.lt k hk).1; dsimp only; omega
   ·intro k hk; have := (own3.out.lt k hk).1; dsimp only; omega
   ·exact (BT.out.setCell (p := ⟨w.heap.size + 1, 0, none⟩) (by dsimp only; omega) _).setCell (p := ⟨w.heap.size + 1, 1, none⟩) (by dsimp only; omega) _
theorem zeD (w4 : World) {r s : Nat} (j : Nat) (u v : Value) (hne : r ≠ s) : ((w4.setCell ⟨s, 0, none⟩ u).setCell ⟨s, 1, none⟩ v).cell? ⟨r, j, none⟩ = w4.cell? ⟨r, j, none⟩ := by
 rw [World.cell?_setCell_other _ _ _ _ (by intro e; injection e; omega), World.cell?_setCell_other _ _ _ _ (by intro e; injection e; omega)]
theorem zbA (w4 : World) {r s : Nat} (i j : Nat) (u : Value) (hne : r ≠ s) : (w4.setCell ⟨s, i, none⟩ u).cell? ⟨r, j, none⟩ = w4.cell? ⟨r, j, none⟩ := by
 rw [World.cell?_setCell_other _ _ _ _ (by intro e; injection e; omega)]
theorem qmH {w : World} {r : Nat} {L M : List Sl} {p : Option Addr} {V : List Nat} (h : RoomAt w r M.length L p) (hL : L.length = 24) (h1 : 1 <= M.length) (hn : M.length <= 24) (hl : Lnk w r p V) (hV : ∀ k ∈ V, k < 24) (hM : wrt L M.length V = qaH M) :
  Calls Tryz.prog 116 #[.pointer (some ⟨r, 0, none⟩)] w fun e w' => ∃ b c, e = .returned (arV (some ⟨b, 0, none⟩) M.length c (hdI V)) /\ w'.ownsRow w.heap.size 99 5 (.slice (some ⟨b, 0, none⟩) M.length c) M.length (sls M) /\ Below w.heap.size w w' := by
 obtain ⟨i0, hi0, hz0, hz1, hz2⟩ := info_parts Tryz.infoSlot
 obtain ⟨hz, hzs⟩ := zero_of_info Tryz.infoArr
 obtain ⟨Z, hZ⟩ : ∃ Z, Z = (sls (List.replicate 24 zS)).toArray := ⟨_, rfl⟩
 rw [<- hZ] at hz
 have hZs : Hid (Z.size = 120) := by show Z.size = 120; rw [hZ]; simp [qaL]
 have CW := hI (fun o => qgU (w := w.alloc o) (Blk.more h o) hL hn (hl.below ((Below.refl _ _).alloc (Nat.le_refl _) o)) hV)
 rw [hM] at CW
 have HR := hI h
 have HL := hI hL
 have HK := hI hl
 have hr := h.lt
 have hFs : Hid ((sls (qaH M)).toArray.size = 120) := by show _ = _; simp [qaL, qaC hn]
 have hFz : Hid ((Tryz.prog.info? 152).map (·.size) = some (sls (qaH M)).toArray.size) := by show _ = _; rw [hzs, hFs.out]
 have hF1 := hI (qzJ (qaH M))
 have hFi := hI (fun i (hi : i < M.length) => qdQ i hi)
 have hFl := hI (qaC hn)
 have n1 : (M.length : Int) <= 24 := by omega
 clear h hL hl hV hM hZ hzs
 unfold arV
 go_enter Tryz.func116, Tryz.ntmps116
 go_wp2_with fail
 refine (CW.out _).mono ?_
 rintro e w1 ⟨rfl, hb1⟩
 have F1 : Hid (Blk (w1.alloc (.cells (sls (qaH M)).toArray 152)) w1.heap.size 152 (sls (qaH M)) /\ Blk (w1.alloc (.cells (sls (qaH M)).toArray 152)) w.heap.size 26 [.slice none 0 0, .int .i64 0] /\ Below w.heap.size w (w1.alloc (.cells (sls (qaH M)).toArray 152)) /\ w.heap.size < w1.heap.size) := by
  have hs : w.heap.size < w1.heap.size := by have := hb1.size; rw [World.size_alloc] at this; omega
  refine ⟨?_, ?_, (qcL hb1).alloc (by omega) _, hs⟩
  ·have := Blk.new w1 152 (sls (qaH M)).toArray
   rw [List.toList_toArray] at this
   exact this
  ·exact Blk.more (Blk.below (Blk.new w 26 #[.slice none 0 0, .int .i64 0]) hb1 (by rw [World.size_alloc]; omega)) _
 clear hb1 CW
 go_wp2_with ((refine qkF rfl 152 _ _ rfl w1.heap.size (sls (qaH M)).toArray rfl rfl 152 Z (heap_alloc_last _ _) hFz.out (hZs.out.trans hFs.out.symm) hF1.out ?_; rw [World.setRow_alloc_new]; generalize (w1.alloc (.cells (sls (qaH M)).toArray 152)) = w2 at F1 ⊢))
 obtain ⟨FB, FN, FW, Fs⟩ := F1.out
 have FB := hI FB
 have FN := hI FN
 have FW := hI FW
 have hs1 : w1.heap.size < w2.heap.size := FB.out.lt
 have hs0 : w.heap.size < w2.heap.size := FN.out.lt
 have hr2 : r < w2.heap.size := by omega
 have hr1 := HR.out.below FW.out hr
 have x0 : w2.cell? ⟨r, 0, none⟩ = some (.int .i64 (M.length : Int)) := hr1.size
 have xf := hr1.free HL.out
 have RD : Hid (RdA w2 (some ⟨w1.heap.size, 0, none⟩) M) := by
  refine .inr ⟨w1.heap.size, rfl, hs1, fun i hi => ?_⟩
  have hsl : (qaH M)[i]'(by rw [hFl.out]; omega) = M[i] := by
   have := hFi.out i hi
   rw [List.getElem?_eq_getElem (by rw [hFl.out]; omega)] at this
   exact Option.some.inj this
  have := FB.out.at5 i (by rw [hFl.out]; omega)
  rw [hsl] at this
  exact this
 have CA := hI (fun w' (hb : Below w2.heap.size w2 w') => qyP (HK.out.below (FW.out.trans (hb.mono FW.out.size))))
 have CN := hI (fun w' (hb : Below w2.heap.size w2 w') => qjT (some ⟨w1.heap.size, 0, none⟩) M 24 (hdI V) w' (by omega) (RD.out.later hb))
 unfold arV at CN
 clear F1 hr1 hz hZs hFz hF1 hFs hFi hFl HR HK FB RD Fs
 go_wp2_with fail
 have X := hI (And.intro x0 xf)
 go_region_held3 (fun w' => w'.cell? ⟨r, 0, none⟩ = some (.int .i64 (M.length : Int)) /\ w'.cell? ⟨r, 121, none⟩ = some (.pointer p)) (first | go_keep | exact ⟨(D4.out.cell hr2).trans X.out.1, (D4.out.cell hr2).trans X.out.2⟩ | exact ⟨(zeD _ _ _ _ (by omega)).trans ((D4.out.cell hr2).trans X.out.1), (zeD _ _ _ _ (by omega)).trans ((D4.out.cell hr2).trans X.out.2)⟩ | exact ⟨(zbA _ _ _ _ (by omega)).trans ((D4.out.cell hr2).trans X.out.1), (zbA _ _ _ _ (by omega)).trans ((D4.out.cell hr2).trans X.out.2)⟩) ((first | (go_at_call 123; refine (CN.out _ (by go_grown)).mono ?_; rintro e w4 ⟨b4, c4, rfl, ho4, hb4⟩; have D4 : Hid (Below w2.heap.size w2 w4) := (show Below w2.heap.size w2 _ by go_grown).trans (hb4.mono (by go_size)); have O4 := hI (qaB (base := w2.heap.size) ho4 (by go_size)); clear ho4 hb4; have r4 := FN.out.below D4.out hs0; have y0 : w4.cell? ⟨w.heap.size, 0, none⟩ = some (.slice none 0 0) := r4.cell 0; have y1 : w4.cell? ⟨w.heap.size, 1, none⟩ = some (.int .i64 0) := r4.cell 1; have yf : ∀ j, w4.frozen? ⟨w.heap.size, j, none⟩ = false := fun j => r4.froz j; have R4 := hI r4; clear r4) | (go_at_call 162; refine (CA.out _ (by go_grown)).mono ?_; rintro e w3 ⟨rfl, rfl⟩)))
 all_goals go_wp2
 all_goals
  have HH := hI (Blk.set (Blk.set R4.out 0 (.slice (some ⟨b4, 0, none⟩) M.length c4)) 1 (.int .i64 (hdI V)))
  refine bodyPost_ret (results_cell_row Tryz.results116 _ _ w.heap.size 26 #[.slice (some ⟨b4, 0, none⟩) M.length c4, .int .i64 (hdI V)] (0, 0) _ rfl HH.out Tryz.underlying26 rfl (by kernel_rfl)) rfl ?_
  refine ⟨_, _, rfl, qaB (qaA (qaA O4.out _ _ ?_) _ _ ?_) (by omega), ?_⟩
  ·intro k hk; have := (O4.out.lt k hk).1; dsimp only; omega
  ·intro k hk; have := (O4.out.lt k hk).1; dsimp only; omega
  ·exact ((FW.out.trans (D4.out.mono FW.out.size)).setCell (p := ⟨w.heap.size, 0, none⟩) (Nat.le_refl _) _).setCell (p := ⟨w.heap.size, 1, none⟩) (Nat.le_refl _) _
theorem Tryz.infoRoom : (Tryz.prog.info? 155).map (fun i => (i.zero, i.size)) = some (some (.agg (qcU 0 (List.replicate 24 zS) none).toArray), 122) := by kernel_rfl
theorem qnD : Tryz.prog.underlying 99 = some (.struct (Tryz.prog.fieldsOf 99)) := by kernel_rfl
theorem qzZ : Tryz.prog.stoodInHeld 99 = false := by kernel_rfl
theorem qzR : (Tryz.prog.fieldsOf 99).toList.map (fun f => (f.name, f.type, f.offset)) = [("Gen", 3, 0), ("Used", 4, 1), ("Key", 9, 2), ("Val", 9, 3), ("Next", 3, 4)] := by kernel_rfl
theorem zaD : Tryz.prog.eqGuardType Tryz.prog.depth 152 = false := by kernel_rfl
theorem qoA (w : World) (t : TypeId) (d : TypeDesc) (hd : Tryz.prog.underlying t = some d) (hn : (match d with | .struct _ | .array _ _ => true | _ => false) = false) (xs : Array Value) (i : Nat) (v : Value) (h : xs[i]? = some v) : (part t xs i).run Tryz.prog w = .ok v w := by
 unfold part isAgg
 cases d <;> simp_all [run_underlying hd]
def eqS (d : Nat) (xs ys : Array Value) : List (String × TypeId × Nat) -> Sem Bool
 | [] => pure true
 | f :: fs =>
  if f.1 ≠ "_" then do
   let a <- part f.2.1 xs f.2.2
   let b <- part f.2.1 ys f.2.2
   let r <- Op.equalIn d f.2.1 a b
   if (!r) = true then pure false else eqS d xs ys fs
  else eqS d xs ys fs
theorem zbH (d : Nat) (xs ys : Array Value) : ∀ fs : List Field, Op.eqFields d xs ys fs = eqS d xs ys (fs.map (fun f => (f.name, f.type, f.offset)))
 | [] => rfl
 | f :: fs => by rw [List.map_cons, Op.eqFields, eqS, zbH d xs ys fs]
theorem zcK (d : Nat) (a b : Sl) (w : World) : (Op.equalIn (d + 2) 99 (slV a) (slV b)).run Tryz.prog w = .ok (zbG a b) w := by
 unfold slV
 rw [run_equalIn_struct w (d + 1) 99 _ _ qnD qzZ, zbH, qzR]
 have pi := fun (xs : Array Value) i v h => qoA w 3 _ Tryz.underlying3 rfl xs i v h
 have pb := fun (xs : Array Value) i v h => qoA w 4 _ Tryz.underlying4 rfl xs i v h
 have ps := fun (xs : Array Value) i v h => qoA w 9 _ Tryz.underlying9 rfl xs i v h
 have ei := fun x y => run_equalIn_int w d 3 .i64 .i64 x y Tryz.underlying3
 have eb := fun x y => run_equalIn_bool' w d 4 x y Tryz.underlying4
 have es := fun x y => run_equalIn_string w d 9 x y Tryz.underlying9
 have ne : ∀ s, s ∈ ["Gen", "Used", "Key", "Val", "Next"] -> s ≠ "_" := by decide
 simp only [eqS, ne "Gen" (by simp), ne "Used" (by simp), ne "Key" (by simp), ne "Val" (by simp), ne "Next" (by simp), ne_eq, not_false_eq_true, if_true, Sem.run_bind]
 rw [pi _ 0 (.int .i64 a.gen) rfl, Result.andThen_ok, pi _ 0 (.int .i64 b.gen) rfl, Result.andThen_ok, ei, Result.andThen_ok]
 unfold zbG
 cases (a.gen == b.gen)
 ·rfl
 ·rw [if_neg (by simp), Sem.run_bind, pb _ 1 (.bool a.used) rfl, Result.andThen_ok, Sem.run_bind, pb _ 1 (.bool b.used) rfl, Result.andThen_ok, Sem.run_bind, eb, Result.andThen_ok]
  cases (a.used == b.used)
  ·rfl
  ·rw [if_neg (by simp), Sem.run_bind, ps _ 2 (.string a.key) rfl, Result.andThen_ok, Sem.run_bind, ps _ 2 (.string b.key) rfl, Result.andThen_ok, Sem.run_bind, es, Result.andThen_ok]
   cases (a.key.toList == b.key.toList)
   ·rfl
   ·rw [if_neg (by simp), Sem.run_bind, ps _ 3 (.string a.val) rfl, Result.andThen_ok, Sem.run_bind, ps _ 3 (.string b.val) rfl, Result.andThen_ok, Sem.run_bind, es, Result.andThen_ok]
    cases (a.val.toList == b.val.toList)
    ·rfl
    ·rw [if_neg (by simp), Sem.run_bind, pi _ 4 (.int .i64 a.next) rfl, Result.andThen_ok, Sem.run_bind, pi _ 4 (.int .i64 b.next) rfl, Result.andThen_ok, Sem.run_bind, ei, Result.andThen_ok]
     cases (a.next == b.next) <;> rfl
theorem qqO (w : World) (L : List Sl) (i : Nat) (h : i < L.length) : (part 99 (sls L).toArray (i * 5)).run Tryz.prog w = .ok (slV L[i]) w := by
 have hz : (sizeOf 99).run Tryz.prog w = .ok 5 w := by
  obtain ⟨i0, hi, _, h5, _⟩ := info_parts Tryz.infoSlot
  simp [sizeOf, typeInfo, hi, h5]
 have ha : (isAgg 99).run Tryz.prog w = .ok true w := by
  unfold isAgg
  rw [Sem.run_bind, run_underlying qnD w]
  rfl
 have he : (sls L).toArray.extract (i * 5) (i * 5 + 5) = #[.int .i64 L[i].gen, .bool L[i].used, .string L[i].key, .string L[i].val, .int .i64 L[i].next] := by
  apply Array.ext_getElem?
  intro j
  rw [Array.getElem?_extract]
  have hl : (sls L).toArray.size = L.length * 5 := by simp [qaL]
  by_cases hj : j < 5
  ·rw [if_pos (by rw [hl]; omega), List.getElem?_toArray, qjN L i j h hj]
   match j, hj with
   | 0, _ => rfl
   | 1, _ => rfl
   | 2, _ => rfl
   | 3, _ => rfl
   | 4, _ => rfl
  ·rw [if_neg (by rw [hl]; omega), Array.getElem?_eq_none (by simp; omega)]
 unfold part slV
 simp only [Sem.run_bind, ha, Result.andThen_ok, if_true, hz, he, Sem.run_pure]
def zcV (A B : List Sl) (n : Nat) : Bool := (List.range n).all fun i => match A[i]?, B[i]? with | some a, some b => zbG a b | _, _ => false
theorem qoT : ∀ (A B : List Sl), A.length = B.length -> (zcV A B A.length = true ↔ A = B)
 | [], [], _ => by simp [zcV]
 | a :: A, b :: B, h => by
  have ih := qoT A B (by simpa using h)
  unfold zcV at ih ⊢
  rw [List.length_cons, List.range_succ_eq_map, List.all_cons, List.all_map, Bool.and_eq_true]
  simp only [List.getElem?_cons_zero, Function.comp_def, List.getElem?_cons_succ]
  rw [ih, zaJ, List.cons.injEq]
 | [], _ :: _, h => by simp at h
 | _ :: _, [], h => by simp at h
theorem zbI (d : Nat) (A B : List Sl) (hA : A.length = 24) (hB : B.length = 24) (w : World) : (Op.equalIn (d + 3) 152 (.agg (sls A).toArray) (.agg (sls B).toArray)).run Tryz.prog w = .ok (zcV A B 24) w := by
 have ht : Tryz.prog.underlying 152 = some (.array 24 99) := Tryz.underlying152
 have hz : ∀ w, (sizeOf 99).run Tryz.prog w = .ok 5 w := by
  obtain ⟨i0, hi, _, h5, _⟩ := info_parts Tryz.infoSlot
  intro w
  simp [sizeOf, typeInfo, hi, h5]
 rw [zcV, List.range_eq_range', Op.equalIn]
 simp only [Sem.run_bind, run_underlying ht, Result.andThen_ok, hz, Std.Legacy.Range.forIn_eq_forIn_range', Std.Legacy.Range.size, Nat.sub_zero, Nat.add_sub_cancel, Nat.div_one]
 have hl : ∀ i ∈ List.range' 0 24 1, i < 24 := fun i hi => by simpa using (List.mem_range'_1.1 hi).2
 generalize List.range' 0 24 1 = l at hl ⊢
 induction l with
 | nil => simp
 | cons i l ih =>
  have hi : i < 24 := hl i (by simp)
  have px := qqO w A i (by omega)
  have py := qqO w B i (by omega)
  have pe := zcK d (A[i]'(by omega)) (B[i]'(by omega)) w
  simp only [List.forIn_cons, Sem.run_bind, px, py, pe, Result.andThen_ok, List.all_cons, List.getElem?_eq_getElem (show i < A.length by omega), List.getElem?_eq_getElem (show i < B.length by omega)]
  cases hb : zbG (A[i]'(by omega)) (B[i]'(by omega))
  ·simp
  ·simp only [Bool.not_true, Bool.false_eq_true, if_false, Sem.run_pure, Result.andThen_ok, Bool.true_and]
   exact ih fun j hj => hl j (by simp [hj])
theorem qxG {P : Program} (w : World) (dT sT ty elem : TypeId) (g o dLen dCap : Nat) (a : Addr) (sLen sCap : Nat) (cur : Array Value) (t : TypeId) (cs : List Value)
  (hu : P.underlying dT = some (.slice elem)) (hs : (P.info? elem).map (·.size) = some 5)
  (hg : w.heap[g]? = some (.cells cur t (0, 0))) (hn : cs.length = Nat.min sLen dLen * 5)
  (hsrc : ∀ j v, cs[j]? = some v -> w.cell? (a.add j) = some v) (hfit : o + cs.length <= cur.size) (h1 : ∀ v ∈ cs, v.oneCell' = true) :
  (Builtin.copy_ #[dT, sT] ty #[.slice (some ⟨g, o, none⟩) dLen dCap, .slice (some a) sLen sCap]).run P w =
   .ok (goInt (Nat.min sLen dLen)) (w.setRow g (cur.toList.take o ++ cs ++ cur.toList.drop (o + cs.length)).toArray) := by
 have hl := run_loadCells_list (P := P) w a cs hsrc
 have hst := run_storeCells_at P g o t cs 0 cur w hg (by simpa using hfit) h1
 cases hq : P.info? elem with
 | none => simp [hq] at hs
 | some i =>
  have hi : i.size = 5 := by simpa [hq] using hs
  rw [hn] at hl
  simp [Builtin.copy_, run_underlying hu, Builtin.lenOf, Builtin.firstCells, sizeOf, typeInfo, hq, hi, hl, hst]
theorem zbV (l : List Sl) : ∀ v ∈ sls l, v.oneCell' = true := by
 intro v hv
 obtain ⟨s, _, hs⟩ := List.mem_flatMap.1 hv
 simp only [slC, List.mem_cons, List.not_mem_nil, or_false] at hs
 rcases hs with rfl | rfl | rfl | rfl | rfl <;> rfl
theorem qxM {w : World} {g : Nat} {l : List Sl} (h : ∀ i (h : i < l.length), slotAt w g i l[i]) (j : Nat) (v : Value) (hv : (sls l)[j]? = some v) : w.cell? ⟨g, j, none⟩ = some v := by
 have hj : j < l.length * 5 := by
  have := (List.getElem?_eq_some_iff.1 hv).1
  rw [qaL] at this
  exact this
 have hi : j / 5 < l.length := by omega
 have h5 : j % 5 < 5 := Nat.mod_lt _ (by decide)
 have e := qjN l (j / 5) (j % 5) hi h5
 rw [show j / 5 * 5 + j % 5 = j by omega, hv] at e
 obtain ⟨x0, x1, x2, x3, x4⟩ := h (j / 5) hi
 rw [e, show (⟨g, j, none⟩ : Addr) = ⟨g, j / 5 * 5 + j % 5, none⟩ by rw [show j / 5 * 5 + j % 5 = j by omega]]
 generalize j % 5 = k at h5 e ⊢
 match k, h5 with
 | 0, _ => exact x0
 | 1, _ => exact x1
 | 2, _ => exact x2
 | 3, _ => exact x3
 | 4, _ => exact x4
theorem qnP {ops : Array Oper} {o : Oper} {a : Act} {w : World} {K : Act -> World -> Prop} {Q : Exit -> Act -> World -> Prop} {E : Prop} (hgd : o.guard = none) (d s : Operand)
  (ho : o.op = .call { callee := .builtin .copy, args := #[d, s], argTypes := #[24, 24] }) (r ca : Nat) (l : List Sl) (ao : Option Addr)
  (hd : a.eval d = .slice (some ⟨r, 1, none⟩) 24 24) (hs : a.eval s = .slice ao l.length ca) (hR : RoomAt w r l.length (List.replicate 24 zS) none) (hA : RdA w ao l) (h1 : 1 <= l.length) (h2 : l.length <= 24)
  (h : ∀ w', RoomAt w' r l.length (qaH l) none -> Below r w w' -> K (a.put o.dst (.int .i64 (l.length : Int))) w') :
  if Region.wanted o (yielded ops a.tmps) = true then Oper.wp Tryz.prog o a w K Q else E := by
 have hw : Region.wanted o (yielded ops a.tmps) = true := by simp [Region.wanted, hgd]
 rw [if_pos hw]
 obtain ⟨g, rfl, hg, _⟩ := hA.at 0 (by omega)
 have hAt : ∀ i (h : i < l.length), slotAt w g i l[i] := fun i hi => by obtain ⟨g', e, _, h⟩ := hA.at i hi; simp at e; subst e; exact h
 obtain ⟨i0, hi0, _, h5, _⟩ := info_parts Tryz.infoSlot
 have hRb : w.heap[r]? = some (.cells (qcU l.length (List.replicate 24 zS) none).toArray 155 (0, 0)) := hR
 have hl : (sls l).length = l.length * 5 := qaL l
 have hz : (qcU l.length (List.replicate 24 zS) none).length = 122 := qqJ (by simp)
 have hrun := qxG (P := Tryz.prog) w 24 24 o.type 99 r 1 24 24 ⟨g, 0, none⟩ l.length ca _ _ (sls l) Tryz.underlying24 (by rw [hi0]; simp [h5]) hRb (by rw [hl, show Nat.min l.length 24 = l.length from Nat.min_eq_left h2])
  (fun j v hv => by rw [Addr.add_lit, Nat.zero_add]; exact qxM hAt j v hv) (by rw [List.size_toArray, hz, hl]; omega) (zbV l)
 have e : ((qcU l.length (List.replicate 24 zS) none).toArray.toList.take 1 ++ sls l ++ (qcU l.length (List.replicate 24 zS) none).toArray.toList.drop (1 + (sls l).length)) = qcU l.length (qaH l) none := by
  rw [List.toList_toArray, hl, qcU, qcU, show 1 + l.length * 5 = l.length * 5 + 1 by omega, List.drop_succ_cons, List.take_succ_cons, List.take_zero]
  have hsp : sls (List.replicate 24 zS) = sls (List.replicate l.length zS) ++ sls (List.replicate (24 - l.length) zS) := by
   rw [<- qgE, List.replicate_append_replicate, show l.length + (24 - l.length) = 24 by omega]
  have hdr : (sls (List.replicate 24 zS) ++ [Value.pointer none]).drop (l.length * 5) = sls (List.replicate (24 - l.length) zS) ++ [Value.pointer none] := by
   rw [hsp, List.append_assoc, List.drop_left' (by rw [qaL, List.length_replicate])]
  rw [hdr, qaH, qgE]
  simp
 rw [e, show Nat.min l.length 24 = l.length from Nat.min_eq_left h2] at hrun
 unfold Oper.wp
 simp only [execOp, ho, resolve, invoke, builtin, Sem.run_bind, Sem.run_pure, Result.andThen_ok, List.map_toArray, List.map_cons, List.map_nil, hd, hs, hrun]
 exact h _ (setRow_heap w r _ _ _ _ hRb) ⟨rfl, rfl, rfl, by simp, fun k hk => setRow_other _ _ _ _ (by omega)⟩
theorem RoomAt.range {w : World} {r n : Nat} {L : List Sl} {p : Option Addr} (hR : RoomAt w r n L p) : w.rangeAt r 1 (sls L) := by
 intro j v hv
 rw [Blk.cell hR, qcU, show 1 + j = j + 1 by omega, List.getElem?_cons_succ, List.getElem?_append_left (List.getElem?_eq_some_iff.1 hv).1]
 exact hv
def qgF (s : Sl) : Prop := 0 <= s.gen /\ s.gen <= 41666665 /\ (s.used = true -> 1 <= s.key.size /\ s.key.size <= 12 /\ s.val.size <= 20)
theorem OkA.fits {l : List Sl} {f : Int} (h : OkA l f) (i : Nat) (hi : i < l.length) : qgF l[i] := by
 have := h.slots i hi
 exact ⟨this.1, this.2.1, fun hu => ⟨(this.2.2.1 hu).1, (this.2.2.1 hu).2.1, (this.2.2.1 hu).2.2.1⟩⟩
def RoomRes (w w' : World) (e : Ending) (l : List Sl) (f : Int) : Prop :=
 ((∃ (r : Nat) (p : Option Addr) (V : List Nat), e = .returned (.tuple #[.pointer (some ⟨r, 0, none⟩), .bool true]) /\ w.heap.size <= r /\ OkA l f /\ Chain l f V /\ RoomAt w' r l.length (qaH l) p /\ Lnk w' r p V) ∨ (e = .returned (.tuple #[.pointer none, .bool false]) /\ ¬ OkA l f)) /\ Below w.heap.size w w'
theorem RoomRes.no {w w' : World} {l : List Sl} {f : Int} (h : ¬ OkA l f) (hb : Below w.heap.size w w') : RoomRes w w' (.returned (.tuple #[.pointer none, .bool false])) l f := ⟨.inr ⟨rfl, h⟩, hb⟩
theorem RoomRes.yes {w w' : World} {l : List Sl} {f : Int} {r : Nat} {p : Option Addr} {V : List Nat} (hr : w.heap.size <= r) (h : OkA l f) (hc : Chain l f V) (h1 : RoomAt w' r l.length (qaH l) p) (h2 : Lnk w' r p V) (hb : Below w.heap.size w w') : RoomRes w w' (.returned (.tuple #[.pointer (some ⟨r, 0, none⟩), .bool true])) l f := ⟨.inl ⟨r, p, V, rfl, hr, h, hc, h1, h2⟩, hb⟩
theorem qdU (ao : Option Addr) (l : List Sl) (ca : Nat) (f : Int) (w : World) (hl : l.length <= 1048576) (hA : RdA w ao l) :
  Calls Tryz.prog 114 #[arV ao l.length ca f] w fun e w' => RoomRes w w' e l f := by
 unfold arV
 by_cases c1 : 1 <= l.length
 ·by_cases c2 : l.length <= 24
  ·have q1 : decide ((l.length : Int) < 1) = false := decide_eq_false (by omega)
   have q2 : decide ((24 : Int) < (l.length : Int)) = false := decide_eq_false (by omega)
   obtain ⟨hz, _⟩ := zero_of_info Tryz.infoRoom
   obtain ⟨Z, hZ⟩ : ∃ Z, Z = (qcU 0 (List.replicate 24 zS) none).toArray := ⟨_, rfl⟩
   rw [<- hZ] at hz
   have hne : ¬ Z = #[] := by rw [hZ]; intro e; have := congrArg Array.size e; simp [qcU] at this
   have F0 : Hid (RoomAt ((w.alloc (.cells #[.slice ao l.length ca, .int .i64 f] 26)).alloc (.cells (Z.setIfInBounds 0 (.int .i64 (l.length : Int))) 155)) (w.heap.size + 1) l.length (List.replicate 24 zS) none /\ Blk ((w.alloc (.cells #[.slice ao l.length ca, .int .i64 f] 26)).alloc (.cells (Z.setIfInBounds 0 (.int .i64 (l.length : Int))) 155)) w.heap.size 26 [.slice ao l.length ca, .int .i64 f] /\ Below w.heap.size w ((w.alloc (.cells #[.slice ao l.length ca, .int .i64 f] 26)).alloc (.cells (Z.setIfInBounds 0 (.int .i64 (l.length : Int))) 155))) := by
    refine ⟨?_, Blk.more (Blk.new w _ _) _, qcF w _ _⟩
    have := Blk.new (w.alloc (.cells #[.slice ao l.length ca, .int .i64 f] 26)) 155 (Z.setIfInBounds 0 (.int .i64 (l.length : Int)))
    have e : (Z.setIfInBounds 0 (.int .i64 (l.length : Int))).toList = qcU l.length (List.replicate 24 zS) none := by rw [hZ, Array.toList_setIfInBounds, List.toList_toArray, qcU, List.set_cons_zero]; rfl
    rw [World.size_alloc, e] at this
    exact this
   have HA := hI hA
   clear hZ hA
   go_enter Tryz.func114, Tryz.ntmps114
   go_upto_region 4 with fail
   generalize ((w.alloc (.cells #[.slice ao l.length ca, .int .i64 f] 26)).alloc (.cells (Z.setIfInBounds 0 (.int .i64 (l.length : Int))) 155)) = wn at F0 ⊢
   obtain ⟨FR, FN, FB⟩ := F0.out
   have FR := hI FR
   have FN := hI FN
   have FB := hI FB
   have x0 : wn.cell? ⟨w.heap.size, 0, none⟩ = some (.slice ao l.length ca) := FN.out.cell 0
   have X0 := hI x0
   have hsn : Hid (w.heap.size + 1 < wn.heap.size) := FR.out.lt
   have AN := hI (HA.out.later FB.out)
   clear F0 hz hne
   go_region_held3 (fun w' => w'.cell? ⟨w.heap.size, 0, none⟩ = some (.slice ao l.length ca)) (first | exact X0.out | exact (hcb.cell (by dsimp only; omega)).trans X0.out | go_keep) ((refine qnP rfl (.tmp 25) (.tmp 27) rfl (w.heap.size + 1) ca l ao (by rfl) (by rfl) (Blk.below FR.out (Below.refl _ _).drew FR.out.lt) (AN.out.later (Below.refl _ _).drew) c1 c2 ?_; intro w4 hcr hcb))
   have R4 := hI hcr
   have N4 : Hid (Blk w4 w.heap.size 26 [.slice ao l.length ca, .int .i64 f]) := FN.out.below ((Below.refl _ _).drew.trans hcb) (by omega)
   have B4 : Hid (Below w.heap.size w w4) := FB.out.trans (((Below.refl _ _).drew.trans hcb).mono (by omega))
   have A4 := hI (HA.out.later B4.out)
   have z0 : w4.cell? ⟨w.heap.size, 0, none⟩ = some (.slice ao l.length ca) := N4.out.cell 0
   have hs4 : Hid (w.heap.size + 1 < w4.heap.size) := hcr.lt
   clear hcr hcb FR FN FB X0 x0 hsn AN
   go_wp2
   go_loopw [32] (fun iv wr => ∃ i : Nat, i <= l.length /\ iv = .int .i64 (i : Int) /\ Hid (∀ j (h : j < l.length), j < i -> qgF l[j]) /\ Hid (Below w4.heap.size w4 wr)) (fun iv _ => l.length - (intOf iv).toNat)
   case atStart => exact ⟨0, by omega, rfl, fun j _ h => by omega, Below.refl _ _⟩
   case round =>
    obtain ⟨i, hi, rfl, hfit, hbel⟩ := hrel
    by_cases hlt : i < l.length
    ·have k1 : (i : Int) < (l.length : Int) := by omega
     obtain ⟨g, rfl, hg, h1⟩ := A4.out.at i hlt
     obtain ⟨y0, y1, y2, y3, y4⟩ := h1.below hbel.out hg
     have hnot := hI (fun (h : ¬ qgF l[i]) (ho : OkA l f) => h (ho.fits i hlt))
     have hyes := hI (fun (h : qgF l[i]) j (hj : j < l.length) (hj2 : j < i + 1) => show qgF l[j] by
      by_cases e : j < i
      ·exact hfit.out j hj e
      ·obtain rfl : j = i := by omega
       exact h)
     generalize hs : l[i] = s at *
     clear hs h1
     obtain ⟨gn, us, ky, vl, nx⟩ := s
     simp only [qgF] at y0 y1 y2 y3 y4 hnot hyes
     have BW : Hid (Below w.heap.size w (wr.alloc (.cells #[.int .i64 gn, .bool us, .string ky, .string vl, .int .i64 nx] 99))) := (B4.out.trans (hbel.out.mono (by have := hs4.out; omega))).alloc (by have := hs4.out; have := hbel.out.size; omega) _
     have BX : Hid (Below w4.heap.size w4 (wr.alloc (.cells #[.int .i64 gn, .bool us, .string ky, .string vl, .int .i64 nx] 99))) := hbel.out.alloc hbel.out.size _
     have NN : Hid (slotAt (wr.alloc (.cells #[.int .i64 gn, .bool us, .string ky, .string vl, .int .i64 nx] 99)) wr.heap.size 0 ⟨gn, us, ky, vl, nx⟩) :=
      ⟨World.cell?_alloc_at _ _ _ _ rfl, World.cell?_alloc_at _ _ _ _ rfl, World.cell?_alloc_at _ _ _ _ rfl, World.cell?_alloc_at _ _ _ _ rfl, World.cell?_alloc_at _ _ _ _ rfl⟩
     go_upto_region 8 with fail
     generalize (wr.alloc (.cells #[.int .i64 gn, .bool us, .string ky, .string vl, .int .i64 nx] 99)) = wv at NN BW BX ⊢
     obtain ⟨n0, n1, n2, n3, n4⟩ := NN.out
     simp only [Nat.zero_mul, Nat.zero_add] at n0 n1 n2 n3 n4
     clear NN y0 y1 y2 y3 y4 hfit hbel
     by_cases d1 : gn < 0
     ·have q3 : decide (gn < 0) = true := decide_eq_true d1
      have HN := hI (hnot.out (fun h => by have := h.1; omega))
      clear d1 hyes hnot
      go_wp2
      go_ret2
      exact RoomRes.no HN.out BW.out
     ·have q3 : decide (gn < 0) = false := decide_eq_false d1
      by_cases d2 : 41666665 < gn
      ·have q4 : decide (41666665 < gn) = true := decide_eq_true d2
       have HN := hI (hnot.out (fun h => by have := h.2.1; omega))
       clear d1 d2 hyes hnot
       go_wp2
       go_ret2
       exact RoomRes.no HN.out BW.out
      ·have q4 : decide (41666665 < gn) = false := decide_eq_false d2
       rcases us with _ | _
       ·have HY := hI (hyes.out ⟨by omega, by omega, fun h => by cases h⟩)
        clear d1 d2 hyes hnot
        go_wp2
        go_roundw
        case rel => exact ⟨i + 1, by omega, by go_num, HY, BX⟩
        case measure => simp [intOf]; omega
       ·have CF := hI (qkQ ky vl wv)
        rcases hf : fits ky vl with _ | _
        ·have HN := hI (hnot.out (fun h => by have := (qkP ky vl).2 (h.2.2 rfl); rw [hf] at this; cases this))
         rw [hf] at CF
         clear d1 d2 hyes hnot hf
         go_wp2_with fail
         refine CF.out.mono ?_
         rintro e w5 ⟨rfl, rfl⟩
         go_wp2
         go_ret2
         exact RoomRes.no HN.out BW.out
        ·have HY := hI (hyes.out ⟨by omega, by omega, fun _ => (qkP ky vl).1 hf⟩)
         rw [hf] at CF
         clear d1 d2 hyes hnot hf
         go_wp2_with fail
         refine CF.out.mono ?_
         rintro e w5 ⟨rfl, rfl⟩
         go_wp2
         go_roundw
         case rel => exact ⟨i + 1, by omega, by go_num, HY, BX⟩
         case measure => simp [intOf]; omega
    ·obtain rfl : i = l.length := by omega
     have R5 := hI (R4.out.below hbel.out hs4.out)
     have B5 : Hid (Below w.heap.size w wr) := B4.out.trans (hbel.out.mono (by have := hs4.out; omega))
     have N5 := hI (N4.out.below hbel.out (by have := hs4.out; omega))
     have HF := hI (fun j (hj : j < l.length) => hfit.out j hj hj)
     have HL := hI (qaC c2)
     have v1 : wr.cell? ⟨w.heap.size, 1, none⟩ = some (.int .i64 f) := N5.out.cell 1
     have hs5 : Hid (w.heap.size + 1 < wr.heap.size) := R5.out.lt
     clear hbel hfit R4 N4 B4 A4 z0 hs4
     generalize wr = w5 at *
     have V1 := hI v1
     have LD0 := hI R5.out.range
     have hu50 := Tryz.underlying152
     have hi50 : (Tryz.prog.info? 152).map (·.size) = some (sls (qaH l)).length := by rw [(zero_of_info Tryz.infoArr).2, qaL, HL.out]
     have CL := hI (fun w' (hw : w'.heap = w5.heap) => qzS (w := w') (r := w.heap.size + 1) (l := l) f (by unfold RoomAt Blk; rw [hw]; exact R5.out) c2)
     by_cases hch : ∃ V, Chain l f V
     ·obtain ⟨V, hV⟩ := hch
      have HC := hI hV
      have hVlt := hI (fun k hk => Nat.lt_of_lt_of_le (hV.lt k hk) c2)
      have CL2 : Hid (∀ w', w'.heap = w5.heap -> Calls Tryz.prog 160 #[.pointer (some ⟨w.heap.size + 1, 0, none⟩), .int .i64 f] w' fun e w6 => e = .returned (.bool true) /\ (∃ p, RoomAt w6 (w.heap.size + 1) l.length (qaH l) p /\ Lnk w6 (w.heap.size + 1) p V) /\ Below (w.heap.size + 1) w' w6) := by
       intro w' hw
       refine (CL.out w' hw).mono ?_
       rintro e w6 ⟨⟨V', p, rfl, hc, hr, hk⟩ | ⟨_, hno⟩, hb⟩
       ·have := Chain.det hc hV
        subst this
        exact ⟨rfl, ⟨p, hr, hk⟩, hb⟩
       ·exact absurd hV (hno V)
      have gA := zaD
      rcases hq : zcV (wrt (qaH l) l.length V) (qaH l) 24 with _ | _
      ·have HN : Hid (¬ OkA l f) := fun ho => by
        have hw := qtU ho hV (qaC c2) (fun i hi => ⟨l[i], qdQ i hi, rfl, fun _ => ⟨rfl, rfl⟩⟩)
        have := (qoT (wrt (qaH l) l.length V) (qaH l) (by rw [hw])).2 hw
        rw [hw, qaC c2] at this
        rw [hw] at hq
        rw [hq] at this
        cases this
       have heq : ∀ w, (Op.equalIn 10000 152 (.agg (sls (wrt (qaH l) l.length V)).toArray) (.agg (sls (qaH l)).toArray)).run Tryz.prog w = .ok false w := fun w => by
        rw [<- hq]
        exact zbI 9997 _ _ (by rw [wrt, qcW, qbU (qaC c2) c2]) (qaC c2) w
       clear hV hq CL
       go_upto_region 11 with fail
       go_region_held3 (fun w' => w'.cell? ⟨w.heap.size, 1, none⟩ = some (.int .i64 f) /\ w'.rangeAt (w.heap.size + 1) 1 (sls (qaH l))) (first | exact ⟨(HB7.cell (by dsimp only; omega)).trans V1.out, HR7.range⟩ | exact ⟨V1.out, RoomAt.range (Blk.below R5.out (Below.refl _ _).drew R5.out.lt)⟩ | exact ⟨V1.out, LD0.out⟩) ((first | (go_at_call 160; refine (CL2.out w5.drew rfl).mono ?_; rintro e w6 ⟨rfl, ⟨p, hr6, hk6⟩, hb6⟩; have HR7 := hr6; have HB7 : Below (w.heap.size + 1) w5 w6 := (Below.refl _ _).drew.trans hb6) | (go_at_call 161; refine (qgU hr6 HL.out c2 hk6 hVlt.out).mono ?_; rintro e w7 ⟨rfl, hb7⟩; have HR7 := hr6.below hb7 hr6.lt; have HB7 : Below (w.heap.size + 1) w5 w7 := HB7.trans (hb7.mono (by have := hr6.lt; omega)))))
       go_wp2
       go_ret2
       exact RoomRes.no HN.out (B5.out.trans (HB7.mono (by omega)))
      ·have HO : Hid (OkA l f) := by
        have hw := (qoT (wrt (qaH l) l.length V) (qaH l) (by rw [wrt, qcW, qbU (qaC c2) c2, qaC c2])).1 (by rw [wrt, qcW, qbU (qaC c2) c2]; exact hq)
        exact zcW hV c1 c2 (fun i hi => HF.out i hi) hw
       have heq : ∀ w, (Op.equalIn 10000 152 (.agg (sls (wrt (qaH l) l.length V)).toArray) (.agg (sls (qaH l)).toArray)).run Tryz.prog w = .ok true w := fun w => by
        rw [<- hq]
        exact zbI 9997 _ _ (by rw [wrt, qcW, qbU (qaC c2) c2]) (qaC c2) w
       clear hV hq CL
       go_upto_region 11 with fail
       go_region_held3 (fun w' => w'.cell? ⟨w.heap.size, 1, none⟩ = some (.int .i64 f) /\ w'.rangeAt (w.heap.size + 1) 1 (sls (qaH l))) (first | exact ⟨(HB7.cell (by dsimp only; omega)).trans V1.out, HR7.range⟩ | exact ⟨V1.out, RoomAt.range (Blk.below R5.out (Below.refl _ _).drew R5.out.lt)⟩ | exact ⟨V1.out, LD0.out⟩) ((first | (go_at_call 160; refine (CL2.out w5.drew rfl).mono ?_; rintro e w6 ⟨rfl, ⟨p, hr6, hk6⟩, hb6⟩; have HR7 := hr6; have HB7 : Below (w.heap.size + 1) w5 w6 := (Below.refl _ _).drew.trans hb6) | (go_at_call 161; refine (qgU hr6 HL.out c2 hk6 hVlt.out).mono ?_; rintro e w7 ⟨rfl, hb7⟩; have HR7 := hr6.below hb7 hr6.lt; have HB7 : Below (w.heap.size + 1) w5 w7 := HB7.trans (hb7.mono (by have := hr6.lt; omega)))))
       go_wp2
       go_ret2
       exact RoomRes.yes (Nat.le_succ _) HO.out HC.out HR7 (hk6.below hb7) (B5.out.trans (HB7.mono (by omega)))
     ·have HN : Hid (¬ OkA l f) := fun ho => by
       obtain ⟨V, hV, _⟩ := ho.chain
       exact hch ⟨V, hV⟩
      have CL2 : Hid (∀ w', w'.heap = w5.heap -> Calls Tryz.prog 160 #[.pointer (some ⟨w.heap.size + 1, 0, none⟩), .int .i64 f] w' fun e w6 => e = .returned (.bool false) /\ Below (w.heap.size + 1) w' w6) := by
       intro w' hw
       refine (CL.out w' hw).mono ?_
       rintro e w6 ⟨⟨V', p, rfl, hc, hr, hk⟩ | ⟨rfl, hno⟩, hb⟩
       ·exact absurd ⟨V', hc⟩ hch
       ·exact ⟨rfl, hb⟩
      clear hch CL
      go_upto_region 11 with fail
      first | go_region_with (go_at_call 160; refine (CL2.out w5.drew rfl).mono ?_; rintro e w6 ⟨rfl, hb6⟩; have HB7 : Below (w.heap.size + 1) w5 w6 := (Below.refl _ _).drew.trans hb6) | fail
      all_goals
       go_wp2
       go_ret2
       exact RoomRes.no HN.out (B5.out.trans (HB7.mono (by omega)))
  ·have q1 : decide ((l.length : Int) < 1) = false := decide_eq_false (by omega)
   have q2 : decide ((24 : Int) < (l.length : Int)) = true := decide_eq_true (by omega)
   have HN : Hid (¬ OkA l f) := fun h => c2 h.most
   clear hA c1 c2
   go_enter Tryz.func114, Tryz.ntmps114
   go_wp2
   go_ret2
   exact RoomRes.no HN.out (by go_grown)
 ·have q1 : decide ((l.length : Int) < 1) = true := decide_eq_true (by omega)
  have HN : Hid (¬ OkA l f) := fun h => c1 h.least
  clear hA c1
  go_enter Tryz.func114, Tryz.ntmps114
  go_wp2
  go_ret2
  exact RoomRes.no HN.out (by go_grown)
end Go.Proofs.YtigpjmmfelndkaaGreatDoor
