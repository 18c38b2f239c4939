/- The contract of the function that gives out what is in a room. -/
import Derived.Test.YtcbfceefhoeooaaRoomW
import Derived.Test.YtcbfceefhoeooaaArenaW
namespace Go.Proofs.Ytcbfceefhoeooaa
open Go.RowKit

theorem ones_sls (l : List Sl) : (sls l).toArray.all (·.oneCell') = true := by
  rw [List.all_toArray, List.all_eq_true]
  intro v hv
  obtain ⟨s, _, hs⟩ := List.mem_flatMap.1 hv
  simp only [slC, List.mem_cons, List.not_mem_nil, or_false] at hs
  rcases hs with rfl | rfl | rfl | rfl | rfl <;> rfl

theorem wpList_store_row {P : Program} {ops : Array Oper} {rest : List Oper} {o : Oper} {a : Act} {w : World} {Q : Exit → Act → World → Prop} (hgd : o.guard = none) (ty : TypeId) (x y : Operand) (ho : o.op = .store ty x y)
    (g : Nat) (cells : Array Value) (hx : a.eval x = .pointer (some ⟨g, 0, none⟩)) (hy : a.eval y = .agg cells)
    (t : TypeId) (old : Array Value) (hg : w.heap[g]? = some (.cells old t (0, 0))) (hi : (P.info? ty).map (·.size) = some cells.size)
    (hold : old.size = cells.size) (h1 : cells.all (·.oneCell') = true)
    (h : wpList P ops Q rest (a.put o.dst undef) (w.setRow g cells)) : wpList P ops Q (o :: rest) a w :=
  wpList_plain hgd fun _ hK => wp_store_row ty x y ho g cells hx hy t old hg hi hold h1 (hK _ _ h)

theorem keep2 {w : World} {B : Nat} {ky vl : ByteArray} (h : w.cell? ⟨B, 2, none⟩ = some (.string ky) ∧ w.cell? ⟨B, 3, none⟩ = some (.string vl) ∧ w.frozen? ⟨B, 2, none⟩ = false ∧ w.frozen? ⟨B, 3, none⟩ = false) :
    (w.setCell ⟨B, 2, none⟩ (.string ky)).cell? ⟨B, 2, none⟩ = some (.string ky) ∧ (w.setCell ⟨B, 2, none⟩ (.string ky)).cell? ⟨B, 3, none⟩ = some (.string vl) ∧ (w.setCell ⟨B, 2, none⟩ (.string ky)).frozen? ⟨B, 2, none⟩ = false ∧ (w.setCell ⟨B, 2, none⟩ (.string ky)).frozen? ⟨B, 3, none⟩ = false :=
  ⟨World.cell?_setCell_same _ _ _ h.1, (World.cell?_setCell_other _ _ _ _ (by simp)).trans h.2.1, (World.frozen?_setCell ..).trans h.2.2.1, (World.frozen?_setCell ..).trans h.2.2.2⟩
theorem keep3 {w : World} {B : Nat} {ky vl : ByteArray} (h : w.cell? ⟨B, 2, none⟩ = some (.string ky) ∧ w.cell? ⟨B, 3, none⟩ = some (.string vl) ∧ w.frozen? ⟨B, 2, none⟩ = false ∧ w.frozen? ⟨B, 3, none⟩ = false) :
    (w.setCell ⟨B, 3, none⟩ (.string vl)).cell? ⟨B, 2, none⟩ = some (.string ky) ∧ (w.setCell ⟨B, 3, none⟩ (.string vl)).cell? ⟨B, 3, none⟩ = some (.string vl) ∧ (w.setCell ⟨B, 3, none⟩ (.string vl)).frozen? ⟨B, 2, none⟩ = false ∧ (w.setCell ⟨B, 3, none⟩ (.string vl)).frozen? ⟨B, 3, none⟩ = false :=
  ⟨(World.cell?_setCell_other _ _ _ _ (by simp)).trans h.1, World.cell?_setCell_same _ _ _ h.2.1, (World.frozen?_setCell ..).trans h.2.2.1, (World.frozen?_setCell ..).trans h.2.2.2⟩

set_option maxRecDepth 100000 in
set_option maxHeartbeats 2000000 in
theorem arena_any {w : World} {r : Nat} {L M : List Sl} {p : Option Addr} {V : List Nat} (h : RoomAt w r M.length L p) (hL : L.length = 24) (h1 : 1 ≤ M.length) (hn : M.length ≤ 24) (hl : Lnk w r p V) (hV : ∀ k ∈ V, k < 24) (hM : wrt L M.length V = fillup M) :
    Calls Try.prog 22 #[.pointer (some ⟨r, 0, none⟩)] w fun e w' => ∃ b c, e = .returned (arV (some ⟨b, 0, none⟩) M.length c (hdI V)) ∧ w'.ownsRow w.heap.size 40 5 (.slice (some ⟨b, 0, none⟩) M.length c) M.length (sls M) ∧ Below w.heap.size w w' := by
  obtain ⟨i0, hi0, hz0, hz1, hz2⟩ := info_parts Try.infoSlot
  obtain ⟨hz, hzs⟩ := zero_of_info Try.infoArr
  obtain ⟨Z, hZ⟩ : ∃ Z, Z = (sls (List.replicate 24 zS)).toArray := ⟨_, rfl⟩
  rw [← hZ] at hz
  have hZs : Hid (Z.size = 120) := by show Z.size = 120; rw [hZ]; simp [sls_length]
  have CW := hide1 (fun o => written_any (w := w.alloc o) (Blk.more h o) hL hn (hl.below ((Below.refl _ _).alloc (Nat.le_refl _) o)) hV)
  rw [hM] at CW
  have HR := hide1 h
  have HL := hide1 hL
  have HK := hide1 hl
  have hr := h.lt
  have hFs : Hid ((sls (fillup M)).toArray.size = 120) := by show _ = _; simp [sls_length, fillup_length hn]
  have hFz : Hid ((Try.prog.info? 51).map (·.size) = some (sls (fillup M)).toArray.size) := by show _ = _; rw [hzs, hFs.out]
  have hF1 := hide1 (ones_sls (fillup M))
  have hFi := hide1 (fun i (hi : i < M.length) => fillup_at i hi)
  have hFl := hide1 (fillup_length hn)
  have n1 : (M.length : Int) ≤ 24 := by omega
  clear h hL hl hV hM hZ hzs
  unfold arV
  go_enter Try.func22, Try.ntmps22
  go_wp2_with fail
  refine (CW.out _).mono ?_
  rintro e w1 ⟨rfl, hb1⟩
  have F1 : Hid (Blk (w1.alloc (.cells (sls (fillup M)).toArray 51)) w1.heap.size 51 (sls (fillup M)) ∧ Blk (w1.alloc (.cells (sls (fillup M)).toArray 51)) w.heap.size 26 [.slice none 0 0, .int .i64 0] ∧ Below w.heap.size w (w1.alloc (.cells (sls (fillup M)).toArray 51)) ∧ w.heap.size < w1.heap.size) := by
    have hs : w.heap.size < w1.heap.size := by have := hb1.size; rw [World.size_alloc] at this; omega
    refine ⟨?_, ?_, (below_box hb1).alloc (by omega) _, hs⟩
    · have := Blk.new w1 51 (sls (fillup M)).toArray
      rw [List.toList_toArray] at this
      exact this
    · exact Blk.more (Blk.below (Blk.new w 26 #[.slice none 0 0, .int .i64 0]) hb1 (by rw [World.size_alloc]; omega)) _
  clear hb1 CW
  go_wp2_with (first | (at_make; (refine wpList_make_full _ rfl _ _ 24 rfl w2.heap.size 40 i0 (slV zS) 5 Try.underlying24 hi0 hz0 hz1 _ _ _ _ M.length rfl rfl rfl rfl (by rw [hz2]; omega) (by unfold maxLen; omega) (Nat.le_refl _) ?_; intro w3 hown0 hg0; have x3 : w3.cell? ⟨r, 0, none⟩ = some (.int .i64 (M.length : Int)) := hg0.cell x0 (by simp))) | (refine wpList_store_row rfl 51 _ _ rfl w1.heap.size (sls (fillup M)).toArray rfl rfl 51 Z (heap_alloc_last _ _) hFz.out (hZs.out.trans hFs.out.symm) hF1.out ?_; rw [World.setRow_alloc_new]; generalize (w1.alloc (.cells (sls (fillup M)).toArray 51)) = w2 at F1 ⊢; have x0 : w2.cell? ⟨r, 0, none⟩ = some (.int .i64 (M.length : Int)) := (HR.out.below F1.out.2.2.1 hr).size))
  rw [made5] at hown0
  have HO := hide1 hown0
  obtain ⟨FB, FN, FW, Fs⟩ := F1.out
  have FB := hide1 FB
  have FN := hide1 FN
  have FW := hide1 FW
  have B3 : Hid (Below w2.heap.size w2 w3) := Below.grown (Below.refl _ _) hg0 (Nat.le_refl _) (by intro k hk; cases hk)
  have hs2 : Hid (w1.heap.size < w2.heap.size) := FB.out.lt
  clear hown0 hg0 F1 x0 x3 hz hZs hFz hF1 hFs
  go_loopw [20] (fun iv wr => ∃ i : Nat, i ≤ M.length ∧ iv = .int .i64 (i : Int) ∧ Hid (wr.ownsRow w2.heap.size 40 5 (.slice (some ⟨w2.heap.size, 0, none⟩) M.length M.length) M.length (sls (M.take i ++ List.replicate (M.length - i) zS))) ∧ Hid (Below w2.heap.size w2 wr)) (fun iv _ => M.length - (intOf iv).toNat)
  case atStart => exact ⟨0, by omega, rfl, by have := HO.out; simpa [Hid] using this, B3⟩
  case round =>
    obtain ⟨i, hi, rfl, hown, hbel⟩ := hrel
    by_cases hlt : i < M.length
    · have k1 : (i : Int) < (M.length : Int) := by omega
      have k2 : (i : Int) < 24 := by omega
      obtain ⟨y0, y1, y2, y3, y4⟩ := (FB.out.below hbel.out hs2.out).at5 i (by rw [hFl.out]; omega)
      have hsl : Hid ((fillup M)[i]'(by rw [hFl.out]; omega) = M[i]) := by
        have := hFi.out i hlt
        rw [List.getElem?_eq_getElem (by rw [hFl.out]; omega)] at this
        exact Option.some.inj this
      rw [hsl.out] at y0 y1 y2 y3 y4
      generalize hs : M[i] = s at *
      have HS := hide1 hs
      clear hs hsl
      obtain ⟨gn, us, ky, vl, nx⟩ := s
      simp only at y0 y1 y2 y3 y4
      have NN : Hid (slotAt (wr.alloc (.cells #[.int .i64 gn, .bool us, .string ky, .string vl, .int .i64 nx] 40)) wr.heap.size 0 ⟨gn, us, ky, vl, nx⟩ ∧ (∀ j, (wr.alloc (.cells #[.int .i64 gn, .bool us, .string ky, .string vl, .int .i64 nx] 40)).frozen? ⟨wr.heap.size, j, none⟩ = false) ∧ Below wr.heap.size wr (wr.alloc (.cells #[.int .i64 gn, .bool us, .string ky, .string vl, .int .i64 nx] 40)) ∧ wr.heap.size < (wr.alloc (.cells #[.int .i64 gn, .bool us, .string ky, .string vl, .int .i64 nx] 40)).heap.size) :=
        ⟨⟨World.cell?_alloc_at _ _ _ _ rfl, World.cell?_alloc_at _ _ _ _ rfl, World.cell?_alloc_at _ _ _ _ rfl, World.cell?_alloc_at _ _ _ _ rfl, World.cell?_alloc_at _ _ _ _ rfl⟩, fun j => World.frozen?_alloc_at _ _ _ _ rfl, (Below.refl _ _).alloc (Nat.le_refl _) _, by rw [World.size_alloc]; omega⟩
      go_upto_region 6 with fail
      generalize (wr.alloc (.cells #[.int .i64 gn, .bool us, .string ky, .string vl, .int .i64 nx] 40)) = wn at NN ⊢
      clear y0 y1 y2 y3 y4
      obtain ⟨⟨n0, n1, n2, n3, n4⟩, nf, nb, nl⟩ := NN.out
      simp only [Nat.zero_mul, Nat.zero_add] at n0 n1 n2 n3 n4
      have NB := hide1 nb
      have N5 := hide1 (And.intro n2 (And.intro n3 (And.intro (nf 2) (nf 3))))
      clear nb NN nf n2 n3
      go_region_held3 (fun w' => w'.cell? ⟨wr.heap.size, 2, none⟩ = some (.string ky) ∧ w'.cell? ⟨wr.heap.size, 3, none⟩ = some (.string vl) ∧ w'.frozen? ⟨wr.heap.size, 2, none⟩ = false ∧ w'.frozen? ⟨wr.heap.size, 3, none⟩ = false) (((try simp only [World.cell?_drew, World.frozen?_drew]); first | exact keep3 (keep2 ⟨(HBc.cell nl).trans N5.out.1, (HBc.cell nl).trans N5.out.2.1, (HBc.frozen nl).trans N5.out.2.2.1, (HBc.frozen nl).trans N5.out.2.2.2⟩) | exact keep2 (keep3 ⟨(HBc.cell nl).trans N5.out.1, (HBc.cell nl).trans N5.out.2.1, (HBc.frozen nl).trans N5.out.2.2.1, (HBc.frozen nl).trans N5.out.2.2.2⟩) | exact keep2 ⟨(HBc.cell nl).trans N5.out.1, (HBc.cell nl).trans N5.out.2.1, (HBc.frozen nl).trans N5.out.2.2.1, (HBc.frozen nl).trans N5.out.2.2.2⟩ | exact keep3 ⟨(HBc.cell nl).trans N5.out.1, (HBc.cell nl).trans N5.out.2.1, (HBc.frozen nl).trans N5.out.2.2.1, (HBc.frozen nl).trans N5.out.2.2.2⟩ | exact ⟨(HBc.cell nl).trans N5.out.1, (HBc.cell nl).trans N5.out.2.1, (HBc.frozen nl).trans N5.out.2.2.1, (HBc.frozen nl).trans N5.out.2.2.2⟩ | exact N5.out)) ((go_at_call 25; refine (newT_any _ _).mono ?_; rintro e wk ⟨rfl, hbk⟩; have HBc : Below wn.heap.size wn wk := (by first | exact HBc.trans (hbk.mono HBc.size) | exact HBc.drew.trans (hbk.mono HBc.size) | exact hbk | exact (Below.refl _ _).drew.trans hbk)))
      have BK : Below wr.heap.size wr wk := NB.out.trans (HBc.mono (by omega))
      have own2 : ((wk.setCell ⟨wr.heap.size, 2, none⟩ (.string ky)).setCell ⟨wr.heap.size, 3, none⟩ (.string vl)).ownsRow w2.heap.size 40 5 (.slice (some ⟨w2.heap.size, 0, none⟩) M.length M.length) M.length (sls (M.take i ++ List.replicate (M.length - i) zS)) := by
        have hk := own_kept hown.out BK
        have hne : ∀ k, (Value.slice (some ⟨w2.heap.size, 0, none⟩) M.length M.length).ownBlock = some k → k ≠ wr.heap.size := by
          intro k hk2
          have := (hown.out.lt k hk2).2
          omega
        exact own_far (own_far hk _ _ hne) _ _ hne
      have BL2 : Hid (Below w2.heap.size w2 ((wk.setCell ⟨wr.heap.size, 2, none⟩ (.string ky)).setCell ⟨wr.heap.size, 3, none⟩ (.string vl))) :=
        ((hbel.out.trans (BK.mono hbel.out.size)).setCell (p := ⟨wr.heap.size, 2, none⟩) hbel.out.size _).setCell (p := ⟨wr.heap.size, 3, none⟩) hbel.out.size _
      have K5 := hide1 (keep3 (keep2 ⟨(HBc.cell nl).trans N5.out.1, (HBc.cell nl).trans N5.out.2.1, (HBc.frozen nl).trans N5.out.2.2.1, (HBc.frozen nl).trans N5.out.2.2.2⟩))
      have K0 : Hid (((wk.setCell ⟨wr.heap.size, 2, none⟩ (.string ky)).setCell ⟨wr.heap.size, 3, none⟩ (.string vl)).cell? ⟨wr.heap.size, 0, none⟩ = some (.int .i64 gn) ∧ ((wk.setCell ⟨wr.heap.size, 2, none⟩ (.string ky)).setCell ⟨wr.heap.size, 3, none⟩ (.string vl)).cell? ⟨wr.heap.size, 1, none⟩ = some (.bool us) ∧ ((wk.setCell ⟨wr.heap.size, 2, none⟩ (.string ky)).setCell ⟨wr.heap.size, 3, none⟩ (.string vl)).cell? ⟨wr.heap.size, 4, none⟩ = some (.int .i64 nx)) := by
        refine ⟨?_, ?_, ?_⟩
        · rw [World.cell?_setCell_other _ _ _ _ (by simp), World.cell?_setCell_other _ _ _ _ (by simp), HBc.cell nl]; exact n0
        · rw [World.cell?_setCell_other _ _ _ _ (by simp), World.cell?_setCell_other _ _ _ _ (by simp), HBc.cell nl]; exact n1
        · rw [World.cell?_setCell_other _ _ _ _ (by simp), World.cell?_setCell_other _ _ _ _ (by simp), HBc.cell nl]; exact n4
      have O2 := hide1 own2
      clear own2 BK hown hbel n0 n1 n4 HBc
      go_upto_region 7 with fail
      generalize ((wk.setCell ⟨wr.heap.size, 2, none⟩ (.string ky)).setCell ⟨wr.heap.size, 3, none⟩ (.string vl)) = wf at O2 BL2 K5 K0 ⊢
      obtain ⟨n2, n3, _, _⟩ := K5.out
      obtain ⟨n0, n1, n4⟩ := K0.out
      obtain ⟨u0, z0⟩ := own_some O2.out (i * 5) (by omega)
      obtain ⟨u1, z1⟩ := own_some O2.out (i * 5 + 1) (by omega)
      obtain ⟨u2, z2⟩ := own_some O2.out (i * 5 + 2) (by omega)
      obtain ⟨u3, z3⟩ := own_some O2.out (i * 5 + 3) (by omega)
      obtain ⟨u4, z4⟩ := own_some O2.out (i * 5 + 4) (by omega)
      have f0 := O2.out.frozenAt (i * 5)
      have f1 := O2.out.frozenAt (i * 5 + 1)
      have f2 := O2.out.frozenAt (i * 5 + 2)
      have f3 := O2.out.frozenAt (i * 5 + 3)
      have f4 := O2.out.frozenAt (i * 5 + 4)
      have OS := hide1 (own_set5 O2.out (show (M.take i ++ List.replicate (M.length - i) zS).length = M.length by simp; omega) i hlt ⟨gn, us, ky, vl, nx⟩)
      rw [fill_set M zS _ i hlt HS.out] at OS
      have BS := hide1 (below_set5 BL2.out (Nat.le_refl _) i ⟨gn, us, ky, vl, nx⟩)
      clear K5 K0
      go_wp2
      go_roundw
      case rel =>
        exact ⟨i + 1, by omega, by go_num, OS, BS⟩
      case measure => simp [intOf]; omega
    · obtain rfl : i = M.length := by omega
      have own3 : Hid (wr.ownsRow w2.heap.size 40 5 (.slice (some ⟨w2.heap.size, 0, none⟩) M.length M.length) M.length (sls M)) := by
        have := hown.out
        simpa [Hid] using this
      have BT : Hid (Below w.heap.size w wr) := FW.out.trans (hbel.out.mono FW.out.size)
      have xf := (HR.out.below BT.out hr).free HL.out
      have CA := hide1 (atL_any (HK.out.below BT.out))
      have hN : wr.heap[w.heap.size]? = some (.cells #[.slice none 0 0, .int .i64 0] 26 (0, 0)) := Blk.below FN.out hbel.out FN.out.lt
      have y0 : wr.cell? ⟨w.heap.size, 0, none⟩ = some (.slice none 0 0) := by rw [cell_of_row wr w.heap.size 0 _ _ _ hN]; rfl
      have y1 : wr.cell? ⟨w.heap.size, 1, none⟩ = some (.int .i64 0) := by rw [cell_of_row wr w.heap.size 1 _ _ _ hN]; rfl
      have f0 : ∀ j, wr.frozen? ⟨w.heap.size, j, none⟩ = false := fun j => by simp [World.frozen?, hN]
      have HN := hide1 hN
      have hs3 : Hid (w.heap.size < w2.heap.size) := by have := hs2.out; show w.heap.size < w2.heap.size; omega
      clear hN hown hbel FB FN FW HO
      go_wp2_with fail
      refine CA.out.mono ?_
      rintro e w4 ⟨rfl, rfl⟩
      go_wp2
      refine bodyPost_ret (results_cell_row Try.results22 _ _ w.heap.size 26 #[.slice (some ⟨w2.heap.size, 0, none⟩) M.length M.length, .int .i64 (hdI V)] (0, 0) _ rfl (heap2 HN.out _ _) Try.underlying26 rfl (by kernel_rfl)) rfl ?_
      refine ⟨_, _, rfl, own_base (own_far (own_far own3.out _ _ ?_) _ _ ?_) (Nat.le_of_lt hs3.out), ?_⟩
      · intro k hk; have := (own3.out.lt k hk).1; have := hs3.out; dsimp only; omega
      · intro k hk; have := (own3.out.lt k hk).1; have := hs3.out; dsimp only; omega
      · exact (BT.out.setCell (p := ⟨w.heap.size, 0, none⟩) (Nat.le_refl _) _).setCell (p := ⟨w.heap.size, 1, none⟩) (Nat.le_refl _) _
end Go.Proofs.Ytcbfceefhoeooaa
