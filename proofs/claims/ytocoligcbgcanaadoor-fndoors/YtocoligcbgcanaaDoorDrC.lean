/- Seen and marked, by the program and by the model. -/
import Derived.Test.YtocoligcbgcanaaDoorDr
import Derived.Test.YtocoligcbgcanaaDoorGenB
import Derived.Deep.RegionHeld3
import Derived.Deep.Cut
namespace Go.Proofs.YtocoligcbgcanaaDoor
open Go.RowKit

theorem blk_drew {w : World} {r : Nat} {t : TypeId} {cs : List Value} (h : Blk w r t cs) : Blk w.drew r t cs := h

set_option maxRecDepth 100000 in
set_option maxHeartbeats 1000000 in
theorem implSeen_any (d : Int) (s : ByteArray) (hs : s.size ≤ 1048576) (w : World) (ht : TabD w) :
    Calls Tryd.prog 9 #[.agg #[.int .i64 d], .string s] w fun e w' => e = .returned (.bool (seenD d s)) ∧ Below w.heap.size w w' := by
  have CB := hide1 (fun w' h => bitsOf_any s hs w' h)
  have CO := hide1 (fun w' => implDoorOk_any d w')
  have HT := hide1 (ht.later ((Below.refl _ w).alloc (Nat.le_refl _) (.cells #[.int .i64 d] 27)))
  clear ht
  unfold seenD
  cases hok : okD d with
  | false =>
    rw [hok] at CO
    rw [Bool.false_and]
    go_enter Tryd.func9, Tryd.ntmps9
    go_wp2_with fail
    refine (CB.out _ HT.out).mono ?_
    rintro e w1 ⟨rfl, rfl⟩
    go_wp2_with fail
    refine (CO.out _).mono ?_
    rintro e w2 ⟨rfl, hb⟩
    go_wp2
    go_ret
    exact ⟨rfl, ((Below.refl _ _).alloc (Nat.le_refl _) _).trans (hb.mono (by simp))⟩
  | true =>
    rw [hok] at CO
    rw [Bool.true_and]
    obtain ⟨n, rfl, hn⟩ := okD_yes hok
    have ha := i64_and32 n (bsN s) hn (bsN_lt s)
    have hsn := and_seen n s
    have e1 : ((n : Int)).toNat = n := rfl
    rw [e1]
    have hb2 : (((n &&& bsN s : Nat) : Int) == ((bsN s : Nat) : Int)) = seenN n s := by
      rw [← hsn, Bool.eq_iff_iff, beq_iff_eq, beq_iff_eq]
      omega
    clear hok e1 hsn
    generalize bsN s = b at *
    generalize n &&& b = c at *
    generalize seenN n s = r at *
    go_enter Tryd.func9, Tryd.ntmps9
    go_wp2_with fail
    refine (CB.out _ HT.out).mono ?_
    rintro e w1 ⟨rfl, rfl⟩
    go_wp2_with fail
    refine (CO.out _).mono ?_
    rintro e w2 ⟨rfl, hb⟩
    have hc : w2.cell? ⟨w.heap.size, 0, none⟩ = some (.int .i64 (n : Int)) := by rw [hb.cell (by simp)]; simp [go_sem]
    have HB := hide1 hb
    clear hb
    go_wp2
    go_ret
    exact ⟨rfl, ((Below.refl _ _).alloc (Nat.le_refl _) _).trans (HB.out.mono (by simp))⟩
set_option maxRecDepth 100000 in
set_option maxHeartbeats 1000000 in
theorem implMark_any (d : Int) (s : ByteArray) (hs : s.size ≤ 1048576) (w : World) (ht : TabD w) :
    Calls Tryd.prog 8 #[.agg #[.int .i64 d], .string s] w fun e w' => e = .returned (.agg #[.int .i64 (markD d s)]) ∧ Below w.heap.size w w' := by
  have CB := hide1 (fun w' h => bitsOf_any s hs w' h)
  have CO := hide1 (fun w' => implDoorOk_any d w')
  have HT := hide1 ht
  have F0 := hide1 (blkN2 w #[.int .i64 d] #[.int .i64 0] 27 27)
  clear ht
  cases hok : okD d with
  | false =>
    have HM : Hid (markD d s = d) := by show markD d s = d; unfold markD; rw [hok]; rfl
    rw [hok] at CO
    clear hok
    go_enter Tryd.func8, Tryd.ntmps8
    go_wp2_with fail
    generalize ((w.alloc (.cells #[.int .i64 d] 27)).alloc (.cells #[.int .i64 0] 27)) = w0 at F0 ⊢
    refine (CO.out _).mono ?_
    rintro e w1 ⟨rfl, hb⟩
    obtain ⟨K0, K1, B0⟩ := F0.out
    have J0 := hide1 (K0.below hb K0.lt)
    have J1 := hide1 (K1.below hb K1.lt)
    have B1 := hide1 (B0.trans (hb.mono B0.size))
    clear hb K0 K1 B0 F0
    have x0 : w1.cell? ⟨w.heap.size, 0, none⟩ = some (.int .i64 d) := J0.out.cell 0
    have y0 : w1.cell? ⟨w.heap.size + 1, 0, none⟩ = some (.int .i64 0) := J1.out.cell 0
    have yf : ∀ j, w1.frozen? ⟨w.heap.size + 1, j, none⟩ = false := fun j => J1.out.froz j
    have hlt := J1.out.lt
    go_wp2
    refine bodyPost_ret (results_cell_row Tryd.results8 _ _ (w.heap.size + 1) 27 #[.int .i64 d] (0, 0) _ rfl (Blk.set J1.out 0 (.int .i64 d)) Tryd.underlying27 rfl (by kernel_rfl)) rfl ?_
    rw [HM.out]
    exact ⟨rfl, B1.out.setCell (p := ⟨w.heap.size + 1, 0, none⟩) (by show w.heap.size ≤ w.heap.size + 1; omega) _⟩
  | true =>
    obtain ⟨n, rfl, hn⟩ := okD_yes hok
    have HM : Hid (markD (n : Int) s = ((markN n s : Nat) : Int)) := by show markD (n : Int) s = _; unfold markD; rw [hok]; rfl
    rw [hok] at CO
    have ho := i64_or32 n (bsN s) hn (bsN_lt s)
    change _ = ((markN n s : Nat) : Int) at ho
    clear hok
    generalize bsN s = b at *
    generalize markN n s = m at *
    go_enter Tryd.func8, Tryd.ntmps8
    go_wp2_with fail
    generalize ((w.alloc (.cells #[.int .i64 (n : Int)] 27)).alloc (.cells #[.int .i64 0] 27)) = w0 at F0 ⊢
    refine (CO.out _).mono ?_
    rintro e w1 ⟨rfl, hb⟩
    obtain ⟨K0, K1, B0⟩ := F0.out
    have J0 := hide1 (K0.below hb K0.lt)
    have J1 := hide1 (K1.below hb K1.lt)
    have B1 := hide1 (B0.trans (hb.mono B0.size))
    clear hb K0 K1 B0 F0
    have x0 : w1.cell? ⟨w.heap.size, 0, none⟩ = some (.int .i64 (n : Int)) := J0.out.cell 0
    have y0 : w1.cell? ⟨w.heap.size + 1, 0, none⟩ = some (.int .i64 0) := J1.out.cell 0
    have yf : ∀ j, w1.frozen? ⟨w.heap.size + 1, j, none⟩ = false := fun j => J1.out.froz j
    have hlt := J1.out.lt
    have HT1 := hide1 (HT.out.later B1.out)
    have HT2 := hide1 (fun k => HT1.out.later (below_drewN (Below.refl w1.heap.size w1) k))
    go_upto_region 3 with fail
    go_region_with ((go_at_call 18; refine (CB.out _ (by first | exact HT1.out | exact HT2.out _)).mono ?_; rintro e w2 ⟨rfl, rfl⟩))
    all_goals
      go_wp2
      refine bodyPost_ret (results_cell_row Tryd.results8 _ _ (w.heap.size + 1) 27 #[.int .i64 (m : Int)] (0, 0) _ rfl (blk_drew (Blk.set J1.out 0 (.int .i64 (m : Int)))) Tryd.underlying27 rfl (by kernel_rfl)) rfl ?_
      rw [HM.out]
      exact ⟨rfl, (B1.out.setCell (p := ⟨w.heap.size + 1, 0, none⟩) (by show w.heap.size ≤ w.heap.size + 1; omega) _).drew⟩
end Go.Proofs.YtocoligcbgcanaaDoor
