/- Marked, by the model; the statements' functions on doors. -/
import Derived.Test.YtocoligcbgcanaaDoorDrC
namespace Go.Proofs.YtocoligcbgcanaaDoor
open Go.RowKit

set_option maxRecDepth 100000 in
set_option maxHeartbeats 2000000 in
theorem specMark_any (d : Int) (s : ByteArray) (hs : s.size ≤ 1048576) (w : World) :
    Calls Tryd.prog 11 #[.agg #[.int .i64 d], .string s] w fun e w' => e = .returned (.agg #[.int .i64 (markD d s)]) ∧ Below w.heap.size w w' := by
  have CO := hide1 (fun w' => specDoorOk_any d w')
  have F0 := hide1 (blkN2 w #[.int .i64 d] #[.int .i64 0] 27 27)
  cases hok : okD d with
  | false =>
    have HM : Hid (markD d s = d) := by show markD d s = d; unfold markD; rw [hok]; rfl
    rw [hok] at CO
    clear hok
    go_enter Tryd.func11, Tryd.ntmps11
    go_wp2_with fail
    generalize ((w.alloc (.cells #[.int .i64 d] 27)).alloc (.cells #[.int .i64 0] 27)) = w0 at F0 ⊢
    refine (CO.out _).mono ?_
    rintro e w1 ⟨rfl, hb⟩
    obtain ⟨K0, K1, B0⟩ := F0.out
    have J0 := hide1 (K0.below hb K0.lt)
    have J1 := hide1 (K1.below hb K1.lt)
    have B1 := hide1 (B0.trans (hb.mono B0.size))
    clear hb K0 K1 B0 F0
    have x0 : w1.cell? ⟨w.heap.size, 0, none⟩ = some (.int .i64 d) := J0.out.cell 0
    have y0 : w1.cell? ⟨w.heap.size + 1, 0, none⟩ = some (.int .i64 0) := J1.out.cell 0
    have yf : ∀ j, w1.frozen? ⟨w.heap.size + 1, j, none⟩ = false := fun j => J1.out.froz j
    have hlt := J1.out.lt
    go_wp2
    refine bodyPost_ret (results_cell_row Tryd.results11 _ _ (w.heap.size + 1) 27 #[.int .i64 d] (0, 0) _ rfl (Blk.set J1.out 0 (.int .i64 d)) Tryd.underlying27 rfl (by kernel_rfl)) rfl ?_
    rw [HM.out]
    exact ⟨rfl, B1.out.setCell (p := ⟨w.heap.size + 1, 0, none⟩) (by show w.heap.size ≤ w.heap.size + 1; omega) _⟩
  | true =>
    obtain ⟨n, rfl, hn⟩ := okD_yes hok
    have HM : Hid (markD (n : Int) s = ((markN n s : Nat) : Int)) := by show markD (n : Int) s = _; unfold markD; rw [hok]; rfl
    rw [← mark_add] at HM
    rw [hok] at CO
    have CB := hide1 (fun (k : Int) (w' : World) (h1 : 0 ≤ k) (h2 : k ≤ 100) => l06Bit_any s hs k h1 h2 w')
    have CH := hide1 (fun (x : Nat) (k : Int) (hx : x < 4294967296) (w' : World) => l06Has_any x (kbN s k) hx (kbN_pos s k) (kbN_lt s k) w')
    have HA := hide1 (fun (x : Nat) (k : Int) (hx : x < 4294967296) => addB_lt (d := x) s k hx)
    have HL := hide1 (fun (k : Int) => kbN_lt s k)
    clear hok
    go_enter Tryd.func11, Tryd.ntmps11
    go_wp2_with fail
    generalize ((w.alloc (.cells #[.int .i64 (n : Int)] 27)).alloc (.cells #[.int .i64 0] 27)) = w0 at F0 ⊢
    refine (CO.out _).mono ?_
    rintro e w1 ⟨rfl, hb⟩
    obtain ⟨K0, K1, B0⟩ := F0.out
    have J0 := hide1 (K0.below hb K0.lt)
    have J1 := hide1 (K1.below hb K1.lt)
    have B1 := hide1 (B0.trans (hb.mono B0.size))
    clear hb K0 K1 B0 F0
    have hlt := J1.out.lt
    go_wp2
    go_loopw [5] (fun iv wr => ∃ (k x : Nat), k ≤ 2 ∧ iv = .int .i64 ((k : Int) + 7) ∧ x < 4294967296 ∧ Hid (Blk wr w.heap.size 27 [.int .i64 (x : Int)]) ∧ Hid (Blk wr (w.heap.size + 1) 27 [.int .i64 0]) ∧ Hid (Below w.heap.size w wr) ∧ Hid (x = if k = 0 then n else if k = 1 then addB n (kbN s 7) else addB (addB n (kbN s 7)) (kbN s 8))) (fun iv _ => 9 - (intOf iv).toNat)
    case atStart => exact ⟨0, n, by omega, rfl, hn, J0, J1, B1, rfl⟩
    case round =>
      obtain ⟨k, x, hk, rfl, hx, G0, G1, GB, HX⟩ := hrel
      have x0 : wr.cell? ⟨w.heap.size, 0, none⟩ = some (.int .i64 (x : Int)) := G0.out.cell 0
      have xf : ∀ j, wr.frozen? ⟨w.heap.size, j, none⟩ = false := fun j => G0.out.froz j
      have hl2 := G1.out.lt
      by_cases hlt2 : k < 2
      · have k1 : (k : Int) + 7 ≤ 8 := by omega
        have C1 := hide1 (fun w' => CB.out ((k : Int) + 7) w' (by omega) (by omega))
        have C2 := hide1 (fun w' => CH.out x ((k : Int) + 7) hx w')
        have hal := HA.out x ((k : Int) + 7) hx
        have HN : Hid (addB x (kbN s ((k : Int) + 7)) = if k + 1 = 0 then n else if k + 1 = 1 then addB n (kbN s 7) else addB (addB n (kbN s 7)) (kbN s 8)) := by
          show _ = _
          rw [HX.out]
          rcases (show k = 0 ∨ k = 1 by omega) with rfl | rfl
          · rfl
          · rfl
        have hkl := HL.out ((k : Int) + 7)
        generalize kbN s ((k : Int) + 7) = b at *
        cases hh : hasN x b with
        | true =>
          rw [hh] at C2
          have e1 : addB x b = x := by unfold addB; rw [hh]; rfl
          rw [e1] at HN hal
          clear hh e1
          go_wp2_with fail
          refine (C1.out _).mono ?_
          rintro e w2 ⟨rfl, rfl⟩
          go_wp2_with fail
          refine (C2.out _).mono ?_
          rintro e w2 ⟨rfl, rfl⟩
          go_wp2
          go_roundw
          case rel => exact ⟨k + 1, x, by omega, by go_num, hx, G0, G1, GB, HN⟩
          case measure => simp [intOf]; omega
        | false =>
          rw [hh] at C2
          have e1 : addB x b = x + b := by unfold addB; rw [hh]; rfl
          rw [e1] at HN hal
          clear hh e1
          go_wp2_with fail
          refine (C1.out _).mono ?_
          rintro e w2 ⟨rfl, rfl⟩
          go_wp2_with fail
          refine (C2.out _).mono ?_
          rintro e w2 ⟨rfl, rfl⟩
          go_wp2
          go_roundw
          case rel =>
            refine ⟨k + 1, x + b, by omega, by go_num, hal, ?_, ?_, ?_, HN⟩
            · rw [show (((x + b : Nat)) : Int) = (x : Int) + (b : Int) by omega]; exact Blk.set G0.out 0 _
            · exact Blk.far G1.out _ _ (by dsimp only; omega)
            · exact GB.out.setCell (p := ⟨w.heap.size, 0, none⟩) (Nat.le_refl _) _
          case measure => simp [intOf]; omega
      · obtain rfl : k = 2 := by omega
        have y0 : wr.cell? ⟨w.heap.size + 1, 0, none⟩ = some (.int .i64 0) := G1.out.cell 0
        have yf : ∀ j, wr.frozen? ⟨w.heap.size + 1, j, none⟩ = false := fun j => G1.out.froz j
        go_wp2
        refine bodyPost_ret (results_cell_row Tryd.results11 _ _ (w.heap.size + 1) 27 #[.int .i64 (x : Int)] (0, 0) _ rfl (Blk.set G1.out 0 (.int .i64 (x : Int))) Tryd.underlying27 rfl (by kernel_rfl)) rfl ?_
        rw [HM.out, HX.out]
        exact ⟨rfl, GB.out.setCell (p := ⟨w.heap.size + 1, 0, none⟩) (by show w.heap.size ≤ w.heap.size + 1; omega) _⟩

theorem eqDoor_any (a : Int) (w : World) :
    Calls Tryd.prog 14 #[.agg #[.int .i64 a], .agg #[.int .i64 a]] w fun e w' => e = .returned (.bool true) ∧ Below w.heap.size w w' := by
  have e1 : (a != a) = false := by simp
  go_enter Tryd.func14, Tryd.ntmps14
  go_wp2
  go_ret
  exact ⟨rfl, below2 w _ _⟩
end Go.Proofs.YtocoligcbgcanaaDoor
