import Derived.Test.YtigpjmmfelndkaaGreatDoorLXT
namespace Go.Proofs.YtigpjmmfelndkaaGreatDoor
open Go.RowKit
set_option maxRecDepth 100000
set_option maxHeartbeats 2000000
theorem qsP (d : Int) (s : ByteArray) (hok : okD d = false) (w : World) :
  Calls Tryz.prog 87 #[.agg #[.int .i64 d], .string s] w fun e w' => e = .returned (.bool (qhD d s)) /\ Below w.heap.size w w' := by
 have CO := hI (fun w' => qdJ d w')
 unfold qhD
 rw [hok] at CO ⊢
 rw [Bool.false_and]
 clear hok
 go_enter Tryz.func87, Tryz.ntmps87
 go_upto_region 1 with fail
 have hc0 : (w.alloc (.cells #[.int .i64 d] 37)).cell? ⟨w.heap.size, 0, none⟩ = some (.int .i64 d) := (Blk.new w _ _).cell 0
 have B0 := hI (bAl w (.cells #[.int .i64 d] 37))
 have S0 : w.heap.size < (w.alloc (.cells #[.int .i64 d] 37)).heap.size := by simp
 generalize (w.alloc (.cells #[.int .i64 d] 37)) = w0 at hc0 B0 S0 ⊢
 first | go_region_with ((go_at_call 113; refine (CO.out _).mono ?_; rintro e w2 ⟨rfl, hb⟩; have E2 : Hid (Below w0.heap.size w0 w2) := (show Below w0.heap.size w0 _ by go_grown).trans (hb.mono (by go_size)); clear hb)) | fail
 all_goals (go_wp2; go_ret; exact ⟨rfl, by have := B0.out.trans (E2.out.mono (by omega)); first | exact this | exact this.drew | exact below_drewN this _⟩)
theorem qpQ (d : Int) (s : ByteArray) (hs : s.size <= 1048576) (hok : okD d = true) (w : World) :
  Calls Tryz.prog 87 #[.agg #[.int .i64 d], .string s] w fun e w' => e = .returned (.bool (qhD d s)) /\ Below w.heap.size w w' := by
 have CO := hI (fun w' => qdJ d w')
 have C7 := hI (fun w' => qiT s hs 7 (by decide) (by decide) w')
 have C8 := hI (fun w' => qiT s hs 8 (by decide) (by decide) w')
 obtain ⟨n, rfl, hn⟩ := qlL hok
 have e1 : ((n : Int)).toNat = n := rfl
 have D7 := hI (fun w' => qiS n (kbN s 7) hn (qtE s 7) (qhZ s 7) w')
 have D8 := hI (fun w' => qiS n (kbN s 8) hn (qtE s 8) (qhZ s 8) w')
 unfold qhD
 rw [hok] at CO ⊢
 rw [Bool.true_and, e1, qvO]
 clear hok e1
 generalize kbN s 7 = a at *
 generalize kbN s 8 = b at *
 have hc0 : (w.alloc (.cells #[.int .i64 (n : Int)] 37)).cell? ⟨w.heap.size, 0, none⟩ = some (.int .i64 (n : Int)) := (Blk.new w _ _).cell 0
 have B0 := hI (bAl w (.cells #[.int .i64 (n : Int)] 37))
 have S0 : w.heap.size < (w.alloc (.cells #[.int .i64 (n : Int)] 37)).heap.size := by simp
 cases h1 : quP n a with
 | false =>
  rw [h1] at D7
  rw [Bool.false_and]
  clear h1
  go_enter Tryz.func87, Tryz.ntmps87
  go_upto_region 1 with fail
  generalize (w.alloc (.cells #[.int .i64 (n : Int)] 37)) = w0 at hc0 B0 S0 ⊢
  first | go_region_with (first | (go_at_call 113; refine (CO.out _).mono ?_; rintro e w2 ⟨rfl, hb⟩; have E2 : Hid (Below w0.heap.size w0 w2) := (show Below w0.heap.size w0 _ by go_grown).trans (hb.mono (by go_size)); have y0 := (E2.out.cell (p := ⟨w.heap.size, 0, none⟩) S0).trans hc0; clear hb) | (go_at_call 149; with_reducible refine Calls.mono (C7.out _) ?_; rintro e w3 ⟨rfl, rfl⟩) | (go_at_call 149; with_reducible refine Calls.mono (C8.out _) ?_; rintro e w3 ⟨rfl, rfl⟩) | (go_at_call 148; with_reducible refine Calls.mono (D7.out _) ?_; rintro e w3 ⟨rfl, rfl⟩)| (go_at_call 148; with_reducible refine Calls.mono (D8.out _) ?_; rintro e w3 ⟨rfl, rfl⟩)) | fail
  all_goals (go_wp2; go_ret; exact ⟨rfl, by have := B0.out.trans (E2.out.mono (by omega)); first | exact this | exact this.drew | exact below_drewN this _⟩)
 | true =>
  rw [h1] at D7
  rw [Bool.true_and]
  clear h1
  generalize quP n b = r at *
  go_enter Tryz.func87, Tryz.ntmps87
  go_upto_region 1 with fail
  generalize (w.alloc (.cells #[.int .i64 (n : Int)] 37)) = w0 at hc0 B0 S0 ⊢
  go_region_held3 (fun w' => w'.cell? ⟨w.heap.size, 0, none⟩ = some (.int .i64 (n : Int))) (first | go_keep | exact (E2.out.cell S0).trans hc0) (first | (go_at_call 113; refine (CO.out _).mono ?_; rintro e w2 ⟨rfl, hb⟩; have E2 : Hid (Below w0.heap.size w0 w2) := (show Below w0.heap.size w0 _ by go_grown).trans (hb.mono (by go_size)); clear hb) | (go_at_call 149; with_reducible refine Calls.mono (C7.out _) ?_; rintro e w3 ⟨rfl, rfl⟩) | (go_at_call 149; with_reducible refine Calls.mono (C8.out _) ?_; rintro e w3 ⟨rfl, rfl⟩) | (go_at_call 148; with_reducible refine Calls.mono (D7.out _) ?_; rintro e w3 ⟨rfl, rfl⟩)| (go_at_call 148; with_reducible refine Calls.mono (D8.out _) ?_; rintro e w3 ⟨rfl, rfl⟩))
  all_goals (go_wp2; go_ret; exact ⟨rfl, by have := B0.out.trans (E2.out.mono (by omega)); first | exact this | exact this.drew | exact below_drewN this _⟩)
theorem qjI (d : Int) (s : ByteArray) (hs : s.size <= 1048576) (w : World) :
  Calls Tryz.prog 87 #[.agg #[.int .i64 d], .string s] w fun e w' => e = .returned (.bool (qhD d s)) /\ Below w.heap.size w w' := by
 cases h : okD d with
 | true => exact qpQ d s hs h w
 | false => exact qsP d s h w
theorem qpX (d : Int) (s : ByteArray) (hs : s.size <= 1048576) (w : World) :
  Calls Tryz.prog 88 #[.agg #[.int .i64 d], .string s] w fun e w' => e = .returned (.agg #[.int .i64 (qeP d s)]) /\ Below w.heap.size w w' := by
 have CO := hI (fun w' => qdJ d w')
 have F0 := hI (qdI w #[.int .i64 d] #[.int .i64 0] 37 37)
 cases hok : okD d with
 | false =>
  have HM : Hid (qeP d s = d) := by show qeP d s = d; unfold qeP; rw [hok]; rfl
  rw [hok] at CO
  clear hok
  go_enter Tryz.func88, Tryz.ntmps88
  go_wp2_with fail
  generalize ((w.alloc (.cells #[.int .i64 d] 37)).alloc (.cells #[.int .i64 0] 37)) = w0 at F0 ⊢
  refine (CO.out _).mono ?_
  rintro e w1 ⟨rfl, hb⟩
  obtain ⟨K0, K1, B0⟩ := F0.out
  have J0 := hI (K0.below hb K0.lt)
  have J1 := hI (K1.below hb K1.lt)
  have B1 := hI (B0.trans (hb.mono B0.size))
  clear hb K0 K1 B0 F0
  have x0 : w1.cell? ⟨w.heap.size, 0, none⟩ = _ := cRn (J0.out.cell 0) rfl
  have y0 : w1.cell? ⟨w.heap.size + 1, 0, none⟩ = _ := cRn (J1.out.cell 0) rfl
  have yf (j) : w1.frozen? ⟨w.heap.size + 1, j, none⟩ = false := J1.out.froz j
  have hlt := J1.out.lt
  go_wp2
  refine bodyPost_ret (results_cell_row Tryz.results88 _ _ (w.heap.size + 1) 37 #[.int .i64 d] (0, 0) _ rfl (Blk.set J1.out 0 (.int .i64 d)) Tryz.underlying37 rfl (by kernel_rfl)) rfl ?_
  rw [HM.out]
  exact ⟨rfl, B1.out.setCell (p := ⟨w.heap.size + 1, 0, none⟩) (by show w.heap.size <= w.heap.size + 1; omega) _⟩
 | true =>
  obtain ⟨n, rfl, hn⟩ := qlL hok
  have HM : Hid (qeP (n : Int) s = ((qqW n s : Nat) : Int)) := by show qeP (n : Int) s = _; unfold qeP; rw [hok]; rfl
  rw [<- qzP] at HM
  rw [hok] at CO
  have CB := hI (fun (k : Int) (w' : World) (h1 : 0 <= k) (h2 : k <= 100) => qiT s hs k h1 h2 w')
  have CH := hI (fun (x : Nat) (k : Int) (hx : x < 4294967296) (w' : World) => qiS x (kbN s k) hx (qtE s k) (qhZ s k) w')
  have HA := hI (fun (x : Nat) (k : Int) (hx : x < 4294967296) => zcU (d := x) s k hx)
  have HL := hI (fun (k : Int) => qhZ s k)
  clear hok
  go_enter Tryz.func88, Tryz.ntmps88
  go_wp2_with fail
  generalize ((w.alloc (.cells #[.int .i64 (n : Int)] 37)).alloc (.cells #[.int .i64 0] 37)) = w0 at F0 ⊢
  refine (CO.out _).mono ?_
  rintro e w1 ⟨rfl, hb⟩
  obtain ⟨K0, K1, B0⟩ := F0.out
  have J0 := hI (K0.below hb K0.lt)
  have J1 := hI (K1.below hb K1.lt)
  have B1 := hI (B0.trans (hb.mono B0.size))
  clear hb K0 K1 B0 F0
  have hlt := J1.out.lt
  go_wp2
  go_loopw [5] (fun iv wr => ∃ (k x : Nat), k <= 2 /\ iv = .int .i64 ((k : Int) + 7) /\ x < 4294967296 /\ Hid (Blk wr w.heap.size 37 [.int .i64 (x : Int)]) /\ Hid (Blk wr (w.heap.size + 1) 37 [.int .i64 0]) /\ Hid (Below w.heap.size w wr) /\ Hid (x = if k = 0 then n else if k = 1 then qsN n (kbN s 7) else qsN (qsN n (kbN s 7)) (kbN s 8))) (fun iv _ => 9 - (intOf iv).toNat)
  case atStart => exact ⟨0, n, by omega, rfl, hn, J0, J1, B1, rfl⟩
  case round =>
   obtain ⟨k, x, hk, rfl, hx, G0, G1, GB, HX⟩ := hrel
   have x0 : wr.cell? ⟨w.heap.size, 0, none⟩ = _ := cRn (G0.out.cell 0) rfl
   have xf (j) : wr.frozen? ⟨w.heap.size, j, none⟩ = false := G0.out.froz j
   have hl2 := G1.out.lt
   by_cases hlt2 : k < 2
   ·have k1 : (k : Int) + 7 <= 8 := by omega
    have C1 := hI (fun w' => CB.out ((k : Int) + 7) w' (by omega) (by omega))
    have C2 := hI (fun w' => CH.out x ((k : Int) + 7) hx w')
    have hal := HA.out x ((k : Int) + 7) hx
    have HN : Hid (qsN x (kbN s ((k : Int) + 7)) = if k + 1 = 0 then n else if k + 1 = 1 then qsN n (kbN s 7) else qsN (qsN n (kbN s 7)) (kbN s 8)) := by
     show _ = _
     rw [HX.out]
     rcases (show k = 0 ∨ k = 1 by omega) with rfl | rfl
     ·rfl
     ·rfl
    have hkl := HL.out ((k : Int) + 7)
    generalize kbN s ((k : Int) + 7) = b at *
    cases hh : quP x b with
    | true =>
     rw [hh] at C2
     have e1 : qsN x b = x := by unfold qsN; rw [hh]; rfl
     rw [e1] at HN hal
     clear hh e1
     go_wp2_with fail
     refine (C1.out _).mono ?_
     rintro e w2 ⟨rfl, rfl⟩
     go_wp2_with fail
     refine (C2.out _).mono ?_
     rintro e w2 ⟨rfl, rfl⟩
     go_wp2
     go_roundw
     case rel => exact ⟨k + 1, x, by omega, by go_num, hx, G0, G1, GB, HN⟩
     case measure => simp [intOf]; omega
    | false =>
     rw [hh] at C2
     have e1 : qsN x b = x + b := by unfold qsN; rw [hh]; rfl
     rw [e1] at HN hal
     clear hh e1
     go_wp2_with fail
     refine (C1.out _).mono ?_
     rintro e w2 ⟨rfl, rfl⟩
     go_wp2_with fail
     refine (C2.out _).mono ?_
     rintro e w2 ⟨rfl, rfl⟩
     go_wp2
     go_roundw
     case rel =>
      refine ⟨k + 1, x + b, by omega, by go_num, hal, ?_, ?_, ?_, HN⟩
      ·rw [show (((x + b : Nat)) : Int) = (x : Int) + (b : Int) by omega]; exact Blk.set G0.out 0 _
      ·exact Blk.far G1.out _ _ (by dsimp only; omega)
      ·exact GB.out.setCell (p := ⟨w.heap.size, 0, none⟩) (Nat.le_refl _) _
     case measure => simp [intOf]; omega
   ·obtain rfl : k = 2 := by omega
    have y0 : wr.cell? ⟨w.heap.size + 1, 0, none⟩ = _ := cRn (G1.out.cell 0) rfl
    have yf (j) : wr.frozen? ⟨w.heap.size + 1, j, none⟩ = false := G1.out.froz j
    go_wp2
    refine bodyPost_ret (results_cell_row Tryz.results88 _ _ (w.heap.size + 1) 37 #[.int .i64 (x : Int)] (0, 0) _ rfl (Blk.set G1.out 0 (.int .i64 (x : Int))) Tryz.underlying37 rfl (by kernel_rfl)) rfl ?_
    rw [HM.out, HX.out]
    exact ⟨rfl, GB.out.setCell (p := ⟨w.heap.size + 1, 0, none⟩) (by show w.heap.size <= w.heap.size + 1; omega) _⟩
end Go.Proofs.YtigpjmmfelndkaaGreatDoor
