/- Ballots, by the program: a voice and notes in memory of their own; what was taken before. -/
import Derived.Test.YtppmnniokpbnkaaBaI
namespace Go.Proofs.Ytppmnniokpbnkaa
open Go.RowKit
set_option linter.unusedVariables false

set_option maxRecDepth 100000 in
set_option maxHeartbeats 2000000 in
theorem newVoice_any (x : Vo) (w : World) : Calls Try.prog 35 #[voV x] w fun e w' => e = .returned (voV x) ∧ Below w.heap.size w w' := by
  obtain ⟨p, t, v⟩ := x
  unfold voV
  dsimp only
  have F0 := hide1 (blkN2 w #[.int .i64 p, .int .i64 t, .string v] #[.int .i64 0, .int .i64 0, .string ⟨#[]⟩] 27 27)
  go_enter Try.func35, Try.ntmps35
  go_wp2_with fail
  generalize ((w.alloc (.cells #[.int .i64 p, .int .i64 t, .string v] 27)).alloc (.cells #[.int .i64 0, .int .i64 0, .string ⟨#[]⟩] 27)) = w0 at F0 ⊢
  obtain ⟨K0, K1, B0⟩ := F0.out
  have HK0 := hide1 K0
  have HK1 := hide1 K1
  have HB0 := hide1 B0
  have hs0 : w.heap.size + 1 < w0.heap.size := K1.lt
  have a0 : w0.cell? ⟨w.heap.size, 0, none⟩ = some (.int .i64 p) := K0.cell 0
  have a1 : w0.cell? ⟨w.heap.size, 1, none⟩ = some (.int .i64 t) := K0.cell 1
  have a2 : w0.cell? ⟨w.heap.size, 2, none⟩ = some (.string v) := K0.cell 2
  have z0 : w0.cell? ⟨w.heap.size + 1, 0, none⟩ = some (.int .i64 0) := K1.cell 0
  have z1 : w0.cell? ⟨w.heap.size + 1, 1, none⟩ = some (.int .i64 0) := K1.cell 1
  have z2 : w0.cell? ⟨w.heap.size + 1, 2, none⟩ = some (.string ⟨#[]⟩) := K1.cell 2
  have zf : ∀ j, w0.frozen? ⟨w.heap.size + 1, j, none⟩ = false := fun j => K1.froz j
  clear F0 K0 K1 B0
  have k01 : ∀ (u : World) (i j : Nat) (y : Value), (u.setCell ⟨w.heap.size + 1, i, none⟩ y).cell? ⟨w.heap.size, j, none⟩ = u.cell? ⟨w.heap.size, j, none⟩ := fun u i j y => World.cell?_setCell_far _ _ _ _ (by dsimp only; omega)
  go_region_held3 (fun w' => w'.cell? ⟨w.heap.size, 0, none⟩ = some (.int .i64 p) ∧ w'.cell? ⟨w.heap.size, 1, none⟩ = some (.int .i64 t) ∧ w'.cell? ⟨w.heap.size, 2, none⟩ = some (.string v)) (first | go_keep | simp only [World.cell?_drew, k01, a0, a1, a2, and_self]) ((go_at_call 41; refine (newB_any _ _).mono ?_; rintro e w1 ⟨rfl, hb1⟩; have b1 : Hid (Below w0.heap.size w0 w1) := (show Below w0.heap.size w0 _ by go_grown).trans (hb1.mono (by go_size)); clear hb1 zf a0 a1 a2 z0 z1 z2; have a0 : w1.cell? ⟨w.heap.size, 0, none⟩ = some (.int .i64 p) := (HK0.out.below b1.out HK0.out.lt).cell 0; have a1 : w1.cell? ⟨w.heap.size, 1, none⟩ = some (.int .i64 t) := (HK0.out.below b1.out HK0.out.lt).cell 1; have a2 : w1.cell? ⟨w.heap.size, 2, none⟩ = some (.string v) := (HK0.out.below b1.out HK0.out.lt).cell 2; have z0 : w1.cell? ⟨w.heap.size + 1, 0, none⟩ = some (.int .i64 0) := (HK1.out.below b1.out HK1.out.lt).cell 0; have z1 : w1.cell? ⟨w.heap.size + 1, 1, none⟩ = some (.int .i64 0) := (HK1.out.below b1.out HK1.out.lt).cell 1; have z2 : w1.cell? ⟨w.heap.size + 1, 2, none⟩ = some (.string ⟨#[]⟩) := (HK1.out.below b1.out HK1.out.lt).cell 2; have zf : ∀ j, w1.frozen? ⟨w.heap.size + 1, j, none⟩ = false := fun j => (HK1.out.below b1.out HK1.out.lt).froz j; have hs1 : w.heap.size + 1 < w1.heap.size := Nat.lt_of_lt_of_le hs0 b1.out.size))
  go_wp2
  have NB : Blk (((w1.setCell ⟨w.heap.size + 1, 0, none⟩ (.int .i64 p)).setCell ⟨w.heap.size + 1, 1, none⟩ (.int .i64 t)).setCell ⟨w.heap.size + 1, 2, none⟩ (.string v)) (w.heap.size + 1) 27 [.int .i64 p, .int .i64 t, .string v] := (Blk.set (Blk.set (Blk.set (HK1.out.below b1.out HK1.out.lt) 0 (.int .i64 p)) 1 (.int .i64 t)) 2 (.string v))
  have BF : Below w.heap.size w (((w1.setCell ⟨w.heap.size + 1, 0, none⟩ (.int .i64 p)).setCell ⟨w.heap.size + 1, 1, none⟩ (.int .i64 t)).setCell ⟨w.heap.size + 1, 2, none⟩ (.string v)) := ((((HB0.out.trans (b1.out.mono HB0.out.size)).setCell (p := ⟨w.heap.size + 1, 0, none⟩) (by dsimp only; omega) _).setCell (p := ⟨w.heap.size + 1, 1, none⟩) (by dsimp only; omega) _).setCell (p := ⟨w.heap.size + 1, 2, none⟩) (by dsimp only; omega) _)
  generalize (((w1.setCell ⟨w.heap.size + 1, 0, none⟩ (.int .i64 p)).setCell ⟨w.heap.size + 1, 1, none⟩ (.int .i64 t)).setCell ⟨w.heap.size + 1, 2, none⟩ (.string v)) = w9 at NB BF ⊢
  refine bodyPost_ret (results_cell_row Try.results35 _ _ (w.heap.size + 1) 27 #[.int .i64 p, .int .i64 t, .string v] (0, 0) _ rfl NB Try.underlying27 rfl (by kernel_rfl)) rfl ?_
  first | exact ⟨rfl, BF⟩ | exact ⟨rfl, BF.drew⟩

set_option maxRecDepth 100000 in
set_option maxHeartbeats 2000000 in
theorem note2_any (b t f o : Int) (v : ByteArray) (w : World) : Calls Try.prog 64 #[.agg #[.int .i64 b, .int .i64 t, .string v], .int .i64 f, .int .i64 o] w fun e w' => e = .returned (.agg #[.int .i64 2, .int .i64 f, .int .i64 o, .int .i64 b, .int .i64 t, .string v]) ∧ Below w.heap.size w w' := by
  have F0 := hide1 (blkN2 w #[.int .i64 b, .int .i64 t, .string v] #[.int .i64 0, .int .i64 0, .int .i64 0, .int .i64 0, .int .i64 0, .string ⟨#[]⟩] 81 29)
  go_enter Try.func64, Try.ntmps64
  go_wp2_with fail
  generalize ((w.alloc (.cells #[.int .i64 b, .int .i64 t, .string v] 81)).alloc (.cells #[.int .i64 0, .int .i64 0, .int .i64 0, .int .i64 0, .int .i64 0, .string ⟨#[]⟩] 29)) = w0 at F0 ⊢
  obtain ⟨K0, K1, B0⟩ := F0.out
  have HK0 := hide1 K0
  have HK1 := hide1 K1
  have HB0 := hide1 B0
  have hs0 : w.heap.size + 1 < w0.heap.size := K1.lt
  have a0 : w0.cell? ⟨w.heap.size, 0, none⟩ = some (.int .i64 b) := K0.cell 0
  have a1 : w0.cell? ⟨w.heap.size, 1, none⟩ = some (.int .i64 t) := K0.cell 1
  have a2 : w0.cell? ⟨w.heap.size, 2, none⟩ = some (.string v) := K0.cell 2
  have z0 : w0.cell? ⟨w.heap.size + 1, 0, none⟩ = some (.int .i64 0) := K1.cell 0
  have z1 : w0.cell? ⟨w.heap.size + 1, 1, none⟩ = some (.int .i64 0) := K1.cell 1
  have z2 : w0.cell? ⟨w.heap.size + 1, 2, none⟩ = some (.int .i64 0) := K1.cell 2
  have z3 : w0.cell? ⟨w.heap.size + 1, 3, none⟩ = some (.int .i64 0) := K1.cell 3
  have z4 : w0.cell? ⟨w.heap.size + 1, 4, none⟩ = some (.int .i64 0) := K1.cell 4
  have z5 : w0.cell? ⟨w.heap.size + 1, 5, none⟩ = some (.string ⟨#[]⟩) := K1.cell 5
  have zf : ∀ j, w0.frozen? ⟨w.heap.size + 1, j, none⟩ = false := fun j => K1.froz j
  clear F0 K0 K1 B0
  have k01 : ∀ (u : World) (i j : Nat) (y : Value), (u.setCell ⟨w.heap.size + 1, i, none⟩ y).cell? ⟨w.heap.size, j, none⟩ = u.cell? ⟨w.heap.size, j, none⟩ := fun u i j y => World.cell?_setCell_far _ _ _ _ (by dsimp only; omega)
  go_region_held3 (fun w' => w'.cell? ⟨w.heap.size, 0, none⟩ = some (.int .i64 b) ∧ w'.cell? ⟨w.heap.size, 1, none⟩ = some (.int .i64 t) ∧ w'.cell? ⟨w.heap.size, 2, none⟩ = some (.string v)) (first | go_keep | simp only [World.cell?_drew, k01, a0, a1, a2, and_self]) ((go_at_call 41; refine (newB_any _ _).mono ?_; rintro e w1 ⟨rfl, hb1⟩; have b1 : Hid (Below w0.heap.size w0 w1) := (show Below w0.heap.size w0 _ by go_grown).trans (hb1.mono (by go_size)); clear hb1 zf a0 a1 a2 z0 z1 z2 z3 z4 z5; have a0 : w1.cell? ⟨w.heap.size, 0, none⟩ = some (.int .i64 b) := (HK0.out.below b1.out HK0.out.lt).cell 0; have a1 : w1.cell? ⟨w.heap.size, 1, none⟩ = some (.int .i64 t) := (HK0.out.below b1.out HK0.out.lt).cell 1; have a2 : w1.cell? ⟨w.heap.size, 2, none⟩ = some (.string v) := (HK0.out.below b1.out HK0.out.lt).cell 2; have z0 : w1.cell? ⟨w.heap.size + 1, 0, none⟩ = some (.int .i64 0) := (HK1.out.below b1.out HK1.out.lt).cell 0; have z1 : w1.cell? ⟨w.heap.size + 1, 1, none⟩ = some (.int .i64 0) := (HK1.out.below b1.out HK1.out.lt).cell 1; have z2 : w1.cell? ⟨w.heap.size + 1, 2, none⟩ = some (.int .i64 0) := (HK1.out.below b1.out HK1.out.lt).cell 2; have z3 : w1.cell? ⟨w.heap.size + 1, 3, none⟩ = some (.int .i64 0) := (HK1.out.below b1.out HK1.out.lt).cell 3; have z4 : w1.cell? ⟨w.heap.size + 1, 4, none⟩ = some (.int .i64 0) := (HK1.out.below b1.out HK1.out.lt).cell 4; have z5 : w1.cell? ⟨w.heap.size + 1, 5, none⟩ = some (.string ⟨#[]⟩) := (HK1.out.below b1.out HK1.out.lt).cell 5; have zf : ∀ j, w1.frozen? ⟨w.heap.size + 1, j, none⟩ = false := fun j => (HK1.out.below b1.out HK1.out.lt).froz j; have hs1 : w.heap.size + 1 < w1.heap.size := Nat.lt_of_lt_of_le hs0 b1.out.size))
  go_wp2
  have NB : Blk ((((((w1.setCell ⟨w.heap.size + 1, 0, none⟩ (.int .i64 2)).setCell ⟨w.heap.size + 1, 1, none⟩ (.int .i64 f)).setCell ⟨w.heap.size + 1, 2, none⟩ (.int .i64 o)).setCell ⟨w.heap.size + 1, 3, none⟩ (.int .i64 b)).setCell ⟨w.heap.size + 1, 4, none⟩ (.int .i64 t)).setCell ⟨w.heap.size + 1, 5, none⟩ (.string v)) (w.heap.size + 1) 29 [.int .i64 2, .int .i64 f, .int .i64 o, .int .i64 b, .int .i64 t, .string v] := (Blk.set (Blk.set (Blk.set (Blk.set (Blk.set (Blk.set (HK1.out.below b1.out HK1.out.lt) 0 (.int .i64 2)) 1 (.int .i64 f)) 2 (.int .i64 o)) 3 (.int .i64 b)) 4 (.int .i64 t)) 5 (.string v))
  have BF : Below w.heap.size w ((((((w1.setCell ⟨w.heap.size + 1, 0, none⟩ (.int .i64 2)).setCell ⟨w.heap.size + 1, 1, none⟩ (.int .i64 f)).setCell ⟨w.heap.size + 1, 2, none⟩ (.int .i64 o)).setCell ⟨w.heap.size + 1, 3, none⟩ (.int .i64 b)).setCell ⟨w.heap.size + 1, 4, none⟩ (.int .i64 t)).setCell ⟨w.heap.size + 1, 5, none⟩ (.string v)) := (((((((HB0.out.trans (b1.out.mono HB0.out.size)).setCell (p := ⟨w.heap.size + 1, 0, none⟩) (by dsimp only; omega) _).setCell (p := ⟨w.heap.size + 1, 1, none⟩) (by dsimp only; omega) _).setCell (p := ⟨w.heap.size + 1, 2, none⟩) (by dsimp only; omega) _).setCell (p := ⟨w.heap.size + 1, 3, none⟩) (by dsimp only; omega) _).setCell (p := ⟨w.heap.size + 1, 4, none⟩) (by dsimp only; omega) _).setCell (p := ⟨w.heap.size + 1, 5, none⟩) (by dsimp only; omega) _)
  generalize ((((((w1.setCell ⟨w.heap.size + 1, 0, none⟩ (.int .i64 2)).setCell ⟨w.heap.size + 1, 1, none⟩ (.int .i64 f)).setCell ⟨w.heap.size + 1, 2, none⟩ (.int .i64 o)).setCell ⟨w.heap.size + 1, 3, none⟩ (.int .i64 b)).setCell ⟨w.heap.size + 1, 4, none⟩ (.int .i64 t)).setCell ⟨w.heap.size + 1, 5, none⟩ (.string v)) = w9 at NB BF ⊢
  refine bodyPost_ret (results_cell_row Try.results64 _ _ (w.heap.size + 1) 29 #[.int .i64 2, .int .i64 f, .int .i64 o, .int .i64 b, .int .i64 t, .string v] (0, 0) _ rfl NB Try.underlying29 rfl (by kernel_rfl)) rfl ?_
  first | exact ⟨rfl, BF⟩ | exact ⟨rfl, BF.drew⟩

set_option maxRecDepth 100000 in
set_option maxHeartbeats 2000000 in
theorem note4_any (b f o : Int) (v : ByteArray) (w : World) : Calls Try.prog 66 #[.agg #[.int .i64 b, .string v], .int .i64 f, .int .i64 o] w fun e w' => e = .returned (.agg #[.int .i64 4, .int .i64 f, .int .i64 o, .int .i64 b, .int .i64 0, .string v]) ∧ Below w.heap.size w w' := by
  have F0 := hide1 (blkN2 w #[.int .i64 b, .string v] #[.int .i64 0, .int .i64 0, .int .i64 0, .int .i64 0, .int .i64 0, .string ⟨#[]⟩] 84 29)
  go_enter Try.func66, Try.ntmps66
  go_wp2_with fail
  generalize ((w.alloc (.cells #[.int .i64 b, .string v] 84)).alloc (.cells #[.int .i64 0, .int .i64 0, .int .i64 0, .int .i64 0, .int .i64 0, .string ⟨#[]⟩] 29)) = w0 at F0 ⊢
  obtain ⟨K0, K1, B0⟩ := F0.out
  have HK0 := hide1 K0
  have HK1 := hide1 K1
  have HB0 := hide1 B0
  have hs0 : w.heap.size + 1 < w0.heap.size := K1.lt
  have a0 : w0.cell? ⟨w.heap.size, 0, none⟩ = some (.int .i64 b) := K0.cell 0
  have a1 : w0.cell? ⟨w.heap.size, 1, none⟩ = some (.string v) := K0.cell 1
  have z0 : w0.cell? ⟨w.heap.size + 1, 0, none⟩ = some (.int .i64 0) := K1.cell 0
  have z1 : w0.cell? ⟨w.heap.size + 1, 1, none⟩ = some (.int .i64 0) := K1.cell 1
  have z2 : w0.cell? ⟨w.heap.size + 1, 2, none⟩ = some (.int .i64 0) := K1.cell 2
  have z3 : w0.cell? ⟨w.heap.size + 1, 3, none⟩ = some (.int .i64 0) := K1.cell 3
  have z4 : w0.cell? ⟨w.heap.size + 1, 4, none⟩ = some (.int .i64 0) := K1.cell 4
  have z5 : w0.cell? ⟨w.heap.size + 1, 5, none⟩ = some (.string ⟨#[]⟩) := K1.cell 5
  have zf : ∀ j, w0.frozen? ⟨w.heap.size + 1, j, none⟩ = false := fun j => K1.froz j
  clear F0 K0 K1 B0
  have k01 : ∀ (u : World) (i j : Nat) (y : Value), (u.setCell ⟨w.heap.size + 1, i, none⟩ y).cell? ⟨w.heap.size, j, none⟩ = u.cell? ⟨w.heap.size, j, none⟩ := fun u i j y => World.cell?_setCell_far _ _ _ _ (by dsimp only; omega)
  go_region_held3 (fun w' => w'.cell? ⟨w.heap.size, 0, none⟩ = some (.int .i64 b) ∧ w'.cell? ⟨w.heap.size, 1, none⟩ = some (.string v)) (first | go_keep | simp only [World.cell?_drew, k01, a0, a1, and_self]) ((go_at_call 41; refine (newB_any _ _).mono ?_; rintro e w1 ⟨rfl, hb1⟩; have b1 : Hid (Below w0.heap.size w0 w1) := (show Below w0.heap.size w0 _ by go_grown).trans (hb1.mono (by go_size)); clear hb1 zf a0 a1 z0 z1 z2 z3 z4 z5; have a0 : w1.cell? ⟨w.heap.size, 0, none⟩ = some (.int .i64 b) := (HK0.out.below b1.out HK0.out.lt).cell 0; have a1 : w1.cell? ⟨w.heap.size, 1, none⟩ = some (.string v) := (HK0.out.below b1.out HK0.out.lt).cell 1; have z0 : w1.cell? ⟨w.heap.size + 1, 0, none⟩ = some (.int .i64 0) := (HK1.out.below b1.out HK1.out.lt).cell 0; have z1 : w1.cell? ⟨w.heap.size + 1, 1, none⟩ = some (.int .i64 0) := (HK1.out.below b1.out HK1.out.lt).cell 1; have z2 : w1.cell? ⟨w.heap.size + 1, 2, none⟩ = some (.int .i64 0) := (HK1.out.below b1.out HK1.out.lt).cell 2; have z3 : w1.cell? ⟨w.heap.size + 1, 3, none⟩ = some (.int .i64 0) := (HK1.out.below b1.out HK1.out.lt).cell 3; have z4 : w1.cell? ⟨w.heap.size + 1, 4, none⟩ = some (.int .i64 0) := (HK1.out.below b1.out HK1.out.lt).cell 4; have z5 : w1.cell? ⟨w.heap.size + 1, 5, none⟩ = some (.string ⟨#[]⟩) := (HK1.out.below b1.out HK1.out.lt).cell 5; have zf : ∀ j, w1.frozen? ⟨w.heap.size + 1, j, none⟩ = false := fun j => (HK1.out.below b1.out HK1.out.lt).froz j; have hs1 : w.heap.size + 1 < w1.heap.size := Nat.lt_of_lt_of_le hs0 b1.out.size))
  go_wp2
  have NB : Blk ((((((w1.setCell ⟨w.heap.size + 1, 0, none⟩ (.int .i64 4)).setCell ⟨w.heap.size + 1, 1, none⟩ (.int .i64 f)).setCell ⟨w.heap.size + 1, 2, none⟩ (.int .i64 o)).setCell ⟨w.heap.size + 1, 3, none⟩ (.int .i64 b)).setCell ⟨w.heap.size + 1, 4, none⟩ (.int .i64 0)).setCell ⟨w.heap.size + 1, 5, none⟩ (.string v)) (w.heap.size + 1) 29 [.int .i64 4, .int .i64 f, .int .i64 o, .int .i64 b, .int .i64 0, .string v] := (Blk.set (Blk.set (Blk.set (Blk.set (Blk.set (Blk.set (HK1.out.below b1.out HK1.out.lt) 0 (.int .i64 4)) 1 (.int .i64 f)) 2 (.int .i64 o)) 3 (.int .i64 b)) 4 (.int .i64 0)) 5 (.string v))
  have BF : Below w.heap.size w ((((((w1.setCell ⟨w.heap.size + 1, 0, none⟩ (.int .i64 4)).setCell ⟨w.heap.size + 1, 1, none⟩ (.int .i64 f)).setCell ⟨w.heap.size + 1, 2, none⟩ (.int .i64 o)).setCell ⟨w.heap.size + 1, 3, none⟩ (.int .i64 b)).setCell ⟨w.heap.size + 1, 4, none⟩ (.int .i64 0)).setCell ⟨w.heap.size + 1, 5, none⟩ (.string v)) := (((((((HB0.out.trans (b1.out.mono HB0.out.size)).setCell (p := ⟨w.heap.size + 1, 0, none⟩) (by dsimp only; omega) _).setCell (p := ⟨w.heap.size + 1, 1, none⟩) (by dsimp only; omega) _).setCell (p := ⟨w.heap.size + 1, 2, none⟩) (by dsimp only; omega) _).setCell (p := ⟨w.heap.size + 1, 3, none⟩) (by dsimp only; omega) _).setCell (p := ⟨w.heap.size + 1, 4, none⟩) (by dsimp only; omega) _).setCell (p := ⟨w.heap.size + 1, 5, none⟩) (by dsimp only; omega) _)
  generalize ((((((w1.setCell ⟨w.heap.size + 1, 0, none⟩ (.int .i64 4)).setCell ⟨w.heap.size + 1, 1, none⟩ (.int .i64 f)).setCell ⟨w.heap.size + 1, 2, none⟩ (.int .i64 o)).setCell ⟨w.heap.size + 1, 3, none⟩ (.int .i64 b)).setCell ⟨w.heap.size + 1, 4, none⟩ (.int .i64 0)).setCell ⟨w.heap.size + 1, 5, none⟩ (.string v)) = w9 at NB BF ⊢
  refine bodyPost_ret (results_cell_row Try.results66 _ _ (w.heap.size + 1) 29 #[.int .i64 4, .int .i64 f, .int .i64 o, .int .i64 b, .int .i64 0, .string v] (0, 0) _ rfl NB Try.underlying29 rfl (by kernel_rfl)) rfl ?_
  first | exact ⟨rfl, BF⟩ | exact ⟨rfl, BF.drew⟩

end Go.Proofs.Ytppmnniokpbnkaa
