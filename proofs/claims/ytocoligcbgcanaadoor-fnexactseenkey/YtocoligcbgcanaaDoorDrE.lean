/- Seen, by the model. -/
import Derived.Test.YtocoligcbgcanaaDoorDrD
namespace Go.Proofs.YtocoligcbgcanaaDoor
open Go.RowKit

set_option maxRecDepth 100000 in
set_option maxHeartbeats 2000000 in
theorem specSeen_yes (d : Int) (s : ByteArray) (hs : s.size ≤ 1048576) (hok : okD d = true) (w : World) :
    Calls Tryd.prog 12 #[.agg #[.int .i64 d], .string s] w fun e w' => e = .returned (.bool (seenD d s)) ∧ Below w.heap.size w w' := by
  have CO := hide1 (fun w' => specDoorOk_any d w')
  have C7 := hide1 (fun w' => l06Bit_any s hs 7 (by decide) (by decide) w')
  have C8 := hide1 (fun w' => l06Bit_any s hs 8 (by decide) (by decide) w')
  obtain ⟨n, rfl, hn⟩ := okD_yes hok
  have e1 : ((n : Int)).toNat = n := rfl
  have D7 := hide1 (fun w' => l06Has_any n (kbN s 7) hn (kbN_pos s 7) (kbN_lt s 7) w')
  have D8 := hide1 (fun w' => l06Has_any n (kbN s 8) hn (kbN_pos s 8) (kbN_lt s 8) w')
  unfold seenD
  rw [hok] at CO ⊢
  rw [Bool.true_and, e1, seenN]
  clear hok e1
  generalize kbN s 7 = a at *
  generalize kbN s 8 = b at *
  have hc0 : (w.alloc (.cells #[.int .i64 (n : Int)] 27)).cell? ⟨w.heap.size, 0, none⟩ = some (.int .i64 (n : Int)) := (Blk.new w _ _).cell 0
  have B0 := hide1 ((Below.refl w.heap.size w).alloc (Nat.le_refl _) (.cells #[.int .i64 (n : Int)] 27))
  have S0 : w.heap.size < (w.alloc (.cells #[.int .i64 (n : Int)] 27)).heap.size := by simp
  cases h1 : hasN n a with
  | false =>
    rw [h1] at D7
    rw [Bool.false_and]
    clear h1
    go_enter Tryd.func12, Tryd.ntmps12
    go_upto_region 1 with fail
    generalize (w.alloc (.cells #[.int .i64 (n : Int)] 27)) = w0 at hc0 B0 S0 ⊢
    first | go_region_with (first | (go_at_call 19; refine (CO.out _).mono ?_; rintro e w2 ⟨rfl, hb⟩; have E2 : Hid (Below w0.heap.size w0 w2) := (show Below w0.heap.size w0 _ by go_grown).trans (hb.mono (by go_size)); have y0 := (E2.out.cell (p := ⟨w.heap.size, 0, none⟩) S0).trans hc0; clear hb) | (go_at_call 20; with_reducible refine Calls.mono (C7.out _) ?_; rintro e w3 ⟨rfl, rfl⟩) | (go_at_call 20; with_reducible refine Calls.mono (C8.out _) ?_; rintro e w3 ⟨rfl, rfl⟩) | (go_at_call 21; with_reducible refine Calls.mono (D7.out _) ?_; rintro e w3 ⟨rfl, rfl⟩)| (go_at_call 21; with_reducible refine Calls.mono (D8.out _) ?_; rintro e w3 ⟨rfl, rfl⟩)) | fail
    all_goals (go_wp2; go_ret; exact ⟨rfl, by have := B0.out.trans (E2.out.mono (by omega)); first | exact this | exact this.drew | exact below_drewN this _⟩)
  | true =>
    rw [h1] at D7
    rw [Bool.true_and]
    clear h1
    generalize hasN n b = r at *
    go_enter Tryd.func12, Tryd.ntmps12
    go_upto_region 1 with fail
    generalize (w.alloc (.cells #[.int .i64 (n : Int)] 27)) = w0 at hc0 B0 S0 ⊢
    go_region_held3 (fun w' => w'.cell? ⟨w.heap.size, 0, none⟩ = some (.int .i64 (n : Int))) (first | go_keep | exact (E2.out.cell S0).trans hc0) (first | (go_at_call 19; refine (CO.out _).mono ?_; rintro e w2 ⟨rfl, hb⟩; have E2 : Hid (Below w0.heap.size w0 w2) := (show Below w0.heap.size w0 _ by go_grown).trans (hb.mono (by go_size)); clear hb) | (go_at_call 20; with_reducible refine Calls.mono (C7.out _) ?_; rintro e w3 ⟨rfl, rfl⟩) | (go_at_call 20; with_reducible refine Calls.mono (C8.out _) ?_; rintro e w3 ⟨rfl, rfl⟩) | (go_at_call 21; with_reducible refine Calls.mono (D7.out _) ?_; rintro e w3 ⟨rfl, rfl⟩)| (go_at_call 21; with_reducible refine Calls.mono (D8.out _) ?_; rintro e w3 ⟨rfl, rfl⟩))
    all_goals (go_wp2; go_ret; exact ⟨rfl, by have := B0.out.trans (E2.out.mono (by omega)); first | exact this | exact this.drew | exact below_drewN this _⟩)

theorem specSeen_any (d : Int) (s : ByteArray) (hs : s.size ≤ 1048576) (w : World) :
    Calls Tryd.prog 12 #[.agg #[.int .i64 d], .string s] w fun e w' => e = .returned (.bool (seenD d s)) ∧ Below w.heap.size w w' := by
  cases h : okD d with
  | true => exact specSeen_yes d s hs h w
  | false => exact specSeen_no d s h w
end Go.Proofs.YtocoligcbgcanaaDoor
