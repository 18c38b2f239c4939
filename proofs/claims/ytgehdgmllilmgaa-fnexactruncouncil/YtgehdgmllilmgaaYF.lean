/- The program's tries: the next ballot, what is asked of all voices, a new beginning. -/
import Derived.Test.YtgehdgmllilmgaaYO
import Derived.Test.YtgehdgmllilmgaaYI
import Derived.Test.YtgehdgmllilmgaaRowO
import Derived.Deep.RegionLaw
namespace Go.Proofs.Ytgehdgmllilmgaa
open Go.RowKit
set_option linter.unusedVariables false

set_option maxRecDepth 100000 in
set_option maxHeartbeats 2000000 in
theorem note3_any (b f o : Int) (v : ByteArray) (w : World) : Calls Try.prog 138 #[.agg #[.int .i64 b, .string v], .int .i64 f, .int .i64 o] w fun e w' => e = .returned (.agg #[.int .i64 3, .int .i64 f, .int .i64 o, .int .i64 b, .int .i64 0, .string v]) ∧ Below w.heap.size w w' := by
  have F0 := hide1 (blkN2 w #[.int .i64 b, .string v] #[.int .i64 0, .int .i64 0, .int .i64 0, .int .i64 0, .int .i64 0, .string ⟨#[]⟩] 159 111)
  go_enter Try.func138, Try.ntmps138
  go_wp2_with fail
  generalize ((w.alloc (.cells #[.int .i64 b, .string v] 159)).alloc (.cells #[.int .i64 0, .int .i64 0, .int .i64 0, .int .i64 0, .int .i64 0, .string ⟨#[]⟩] 111)) = w0 at F0 ⊢
  obtain ⟨K0, K1, B0⟩ := F0.out
  have HK0 := hide1 K0
  have HK1 := hide1 K1
  have HB0 := hide1 B0
  have hs0 : w.heap.size + 1 < w0.heap.size := K1.lt
  have a0 : w0.cell? ⟨w.heap.size, 0, none⟩ = some (.int .i64 b) := K0.cell 0
  have a1 : w0.cell? ⟨w.heap.size, 1, none⟩ = some (.string v) := K0.cell 1
  have z0 : w0.cell? ⟨w.heap.size + 1, 0, none⟩ = some (.int .i64 0) := K1.cell 0
  have z1 : w0.cell? ⟨w.heap.size + 1, 1, none⟩ = some (.int .i64 0) := K1.cell 1
  have z2 : w0.cell? ⟨w.heap.size + 1, 2, none⟩ = some (.int .i64 0) := K1.cell 2
  have z3 : w0.cell? ⟨w.heap.size + 1, 3, none⟩ = some (.int .i64 0) := K1.cell 3
  have z4 : w0.cell? ⟨w.heap.size + 1, 4, none⟩ = some (.int .i64 0) := K1.cell 4
  have z5 : w0.cell? ⟨w.heap.size + 1, 5, none⟩ = some (.string ⟨#[]⟩) := K1.cell 5
  have zf : ∀ j, w0.frozen? ⟨w.heap.size + 1, j, none⟩ = false := fun j => K1.froz j
  clear F0 K0 K1 B0
  have k01 : ∀ (u : World) (i j : Nat) (y : Value), (u.setCell ⟨w.heap.size + 1, i, none⟩ y).cell? ⟨w.heap.size, j, none⟩ = u.cell? ⟨w.heap.size, j, none⟩ := fun u i j y => World.cell?_setCell_far _ _ _ _ (by dsimp only; omega)
  go_region_held3 (fun w' => w'.cell? ⟨w.heap.size, 0, none⟩ = some (.int .i64 b) ∧ w'.cell? ⟨w.heap.size, 1, none⟩ = some (.string v)) (first | go_keep | simp only [World.cell?_drew, k01, a0, a1, and_self]) ((go_at_call 98; refine (newB_any _ _).mono ?_; rintro e w1 ⟨rfl, hb1⟩; have b1 : Hid (Below w0.heap.size w0 w1) := (show Below w0.heap.size w0 _ by go_grown).trans (hb1.mono (by go_size)); clear hb1 zf a0 a1 z0 z1 z2 z3 z4 z5; have a0 : w1.cell? ⟨w.heap.size, 0, none⟩ = some (.int .i64 b) := (HK0.out.below b1.out HK0.out.lt).cell 0; have a1 : w1.cell? ⟨w.heap.size, 1, none⟩ = some (.string v) := (HK0.out.below b1.out HK0.out.lt).cell 1; have z0 : w1.cell? ⟨w.heap.size + 1, 0, none⟩ = some (.int .i64 0) := (HK1.out.below b1.out HK1.out.lt).cell 0; have z1 : w1.cell? ⟨w.heap.size + 1, 1, none⟩ = some (.int .i64 0) := (HK1.out.below b1.out HK1.out.lt).cell 1; have z2 : w1.cell? ⟨w.heap.size + 1, 2, none⟩ = some (.int .i64 0) := (HK1.out.below b1.out HK1.out.lt).cell 2; have z3 : w1.cell? ⟨w.heap.size + 1, 3, none⟩ = some (.int .i64 0) := (HK1.out.below b1.out HK1.out.lt).cell 3; have z4 : w1.cell? ⟨w.heap.size + 1, 4, none⟩ = some (.int .i64 0) := (HK1.out.below b1.out HK1.out.lt).cell 4; have z5 : w1.cell? ⟨w.heap.size + 1, 5, none⟩ = some (.string ⟨#[]⟩) := (HK1.out.below b1.out HK1.out.lt).cell 5; have zf : ∀ j, w1.frozen? ⟨w.heap.size + 1, j, none⟩ = false := fun j => (HK1.out.below b1.out HK1.out.lt).froz j; have hs1 : w.heap.size + 1 < w1.heap.size := Nat.lt_of_lt_of_le hs0 b1.out.size))
  go_wp2
  have NB : Blk ((((((w1.setCell ⟨w.heap.size + 1, 0, none⟩ (.int .i64 3)).setCell ⟨w.heap.size + 1, 1, none⟩ (.int .i64 f)).setCell ⟨w.heap.size + 1, 2, none⟩ (.int .i64 o)).setCell ⟨w.heap.size + 1, 3, none⟩ (.int .i64 b)).setCell ⟨w.heap.size + 1, 4, none⟩ (.int .i64 0)).setCell ⟨w.heap.size + 1, 5, none⟩ (.string v)) (w.heap.size + 1) 111 [.int .i64 3, .int .i64 f, .int .i64 o, .int .i64 b, .int .i64 0, .string v] := (Blk.set (Blk.set (Blk.set (Blk.set (Blk.set (Blk.set (HK1.out.below b1.out HK1.out.lt) 0 (.int .i64 3)) 1 (.int .i64 f)) 2 (.int .i64 o)) 3 (.int .i64 b)) 4 (.int .i64 0)) 5 (.string v))
  have BF : Below w.heap.size w ((((((w1.setCell ⟨w.heap.size + 1, 0, none⟩ (.int .i64 3)).setCell ⟨w.heap.size + 1, 1, none⟩ (.int .i64 f)).setCell ⟨w.heap.size + 1, 2, none⟩ (.int .i64 o)).setCell ⟨w.heap.size + 1, 3, none⟩ (.int .i64 b)).setCell ⟨w.heap.size + 1, 4, none⟩ (.int .i64 0)).setCell ⟨w.heap.size + 1, 5, none⟩ (.string v)) := (((((((HB0.out.trans (b1.out.mono HB0.out.size)).setCell (p := ⟨w.heap.size + 1, 0, none⟩) (by dsimp only; omega) _).setCell (p := ⟨w.heap.size + 1, 1, none⟩) (by dsimp only; omega) _).setCell (p := ⟨w.heap.size + 1, 2, none⟩) (by dsimp only; omega) _).setCell (p := ⟨w.heap.size + 1, 3, none⟩) (by dsimp only; omega) _).setCell (p := ⟨w.heap.size + 1, 4, none⟩) (by dsimp only; omega) _).setCell (p := ⟨w.heap.size + 1, 5, none⟩) (by dsimp only; omega) _)
  generalize ((((((w1.setCell ⟨w.heap.size + 1, 0, none⟩ (.int .i64 3)).setCell ⟨w.heap.size + 1, 1, none⟩ (.int .i64 f)).setCell ⟨w.heap.size + 1, 2, none⟩ (.int .i64 o)).setCell ⟨w.heap.size + 1, 3, none⟩ (.int .i64 b)).setCell ⟨w.heap.size + 1, 4, none⟩ (.int .i64 0)).setCell ⟨w.heap.size + 1, 5, none⟩ (.string v)) = w9 at NB BF ⊢
  refine bodyPost_ret (results_cell_row Try.results138 _ _ (w.heap.size + 1) 111 #[.int .i64 3, .int .i64 f, .int .i64 o, .int .i64 b, .int .i64 0, .string v] (0, 0) _ rfl NB Try.underlying111 rfl (by kernel_rfl)) rfl ?_
  first | exact ⟨rfl, BF⟩ | exact ⟨rfl, BF.drew⟩

set_option maxRecDepth 100000 in
theorem note1_any (b f o : Int) (w : World) : Calls Try.prog 137 #[.agg #[.int .i64 b], .int .i64 f, .int .i64 o] w fun e w' => e = .returned (.agg #[.int .i64 1, .int .i64 f, .int .i64 o, .int .i64 b, .int .i64 0, .string ⟨#[]⟩]) ∧ Below w.heap.size w w' := by
  go_enter Try.func137, Try.ntmps137
  go_wp2
  go_returns
  exact ⟨rfl, by go_grown⟩
set_option maxRecDepth 100000 in
theorem implNextB_any (g o : Nat) (i b r : Int) (w : World) (x0 : w.cell? ⟨g, o, none⟩ = some (.int .i64 i)) (x1 : w.cell? ⟨g, o + 1, none⟩ = some (.int .i64 b)) (hb : 0 ≤ b ∧ b ≤ 1000000) (hr : (if 0 < b then b + 10 else i) = r) :
    Calls Try.prog 92 #[.pointer (some ⟨g, o, none⟩)] w fun e w' => e = .returned (.int .i64 r) ∧ w' = w := by
  by_cases c : b = 0
  · have q : (b == 0) = true := by simp [c]
    rw [if_neg (by omega)] at hr
    subst hr
    clear c
    go_enter Try.func92, Try.ntmps92
    go_wp2
    go_ret
    exact ⟨rfl, rfl⟩
  · have q : (b == 0) = false := by simp [c]
    rw [if_pos (by omega)] at hr
    subst hr
    have qw : IntKind.i64.wrap (b + 10) = b + 10 := IntWalk.i64_in _ ⟨by omega, by omega⟩
    go_enter Try.func92, Try.ntmps92
    go_wp2
    go_ret
    exact ⟨rfl, rfl⟩
/-- A try's seven cells, new ones. -/
def bgC (i b : Int) (v : ByteArray) : List Value := [.int .i64 i, .int .i64 b, .string v, .slice none 0 0, .bool false, .slice none 0 0, .bool false]
set_option maxRecDepth 100000 in
set_option maxHeartbeats 1000000 in
theorem put7 (w : World) (g o : Nat) (a0 a1 a2 a3 a4 a5 a6 : Value) : (((((((w.setCell ⟨g, o, none⟩ a0).setCell ⟨g, o + 1, none⟩ a1).setCell ⟨g, o + 2, none⟩ a2).setCell ⟨g, o + 3, none⟩ a3).setCell ⟨g, o + 4, none⟩ a4).setCell ⟨g, o + 5, none⟩ a5).setCell ⟨g, o + 6, none⟩ a6) = putG w g o [a0, a1, a2, a3, a4, a5, a6] := by simp only [putG, Nat.add_assoc, Nat.reduceAdd]
set_option maxRecDepth 100000 in
set_option maxHeartbeats 1000000 in
theorem implBegin_any (g o : Nat) (i b : Int) (v : ByteArray) (w : World) (x0 : w.cell? ⟨g, o, none⟩ = some (.int .i64 i)) (hx : ∀ j, j < 7 → ∃ u, w.cell? ⟨g, o + j, none⟩ = some u) (hf : ∀ j, w.frozen? ⟨g, j, none⟩ = false) :
    Calls Try.prog 93 #[.pointer (some ⟨g, o, none⟩), .int .i64 b, .string v] w fun e w' => e = .returned (.tuple #[]) ∧ ∃ w1, Below w.heap.size w w1 ∧ w' = putG w1 g o (bgC i b v) := by
  have hg : g < w.heap.size := World.block_lt_of_cell? w _ x0
  obtain ⟨u1, x1⟩ := hx 1 (by omega)
  obtain ⟨u2, x2⟩ := hx 2 (by omega)
  obtain ⟨u3, x3⟩ := hx 3 (by omega)
  obtain ⟨u4, x4⟩ := hx 4 (by omega)
  obtain ⟨u5, x5⟩ := hx 5 (by omega)
  obtain ⟨u6, x6⟩ := hx 6 (by omega)
  have HX := hide1 (And.intro x0 (And.intro x1 (And.intro x2 (And.intro x3 (And.intro x4 (And.intro x5 x6))))))
  have HF := hide1 hf
  clear hx
  go_enter Try.func93, Try.ntmps93
  go_wp2_with fail
  go_region_with ((go_at_call 98; refine (newB_any _ _).mono ?_; rintro e w2 ⟨rfl, hb2⟩; clear x0 x1 x2 x3 x4 x5 x6 hf; have x0 : w2.cell? ⟨g, o, none⟩ = some (.int .i64 i) := (hb2.cell hg).trans HX.out.1; have x1 : w2.cell? ⟨g, o + 1, none⟩ = some u1 := (hb2.cell hg).trans HX.out.2.1; have x2 : w2.cell? ⟨g, o + 2, none⟩ = some u2 := (hb2.cell hg).trans HX.out.2.2.1; have x3 : w2.cell? ⟨g, o + 3, none⟩ = some u3 := (hb2.cell hg).trans HX.out.2.2.2.1; have x4 : w2.cell? ⟨g, o + 4, none⟩ = some u4 := (hb2.cell hg).trans HX.out.2.2.2.2.1; have x5 : w2.cell? ⟨g, o + 5, none⟩ = some u5 := (hb2.cell hg).trans HX.out.2.2.2.2.2.1; have x6 : w2.cell? ⟨g, o + 6, none⟩ = some u6 := (hb2.cell hg).trans HX.out.2.2.2.2.2.2; have hf : ∀ j, w2.frozen? ⟨g, j, none⟩ = false := fun j => (hb2.frozen (p := ⟨g, j, none⟩) hg).trans (HF.out j)))
  all_goals
    refine bodyPost_end (results_none Try.results93 _ _ _) rfl ?_
    refine ⟨rfl, w2, (show Below w.heap.size w w.drew from (Below.refl _ _).drew).trans hb2, ?_⟩
    first | exact put7 _ _ _ _ _ _ _ _ _ _ | (unfold bgC; exact put7 w2 g o _ _ _ _ _ _ _) | rfl
end Go.Proofs.Ytgehdgmllilmgaa
namespace Go.Proofs.Ytgehdgmllilmgaa
open Go.RowKit
set_option linter.unusedVariables false

theorem range_next {α : Type} (f : Nat → α) (j : Nat) : (List.range (j + 1)).map f = (List.range j).map f ++ [f j] := by rw [List.range_succ, List.map_append]; rfl
theorem fillR {α : Type} (f : Nat → α) (z : α) {n j : Nat} (h : j < n) : ((List.range j).map f ++ List.replicate (n - j) z).set j (f j) = (List.range (j + 1)).map f ++ List.replicate (n - (j + 1)) z := by
  have hl : ((List.range j).map f).length = j := by simp
  rw [List.set_append_right _ _ (by omega), hl, Nat.sub_self, show n - j = (n - (j + 1)) + 1 by omega, List.replicate_succ, List.set_cons_zero, range_next, List.append_assoc]
  rfl
theorem nilA1 (k : Nat) (b : Int) (w : World) : Sem.run Try.prog (nilAhead (k + 9) 137 (.agg #[.int .i64 b]) "loop.example/g00180/impl.note") w = .ok (some false) w := by kernel_rfl
theorem nilA3 (k : Nat) (b : Int) (v : ByteArray) (w : World) : Sem.run Try.prog (nilAhead (k + 9) 159 (.agg #[.int .i64 b, .string v]) "loop.example/g00180/impl.note") w = .ok (some false) w := by kernel_rfl
theorem put6 (w : World) (g o : Nat) (a0 a1 a2 a3 a4 a5 : Value) : ((((((w.setCell ⟨g, o, none⟩ a0).setCell ⟨g, o + 1, none⟩ a1).setCell ⟨g, o + 2, none⟩ a2).setCell ⟨g, o + 3, none⟩ a3).setCell ⟨g, o + 4, none⟩ a4).setCell ⟨g, o + 5, none⟩ a5) = putG w g o [a0, a1, a2, a3, a4, a5] := by simp only [putG, Nat.add_assoc, Nat.reduceAdd]

set_option maxRecDepth 100000 in
set_option maxHeartbeats 1000000 in
theorem askAllP_any (g o : Nat) (i b : Int) (n : Nat) (w : World) (x0 : w.cell? ⟨g, o, none⟩ = some (.int .i64 i)) (hn : n ≤ 1000) :
    Calls Try.prog 94 #[.pointer (some ⟨g, o, none⟩), .iface 137 (.agg #[.int .i64 b]), .int .i64 (n : Int)] w fun e w' => (∃ a ca, e = .returned (.slice a n ca) ∧ w'.ownsRow w.heap.size 111 6 (.slice a n ca) n (rowG ntC ((List.range n).map (askP i b)))) ∧ Below w.heap.size w w' := by
  have hg : g < w.heap.size := World.block_lt_of_cell? w _ x0
  have X0 := hide1 x0
  obtain ⟨i0, hi, hz0, hz1, hz2⟩ := info_parts Try.infoN
  clear x0
  go_enter Try.func94, Try.ntmps94
  go_wp2_with (at_make; (refine wpList_make_full _ rfl _ _ 29 rfl w.heap.size 111 i0 (.agg #[.int .i64 0, .int .i64 0, .int .i64 0, .int .i64 0, .int .i64 0, .string ⟨#[]⟩]) 6 Try.underlying29 hi hz0 hz1 _ _ _ _ n rfl rfl rfl rfl (by rw [hz2]; omega) (by unfold maxLen; omega) (Nat.le_refl _) ?_; intro w0 hown0 hg0))
  rw [show (madeCells (Value.agg #[.int .i64 0, .int .i64 0, .int .i64 0, .int .i64 0, .int .i64 0, .string ⟨#[]⟩]).cells (n * 6)).toList = rowG ntC (List.replicate n zN) from made6 n] at hown0
  have HO := hide1 hown0
  clear hown0
  go_loopw [13] (fun iv wr => ∃ j : Nat, j ≤ n ∧ iv = .int .i64 (j : Int) ∧ Hid (wr.ownsRow w.heap.size 111 6 (.slice (some ⟨w.heap.size, 0, none⟩) n n) n (rowG ntC ((List.range j).map (askP i b) ++ List.replicate (n - j) zN))) ∧ Hid (Below w.heap.size w wr)) (fun iv _ => n - (intOf iv).toNat)
  case atStart => exact ⟨0, by omega, rfl, hide1 (by simpa using HO.out), hide1 (Below.grown (Below.refl _ _) hg0 (Nat.le_refl _) (by intro k hk; cases hk))⟩
  case round =>
    obtain ⟨j, hj, rfl, HO1, HB⟩ := hrel
    by_cases hlt : j < n
    · have k1 : (j : Int) < (n : Int) := by omega
      have k0 : (0 : Int) ≤ (j : Int) := by omega
      have x0 : wr.cell? ⟨g, o, none⟩ = some (.int .i64 i) := (HB.out.cell hg).trans X0.out
      have CN := hide1 (fun w' => note1_any b i ((j : Int) + 1) w')
      have qw : IntKind.i64.wrap ((j : Int) + 1) = (j : Int) + 1 := IntWalk.i64_in _ ⟨by omega, by omega⟩
      have NA := fun (k : Nat) (w' : World) => nilA1 k b w'
      go_wp2_with fail
      go_region_with (go_at_call 137; refine (CN.out _).mono ?_; rintro e w2 ⟨rfl, hb2⟩; have D2 : Hid (Below wr.heap.size wr w2) := (show Below wr.heap.size wr _ by go_grown).trans hb2; have O2 := hide1 (own_kept HO1.out D2.out); clear hb2; obtain ⟨u0, y0⟩ := own_some O2.out (j * 6) (by omega); obtain ⟨u1, y1⟩ := own_some O2.out (j * 6 + 1) (by omega); obtain ⟨u2, y2⟩ := own_some O2.out (j * 6 + 2) (by omega); obtain ⟨u3, y3⟩ := own_some O2.out (j * 6 + 3) (by omega); obtain ⟨u4, y4⟩ := own_some O2.out (j * 6 + 4) (by omega); obtain ⟨u5, y5⟩ := own_some O2.out (j * 6 + 5) (by omega); have f0 := O2.out.frozenAt (j * 6); have f1 := O2.out.frozenAt (j * 6 + 1); have f2 := O2.out.frozenAt (j * 6 + 2); have f3 := O2.out.frozenAt (j * 6 + 3); have f4 := O2.out.frozenAt (j * 6 + 4); have f5 := O2.out.frozenAt (j * 6 + 5))
      all_goals
        have B2 := hide1 (HB.out.trans (D2.out.mono HB.out.size))
        clear x0 y0 y1 y2 y3 y4 y5 f0 f1 f2 f3 f4 f5 CN
        rw [put6]
        have O3 := hide1 (own_putG (ntC (askP i b j)) (j * 6) O2.out)
        have B3 := hide1 (below_putG (ntC (askP i b j)) (j * 6) B2.out (Nat.le_refl w.heap.size))
        have e3 := rowG_set ntC 6 encN.len ((List.range j).map (askP i b) ++ List.replicate (n - j) zN) j (askP i b j) (by simp; omega)
        rw [fillR _ _ hlt] at e3
        rw [← e3] at O3
        go_wp2
        go_roundw
        case rel => exact ⟨j + 1, by omega, by go_num, O3, B3⟩
        case measure => simp [intOf]; omega
    · obtain rfl : j = n := by omega
      have k1 : ¬ ((j : Int) < (j : Int)) := by omega
      have ho := HO1.out
      rw [Nat.sub_self, List.replicate_zero, List.append_nil] at ho
      have HO2 := hide1 ho
      clear ho HO1 HO
      go_wp2
      go_ret
      exact ⟨⟨_, _, rfl, HO2.out⟩, HB.out⟩

set_option maxRecDepth 100000 in
set_option maxHeartbeats 1000000 in
theorem askAllT_any (g o : Nat) (i b : Int) (v : ByteArray) (n : Nat) (w : World) (x0 : w.cell? ⟨g, o, none⟩ = some (.int .i64 i)) (hn : n ≤ 1000) :
    Calls Try.prog 94 #[.pointer (some ⟨g, o, none⟩), .iface 159 (.agg #[.int .i64 b, .string v]), .int .i64 (n : Int)] w fun e w' => (∃ a ca, e = .returned (.slice a n ca) ∧ w'.ownsRow w.heap.size 111 6 (.slice a n ca) n (rowG ntC ((List.range n).map (askT i b v)))) ∧ Below w.heap.size w w' := by
  have hg : g < w.heap.size := World.block_lt_of_cell? w _ x0
  have X0 := hide1 x0
  obtain ⟨i0, hi, hz0, hz1, hz2⟩ := info_parts Try.infoN
  clear x0
  go_enter Try.func94, Try.ntmps94
  go_wp2_with (at_make; (refine wpList_make_full _ rfl _ _ 29 rfl w.heap.size 111 i0 (.agg #[.int .i64 0, .int .i64 0, .int .i64 0, .int .i64 0, .int .i64 0, .string ⟨#[]⟩]) 6 Try.underlying29 hi hz0 hz1 _ _ _ _ n rfl rfl rfl rfl (by rw [hz2]; omega) (by unfold maxLen; omega) (Nat.le_refl _) ?_; intro w0 hown0 hg0))
  rw [show (madeCells (Value.agg #[.int .i64 0, .int .i64 0, .int .i64 0, .int .i64 0, .int .i64 0, .string ⟨#[]⟩]).cells (n * 6)).toList = rowG ntC (List.replicate n zN) from made6 n] at hown0
  have HO := hide1 hown0
  clear hown0
  go_loopw [13] (fun iv wr => ∃ j : Nat, j ≤ n ∧ iv = .int .i64 (j : Int) ∧ Hid (wr.ownsRow w.heap.size 111 6 (.slice (some ⟨w.heap.size, 0, none⟩) n n) n (rowG ntC ((List.range j).map (askT i b v) ++ List.replicate (n - j) zN))) ∧ Hid (Below w.heap.size w wr)) (fun iv _ => n - (intOf iv).toNat)
  case atStart => exact ⟨0, by omega, rfl, hide1 (by simpa using HO.out), hide1 (Below.grown (Below.refl _ _) hg0 (Nat.le_refl _) (by intro k hk; cases hk))⟩
  case round =>
    obtain ⟨j, hj, rfl, HO1, HB⟩ := hrel
    by_cases hlt : j < n
    · have k1 : (j : Int) < (n : Int) := by omega
      have k0 : (0 : Int) ≤ (j : Int) := by omega
      have x0 : wr.cell? ⟨g, o, none⟩ = some (.int .i64 i) := (HB.out.cell hg).trans X0.out
      have CN := hide1 (fun w' => note3_any b i ((j : Int) + 1) v w')
      have qw : IntKind.i64.wrap ((j : Int) + 1) = (j : Int) + 1 := IntWalk.i64_in _ ⟨by omega, by omega⟩
      have NA := fun (k : Nat) (w' : World) => nilA3 k b v w'
      go_wp2_with fail
      go_region_with (go_at_call 138; refine (CN.out _).mono ?_; rintro e w2 ⟨rfl, hb2⟩; have D2 : Hid (Below wr.heap.size wr w2) := (show Below wr.heap.size wr _ by go_grown).trans hb2; have O2 := hide1 (own_kept HO1.out D2.out); clear hb2; obtain ⟨u0, y0⟩ := own_some O2.out (j * 6) (by omega); obtain ⟨u1, y1⟩ := own_some O2.out (j * 6 + 1) (by omega); obtain ⟨u2, y2⟩ := own_some O2.out (j * 6 + 2) (by omega); obtain ⟨u3, y3⟩ := own_some O2.out (j * 6 + 3) (by omega); obtain ⟨u4, y4⟩ := own_some O2.out (j * 6 + 4) (by omega); obtain ⟨u5, y5⟩ := own_some O2.out (j * 6 + 5) (by omega); have f0 := O2.out.frozenAt (j * 6); have f1 := O2.out.frozenAt (j * 6 + 1); have f2 := O2.out.frozenAt (j * 6 + 2); have f3 := O2.out.frozenAt (j * 6 + 3); have f4 := O2.out.frozenAt (j * 6 + 4); have f5 := O2.out.frozenAt (j * 6 + 5))
      all_goals
        have B2 := hide1 (HB.out.trans (D2.out.mono HB.out.size))
        clear x0 y0 y1 y2 y3 y4 y5 f0 f1 f2 f3 f4 f5 CN
        rw [put6]
        have O3 := hide1 (own_putG (ntC (askT i b v j)) (j * 6) O2.out)
        have B3 := hide1 (below_putG (ntC (askT i b v j)) (j * 6) B2.out (Nat.le_refl w.heap.size))
        have e3 := rowG_set ntC 6 encN.len ((List.range j).map (askT i b v) ++ List.replicate (n - j) zN) j (askT i b v j) (by simp; omega)
        rw [fillR _ _ hlt] at e3
        rw [← e3] at O3
        go_wp2
        go_roundw
        case rel => exact ⟨j + 1, by omega, by go_num, O3, B3⟩
        case measure => simp [intOf]; omega
    · obtain rfl : j = n := by omega
      have k1 : ¬ ((j : Int) < (j : Int)) := by omega
      have ho := HO1.out
      rw [Nat.sub_self, List.replicate_zero, List.append_nil] at ho
      have HO2 := hide1 ho
      clear ho HO1 HO
      go_wp2
      go_ret
      exact ⟨⟨_, _, rfl, HO2.out⟩, HB.out⟩

end Go.Proofs.Ytgehdgmllilmgaa
namespace Go.Proofs.Ytgehdgmllilmgaa
open Go.RowKit
set_option linter.unusedVariables false

section
variable {base : Nat} {w : World} {A : CA} {xs : List Value} {c : Cn}
theorem OwX.putGX {g : Nat} (ha : A.ta = some ⟨g, 0, none⟩) : ∀ (vs : List Value) {w : World} {xs : List Value} (m : Nat), OwX base w A xs c → OwX base (putG w g m vs) A (setL xs m vs) c
  | [], _, _, _, h => h
  | v :: vs, w, xs, m, h => OwX.putGX ha vs (m + 1) (h.setX ha m v)
end
theorem FrB.putG {A A' : CA} {B g : Nat} {w : World} (hg : InA A g) : ∀ (vs : List Value) {w' : World} (m : Nat), FrB A B w A' w' → FrB A B w A' (putG w' g m vs)
  | [], _, _, h => h
  | v :: vs, w', m, h => FrB.putG hg vs (m + 1) (h.step (gset (World.grownBy.refl w' (some g)) m v) (fun q hq => by injection hq with hq; subst hq; exact .inl hg))
theorem putG_blk {G g : Nat} {t : TypeId} {cs : List Value} (hn : G ≠ g) : ∀ (vs : List Value) {w : World} (m : Nat), Blk w G t cs → Blk (putG w g m vs) G t cs
  | [], _, _, h => h
  | v :: vs, w, m, h => putG_blk hn vs (m + 1) (h.far ⟨g, m, none⟩ v hn)
/-- A new try in its place. -/
def nTm (i b : Int) (v : ByteArray) : Tm := ⟨⟨i, b, v, [], false, [], false⟩, none, 0, none, 0⟩
section
variable {base : Nat} {w w' : World} {B : Nat} {A : CA} {c : Cn}
theorem setL_in {A : CA} {j : Nat} {u : Tm} (hu : u.pa = none ∧ u.ka = none) {G : Nat} (h : InA { A with L := A.L.set j u } G) : InA A G := by
  obtain ⟨q, x, hx, e⟩ := h
  rcases slotCase q with rfl | rfl | rfl | rfl | ⟨p, rfl⟩ | ⟨p, rfl⟩
  · exact ⟨0, x, hx, e⟩
  · exact ⟨1, x, hx, e⟩
  · exact ⟨2, x, hx, e⟩
  · exact ⟨3, x, hx, e⟩
  · rw [slotP] at hx
    have hx : (match (A.L.set j u)[p]? with | none => none | some t => t.pa) = some x := hx
    rw [List.getElem?_set] at hx
    by_cases ej : j = p
    · rw [if_pos ej] at hx
      split at hx
      · cases hx
      · rename_i t ht
        split at ht
        · injection ht with ht; subst ht; rw [hu.1] at hx; cases hx
        · cases ht
    · rw [if_neg ej] at hx
      exact ⟨2 * p + 4, x, by rw [slotP]; exact hx, e⟩
  · rw [slotK] at hx
    have hx : (match (A.L.set j u)[p]? with | none => none | some t => t.ka) = some x := hx
    rw [List.getElem?_set] at hx
    by_cases ej : j = p
    · rw [if_pos ej] at hx
      split at hx
      · cases hx
      · rename_i t ht
        split at ht
        · injection ht with ht; subst ht; rw [hu.2] at hx; cases hx
        · cases ht
    · rw [if_neg ej] at hx
      exact ⟨2 * p + 5, x, by rw [slotK]; exact hx, e⟩
/-- A try that is begun anew, in the variable's council. -/
theorem VaO.begin (h : VaO base w B A c) {g j : Nat} (hta : A.ta = some ⟨g, 0, none⟩) (hj : j < A.L.length) (hw : Below w.heap.size w w') (i b : Int) (v : ByteArray) :
    VaO base (putG w' g (j * 7) (bgC i b v)) B { A with L := A.L.set j (nTm i b v) } { c with ts := c.ts.set j (nTm i b v).y } ∧ FrB A B w { A with L := A.L.set j (nTm i b v) } (putG w' g (j * 7) (bgC i b v)) := by
  have h1 := h.kept hw
  have hin : InA A g := ⟨1, _, hta, rfl⟩
  have hBg : B ≠ g := fun e => h.nb (e ▸ hin)
  have hf : FrB A B w { A with L := A.L.set j (nTm i b v) } (putG w' g (j * 7) (bgC i b v)) := (FrB.putG hin (bgC i b v) (j * 7) ((FrB.refl A B w).below hw)).put (fun G hG => .inl (setL_in ⟨rfl, rfl⟩ hG))
  have hq : A.L[j]? = some A.L[j] := List.getElem?_eq_getElem hj
  have ho := h1.o.putGX hta (bgC i b v) (j * 7)
  have e7 := rowG_set tmC 7 encT.len A.L j (nTm i b v) hj
  have e8 : setL (rowG tmC A.L) (j * 7) (bgC i b v) = rowG tmC (A.L.set j (nTm i b v)) := e7.symm
  rw [e8] at ho
  have o1 := ho.putP' hq (a' := none) (c' := 0) (ps := []) (World.grownBy.refl _ _) own_none0 (fun x hx => by cases hx)
  have o2 := o1.putK' (j := j) (show _ = some _ from (getL_set hj).trans (if_pos rfl)) (a' := none) (c' := 0) (tk := []) (World.grownBy.refl _ _) own_none0 (fun x hx => by cases hx)
  have o3 := o2.putY' (j := j) (show _ = some _ from (getL_set (by rw [List.length_set]; exact hj)).trans (if_pos rfl)) (nTm i b v).y rfl rfl
  simp only [List.set_set] at o3
  refine ⟨⟨?_, o3, fun e => h.nb (setL_in ⟨rfl, rfl⟩ e), Nat.le_trans h.lb hf.size⟩, hf⟩
  have := putG_blk hBg (bgC i b v) (j * 7) h1.b
  unfold cnC at this ⊢
  rw [List.length_set]
  exact this
end
end Go.Proofs.Ytgehdgmllilmgaa
namespace Go.Proofs.Ytgehdgmllilmgaa
open Go.RowKit
set_option linter.unusedVariables false

theorem tyAt_nat (c : Cn) {j : Nat} (hj : j < c.ts.length) : tyAt c ((j : Int) + 1) = c.ts[j] := by
  unfold tyAt
  rw [show ((j : Int) + 1).toNat - 1 = j by omega, List.getD_eq_getElem?_getD, List.getElem?_eq_getElem hj]
  rfl
theorem setTy_nat (c : Cn) (j : Nat) (t : Ty) : setTy c ((j : Int) + 1) t = { c with ts := c.ts.set j t } := by
  unfold setTy
  rw [show ((j : Int) + 1).toNat - 1 = j by omega]
section
variable {base : Nat} {w : World} {B : Nat} {A : CA} {c : Cn}
/-- Where a try lies. -/
theorem VaO.tryAt (h : VaO base w B A c) {j : Nat} (hj : j < c.ts.length) : ∃ g t, A.ta = some ⟨g, 0, none⟩ ∧ A.L[j]? = some t ∧ t.y = c.ts[j] ∧ ∀ q, q < 7 → w.cell? ⟨g, j * 7 + q, none⟩ = (tmC t)[q]? := by
  have hl := h.o.len
  have hjL : j < A.L.length := by omega
  have hR := rdG_of_own encT.len h.o.t hl
  obtain ⟨g, hta⟩ : ∃ g, A.ta = some ⟨g, 0, none⟩ := by
    rcases h.o.t.2 with ⟨hv, h0⟩ | ⟨g, cap, cur, hv, _⟩
    · omega
    · injection hv with e1; exact ⟨g, e1⟩
  obtain ⟨b, o, ha, hb, hc⟩ := hR j hjL
  rw [hta] at ha
  injection ha with ha
  injection ha with e1 e2
  subst e1 e2
  refine ⟨g, A.L[j], hta, List.getElem?_eq_getElem hjL, ?_, fun q hq => ?_⟩
  · have := h.o.e
    have e : (A.L.map (·.y))[j]'(by rw [List.length_map]; exact hjL) = c.ts[j] := by simp only [this]
    rw [← e, List.getElem_map]
  · have := hc q hq
    rw [Nat.zero_add] at this
    exact this
end
set_option maxRecDepth 100000 in
set_option maxHeartbeats 4000000 in
theorem implProp_any (c : Cn) (A : CA) (B base : Nat) (w : World) (j : Nat) (v : ByteArray) (a : Int) (h : VaO base w B A c) (hj : j < c.ts.length) (hid : c.ts[j].i = (j : Int) + 1) (hb : 0 ≤ c.ts[j].b ∧ c.ts[j].b ≤ 1000000) (hT : c.ts.length ≤ 1000) (nv : c.vs.length ≤ 1000) (nn : c.ns.length ≤ 100000) :
    Calls Try.prog 74 #[.pointer (some ⟨B, 0, none⟩), .int .i64 ((j : Int) + 1), .string v] w fun e w' => e = .returned (.int .i64 (propC c ⟨1, (j : Int) + 1, a, v⟩).2) ∧ (∃ A', VaO base w' B A' (propC c ⟨1, (j : Int) + 1, a, v⟩).1 ∧ FrB A B w A' w') := by
  obtain ⟨g, t, hta, htq, hty, hc⟩ := h.tryAt hj
  have hjL : j < A.L.length := (List.getElem?_eq_some_iff.1 htq).1
  have x0 : w.cell? ⟨g, j * 7, none⟩ = some (.int .i64 ((j : Int) + 1)) := by rw [← hid, ← hty]; exact hc 0 (by omega)
  have x1 : w.cell? ⟨g, j * 7 + 1, none⟩ = some (.int .i64 c.ts[j].b) := by rw [← hty]; exact hc 1 (by omega)
  obtain ⟨nb, hnb⟩ : ∃ nb, (if 0 < c.ts[j].b then c.ts[j].b + 10 else (j : Int) + 1) = nb := ⟨_, rfl⟩
  have HP := hide1 (show propC c ⟨1, (j : Int) + 1, a, v⟩ = if 10000 < nb then (c, 1) else ({ c with ts := c.ts.set j ⟨(j : Int) + 1, nb, v, [], false, [], false⟩, ns := c.ns ++ (List.range c.vs.length).map (askP ((j : Int) + 1) nb) }, 0) by
    unfold propC nextB
    rw [tyAt_nat c hj]
    show (if 10000 < (if 0 < c.ts[j].b then c.ts[j].b + 10 else (j : Int) + 1) then _ else _) = _
    rw [hnb, setTy_nat])
  rw [HP.out]
  have C1 := hide1 (implNextB_any g (j * 7) ((j : Int) + 1) c.ts[j].b nb w x0 x1 hb hnb)
  have hnbB : nb ≤ 1000010 ∧ 0 ≤ nb := by rw [← hnb]; split <;> omega
  have C2 := hide1 (implBegin_any g (j * 7) ((j : Int) + 1) nb v w x0 (fun q hq => by rw [hc q hq]; match q, hq with | 0, _ => exact ⟨_, rfl⟩ | 1, _ => exact ⟨_, rfl⟩ | 2, _ => exact ⟨_, rfl⟩ | 3, _ => exact ⟨_, rfl⟩ | 4, _ => exact ⟨_, rfl⟩ | 5, _ => exact ⟨_, rfl⟩ | 6, _ => exact ⟨_, rfl⟩) (fun q => h.o.frozX hta q))
  have HV := hide1 h
  have HTA := hide1 hta
  have y1 := h.cells.2.1
  rw [hta] at y1
  have kj : (j : Int) < (c.ts.length : Int) := by omega
  have kj0 : (0 : Int) ≤ (j : Int) := by omega
  have qw : (j : Int) + 1 - 1 = (j : Int) := by omega
  have qw2 : IntKind.i64.wrap ((j : Int) + 1 - 1) = (j : Int) := by rw [qw]; exact IntWalk.i64_in _ ⟨by omega, by omega⟩
  clear h hc x0 x1 hnb hty hid hb
  by_cases cb : 10000 < nb
  · rw [if_pos cb]
    go_enter Try.func74, Try.ntmps74
    go_wp2_with fail
    refine C1.out.mono ?_
    rintro e w1 ⟨rfl, rfl⟩
    go_wp2
    go_ret
    exact ⟨rfl, A, HV.out, FrB.refl _ _ _⟩
  · rw [if_neg cb]
    go_enter Try.func74, Try.ntmps74
    go_wp2_with fail
    refine C1.out.mono ?_
    rintro e w1 ⟨rfl, rfl⟩
    clear C1
    go_wp2_with fail
    refine C2.out.mono ?_
    rintro e w2 ⟨rfl, w1, hb1, rfl⟩
    have HV2 := hide1 (HV.out.begin HTA.out hjL hb1 ((j : Int) + 1) nb v).1
    have HF2 := hide1 (HV.out.begin HTA.out hjL hb1 ((j : Int) + 1) nb v).2
    clear C2 hb1 y1 HV
    generalize putG w1 g (j * 7) (bgC ((j : Int) + 1) nb v) = w2 at HV2 HF2 ⊢
    have z0 := HV2.out.cells.1
    have z2 := HV2.out.cells.2.2.1
    have zf : w2.frozen? ⟨B, 2, none⟩ = false := HV2.out.b.froz 2
    have lB : B < w2.heap.size := HV2.out.b.lt
    have Z2 := hide1 z2
    have Z0 := hide1 z0
    have ZF := hide1 zf
    have XG := hide1 (show w2.cell? ⟨g, j * 7, none⟩ = some (.int .i64 ((j : Int) + 1)) from HV2.out.o.cellX HTA.out (by
      have hl : j < (A.L.set j (nTm ((j : Int) + 1) nb v)).length := by rw [List.length_set]; exact hjL
      have := rowG_at tmC 7 encT.len (A.L.set j (nTm ((j : Int) + 1) nb v)) j 0 hl (by decide)
      rw [Nat.add_zero] at this
      show (rowG tmC (A.L.set j (nTm ((j : Int) + 1) nb v)))[j * 7]? = _
      rw [this, List.getElem_set_self]
      rfl))
    have lg : g < w2.heap.size := World.block_lt_of_cell? w2 _ XG.out
    have CA3 := hide1 (fun w' (hb : Below w2.heap.size w2 w') => askAllP_any g (j * 7) ((j : Int) + 1) nb c.vs.length w' ((hb.cell lg).trans XG.out) nv)
    have hlen : ((List.range c.vs.length).map (askP ((j : Int) + 1) nb)).length = c.vs.length := by simp
    have HLN := hide1 hlen
    clear hlen
    go_wp2_with fail
    go_region_law ((first
      | (have := D3.out; refine step_appA encN rowN rfl (.tmp 28) (.tmp 38) rfl base _ c.ns.length c.ns rfl ((HV2.out.kept D3.out).o.n) a3 c.vs.length c3 ((List.range c.vs.length).map (askP ((j : Int) + 1) nb)) rfl HLN.out (rdG_of_own encN.len O3.out HLN.out) (by omega) (HV2.out.kept D3.out).lb ?_; intro b5 c5 w5 ho5 hg5 hl5; have HO5 := hide1 ho5; have HG5 := hide1 hg5; have HL5 := hide1 hl5; have KB := hide1 (gblk hg5 (HV2.out.kept D3.out).b (fun e => HV2.out.nb (inN e))); clear ho5 hg5 hl5 z0 z2 zf; have z2 : w5.cell? ⟨B, 2, none⟩ = some (.slice A.na c.ns.length A.nc) := KB.out.cell 2; have zf : w5.frozen? ⟨B, 2, none⟩ = false := KB.out.froz 2)
      | (go_simp; go_at_call 94; refine (CA3.out _ (by go_grown)).mono ?_; rintro e w3 ⟨⟨a3, c3, rfl, ho3⟩, hb3⟩; have D3 : Hid (Below w2.heap.size w2 w3) := (show Below w2.heap.size w2 _ by go_grown).trans hb3; have O3 := hide1 ho3; clear ho3 hb3 z0 z2 zf; have z0 : w3.cell? ⟨B, 0, none⟩ = some (.slice A.va c.vs.length A.vc) := (D3.out.cell lB).trans Z0.out; have z2 : w3.cell? ⟨B, 2, none⟩ = some (.slice A.na c.ns.length A.nc) := (D3.out.cell lB).trans Z2.out; have zf : w3.frozen? ⟨B, 2, none⟩ = false := (D3.out.frozen lB).trans ZF.out)))
    all_goals
      go_wp2
      go_ret
      have e1 : (c.ns ++ (List.range c.vs.length).map (askP ((j : Int) + 1) nb)).length = c.ns.length + c.vs.length := by rw [List.length_append, HLN.out]
      have P := (HV2.out.kept D3.out).putN (ns := c.ns ++ (List.range c.vs.length).map (askP ((j : Int) + 1) nb)) (a' := b5) (c' := c5) HG5.out (by rw [e1]; exact HO5.out) HL5.out
      rw [e1] at P
      exact ⟨rfl, _, P.1, HF2.out.trans (((FrB.refl _ _ _).below D3.out).trans P.2)⟩
end Go.Proofs.Ytgehdgmllilmgaa
