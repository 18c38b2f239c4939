/- New near entries, by the program and by the model. -/
import Derived.Test.YtenmpciimocggaaGreatNeE
import Derived.Test.YtenmpciimocggaaGreatNeI1
import Derived.Test.YtenmpciimocggaaGreatXRI
import Derived.Test.YtenmpciimocggaaGreatXSK
import Derived.Test.YtenmpciimocggaaGreatXK
import Derived.Test.YtenmpciimocggaaGreatXQK
namespace Go.Proofs.YtenmpciimocggaaGreat
open Go.RowKit
set_option linter.unusedVariables false

theorem implNewA_own (n : Nat) (h1 : 1 ≤ n) (hn : n ≤ 24) (w : World) :
    Calls Tryz.prog 13 #[.int .i64 (n : Int)] w fun e w' => ∃ b c, e = .returned (.tuple #[.agg #[.slice (some ⟨b, 0, none⟩) n c, .int .i64 0], .bool true]) ∧ w'.ownsRow w.heap.size 67 5 (.slice (some ⟨b, 0, none⟩) n c) n (sls (newL n n)) ∧ Below w.heap.size w w' := by
  refine (implNewA_any (n : Int) w).mono ?_
  rintro e w' ⟨⟨m, b, c, hm, _, _, rfl, ho⟩ | ⟨_, hN⟩, hb⟩
  · obtain rfl : m = n := by omega
    exact ⟨b, c, rfl, ho, hb⟩
  · exact absurd ⟨by omega, by omega⟩ hN
theorem specNewA_own (n : Nat) (h1 : 1 ≤ n) (hn : n ≤ 24) (w : World) :
    Calls Tryz.prog 17 #[.int .i64 (n : Int)] w fun e w' => ∃ b c, e = .returned (.tuple #[.agg #[.slice (some ⟨b, 0, none⟩) n c, .int .i64 0], .bool true]) ∧ w'.ownsRow w.heap.size 67 5 (.slice (some ⟨b, 0, none⟩) n c) n (sls (newL n n)) ∧ Below w.heap.size w w' := by
  refine (specNew_any (n : Int) w).mono ?_
  rintro e w' ⟨⟨m, b, c, hm, _, _, rfl, ho⟩ | ⟨_, hN⟩, hb⟩
  · obtain rfl : m = n := by omega
    exact ⟨b, c, rfl, ho, hb⟩
  · exact absurd ⟨by omega, by omega⟩ hN
/-- A block of fourteen cells stored anew: rows elsewhere, and what lies below. -/
theorem OwnN.put14 {w : World} {B s : Nat} {A : NA} {N : Nr} (h : OwnN w B A N) (hs : s < B) (v0 v1 v2 v3 v4 v5 v6 v7 v8 v9 v10 v11 v12 v13 : Value) : OwnN ((((((((((((((w.setCell ⟨s, 0, none⟩ v0).setCell ⟨s, 1, none⟩ v1).setCell ⟨s, 2, none⟩ v2).setCell ⟨s, 3, none⟩ v3).setCell ⟨s, 4, none⟩ v4).setCell ⟨s, 5, none⟩ v5).setCell ⟨s, 6, none⟩ v6).setCell ⟨s, 7, none⟩ v7).setCell ⟨s, 8, none⟩ v8).setCell ⟨s, 9, none⟩ v9).setCell ⟨s, 10, none⟩ v10).setCell ⟨s, 11, none⟩ v11).setCell ⟨s, 12, none⟩ v12).setCell ⟨s, 13, none⟩ v13) B A N :=
  h |>.far ⟨s, 0, none⟩ v0 hs |>.far ⟨s, 1, none⟩ v1 hs |>.far ⟨s, 2, none⟩ v2 hs |>.far ⟨s, 3, none⟩ v3 hs |>.far ⟨s, 4, none⟩ v4 hs |>.far ⟨s, 5, none⟩ v5 hs |>.far ⟨s, 6, none⟩ v6 hs |>.far ⟨s, 7, none⟩ v7 hs |>.far ⟨s, 8, none⟩ v8 hs |>.far ⟨s, 9, none⟩ v9 hs |>.far ⟨s, 10, none⟩ v10 hs |>.far ⟨s, 11, none⟩ v11 hs |>.far ⟨s, 12, none⟩ v12 hs |>.far ⟨s, 13, none⟩ v13 hs
theorem below_put14 {w w' : World} {B s : Nat} (h : Below B w w') (hs : B ≤ s) (v0 v1 v2 v3 v4 v5 v6 v7 v8 v9 v10 v11 v12 v13 : Value) : Below B w ((((((((((((((w'.setCell ⟨s, 0, none⟩ v0).setCell ⟨s, 1, none⟩ v1).setCell ⟨s, 2, none⟩ v2).setCell ⟨s, 3, none⟩ v3).setCell ⟨s, 4, none⟩ v4).setCell ⟨s, 5, none⟩ v5).setCell ⟨s, 6, none⟩ v6).setCell ⟨s, 7, none⟩ v7).setCell ⟨s, 8, none⟩ v8).setCell ⟨s, 9, none⟩ v9).setCell ⟨s, 10, none⟩ v10).setCell ⟨s, 11, none⟩ v11).setCell ⟨s, 12, none⟩ v12).setCell ⟨s, 13, none⟩ v13) :=
  h |>.setCell (p := ⟨s, 0, none⟩) hs v0 |>.setCell (p := ⟨s, 1, none⟩) hs v1 |>.setCell (p := ⟨s, 2, none⟩) hs v2 |>.setCell (p := ⟨s, 3, none⟩) hs v3 |>.setCell (p := ⟨s, 4, none⟩) hs v4 |>.setCell (p := ⟨s, 5, none⟩) hs v5 |>.setCell (p := ⟨s, 6, none⟩) hs v6 |>.setCell (p := ⟨s, 7, none⟩) hs v7 |>.setCell (p := ⟨s, 8, none⟩) hs v8 |>.setCell (p := ⟨s, 9, none⟩) hs v9 |>.setCell (p := ⟨s, 10, none⟩) hs v10 |>.setCell (p := ⟨s, 11, none⟩) hs v11 |>.setCell (p := ⟨s, 12, none⟩) hs v12 |>.setCell (p := ⟨s, 13, none⟩) hs v13
theorem madeK_own {w w' : World} {e : Ending} (h : MadeK w w' e newK) : ∃ b c, e = .returned (.agg #[.slice b 48 c, .int .i64 0]) ∧ OwnK w' w.heap.size b c (List.replicate 48 0) ∧ Below w.heap.size w w' := by
  obtain ⟨b, c, rfl, ho, hb⟩ := h
  exact ⟨b, c, rfl, ho, hb⟩
theorem madeT_own {n : Nat} {w w' : World} {e : Ending} (h : MadeT w w' e (szOk (cellsN n : Int)) (newR (cellsN n : Int))) :
    ∃ b c b' c', e = .returned (.tuple #[.agg #[.slice b (cellsN n) c, .slice b' 0 c', .int .i64 0], .bool true]) ∧ Own2 w' w.heap.size b c (List.replicate (cellsN n) nC) b' c' [] ∧ Below w.heap.size w w' := by
  obtain ⟨b, L, c, b', O, c', M, t, rfl, ha, h1, h2, h3, hb⟩ := h
  obtain ⟨rfl, rfl, rfl, rfl⟩ := Ans.det ha (.inl ⟨cellsN_ok n, rfl, rfl⟩)
  rw [show (cellsN n : Int).toNat = cellsN n from rfl] at *
  refine ⟨b, c, b', c', ?_, ⟨h1, h2, h3⟩, hb⟩
  unfold tbV
  rw [List.length_replicate]
  rfl

set_option maxRecDepth 100000 in
set_option maxHeartbeats 4000000 in
theorem implNewY_any (n : Nat) (h2 : 2 ≤ n) (hn : n ≤ 24) (w : World) :
    Calls Tryz.prog 6 #[.int .i64 (n : Int)] w fun e w' => ∃ A, e = .returned (.tuple #[neV A (newN n), .bool true]) ∧ OwnN w' w.heap.size A (newN n) ∧ Below w.heap.size w w' := by
  have BX := hide1 (And.intro (Blk.new w 40 #[.slice none 0 0, .int .i64 0, .slice none 0 0, .slice none 0 0, .int .i64 0, .int .i64 0, .slice none 0 0, .int .i64 0, .slice none 0 0, .int .i64 0, .slice none 0 0, .slice none 0 0, .int .i64 0, .int .i64 0]) ((Below.refl w.heap.size w).alloc (Nat.le_refl _) (.cells #[.slice none 0 0, .int .i64 0, .slice none 0 0, .slice none 0 0, .int .i64 0, .int .i64 0, .slice none 0 0, .int .i64 0, .slice none 0 0, .int .i64 0, .slice none 0 0, .slice none 0 0, .int .i64 0, .int .i64 0] 40)))
  have CS := hide1 (fun w' => implShape_any n w' h2 hn)
  have CA := hide1 (fun w' => implNewA_own n (by omega) hn w')
  have CT := hide1 (fun w' => (implNew_any (cellsN n : Int) w').mono (fun e w'' h => madeT_own h))
  have CK := hide1 (fun w' => implSNew_any w')
  have n2 : (2 : Int) ≤ (n : Int) := by omega
  have n24 : (n : Int) ≤ 24 := by omega
  go_enter Tryz.func6, Tryz.ntmps6
  go_wp2_with fail
  generalize (w.alloc (.cells #[.slice none 0 0, .int .i64 0, .slice none 0 0, .slice none 0 0, .int .i64 0, .int .i64 0, .slice none 0 0, .int .i64 0, .slice none 0 0, .int .i64 0, .slice none 0 0, .slice none 0 0, .int .i64 0, .int .i64 0] 40)) = w0 at BX ⊢
  obtain ⟨R0, B0⟩ := BX.out
  have R0 := hide1 R0
  have B0 := hide1 B0
  clear BX
  refine (CS.out w0).mono ?_
  rintro e w1 ⟨rfl, hb1⟩
  have R1 := hide1 (R0.out.below hb1 R0.out.lt)
  have B1 := hide1 (B0.out.trans (hb1.mono B0.out.size))
  have g1 : w.heap.size < w1.heap.size := R1.out.lt
  clear hb1 CS R0 B0
  have SX := hide1 (And.intro (Blk.new w1 49 #[.int .i64 (cellsN n : Int), .int .i64 (mostW n : Int), .int .i64 (mostT n : Int), .int .i64 (mostS n : Int)]) ((Below.refl w1.heap.size w1).alloc (Nat.le_refl _) (.cells #[.int .i64 (cellsN n : Int), .int .i64 (mostW n : Int), .int .i64 (mostT n : Int), .int .i64 (mostS n : Int)] 49)))
  go_wp2_with fail
  generalize (w1.alloc (.cells #[.int .i64 (cellsN n : Int), .int .i64 (mostW n : Int), .int .i64 (mostT n : Int), .int .i64 (mostS n : Int)] 49)) = w2 at SX ⊢
  obtain ⟨S2, hb2⟩ := SX.out
  have S2 := hide1 S2
  have R2 := hide1 (R1.out.below hb2 R1.out.lt)
  have B2 := hide1 (B1.out.trans (hb2.mono B1.out.size))
  clear SX hb2 R1 B1
  refine (CA.out w2).mono ?_
  rintro e w3 ⟨b, c, rfl, ho3, hb3⟩
  have S3 := hide1 (S2.out.below hb3 S2.out.lt)
  have R3 := hide1 (R2.out.below hb3 R2.out.lt)
  have B3 := hide1 (B2.out.trans (hb3.mono B2.out.size))
  have O3 := hide1 (own_base (base := w.heap.size + 1) ho3 R2.out.lt)
  have g3 : w.heap.size < w3.heap.size := R3.out.lt
  clear hb3 ho3 CA S2 R2 B2
  have AX := hide1 (And.intro (Blk.new w3 27 #[.slice (some ⟨b, 0, none⟩) n c, .int .i64 0]) ((Below.refl w3.heap.size w3).alloc (Nat.le_refl _) (.cells #[.slice (some ⟨b, 0, none⟩) n c, .int .i64 0] 27)))
  have sx : (w3.alloc (.cells #[.slice (some ⟨b, 0, none⟩) n c, .int .i64 0] 27)).cell? ⟨w1.heap.size, 0, none⟩ = some (.int .i64 (cellsN n : Int)) := (Blk.more S3.out _).cell 0
  go_wp2_with fail
  generalize (w3.alloc (.cells #[.slice (some ⟨b, 0, none⟩) n c, .int .i64 0] 27)) = w4 at AX sx ⊢
  obtain ⟨A4, hb4⟩ := AX.out
  have A4 := hide1 A4
  have S4 := hide1 (S3.out.below hb4 S3.out.lt)
  have R4 := hide1 (R3.out.below hb4 R3.out.lt)
  have B4 := hide1 (B3.out.trans (hb4.mono B3.out.size))
  have O4 := hide1 (own_kept O3.out hb4)
  clear AX hb4 sx S3 R3 B3 O3
  refine (CT.out w4).mono ?_
  rintro e w5 ⟨tb, tc, tb', tc', rfl, ho5, hb5⟩
  have hal := hide1 (fun g hg => (O4.out.lt g hg).2)
  have A5 := hide1 (A4.out.below hb5 A4.out.lt)
  have S5 := hide1 (S4.out.below hb5 S4.out.lt)
  have R5 := hide1 (R4.out.below hb5 R4.out.lt)
  have B5 := hide1 (B4.out.trans (hb5.mono B4.out.size))
  have O5 := hide1 (own_kept O4.out hb5)
  have T5 := hide1 ho5
  have h55 : w4.heap.size ≤ w5.heap.size := hb5.size
  have g5 : w.heap.size < w5.heap.size := R5.out.lt
  have R4L : w.heap.size + 1 ≤ w4.heap.size := R4.out.lt
  clear hb5 ho5 A4 S4 R4 O4
  have h45 : w.heap.size + 1 ≤ w4.heap.size := R4L
  clear B4
  have TX := hide1 (And.intro (Blk.new w5 30 #[.slice tb (cellsN n) tc, .slice tb' 0 tc', .int .i64 0]) ((Below.refl w5.heap.size w5).alloc (Nat.le_refl _) (.cells #[.slice tb (cellsN n) tc, .slice tb' 0 tc', .int .i64 0] 30)))
  go_wp2_with fail
  generalize (w5.alloc (.cells #[.slice tb (cellsN n) tc, .slice tb' 0 tc', .int .i64 0] 30)) = w6 at TX ⊢
  obtain ⟨T6, hb6⟩ := TX.out
  have T6 := hide1 T6
  have A6 := hide1 (A5.out.below hb6 A5.out.lt)
  have S6 := hide1 (S5.out.below hb6 S5.out.lt)
  have R6 := hide1 (R5.out.below hb6 R5.out.lt)
  have B6 := hide1 (B5.out.trans (hb6.mono B5.out.size))
  have O6 := hide1 (own_kept O5.out hb6)
  have U6 := hide1 (T5.out.later hb6)
  have hcl := hide1 (fun g hg => Nat.lt_of_lt_of_le (T5.out.lt g hg).2 hb6.size)
  have h46 : w4.heap.size ≤ w6.heap.size := by have := hb6.size; omega
  clear TX hb6 A5 S5 R5 B5 O5 T5
  have hs0 : w.heap.size < w6.heap.size := R6.out.lt
  have hs1 : w1.heap.size < w6.heap.size := S6.out.lt
  have hs3 : w3.heap.size < w6.heap.size := A6.out.lt
  have hs5 : w5.heap.size < w6.heap.size := T6.out.lt
  have x0 : w6.cell? ⟨w3.heap.size, 0, none⟩ = some (.slice (some ⟨b, 0, none⟩) n c) := A6.out.cell 0
  have x1 : w6.cell? ⟨w3.heap.size, 1, none⟩ = some (.int .i64 0) := A6.out.cell 1
  have x2 : w6.cell? ⟨w5.heap.size, 0, none⟩ = some (.slice tb (cellsN n) tc) := T6.out.cell 0
  have x3 : w6.cell? ⟨w5.heap.size, 1, none⟩ = some (.slice tb' 0 tc') := T6.out.cell 1
  have x4 : w6.cell? ⟨w5.heap.size, 2, none⟩ = some (.int .i64 0) := T6.out.cell 2
  have x5 : w6.cell? ⟨w1.heap.size, 1, none⟩ = some (.int .i64 (mostW n : Int)) := S6.out.cell 1
  have x6 : w6.cell? ⟨w1.heap.size, 2, none⟩ = some (.int .i64 (mostT n : Int)) := S6.out.cell 2
  have x7 : w6.cell? ⟨w1.heap.size, 3, none⟩ = some (.int .i64 (mostS n : Int)) := S6.out.cell 3
  have X := hide1 (And.intro x0 (And.intro x1 (And.intro x2 (And.intro x3 (And.intro x4 (And.intro x5 (And.intro x6 x7)))))))
  have ne1 : w1.heap.size ≠ w.heap.size := by omega
  have ne3 : w3.heap.size ≠ w.heap.size := by omega
  have ne5 : w5.heap.size ≠ w.heap.size := by omega
  have q1 : ∀ (u : World) (i j : Nat) (v : Value), (u.setCell ⟨w.heap.size, i, none⟩ v).cell? ⟨w1.heap.size, j, none⟩ = u.cell? ⟨w1.heap.size, j, none⟩ := fun u i j v => World.cell?_setCell_other _ _ _ _ (by intro e; injection e; omega)
  have q3 : ∀ (u : World) (i j : Nat) (v : Value), (u.setCell ⟨w.heap.size, i, none⟩ v).cell? ⟨w3.heap.size, j, none⟩ = u.cell? ⟨w3.heap.size, j, none⟩ := fun u i j v => World.cell?_setCell_other _ _ _ _ (by intro e; injection e; omega)
  have q5 : ∀ (u : World) (i j : Nat) (v : Value), (u.setCell ⟨w.heap.size, i, none⟩ v).cell? ⟨w5.heap.size, j, none⟩ = u.cell? ⟨w5.heap.size, j, none⟩ := fun u i j v => World.cell?_setCell_other _ _ _ _ (by intro e; injection e; omega)
  go_wp2_with fail
  go_region_held3 (fun w' => w'.cell? ⟨w3.heap.size, 0, none⟩ = some (.slice (some ⟨b, 0, none⟩) n c) ∧ w'.cell? ⟨w3.heap.size, 1, none⟩ = some (.int .i64 0) ∧ w'.cell? ⟨w5.heap.size, 0, none⟩ = some (.slice tb (cellsN n) tc) ∧ w'.cell? ⟨w5.heap.size, 1, none⟩ = some (.slice tb' 0 tc') ∧ w'.cell? ⟨w5.heap.size, 2, none⟩ = some (.int .i64 0) ∧ w'.cell? ⟨w1.heap.size, 1, none⟩ = some (.int .i64 (mostW n : Int)) ∧ w'.cell? ⟨w1.heap.size, 2, none⟩ = some (.int .i64 (mostT n : Int)) ∧ w'.cell? ⟨w1.heap.size, 3, none⟩ = some (.int .i64 (mostS n : Int))) (first | simp only [World.cell?_drew, x0, x1, x2, x3, x4, x5, x6, x7, and_self] | simp only [q1, q3, q5, z0, z1, z2, z3, z4, z5, z6, z7, and_self] | simp only [World.cell?_drew, q1, q3, q5, z0, z1, z2, z3, z4, z5, z6, z7, and_self]) ((go_at_call 15; refine (CK.out _).mono ?_; rintro e w7 hm7; obtain ⟨kb, kc, rfl, ho7, hb7⟩ := madeK_own hm7; have D7 : Hid (Below w6.heap.size w6 w7) := (show Below w6.heap.size w6 _ by go_grown).trans (hb7.mono (by go_size)); have O7 : Hid (OwnK w7 w6.heap.size kb kc (List.replicate 48 0)) := hide1 (ho7.base (by go_size)); clear ho7 hb7 hm7; have r7 := R6.out.below D7.out hs0; have y0 : w7.cell? ⟨w.heap.size, 0, none⟩ = some (.slice none 0 0) := r7.cell 0; have y1 : w7.cell? ⟨w.heap.size, 1, none⟩ = some (.int .i64 0) := r7.cell 1; have y2 : w7.cell? ⟨w.heap.size, 2, none⟩ = some (.slice none 0 0) := r7.cell 2; have y3 : w7.cell? ⟨w.heap.size, 3, none⟩ = some (.slice none 0 0) := r7.cell 3; have y4 : w7.cell? ⟨w.heap.size, 4, none⟩ = some (.int .i64 0) := r7.cell 4; have y5 : w7.cell? ⟨w.heap.size, 5, none⟩ = some (.int .i64 0) := r7.cell 5; have y6 : w7.cell? ⟨w.heap.size, 6, none⟩ = some (.slice none 0 0) := r7.cell 6; have y7 : w7.cell? ⟨w.heap.size, 7, none⟩ = some (.int .i64 0) := r7.cell 7; have y8 : w7.cell? ⟨w.heap.size, 8, none⟩ = some (.slice none 0 0) := r7.cell 8; have y9 : w7.cell? ⟨w.heap.size, 9, none⟩ = some (.int .i64 0) := r7.cell 9; have y10 : w7.cell? ⟨w.heap.size, 10, none⟩ = some (.slice none 0 0) := r7.cell 10; have y11 : w7.cell? ⟨w.heap.size, 11, none⟩ = some (.slice none 0 0) := r7.cell 11; have y12 : w7.cell? ⟨w.heap.size, 12, none⟩ = some (.int .i64 0) := r7.cell 12; have y13 : w7.cell? ⟨w.heap.size, 13, none⟩ = some (.int .i64 0) := r7.cell 13; have yf : ∀ j, w7.frozen? ⟨w.heap.size, j, none⟩ = false := fun j => r7.froz j; have R7 := hide1 r7; clear r7; have z0 : w7.cell? ⟨w3.heap.size, 0, none⟩ = some (.slice (some ⟨b, 0, none⟩) n c) := (D7.out.cell hs3).trans x0; have z1 : w7.cell? ⟨w3.heap.size, 1, none⟩ = some (.int .i64 0) := (D7.out.cell hs3).trans x1; have z2 : w7.cell? ⟨w5.heap.size, 0, none⟩ = some (.slice tb (cellsN n) tc) := (D7.out.cell hs5).trans x2; have z3 : w7.cell? ⟨w5.heap.size, 1, none⟩ = some (.slice tb' 0 tc') := (D7.out.cell hs5).trans x3; have z4 : w7.cell? ⟨w5.heap.size, 2, none⟩ = some (.int .i64 0) := (D7.out.cell hs5).trans x4; have z5 : w7.cell? ⟨w1.heap.size, 1, none⟩ = some (.int .i64 (mostW n : Int)) := (D7.out.cell hs1).trans x5; have z6 : w7.cell? ⟨w1.heap.size, 2, none⟩ = some (.int .i64 (mostT n : Int)) := (D7.out.cell hs1).trans x6; have z7 : w7.cell? ⟨w1.heap.size, 3, none⟩ = some (.int .i64 (mostS n : Int)) := (D7.out.cell hs1).trans x7))
  all_goals go_wp2
  all_goals
    have HH := hide1 (Blk.set (Blk.set (Blk.set (Blk.set (Blk.set (Blk.set (Blk.set (Blk.set (Blk.set (Blk.set (Blk.set (Blk.set (Blk.set (Blk.set (R7.out) 0 (.slice (some ⟨b, 0, none⟩) n c)) 1 (.int .i64 0)) 2 (.slice tb (cellsN n) tc)) 3 (.slice tb' 0 tc')) 4 (.int .i64 0)) 5 (.int .i64 (mostW n : Int))) 6 (.slice none 0 0)) 7 (.int .i64 (mostT n : Int))) 8 (.slice none 0 0)) 9 (.int .i64 (mostS n : Int))) 10 (.slice none 0 0)) 11 (.slice kb 48 kc)) 12 (.int .i64 0)) 13 (.int .i64 0))
    refine bodyPost_ret (resQ2 Tryz.results6 _ _ w.heap.size 40 #[.slice (some ⟨b, 0, none⟩) n c, .int .i64 0, .slice tb (cellsN n) tc, .slice tb' 0 tc', .int .i64 0, .int .i64 (mostW n : Int), .slice none 0 0, .int .i64 (mostT n : Int), .slice none 0 0, .int .i64 (mostS n : Int), .slice none 0 0, .slice kb 48 kc, .int .i64 0, .int .i64 0] (0, 0) _ rfl HH.out Tryz.underlying40 rfl (by kernel_rfl)) rfl ?_
    refine ⟨⟨some ⟨b, 0, none⟩, c, tb, tc, tb', tc', none, 0, none, 0, none, 0, kb, kc⟩, ?_, ?_, ?_⟩
    · unfold neV newN
      simp only [newL_length, List.length_replicate, List.length_nil]
      rfl
    · refine OwnN.base (OwnN.put14 (B := w.heap.size + 1) ?_ (by omega) _ _ _ _ _ _ _ _ _ _ _ _ _ _) (by omega)
      exact OwnN.made (S1 := w4.heap.size) (S2 := w6.heap.size) (by omega) (by omega) (by rw [newL_length]; exact own_kept O6.out D7.out) (fun g hg => hal.out g (by rw [newL_length] at hg; exact hg)) (U6.out.later D7.out) hcl.out O7.out
    · exact below_put14 (B6.out.trans (D7.out.mono B6.out.size)) (Nat.le_refl _) _ _ _ _ _ _ _ _ _ _ _ _ _ _

set_option maxRecDepth 100000 in
set_option maxHeartbeats 4000000 in
theorem specNewY_any (n : Nat) (h2 : 2 ≤ n) (hn : n ≤ 24) (w : World) :
    Calls Tryz.prog 7 #[.int .i64 (n : Int)] w fun e w' => ∃ A, e = .returned (.tuple #[neV A (newN n), .bool true]) ∧ OwnN w' w.heap.size A (newN n) ∧ Below w.heap.size w w' := by
  have BX := hide1 (And.intro (Blk.new w 40 #[.slice none 0 0, .int .i64 0, .slice none 0 0, .slice none 0 0, .int .i64 0, .int .i64 0, .slice none 0 0, .int .i64 0, .slice none 0 0, .int .i64 0, .slice none 0 0, .slice none 0 0, .int .i64 0, .int .i64 0]) ((Below.refl w.heap.size w).alloc (Nat.le_refl _) (.cells #[.slice none 0 0, .int .i64 0, .slice none 0 0, .slice none 0 0, .int .i64 0, .int .i64 0, .slice none 0 0, .int .i64 0, .slice none 0 0, .int .i64 0, .slice none 0 0, .slice none 0 0, .int .i64 0, .int .i64 0] 40)))
  have CI : Hid (∀ w', Calls Tryz.prog 16 #[.int .i64 (n : Int), .int .i64 2, .int .i64 24] w' fun e w'' => e = .returned (.bool true) ∧ w'' = w') := by
    show ∀ w', _
    intro w'
    refine (in_any (n : Int) 2 24 w').mono ?_
    rintro e w'' ⟨rfl, hw⟩
    exact ⟨by rw [show (decide ((2 : Int) ≤ (n : Int)) && decide ((n : Int) ≤ 24)) = true by simp; omega], hw.symm⟩
  have CC := hide1 (fun w' => specCells_any8 n w' hn)
  have CM := hide1 (fun w' => specMosts_any n w' (by omega))
  have CA := hide1 (fun w' => specNewA_own n (by omega) hn w')
  have CT := hide1 (fun w' => (specNewT_any (cellsN n : Int) w').mono (fun e w'' h => madeT_own h))
  have CK := hide1 (fun w' => specSNew_any w')
  have n2 : (2 : Int) ≤ (n : Int) := by omega
  have n24 : (n : Int) ≤ 24 := by omega
  go_enter Tryz.func7, Tryz.ntmps7
  go_wp2_with fail
  generalize (w.alloc (.cells #[.slice none 0 0, .int .i64 0, .slice none 0 0, .slice none 0 0, .int .i64 0, .int .i64 0, .slice none 0 0, .int .i64 0, .slice none 0 0, .int .i64 0, .slice none 0 0, .slice none 0 0, .int .i64 0, .int .i64 0] 40)) = w1 at BX ⊢
  obtain ⟨R1, B1⟩ := BX.out
  have R2 := hide1 R1
  have B2 := hide1 B1
  clear BX R1 B1
  refine (CI.out w1).mono ?_
  rintro e w2 ⟨rfl, hw2⟩
  have hw2 := hw2.symm
  subst hw2
  clear CI
  go_wp2_with fail
  refine (CA.out w1).mono ?_
  rintro e w3 ⟨b, c, rfl, ho3, hb3⟩
  have R3 := hide1 (R2.out.below hb3 R2.out.lt)
  have B3 := hide1 (B2.out.trans (hb3.mono B2.out.size))
  have O3 := hide1 (own_base (base := w.heap.size + 1) ho3 R2.out.lt)
  have g3 : w.heap.size < w3.heap.size := R3.out.lt
  clear hb3 ho3 CA R2 B2
  have AX := hide1 (And.intro (Blk.new w3 27 #[.slice (some ⟨b, 0, none⟩) n c, .int .i64 0]) ((Below.refl w3.heap.size w3).alloc (Nat.le_refl _) (.cells #[.slice (some ⟨b, 0, none⟩) n c, .int .i64 0] 27)))
  go_wp2_with fail
  generalize (w3.alloc (.cells #[.slice (some ⟨b, 0, none⟩) n c, .int .i64 0] 27)) = w4 at AX ⊢
  obtain ⟨A4, hb4⟩ := AX.out
  have A4 := hide1 A4
  have R4 := hide1 (R3.out.below hb4 R3.out.lt)
  have B4 := hide1 (B3.out.trans (hb4.mono B3.out.size))
  have O4 := hide1 (own_kept O3.out hb4)
  clear AX hb4 R3 B3 O3
  refine (CC.out w4).mono ?_
  rintro e w4' ⟨rfl, hw4⟩
  have hw4 := hw4.symm
  subst hw4
  clear CC
  go_wp2_with fail
  refine (CT.out w4).mono ?_
  rintro e w5 ⟨tb, tc, tb', tc', rfl, ho5, hb5⟩
  have hal := hide1 (fun g hg => (O4.out.lt g hg).2)
  have A5 := hide1 (A4.out.below hb5 A4.out.lt)
  have R5 := hide1 (R4.out.below hb5 R4.out.lt)
  have B5 := hide1 (B4.out.trans (hb5.mono B4.out.size))
  have O5 := hide1 (own_kept O4.out hb5)
  have T5 := hide1 ho5
  have h55 : w4.heap.size ≤ w5.heap.size := hb5.size
  have g5 : w.heap.size < w5.heap.size := R5.out.lt
  have R4L : w.heap.size + 1 ≤ w4.heap.size := R4.out.lt
  clear hb5 ho5 A4 R4 O4
  have h45 : w.heap.size + 1 ≤ w4.heap.size := R4L
  clear B4
  have TX := hide1 (And.intro (Blk.new w5 30 #[.slice tb (cellsN n) tc, .slice tb' 0 tc', .int .i64 0]) ((Below.refl w5.heap.size w5).alloc (Nat.le_refl _) (.cells #[.slice tb (cellsN n) tc, .slice tb' 0 tc', .int .i64 0] 30)))
  go_wp2_with fail
  generalize (w5.alloc (.cells #[.slice tb (cellsN n) tc, .slice tb' 0 tc', .int .i64 0] 30)) = w6 at TX ⊢
  obtain ⟨T6, hb6⟩ := TX.out
  have T6 := hide1 T6
  have A6 := hide1 (A5.out.below hb6 A5.out.lt)
  have R6 := hide1 (R5.out.below hb6 R5.out.lt)
  have B6 := hide1 (B5.out.trans (hb6.mono B5.out.size))
  have O6 := hide1 (own_kept O5.out hb6)
  have U6 := hide1 (T5.out.later hb6)
  have hcl := hide1 (fun g hg => Nat.lt_of_lt_of_le (T5.out.lt g hg).2 hb6.size)
  have h46 : w4.heap.size ≤ w6.heap.size := by have := hb6.size; omega
  clear TX hb6 A5 R5 B5 O5 T5
  have hs0 : w.heap.size < w6.heap.size := R6.out.lt
  have hs3 : w3.heap.size < w6.heap.size := A6.out.lt
  have hs5 : w5.heap.size < w6.heap.size := T6.out.lt
  have x0 : w6.cell? ⟨w3.heap.size, 0, none⟩ = some (.slice (some ⟨b, 0, none⟩) n c) := A6.out.cell 0
  have x1 : w6.cell? ⟨w3.heap.size, 1, none⟩ = some (.int .i64 0) := A6.out.cell 1
  have x2 : w6.cell? ⟨w5.heap.size, 0, none⟩ = some (.slice tb (cellsN n) tc) := T6.out.cell 0
  have x3 : w6.cell? ⟨w5.heap.size, 1, none⟩ = some (.slice tb' 0 tc') := T6.out.cell 1
  have x4 : w6.cell? ⟨w5.heap.size, 2, none⟩ = some (.int .i64 0) := T6.out.cell 2
  have ne3 : w3.heap.size ≠ w.heap.size := by omega
  have ne5 : w5.heap.size ≠ w.heap.size := by omega
  have q3 : ∀ (u : World) (i j : Nat) (v : Value), (u.setCell ⟨w.heap.size, i, none⟩ v).cell? ⟨w3.heap.size, j, none⟩ = u.cell? ⟨w3.heap.size, j, none⟩ := fun u i j v => World.cell?_setCell_other _ _ _ _ (by intro e; injection e; omega)
  have q5 : ∀ (u : World) (i j : Nat) (v : Value), (u.setCell ⟨w.heap.size, i, none⟩ v).cell? ⟨w5.heap.size, j, none⟩ = u.cell? ⟨w5.heap.size, j, none⟩ := fun u i j v => World.cell?_setCell_other _ _ _ _ (by intro e; injection e; omega)
  go_wp2_with fail
  refine (CM.out w6).mono ?_
  rintro e w6' ⟨mx, my, mz, rfl, hmz, hw6⟩
  have hw6 := hw6.symm
  subst hw6
  obtain ⟨rfl, rfl, rfl⟩ := hmz h2
  clear CM
  go_wp2_with fail
  go_region_held3 (fun w' => w'.cell? ⟨w3.heap.size, 0, none⟩ = some (.slice (some ⟨b, 0, none⟩) n c) ∧ w'.cell? ⟨w3.heap.size, 1, none⟩ = some (.int .i64 0) ∧ w'.cell? ⟨w5.heap.size, 0, none⟩ = some (.slice tb (cellsN n) tc) ∧ w'.cell? ⟨w5.heap.size, 1, none⟩ = some (.slice tb' 0 tc') ∧ w'.cell? ⟨w5.heap.size, 2, none⟩ = some (.int .i64 0)) (first | simp only [World.cell?_drew, x0, x1, x2, x3, x4, and_self] | simp only [q3, q5, z0, z1, z2, z3, z4, and_self] | simp only [World.cell?_drew, q3, q5, z0, z1, z2, z3, z4, and_self]) ((go_at_call 21; refine (CK.out _).mono ?_; rintro e w7 hm7; obtain ⟨kb, kc, rfl, ho7, hb7⟩ := madeK_own hm7; have D7 : Hid (Below w6.heap.size w6 w7) := (show Below w6.heap.size w6 _ by go_grown).trans (hb7.mono (by go_size)); have O7 : Hid (OwnK w7 w6.heap.size kb kc (List.replicate 48 0)) := hide1 (ho7.base (by go_size)); clear ho7 hb7 hm7; have r7 := R6.out.below D7.out hs0; have y0 : w7.cell? ⟨w.heap.size, 0, none⟩ = some (.slice none 0 0) := r7.cell 0; have y1 : w7.cell? ⟨w.heap.size, 1, none⟩ = some (.int .i64 0) := r7.cell 1; have y2 : w7.cell? ⟨w.heap.size, 2, none⟩ = some (.slice none 0 0) := r7.cell 2; have y3 : w7.cell? ⟨w.heap.size, 3, none⟩ = some (.slice none 0 0) := r7.cell 3; have y4 : w7.cell? ⟨w.heap.size, 4, none⟩ = some (.int .i64 0) := r7.cell 4; have y5 : w7.cell? ⟨w.heap.size, 5, none⟩ = some (.int .i64 0) := r7.cell 5; have y6 : w7.cell? ⟨w.heap.size, 6, none⟩ = some (.slice none 0 0) := r7.cell 6; have y7 : w7.cell? ⟨w.heap.size, 7, none⟩ = some (.int .i64 0) := r7.cell 7; have y8 : w7.cell? ⟨w.heap.size, 8, none⟩ = some (.slice none 0 0) := r7.cell 8; have y9 : w7.cell? ⟨w.heap.size, 9, none⟩ = some (.int .i64 0) := r7.cell 9; have y10 : w7.cell? ⟨w.heap.size, 10, none⟩ = some (.slice none 0 0) := r7.cell 10; have y11 : w7.cell? ⟨w.heap.size, 11, none⟩ = some (.slice none 0 0) := r7.cell 11; have y12 : w7.cell? ⟨w.heap.size, 12, none⟩ = some (.int .i64 0) := r7.cell 12; have y13 : w7.cell? ⟨w.heap.size, 13, none⟩ = some (.int .i64 0) := r7.cell 13; have yf : ∀ j, w7.frozen? ⟨w.heap.size, j, none⟩ = false := fun j => r7.froz j; have R7 := hide1 r7; clear r7; have z0 : w7.cell? ⟨w3.heap.size, 0, none⟩ = some (.slice (some ⟨b, 0, none⟩) n c) := (D7.out.cell hs3).trans x0; have z1 : w7.cell? ⟨w3.heap.size, 1, none⟩ = some (.int .i64 0) := (D7.out.cell hs3).trans x1; have z2 : w7.cell? ⟨w5.heap.size, 0, none⟩ = some (.slice tb (cellsN n) tc) := (D7.out.cell hs5).trans x2; have z3 : w7.cell? ⟨w5.heap.size, 1, none⟩ = some (.slice tb' 0 tc') := (D7.out.cell hs5).trans x3; have z4 : w7.cell? ⟨w5.heap.size, 2, none⟩ = some (.int .i64 0) := (D7.out.cell hs5).trans x4))
  all_goals go_wp2
  all_goals
    have HH := hide1 (Blk.set (Blk.set (Blk.set (Blk.set (Blk.set (Blk.set (Blk.set (Blk.set (Blk.set (Blk.set (Blk.set (Blk.set (Blk.set (Blk.set (R7.out) 0 (.slice (some ⟨b, 0, none⟩) n c)) 1 (.int .i64 0)) 2 (.slice tb (cellsN n) tc)) 3 (.slice tb' 0 tc')) 4 (.int .i64 0)) 5 (.int .i64 (mostW n : Int))) 6 (.slice none 0 0)) 7 (.int .i64 (mostT n : Int))) 8 (.slice none 0 0)) 9 (.int .i64 (mostS n : Int))) 10 (.slice none 0 0)) 11 (.slice kb 48 kc)) 12 (.int .i64 0)) 13 (.int .i64 0))
    refine bodyPost_ret (resQ2 Tryz.results7 _ _ w.heap.size 40 #[.slice (some ⟨b, 0, none⟩) n c, .int .i64 0, .slice tb (cellsN n) tc, .slice tb' 0 tc', .int .i64 0, .int .i64 (mostW n : Int), .slice none 0 0, .int .i64 (mostT n : Int), .slice none 0 0, .int .i64 (mostS n : Int), .slice none 0 0, .slice kb 48 kc, .int .i64 0, .int .i64 0] (0, 0) _ rfl HH.out Tryz.underlying40 rfl (by kernel_rfl)) rfl ?_
    refine ⟨⟨some ⟨b, 0, none⟩, c, tb, tc, tb', tc', none, 0, none, 0, none, 0, kb, kc⟩, ?_, ?_, ?_⟩
    · unfold neV newN
      simp only [newL_length, List.length_replicate, List.length_nil]
      rfl
    · refine OwnN.base (OwnN.put14 (B := w.heap.size + 1) ?_ (by omega) _ _ _ _ _ _ _ _ _ _ _ _ _ _) (by omega)
      exact OwnN.made (S1 := w4.heap.size) (S2 := w6.heap.size) (by omega) (by omega) (by rw [newL_length]; exact own_kept O6.out D7.out) (fun g hg => hal.out g (by rw [newL_length] at hg; exact hg)) (U6.out.later D7.out) hcl.out O7.out
    · exact below_put14 (B6.out.trans (D7.out.mono B6.out.size)) (Nat.le_refl _) _ _ _ _ _ _ _ _ _ _ _ _ _ _

set_option maxRecDepth 100000 in
set_option maxHeartbeats 1000000 in
theorem implNewF_any (n : Int) (hn : ¬ (2 ≤ n ∧ n ≤ 24)) (w : World) :
    Calls Tryz.prog 6 #[.int .i64 n] w fun e w' => e = .returned (.tuple #[neV noA zeN, .bool false]) ∧ Below w.heap.size w w' := by
  unfold neV noA zeN
  simp only [List.length_nil]
  by_cases h : n < 2
  · go_enter Tryz.func6, Tryz.ntmps6
    go_wp2
    refine bodyPost_ret (resQ2 Tryz.results6 _ _ w.heap.size 40 _ (0, 0) _ rfl (heap_alloc_last _ _) Tryz.underlying40 rfl (by kernel_rfl)) rfl ?_
    exact ⟨rfl, (Below.refl _ _).alloc (Nat.le_refl _) _⟩
  · have h24 : 24 < n := by omega
    have h2 : 2 ≤ n := by omega
    go_enter Tryz.func6, Tryz.ntmps6
    go_wp2
    refine bodyPost_ret (resQ2 Tryz.results6 _ _ w.heap.size 40 _ (0, 0) _ rfl (heap_alloc_last _ _) Tryz.underlying40 rfl (by kernel_rfl)) rfl ?_
    exact ⟨rfl, (Below.refl _ _).alloc (Nat.le_refl _) _⟩
set_option maxRecDepth 100000 in
set_option maxHeartbeats 1000000 in
theorem specNewF_any (n : Int) (hn : ¬ (2 ≤ n ∧ n ≤ 24)) (w : World) :
    Calls Tryz.prog 7 #[.int .i64 n] w fun e w' => e = .returned (.tuple #[neV noA zeN, .bool false]) ∧ Below w.heap.size w w' := by
  have CI : Hid (∀ w', Calls Tryz.prog 16 #[.int .i64 n, .int .i64 2, .int .i64 24] w' fun e w'' => e = .returned (.bool false) ∧ w'' = w') := by
    show ∀ w', _
    intro w'
    refine (in_any n 2 24 w').mono ?_
    rintro e w'' ⟨rfl, hw⟩
    exact ⟨by rw [show (decide ((2 : Int) ≤ n) && decide (n ≤ 24)) = false by rw [Bool.eq_false_iff]; intro e; simp at e; omega], hw.symm⟩
  unfold neV noA zeN
  simp only [List.length_nil]
  clear hn
  go_enter Tryz.func7, Tryz.ntmps7
  go_wp2_with fail
  refine (CI.out _).mono ?_
  rintro e w2 ⟨rfl, hw2⟩
  subst hw2
  go_wp2
  refine bodyPost_ret (resQ2 Tryz.results7 _ _ w.heap.size 40 _ (0, 0) _ rfl (heap_alloc_last _ _) Tryz.underlying40 rfl (by kernel_rfl)) rfl ?_
  exact ⟨rfl, (Below.refl _ _).alloc (Nat.le_refl _) _⟩
/-- What NearNew gives, both sides in one form. -/
def newQ (n : Int) : Nr := if 2 ≤ n ∧ n ≤ 24 then newN n.toNat else zeN
def okNew (n : Int) : Bool := decide (2 ≤ n ∧ n ≤ 24)
theorem newQ_small (n : Int) : SmN (newQ n) := by
  unfold newQ
  split
  · exact SmN.new (by omega)
  · exact SmN.zero
theorem implNewN_any (n : Int) (w : World) : Calls Tryz.prog 6 #[.int .i64 n] w fun e w' => ∃ A, e = .returned (.tuple #[neV A (newQ n), .bool (okNew n)]) ∧ OwnN w' w.heap.size A (newQ n) ∧ Below w.heap.size w w' := by
  by_cases h : 2 ≤ n ∧ n ≤ 24
  · obtain ⟨m, rfl⟩ : ∃ m : Nat, n = (m : Int) := ⟨n.toNat, by omega⟩
    rw [newQ, okNew, if_pos h, decide_eq_true h]
    exact implNewY_any m (by omega) (by omega) w
  · rw [newQ, okNew, if_neg h, decide_eq_false h]
    exact (implNewF_any n h w).mono (fun e w' x => ⟨noA, x.1, OwnN.zero _ _, x.2⟩)
theorem specNewN_any (n : Int) (w : World) : Calls Tryz.prog 7 #[.int .i64 n] w fun e w' => ∃ A, e = .returned (.tuple #[neV A (newQ n), .bool (okNew n)]) ∧ OwnN w' w.heap.size A (newQ n) ∧ Below w.heap.size w w' := by
  by_cases h : 2 ≤ n ∧ n ≤ 24
  · obtain ⟨m, rfl⟩ : ∃ m : Nat, n = (m : Int) := ⟨n.toNat, by omega⟩
    rw [newQ, okNew, if_pos h, decide_eq_true h]
    exact specNewY_any m (by omega) (by omega) w
  · rw [newQ, okNew, if_neg h, decide_eq_false h]
    exact (specNewF_any n h w).mono (fun e w' x => ⟨noA, x.1, OwnN.zero _ _, x.2⟩)
end Go.Proofs.YtenmpciimocggaaGreat
