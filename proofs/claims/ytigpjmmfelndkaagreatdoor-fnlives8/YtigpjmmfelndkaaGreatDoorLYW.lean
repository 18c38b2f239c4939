import Derived.Test.YtigpjmmfelndkaaGreatDoorLYB
import Derived.Test.YtigpjmmfelndkaaGreatDoorLYC
import Derived.Test.YtigpjmmfelndkaaGreatDoorLXRI
import Derived.Test.YtigpjmmfelndkaaGreatDoorLXQK
namespace Go.Proofs.YtigpjmmfelndkaaGreatDoor
open Go.RowKit
set_option linter.unusedVariables false
set_option maxRecDepth 100000
set_option maxHeartbeats 8000000
theorem qrJ (n : Nat) (h1 : 1 <= n) (hn : n <= 24) (w : World) :
  Calls Tryz.prog 58 #[.int .i64 (n : Int)] w fun e w' => ∃ b c, e = .returned (.tuple #[.agg #[.slice (some ⟨b, 0, none⟩) n c, .int .i64 0], .bool true]) /\ w'.ownsRow w.heap.size 99 5 (.slice (some ⟨b, 0, none⟩) n c) n (sls (qiO n n)) /\ Below w.heap.size w w' := by
 refine (qrK (n : Int) w).mono ?_
 rintro e w' ⟨⟨m, b, c, hm, _, _, rfl, ho⟩ | ⟨_, hN⟩, hb⟩
 ·obtain rfl : m = n := by omega
  exact ⟨b, c, rfl, ho, hb⟩
 ·exact absurd ⟨by omega, by omega⟩ hN
theorem qpW (n : Nat) (h1 : 1 <= n) (hn : n <= 24) (w : World) :
  Calls Tryz.prog 61 #[.int .i64 (n : Int)] w fun e w' => ∃ b c, e = .returned (.tuple #[.agg #[.slice (some ⟨b, 0, none⟩) n c, .int .i64 0], .bool true]) /\ w'.ownsRow w.heap.size 99 5 (.slice (some ⟨b, 0, none⟩) n c) n (sls (qiO n n)) /\ Below w.heap.size w w' := by
 refine (qsQ (n : Int) w).mono ?_
 rintro e w' ⟨⟨m, b, c, hm, _, _, rfl, ho⟩ | ⟨_, hN⟩, hb⟩
 ·obtain rfl : m = n := by omega
  exact ⟨b, c, rfl, ho, hb⟩
 ·exact absurd ⟨by omega, by omega⟩ hN
theorem OwnN.put14 {w : World} {B s : Nat} {A : NA} {N : Nr} (h : OwnN w B A N) (hs : s < B) (v0 v1 v2 v3 v4 v5 v6 v7 v8 v9 v10 v11 v12 v13 : Value) : OwnN ((((((((((((((w.setCell ⟨s, 0, none⟩ v0).setCell ⟨s, 1, none⟩ v1).setCell ⟨s, 2, none⟩ v2).setCell ⟨s, 3, none⟩ v3).setCell ⟨s, 4, none⟩ v4).setCell ⟨s, 5, none⟩ v5).setCell ⟨s, 6, none⟩ v6).setCell ⟨s, 7, none⟩ v7).setCell ⟨s, 8, none⟩ v8).setCell ⟨s, 9, none⟩ v9).setCell ⟨s, 10, none⟩ v10).setCell ⟨s, 11, none⟩ v11).setCell ⟨s, 12, none⟩ v12).setCell ⟨s, 13, none⟩ v13) B A N :=
 h |>.far ⟨s, 0, none⟩ v0 hs |>.far ⟨s, 1, none⟩ v1 hs |>.far ⟨s, 2, none⟩ v2 hs |>.far ⟨s, 3, none⟩ v3 hs |>.far ⟨s, 4, none⟩ v4 hs |>.far ⟨s, 5, none⟩ v5 hs |>.far ⟨s, 6, none⟩ v6 hs |>.far ⟨s, 7, none⟩ v7 hs |>.far ⟨s, 8, none⟩ v8 hs |>.far ⟨s, 9, none⟩ v9 hs |>.far ⟨s, 10, none⟩ v10 hs |>.far ⟨s, 11, none⟩ v11 hs |>.far ⟨s, 12, none⟩ v12 hs |>.far ⟨s, 13, none⟩ v13 hs
theorem qaM {w w' : World} {B s : Nat} (h : Below B w w') (hs : B <= s) (v0 v1 v2 v3 v4 v5 v6 v7 v8 v9 v10 v11 v12 v13 : Value) : Below B w ((((((((((((((w'.setCell ⟨s, 0, none⟩ v0).setCell ⟨s, 1, none⟩ v1).setCell ⟨s, 2, none⟩ v2).setCell ⟨s, 3, none⟩ v3).setCell ⟨s, 4, none⟩ v4).setCell ⟨s, 5, none⟩ v5).setCell ⟨s, 6, none⟩ v6).setCell ⟨s, 7, none⟩ v7).setCell ⟨s, 8, none⟩ v8).setCell ⟨s, 9, none⟩ v9).setCell ⟨s, 10, none⟩ v10).setCell ⟨s, 11, none⟩ v11).setCell ⟨s, 12, none⟩ v12).setCell ⟨s, 13, none⟩ v13) :=
 h |>.setCell (p := ⟨s, 0, none⟩) hs v0 |>.setCell (p := ⟨s, 1, none⟩) hs v1 |>.setCell (p := ⟨s, 2, none⟩) hs v2 |>.setCell (p := ⟨s, 3, none⟩) hs v3 |>.setCell (p := ⟨s, 4, none⟩) hs v4 |>.setCell (p := ⟨s, 5, none⟩) hs v5 |>.setCell (p := ⟨s, 6, none⟩) hs v6 |>.setCell (p := ⟨s, 7, none⟩) hs v7 |>.setCell (p := ⟨s, 8, none⟩) hs v8 |>.setCell (p := ⟨s, 9, none⟩) hs v9 |>.setCell (p := ⟨s, 10, none⟩) hs v10 |>.setCell (p := ⟨s, 11, none⟩) hs v11 |>.setCell (p := ⟨s, 12, none⟩) hs v12 |>.setCell (p := ⟨s, 13, none⟩) hs v13
theorem qqY {w w' : World} {e : Ending} (h : MadeK w w' e newK) : ∃ b c, e = .returned (.agg #[.slice b 48 c, .int .i64 0]) /\ OwnK w' w.heap.size b c (List.replicate 48 0) /\ Below w.heap.size w w' := by
 obtain ⟨b, c, rfl, ho, hb⟩ := h
 exact ⟨b, c, rfl, ho, hb⟩
theorem qqX {n : Nat} {w w' : World} {e : Ending} (h : MadeT w w' e (qwN (qaN n : Int)) (zbY (qaN n : Int))) :
  ∃ b c b' c', e = .returned (.tuple #[.agg #[.slice b (qaN n) c, .slice b' 0 c', .int .i64 0], .bool true]) /\ Own2 w' w.heap.size b c (List.replicate (qaN n) nC) b' c' [] /\ Below w.heap.size w w' := by
 obtain ⟨b, L, c, b', O, c', M, t, rfl, ha, h1, h2, h3, hb⟩ := h
 obtain ⟨rfl, rfl, rfl, rfl⟩ := Ans.det ha (.inl ⟨qsE n, rfl, rfl⟩)
 rw [show (qaN n : Int).toNat = qaN n from rfl] at *
 refine ⟨b, c, b', c', ?_, ⟨h1, h2, h3⟩, hb⟩
 unfold tbV
 rw [List.length_replicate]
 rfl
theorem qrI (n : Nat) (h2 : 2 <= n) (hn : n <= 24) (w : World) :
  Calls Tryz.prog 16 #[.int .i64 (n : Int)] w fun e w' => ∃ A, e = .returned (.tuple #[neV A (qsY n), .bool true]) /\ OwnN w' w.heap.size A (qsY n) /\ Below w.heap.size w w' := by
 have BX := hI (And.intro (Blk.new w 39 nZ) (bAl w (.cells nZ 39)))
 have CS := hI (fun w' => qiB n w' h2 hn)
 have CA := hI (fun w' => qrJ n (by omega) hn w')
 have CT := hI (fun w' => (qtJ (qaN n : Int) w').mono (fun e w'' h => qqX h))
 have CK := hI (fun w' => qrG w')
 have n2 : (2 : Int) <= (n : Int) := by omega
 have n24 : (n : Int) <= 24 := by omega
 go_enter Tryz.func16, Tryz.ntmps16
 go_wp2_with fail
 generalize (w.alloc (.cells nZ 39)) = w0 at BX ⊢
 obtain ⟨R0, B0⟩ := BX.out
 have R0 := hI R0
 have B0 := hI B0
 clear BX
 refine (CS.out w0).mono ?_
 rintro e w1 ⟨rfl, hb1⟩
 have R1 := bRn R0 hb1
 have B1 := tRn B0 hb1
 have g1 : w.heap.size < w1.heap.size := R1.out.lt
 clear hb1 CS R0 B0
 have SX := hI (And.intro (Blk.new w1 102 #[.int .i64 (qaN n : Int), .int .i64 (qdD n : Int), .int .i64 (qeF n : Int), .int .i64 (qdO n : Int)]) (bAl w1 (.cells #[.int .i64 (qaN n : Int), .int .i64 (qdD n : Int), .int .i64 (qeF n : Int), .int .i64 (qdO n : Int)] 102)))
 go_wp2_with fail
 generalize (w1.alloc (.cells #[.int .i64 (qaN n : Int), .int .i64 (qdD n : Int), .int .i64 (qeF n : Int), .int .i64 (qdO n : Int)] 102)) = w2 at SX ⊢
 obtain ⟨S2, hb2⟩ := SX.out
 have S2 := hI S2
 have R2 := bRn R1 hb2
 have B2 := tRn B1 hb2
 clear SX hb2 R1 B1
 refine (CA.out w2).mono ?_
 rintro e w3 ⟨b, c, rfl, ho3, hb3⟩
 have S3 := bRn S2 hb3
 have R3 := bRn R2 hb3
 have B3 := tRn B2 hb3
 have O3 := hI (qaB (base := w.heap.size + 1) ho3 R2.out.lt)
 have g3 : w.heap.size < w3.heap.size := R3.out.lt
 clear hb3 ho3 CA S2 R2 B2
 have AX := hI (And.intro (Blk.new w3 26 #[.slice (some ⟨b, 0, none⟩) n c, .int .i64 0]) (bAl w3 (.cells #[.slice (some ⟨b, 0, none⟩) n c, .int .i64 0] 26)))
 have sx : (w3.alloc (.cells #[.slice (some ⟨b, 0, none⟩) n c, .int .i64 0] 26)).cell? ⟨w1.heap.size, 0, none⟩ = some (.int .i64 (qaN n : Int)) := (Blk.more S3.out _).cell 0
 go_wp2_with fail
 generalize (w3.alloc (.cells #[.slice (some ⟨b, 0, none⟩) n c, .int .i64 0] 26)) = w4 at AX sx ⊢
 obtain ⟨A4, hb4⟩ := AX.out
 have A4 := hI A4
 have S4 := bRn S3 hb4
 have R4 := bRn R3 hb4
 have B4 := tRn B3 hb4
 have O4 := hI (qaE O3.out hb4)
 clear AX hb4 sx S3 R3 B3 O3
 refine (CT.out w4).mono ?_
 rintro e w5 ⟨tb, tc, tb', tc', rfl, ho5, hb5⟩
 have hal := hI (fun g hg => (O4.out.lt g hg).2)
 have A5 := bRn A4 hb5
 have S5 := bRn S4 hb5
 have R5 := bRn R4 hb5
 have B5 := tRn B4 hb5
 have O5 := hI (qaE O4.out hb5)
 have T5 := hI ho5
 have h55 : w4.heap.size <= w5.heap.size := hb5.size
 have g5 : w.heap.size < w5.heap.size := R5.out.lt
 have R4L : w.heap.size + 1 <= w4.heap.size := R4.out.lt
 clear hb5 ho5 A4 S4 R4 O4
 have h45 : w.heap.size + 1 <= w4.heap.size := R4L
 clear B4
 have TX := hI (And.intro (Blk.new w5 29 #[.slice tb (qaN n) tc, .slice tb' 0 tc', .int .i64 0]) (bAl w5 (.cells #[.slice tb (qaN n) tc, .slice tb' 0 tc', .int .i64 0] 29)))
 go_wp2_with fail
 generalize (w5.alloc (.cells #[.slice tb (qaN n) tc, .slice tb' 0 tc', .int .i64 0] 29)) = w6 at TX ⊢
 obtain ⟨T6, hb6⟩ := TX.out
 have T6 := hI T6
 have A6 := bRn A5 hb6
 have S6 := bRn S5 hb6
 have R6 := bRn R5 hb6
 have B6 := tRn B5 hb6
 have O6 := hI (qaE O5.out hb6)
 have U6 := hI (T5.out.later hb6)
 have hcl := hI (fun g hg => Nat.lt_of_lt_of_le (T5.out.lt g hg).2 hb6.size)
 have h46 : w4.heap.size <= w6.heap.size := by have := hb6.size; omega
 clear TX hb6 A5 S5 R5 B5 O5 T5
 have hs0 : w.heap.size < w6.heap.size := R6.out.lt
 have hs1 : w1.heap.size < w6.heap.size := S6.out.lt
 have hs3 : w3.heap.size < w6.heap.size := A6.out.lt
 have hs5 : w5.heap.size < w6.heap.size := T6.out.lt
 have x0 : w6.cell? ⟨w3.heap.size, 0, none⟩ = some (.slice (some ⟨b, 0, none⟩) n c) := A6.out.cell 0
 have x1 : w6.cell? ⟨w3.heap.size, 1, none⟩ = _ := cRn (A6.out.cell 1) rfl
 have x2 : w6.cell? ⟨w5.heap.size, 0, none⟩ = _ := cRn (T6.out.cell 0) rfl
 have x3 : w6.cell? ⟨w5.heap.size, 1, none⟩ = _ := cRn (T6.out.cell 1) rfl
 have x4 : w6.cell? ⟨w5.heap.size, 2, none⟩ = _ := cRn (T6.out.cell 2) rfl
 have x5 : w6.cell? ⟨w1.heap.size, 1, none⟩ = _ := cRn (S6.out.cell 1) rfl
 have x6 : w6.cell? ⟨w1.heap.size, 2, none⟩ = _ := cRn (S6.out.cell 2) rfl
 have x7 : w6.cell? ⟨w1.heap.size, 3, none⟩ = _ := cRn (S6.out.cell 3) rfl
 have X := hI (And.intro x0 (And.intro x1 (And.intro x2 (And.intro x3 (And.intro x4 (And.intro x5 (And.intro x6 x7)))))))
 have ne1 : w1.heap.size ≠ w.heap.size := by omega
 have ne3 : w3.heap.size ≠ w.heap.size := by omega
 have ne5 : w5.heap.size ≠ w.heap.size := by omega
 have q1 : ∀ (u : World) (i j : Nat) (v : Value), (u.setCell ⟨w.heap.size, i, none⟩ v).cell? ⟨w1.heap.size, j, none⟩ = u.cell? ⟨w1.heap.size, j, none⟩ := fun u i j v => World.cell?_setCell_other _ _ _ _ (by intro e; injection e; omega)
 have q3 : ∀ (u : World) (i j : Nat) (v : Value), (u.setCell ⟨w.heap.size, i, none⟩ v).cell? ⟨w3.heap.size, j, none⟩ = u.cell? ⟨w3.heap.size, j, none⟩ := fun u i j v => World.cell?_setCell_other _ _ _ _ (by intro e; injection e; omega)
 have q5 : ∀ (u : World) (i j : Nat) (v : Value), (u.setCell ⟨w.heap.size, i, none⟩ v).cell? ⟨w5.heap.size, j, none⟩ = u.cell? ⟨w5.heap.size, j, none⟩ := fun u i j v => World.cell?_setCell_other _ _ _ _ (by intro e; injection e; omega)
 go_wp2_with fail
 go_region_held3 (fun w' => w'.cell? ⟨w3.heap.size, 0, none⟩ = some (.slice (some ⟨b, 0, none⟩) n c) /\ w'.cell? ⟨w3.heap.size, 1, none⟩ = some (.int .i64 0) /\ w'.cell? ⟨w5.heap.size, 0, none⟩ = some (.slice tb (qaN n) tc) /\ w'.cell? ⟨w5.heap.size, 1, none⟩ = some (.slice tb' 0 tc') /\ w'.cell? ⟨w5.heap.size, 2, none⟩ = some (.int .i64 0) /\ w'.cell? ⟨w1.heap.size, 1, none⟩ = some (.int .i64 (qdD n : Int)) /\ w'.cell? ⟨w1.heap.size, 2, none⟩ = some (.int .i64 (qeF n : Int)) /\ w'.cell? ⟨w1.heap.size, 3, none⟩ = some (.int .i64 (qdO n : Int))) (first | simp only [World.cell?_drew, x0, x1, x2, x3, x4, x5, x6, x7, and_self] | simp only [q1, q3, q5, z0, z1, z2, z3, z4, z5, z6, z7, and_self] | simp only [World.cell?_drew, q1, q3, q5, z0, z1, z2, z3, z4, z5, z6, z7, and_self]) ((go_at_call 60; refine (CK.out _).mono ?_; rintro e w7 hm7; obtain ⟨kb, kc, rfl, ho7, hb7⟩ := qqY hm7; have D7 : Hid (Below w6.heap.size w6 w7) := (show Below w6.heap.size w6 _ by go_grown).trans (hb7.mono (by go_size)); have O7 : Hid (OwnK w7 w6.heap.size kb kc (List.replicate 48 0)) := hI (ho7.base (by go_size)); clear ho7 hb7 hm7; have r7 := R6.out.below D7.out hs0; have y0 : w7.cell? ⟨w.heap.size, 0, none⟩ = some (.slice none 0 0) := r7.cell 0; have y1 : w7.cell? ⟨w.heap.size, 1, none⟩ = some (.int .i64 0) := r7.cell 1; have y2 : w7.cell? ⟨w.heap.size, 2, none⟩ = some (.slice none 0 0) := r7.cell 2; have y3 : w7.cell? ⟨w.heap.size, 3, none⟩ = some (.slice none 0 0) := r7.cell 3; have y4 : w7.cell? ⟨w.heap.size, 4, none⟩ = some (.int .i64 0) := r7.cell 4; have y5 : w7.cell? ⟨w.heap.size, 5, none⟩ = some (.int .i64 0) := r7.cell 5; have y6 : w7.cell? ⟨w.heap.size, 6, none⟩ = some (.slice none 0 0) := r7.cell 6; have y7 : w7.cell? ⟨w.heap.size, 7, none⟩ = some (.int .i64 0) := r7.cell 7; have y8 : w7.cell? ⟨w.heap.size, 8, none⟩ = some (.slice none 0 0) := r7.cell 8; have y9 : w7.cell? ⟨w.heap.size, 9, none⟩ = some (.int .i64 0) := r7.cell 9; have y10 : w7.cell? ⟨w.heap.size, 10, none⟩ = some (.slice none 0 0) := r7.cell 10; have y11 : w7.cell? ⟨w.heap.size, 11, none⟩ = some (.slice none 0 0) := r7.cell 11; have y12 : w7.cell? ⟨w.heap.size, 12, none⟩ = some (.int .i64 0) := r7.cell 12; have y13 : w7.cell? ⟨w.heap.size, 13, none⟩ = some (.int .i64 0) := r7.cell 13; have yf : ∀ j, w7.frozen? ⟨w.heap.size, j, none⟩ = false := fun j => r7.froz j; have R7 := hI r7; clear r7; have z0 : w7.cell? ⟨w3.heap.size, 0, none⟩ = some (.slice (some ⟨b, 0, none⟩) n c) := (D7.out.cell hs3).trans x0; have z1 : w7.cell? ⟨w3.heap.size, 1, none⟩ = some (.int .i64 0) := (D7.out.cell hs3).trans x1; have z2 : w7.cell? ⟨w5.heap.size, 0, none⟩ = some (.slice tb (qaN n) tc) := (D7.out.cell hs5).trans x2; have z3 : w7.cell? ⟨w5.heap.size, 1, none⟩ = some (.slice tb' 0 tc') := (D7.out.cell hs5).trans x3; have z4 : w7.cell? ⟨w5.heap.size, 2, none⟩ = some (.int .i64 0) := (D7.out.cell hs5).trans x4; have z5 : w7.cell? ⟨w1.heap.size, 1, none⟩ = some (.int .i64 (qdD n : Int)) := (D7.out.cell hs1).trans x5; have z6 : w7.cell? ⟨w1.heap.size, 2, none⟩ = some (.int .i64 (qeF n : Int)) := (D7.out.cell hs1).trans x6; have z7 : w7.cell? ⟨w1.heap.size, 3, none⟩ = some (.int .i64 (qdO n : Int)) := (D7.out.cell hs1).trans x7))
 all_goals go_wp2
 all_goals
  have HH := hI (Blk.set (Blk.set (Blk.set (Blk.set (Blk.set (Blk.set (Blk.set (Blk.set (Blk.set (Blk.set (Blk.set (Blk.set (Blk.set (Blk.set (R7.out) 0 (.slice (some ⟨b, 0, none⟩) n c)) 1 (.int .i64 0)) 2 (.slice tb (qaN n) tc)) 3 (.slice tb' 0 tc')) 4 (.int .i64 0)) 5 (.int .i64 (qdD n : Int))) 6 (.slice none 0 0)) 7 (.int .i64 (qeF n : Int))) 8 (.slice none 0 0)) 9 (.int .i64 (qdO n : Int))) 10 (.slice none 0 0)) 11 (.slice kb 48 kc)) 12 (.int .i64 0)) 13 (.int .i64 0))
  refine bodyPost_ret (qhV Tryz.results16 _ _ w.heap.size 39 #[.slice (some ⟨b, 0, none⟩) n c, .int .i64 0, .slice tb (qaN n) tc, .slice tb' 0 tc', .int .i64 0, .int .i64 (qdD n : Int), .slice none 0 0, .int .i64 (qeF n : Int), .slice none 0 0, .int .i64 (qdO n : Int), .slice none 0 0, .slice kb 48 kc, .int .i64 0, .int .i64 0] (0, 0) _ rfl HH.out Tryz.underlying39 rfl (by kernel_rfl)) rfl ?_
  refine ⟨⟨some ⟨b, 0, none⟩, c, tb, tc, tb', tc', none, 0, none, 0, none, 0, kb, kc⟩, ?_, ?_, ?_⟩
  ·unfold neV qsY
   simp only [qaG, List.length_replicate, List.length_nil]
   rfl
  ·refine OwnN.base (OwnN.put14 (B := w.heap.size + 1) ?_ (by omega) _ _ _ _ _ _ _ _ _ _ _ _ _ _) (by omega)
   exact OwnN.made (S1 := w4.heap.size) (S2 := w6.heap.size) (by omega) (by omega) (by rw [qaG]; exact qaE O6.out D7.out) (fun g hg => hal.out g (by rw [qaG] at hg; exact hg)) (U6.out.later D7.out) hcl.out O7.out
  ·exact qaM (B6.out.trans (D7.out.mono B6.out.size)) (Nat.le_refl _) _ _ _ _ _ _ _ _ _ _ _ _ _ _
theorem qpU (n : Nat) (h2 : 2 <= n) (hn : n <= 24) (w : World) :
  Calls Tryz.prog 17 #[.int .i64 (n : Int)] w fun e w' => ∃ A, e = .returned (.tuple #[neV A (qsY n), .bool true]) /\ OwnN w' w.heap.size A (qsY n) /\ Below w.heap.size w w' := by
 have BX := hI (And.intro (Blk.new w 39 nZ) (bAl w (.cells nZ 39)))
 have CI : Hid (∀ w', Calls Tryz.prog 36 #[.int .i64 (n : Int), .int .i64 2, .int .i64 24] w' fun e w'' => e = .returned (.bool true) /\ w'' = w') := by
  show ∀ w', _
  intro w'
  refine (qdP (n : Int) 2 24 w').mono ?_
  rintro e w'' ⟨rfl, hw⟩
  exact ⟨by rw [show (decide ((2 : Int) <= (n : Int)) && decide ((n : Int) <= 24)) = true by simp; omega], hw.symm⟩
 have CC := hI (fun w' => qgS n w' hn)
 have CM := hI (fun w' => qhO n w' (by omega))
 have CA := hI (fun w' => qpW n (by omega) hn w')
 have CT := hI (fun w' => (qpV (qaN n : Int) w').mono (fun e w'' h => qqX h))
 have CK := hI (fun w' => qpR w')
 have n2 : (2 : Int) <= (n : Int) := by omega
 have n24 : (n : Int) <= 24 := by omega
 go_enter Tryz.func17, Tryz.ntmps17
 go_wp2_with fail
 generalize (w.alloc (.cells nZ 39)) = w1 at BX ⊢
 obtain ⟨R1, B1⟩ := BX.out
 have R2 := hI R1
 have B2 := hI B1
 clear BX R1 B1
 refine (CI.out w1).mono ?_
 rintro e w2 ⟨rfl, hw2⟩
 have hw2 := hw2.symm
 subst hw2
 clear CI
 go_wp2_with fail
 refine (CA.out w1).mono ?_
 rintro e w3 ⟨b, c, rfl, ho3, hb3⟩
 have R3 := bRn R2 hb3
 have B3 := tRn B2 hb3
 have O3 := hI (qaB (base := w.heap.size + 1) ho3 R2.out.lt)
 have g3 : w.heap.size < w3.heap.size := R3.out.lt
 clear hb3 ho3 CA R2 B2
 have AX := hI (And.intro (Blk.new w3 26 #[.slice (some ⟨b, 0, none⟩) n c, .int .i64 0]) (bAl w3 (.cells #[.slice (some ⟨b, 0, none⟩) n c, .int .i64 0] 26)))
 go_wp2_with fail
 generalize (w3.alloc (.cells #[.slice (some ⟨b, 0, none⟩) n c, .int .i64 0] 26)) = w4 at AX ⊢
 obtain ⟨A4, hb4⟩ := AX.out
 have A4 := hI A4
 have R4 := bRn R3 hb4
 have B4 := tRn B3 hb4
 have O4 := hI (qaE O3.out hb4)
 clear AX hb4 R3 B3 O3
 refine (CC.out w4).mono ?_
 rintro e w4' ⟨rfl, hw4⟩
 have hw4 := hw4.symm
 subst hw4
 clear CC
 go_wp2_with fail
 refine (CT.out w4).mono ?_
 rintro e w5 ⟨tb, tc, tb', tc', rfl, ho5, hb5⟩
 have hal := hI (fun g hg => (O4.out.lt g hg).2)
 have A5 := bRn A4 hb5
 have R5 := bRn R4 hb5
 have B5 := tRn B4 hb5
 have O5 := hI (qaE O4.out hb5)
 have T5 := hI ho5
 have h55 : w4.heap.size <= w5.heap.size := hb5.size
 have g5 : w.heap.size < w5.heap.size := R5.out.lt
 have R4L : w.heap.size + 1 <= w4.heap.size := R4.out.lt
 clear hb5 ho5 A4 R4 O4
 have h45 : w.heap.size + 1 <= w4.heap.size := R4L
 clear B4
 have TX := hI (And.intro (Blk.new w5 29 #[.slice tb (qaN n) tc, .slice tb' 0 tc', .int .i64 0]) (bAl w5 (.cells #[.slice tb (qaN n) tc, .slice tb' 0 tc', .int .i64 0] 29)))
 go_wp2_with fail
 generalize (w5.alloc (.cells #[.slice tb (qaN n) tc, .slice tb' 0 tc', .int .i64 0] 29)) = w6 at TX ⊢
 obtain ⟨T6, hb6⟩ := TX.out
 have T6 := hI T6
 have A6 := bRn A5 hb6
 have R6 := bRn R5 hb6
 have B6 := tRn B5 hb6
 have O6 := hI (qaE O5.out hb6)
 have U6 := hI (T5.out.later hb6)
 have hcl := hI (fun g hg => Nat.lt_of_lt_of_le (T5.out.lt g hg).2 hb6.size)
 have h46 : w4.heap.size <= w6.heap.size := by have := hb6.size; omega
 clear TX hb6 A5 R5 B5 O5 T5
 have hs0 : w.heap.size < w6.heap.size := R6.out.lt
 have hs3 : w3.heap.size < w6.heap.size := A6.out.lt
 have hs5 : w5.heap.size < w6.heap.size := T6.out.lt
 have x0 : w6.cell? ⟨w3.heap.size, 0, none⟩ = some (.slice (some ⟨b, 0, none⟩) n c) := A6.out.cell 0
 have x1 : w6.cell? ⟨w3.heap.size, 1, none⟩ = _ := cRn (A6.out.cell 1) rfl
 have x2 : w6.cell? ⟨w5.heap.size, 0, none⟩ = _ := cRn (T6.out.cell 0) rfl
 have x3 : w6.cell? ⟨w5.heap.size, 1, none⟩ = _ := cRn (T6.out.cell 1) rfl
 have x4 : w6.cell? ⟨w5.heap.size, 2, none⟩ = _ := cRn (T6.out.cell 2) rfl
 have ne3 : w3.heap.size ≠ w.heap.size := by omega
 have ne5 : w5.heap.size ≠ w.heap.size := by omega
 have q3 : ∀ (u : World) (i j : Nat) (v : Value), (u.setCell ⟨w.heap.size, i, none⟩ v).cell? ⟨w3.heap.size, j, none⟩ = u.cell? ⟨w3.heap.size, j, none⟩ := fun u i j v => World.cell?_setCell_other _ _ _ _ (by intro e; injection e; omega)
 have q5 : ∀ (u : World) (i j : Nat) (v : Value), (u.setCell ⟨w.heap.size, i, none⟩ v).cell? ⟨w5.heap.size, j, none⟩ = u.cell? ⟨w5.heap.size, j, none⟩ := fun u i j v => World.cell?_setCell_other _ _ _ _ (by intro e; injection e; omega)
 go_wp2_with fail
 refine (CM.out w6).mono ?_
 rintro e w6' ⟨mx, my, mz, rfl, hmz, hw6⟩
 have hw6 := hw6.symm
 subst hw6
 obtain ⟨rfl, rfl, rfl⟩ := hmz h2
 clear CM
 go_wp2_with fail
 go_region_held3 (fun w' => w'.cell? ⟨w3.heap.size, 0, none⟩ = some (.slice (some ⟨b, 0, none⟩) n c) /\ w'.cell? ⟨w3.heap.size, 1, none⟩ = some (.int .i64 0) /\ w'.cell? ⟨w5.heap.size, 0, none⟩ = some (.slice tb (qaN n) tc) /\ w'.cell? ⟨w5.heap.size, 1, none⟩ = some (.slice tb' 0 tc') /\ w'.cell? ⟨w5.heap.size, 2, none⟩ = some (.int .i64 0)) (first | simp only [World.cell?_drew, x0, x1, x2, x3, x4, and_self] | simp only [q3, q5, z0, z1, z2, z3, z4, and_self] | simp only [World.cell?_drew, q3, q5, z0, z1, z2, z3, z4, and_self]) ((go_at_call 65; refine (CK.out _).mono ?_; rintro e w7 hm7; obtain ⟨kb, kc, rfl, ho7, hb7⟩ := qqY hm7; have D7 : Hid (Below w6.heap.size w6 w7) := (show Below w6.heap.size w6 _ by go_grown).trans (hb7.mono (by go_size)); have O7 : Hid (OwnK w7 w6.heap.size kb kc (List.replicate 48 0)) := hI (ho7.base (by go_size)); clear ho7 hb7 hm7; have r7 := R6.out.below D7.out hs0; have y0 : w7.cell? ⟨w.heap.size, 0, none⟩ = some (.slice none 0 0) := r7.cell 0; have y1 : w7.cell? ⟨w.heap.size, 1, none⟩ = some (.int .i64 0) := r7.cell 1; have y2 : w7.cell? ⟨w.heap.size, 2, none⟩ = some (.slice none 0 0) := r7.cell 2; have y3 : w7.cell? ⟨w.heap.size, 3, none⟩ = some (.slice none 0 0) := r7.cell 3; have y4 : w7.cell? ⟨w.heap.size, 4, none⟩ = some (.int .i64 0) := r7.cell 4; have y5 : w7.cell? ⟨w.heap.size, 5, none⟩ = some (.int .i64 0) := r7.cell 5; have y6 : w7.cell? ⟨w.heap.size, 6, none⟩ = some (.slice none 0 0) := r7.cell 6; have y7 : w7.cell? ⟨w.heap.size, 7, none⟩ = some (.int .i64 0) := r7.cell 7; have y8 : w7.cell? ⟨w.heap.size, 8, none⟩ = some (.slice none 0 0) := r7.cell 8; have y9 : w7.cell? ⟨w.heap.size, 9, none⟩ = some (.int .i64 0) := r7.cell 9; have y10 : w7.cell? ⟨w.heap.size, 10, none⟩ = some (.slice none 0 0) := r7.cell 10; have y11 : w7.cell? ⟨w.heap.size, 11, none⟩ = some (.slice none 0 0) := r7.cell 11; have y12 : w7.cell? ⟨w.heap.size, 12, none⟩ = some (.int .i64 0) := r7.cell 12; have y13 : w7.cell? ⟨w.heap.size, 13, none⟩ = some (.int .i64 0) := r7.cell 13; have yf : ∀ j, w7.frozen? ⟨w.heap.size, j, none⟩ = false := fun j => r7.froz j; have R7 := hI r7; clear r7; have z0 : w7.cell? ⟨w3.heap.size, 0, none⟩ = some (.slice (some ⟨b, 0, none⟩) n c) := (D7.out.cell hs3).trans x0; have z1 : w7.cell? ⟨w3.heap.size, 1, none⟩ = some (.int .i64 0) := (D7.out.cell hs3).trans x1; have z2 : w7.cell? ⟨w5.heap.size, 0, none⟩ = some (.slice tb (qaN n) tc) := (D7.out.cell hs5).trans x2; have z3 : w7.cell? ⟨w5.heap.size, 1, none⟩ = some (.slice tb' 0 tc') := (D7.out.cell hs5).trans x3; have z4 : w7.cell? ⟨w5.heap.size, 2, none⟩ = some (.int .i64 0) := (D7.out.cell hs5).trans x4))
 all_goals go_wp2
 all_goals
  have HH := hI (Blk.set (Blk.set (Blk.set (Blk.set (Blk.set (Blk.set (Blk.set (Blk.set (Blk.set (Blk.set (Blk.set (Blk.set (Blk.set (Blk.set (R7.out) 0 (.slice (some ⟨b, 0, none⟩) n c)) 1 (.int .i64 0)) 2 (.slice tb (qaN n) tc)) 3 (.slice tb' 0 tc')) 4 (.int .i64 0)) 5 (.int .i64 (qdD n : Int))) 6 (.slice none 0 0)) 7 (.int .i64 (qeF n : Int))) 8 (.slice none 0 0)) 9 (.int .i64 (qdO n : Int))) 10 (.slice none 0 0)) 11 (.slice kb 48 kc)) 12 (.int .i64 0)) 13 (.int .i64 0))
  refine bodyPost_ret (qhV Tryz.results17 _ _ w.heap.size 39 #[.slice (some ⟨b, 0, none⟩) n c, .int .i64 0, .slice tb (qaN n) tc, .slice tb' 0 tc', .int .i64 0, .int .i64 (qdD n : Int), .slice none 0 0, .int .i64 (qeF n : Int), .slice none 0 0, .int .i64 (qdO n : Int), .slice none 0 0, .slice kb 48 kc, .int .i64 0, .int .i64 0] (0, 0) _ rfl HH.out Tryz.underlying39 rfl (by kernel_rfl)) rfl ?_
  refine ⟨⟨some ⟨b, 0, none⟩, c, tb, tc, tb', tc', none, 0, none, 0, none, 0, kb, kc⟩, ?_, ?_, ?_⟩
  ·unfold neV qsY
   simp only [qaG, List.length_replicate, List.length_nil]
   rfl
  ·refine OwnN.base (OwnN.put14 (B := w.heap.size + 1) ?_ (by omega) _ _ _ _ _ _ _ _ _ _ _ _ _ _) (by omega)
   exact OwnN.made (S1 := w4.heap.size) (S2 := w6.heap.size) (by omega) (by omega) (by rw [qaG]; exact qaE O6.out D7.out) (fun g hg => hal.out g (by rw [qaG] at hg; exact hg)) (U6.out.later D7.out) hcl.out O7.out
  ·exact qaM (B6.out.trans (D7.out.mono B6.out.size)) (Nat.le_refl _) _ _ _ _ _ _ _ _ _ _ _ _ _ _
theorem qzL {w : World} {A : NA} {N : Nr} (hl : SmN N) (hq : N.w.length <= 65536 /\ N.t.length <= 65536 /\ N.s.length <= 65536) (hA : RdN w A N) :
  Calls Tryz.prog 68 #[neV A N] w fun e w' => ∃ A', e = .returned (neV A' N) /\ OwnN w' w.heap.size A' N /\ Below w.heap.size w w' := by
 have F0 := hI (qdI w (nA A N) nZ 39 39)
 have CA0 := hI (fun w' (hb : Below w.heap.size w w') => qjT A.a N.sl A.ac N.fr w' hl.fa (hA.fa.later hb))
 have CT0 := hI (fun w' (hb : Below w.heap.size w w') => qjR A.c A.o N.ce N.od A.cc A.oc N.mv w' hl.fc hl.fo (hA.fc.later hb).toJ (hA.fo.later hb).toJ)
 have CRW := hI (fun w' => qbA A.w N.w.length A.wc N.wm w')
 have CRT := hI (fun w' => qbA A.t N.t.length A.tc N.tm w')
 have CRS := hI (fun w' => qbA A.s N.s.length A.sc N.sm w')
 have CQW0 := hI (fun w' (hb : Below w.heap.size w w') => qdA A.w N.w N.w.length A.wc N.wm w' rfl hq.1 (hA.fw.later hb))
 have CQT0 := hI (fun w' (hb : Below w.heap.size w w') => qdA A.t N.t N.t.length A.tc N.tm w' rfl hq.2.1 (hA.ft.later hb))
 have CQS0 := hI (fun w' (hb : Below w.heap.size w w') => qdA A.s N.s N.s.length A.sc N.sm w' rfl hq.2.2 (hA.fs.later hb))
 have CS0 := hI (fun w' (hb : Below w.heap.size w w') => qhX A.k N.sk A.kc N.ad w' hl.fk (hA.fk.later hb))
 unfold arV at CA0
 unfold qtS tbV at CT0
 unfold MadeK skV at CS0
 clear hl hq hA
 unfold neV
 go_enter Tryz.func68, Tryz.ntmps68
 go_wp2_with fail
 generalize ((w.alloc (.cells (nA A N) 39)).alloc (.cells nZ 39)) = w0 at F0 ⊢
 obtain ⟨P0, R0, B0⟩ := F0.out
 have P0 := hI P0
 have R0 := hI R0
 have B0 := hI B0
 have sz0 : w.heap.size + 2 <= w0.heap.size := by have := R0.out.lt; omega
 clear F0
 have CA := hI (fun w' (hb : Below w0.heap.size w0 w') => CA0.out w' (B0.out.trans (hb.mono B0.out.size)))
 have CT := hI (fun w' (hb : Below w0.heap.size w0 w') => CT0.out w' (B0.out.trans (hb.mono B0.out.size)))
 have CQW := hI (fun w' (hb : Below w0.heap.size w0 w') => CQW0.out w' (B0.out.trans (hb.mono B0.out.size)))
 have CQT := hI (fun w' (hb : Below w0.heap.size w0 w') => CQT0.out w' (B0.out.trans (hb.mono B0.out.size)))
 have CQS := hI (fun w' (hb : Below w0.heap.size w0 w') => CQS0.out w' (B0.out.trans (hb.mono B0.out.size)))
 have CS := hI (fun w' (hb : Below w0.heap.size w0 w') => CS0.out w' (B0.out.trans (hb.mono B0.out.size)))
 clear CA0 CT0 CQW0 CQT0 CQS0 CS0
 have D : Hid (Below w0.heap.size w0 w0) := Below.refl _ _
 obtain ⟨_, x0, x1, x2, x3, x4, x5, x6, x7, x8, x9, x10, x11, x12, x13⟩ := qcR P0.out
 have qq : ∀ (u : World) (i j : Nat) (v : Value), (u.setCell ⟨w.heap.size + 1, i, none⟩ v).cell? ⟨w.heap.size, j, none⟩ = u.cell? ⟨w.heap.size, j, none⟩ := fun u i j v => World.cell?_setCell_other _ _ _ _ (by intro e; injection e; omega)
 go_region_held3 (fun w' => w'.cell? ⟨w.heap.size, 0, none⟩ = some (.slice A.a N.sl.length A.ac) /\ w'.cell? ⟨w.heap.size, 1, none⟩ = some (.int .i64 N.fr) /\ w'.cell? ⟨w.heap.size, 2, none⟩ = some (.slice A.c N.ce.length A.cc) /\ w'.cell? ⟨w.heap.size, 3, none⟩ = some (.slice A.o N.od.length A.oc) /\ w'.cell? ⟨w.heap.size, 4, none⟩ = some (.int .i64 N.mv) /\ w'.cell? ⟨w.heap.size, 5, none⟩ = some (.int .i64 N.wm) /\ w'.cell? ⟨w.heap.size, 6, none⟩ = some (.slice A.w N.w.length A.wc) /\ w'.cell? ⟨w.heap.size, 7, none⟩ = some (.int .i64 N.tm) /\ w'.cell? ⟨w.heap.size, 8, none⟩ = some (.slice A.t N.t.length A.tc) /\ w'.cell? ⟨w.heap.size, 9, none⟩ = some (.int .i64 N.sm) /\ w'.cell? ⟨w.heap.size, 10, none⟩ = some (.slice A.s N.s.length A.sc) /\ w'.cell? ⟨w.heap.size, 11, none⟩ = some (.slice A.k N.sk.length A.kc) /\ w'.cell? ⟨w.heap.size, 12, none⟩ = some (.int .i64 N.ad) /\ w'.cell? ⟨w.heap.size, 13, none⟩ = some (.int .i64 N.dr)) (first | simp only [World.cell?_drew, x0, x1, x2, x3, x4, x5, x6, x7, x8, x9, x10, x11, x12, x13, and_self] | simp only [x0, x1, x2, x3, x4, x5, x6, x7, x8, x9, x10, x11, x12, x13, and_self] | simp only [qq, x0, x1, x2, x3, x4, x5, x6, x7, x8, x9, x10, x11, x12, x13, and_self] | simp only [World.cell?_drew, qq, x0, x1, x2, x3, x4, x5, x6, x7, x8, x9, x10, x11, x12, x13, and_self]) ((first | (go_at_call 123; refine (CA.out _ (D.out.trans (show Below w0.heap.size w0 _ by go_grown))).mono ?_; rintro e w1 ⟨ab, ac, rfl, ho, hb⟩; have hk : Hid (Below w0.heap.size w0 w1) := (show Below w0.heap.size w0 _ by go_grown).trans (hb.mono (by go_size)); have zzw1 : w0.heap.size <= w1.heap.size := hk.out.size; have D : Hid (Below w0.heap.size w0 w1) := D.out.trans (hk.out.mono D.out.size); have lo1 := (show w0.heap.size <= w0.heap.size from Nat.le_refl _); have ra := hI (RowI.of (qaB (base := w0.heap.size) ho (by go_size))); clear ho; clear x0 x1 x2 x3 x4 x5 x6 x7 x8 x9 x10 x11 x12 x13; obtain ⟨_, x0, x1, x2, x3, x4, x5, x6, x7, x8, x9, x10, x11, x12, x13⟩ := qcR (P0.out.below D.out P0.out.lt); clear hb hk) | (go_at_call 124; refine (CT.out _ (D.out.trans (show Below w0.heap.size w1 _ by go_grown))).mono ?_; rintro e w2 ⟨v, rfl, tb, tc, tb', tc', rfl, ho, ho2, hne, hb⟩; have hk : Hid (Below w1.heap.size w1 w2) := (show Below w1.heap.size w1 _ by go_grown).trans (hb.mono (by go_size)); have zzw2 : w1.heap.size <= w2.heap.size := hk.out.size; have ra := hI (ra.out.later hk.out); have D : Hid (Below w0.heap.size w0 w2) := D.out.trans (hk.out.mono D.out.size); have rc := hI (RowI.of (qaB (base := w1.heap.size) ho (by go_size))); have ro := hI (RowI.of (qaB (base := w1.heap.size) ho2 (by go_size))); clear ho ho2; clear x0 x1 x2 x3 x4 x5 x6 x7 x8 x9 x10 x11 x12 x13; obtain ⟨_, x0, x1, x2, x3, x4, x5, x6, x7, x8, x9, x10, x11, x12, x13⟩ := qcR (P0.out.below D.out P0.out.lt); clear hb hk) | (go_at_call 126; refine (CRW.out _).mono ?_; rintro e w3 ⟨rfl, hb⟩; have hk : Hid (Below w2.heap.size w2 w3) := (show Below w2.heap.size w2 _ by go_grown).trans (hb.mono (by go_size)); have zzw3 : w2.heap.size <= w3.heap.size := hk.out.size; have ra := hI (ra.out.later hk.out); have rc := hI (rc.out.later hk.out); have ro := hI (ro.out.later hk.out); have D : Hid (Below w0.heap.size w0 w3) := D.out.trans (hk.out.mono D.out.size); clear x0 x1 x2 x3 x4 x5 x6 x7 x8 x9 x10 x11 x12 x13; obtain ⟨_, x0, x1, x2, x3, x4, x5, x6, x7, x8, x9, x10, x11, x12, x13⟩ := qcR (P0.out.below D.out P0.out.lt); clear hb hk) | (go_at_call 125; refine (CQW.out _ (D.out.trans (show Below w0.heap.size w3 _ by go_grown))).mono ?_; rintro e w4 ⟨bw, cw, rfl, ho, hb⟩; have hk : Hid (Below w3.heap.size w3 w4) := (show Below w3.heap.size w3 _ by go_grown).trans (hb.mono (by go_size)); have zzw4 : w3.heap.size <= w4.heap.size := hk.out.size; have ra := hI (ra.out.later hk.out); have rc := hI (rc.out.later hk.out); have ro := hI (ro.out.later hk.out); have D : Hid (Below w0.heap.size w0 w4) := D.out.trans (hk.out.mono D.out.size); have rqw := hI (RowI.of (qaB (base := w3.heap.size) ho (by go_size))); clear ho; clear x0 x1 x2 x3 x4 x5 x6 x7 x8 x9 x10 x11 x12 x13; obtain ⟨_, x0, x1, x2, x3, x4, x5, x6, x7, x8, x9, x10, x11, x12, x13⟩ := qcR (P0.out.below D.out P0.out.lt); clear hb hk) | (go_at_call 126; refine (CRT.out _).mono ?_; rintro e w5 ⟨rfl, hb⟩; have hk : Hid (Below w4.heap.size w4 w5) := (show Below w4.heap.size w4 _ by go_grown).trans (hb.mono (by go_size)); have zzw5 : w4.heap.size <= w5.heap.size := hk.out.size; have ra := hI (ra.out.later hk.out); have rc := hI (rc.out.later hk.out); have ro := hI (ro.out.later hk.out); have rqw := hI (rqw.out.later hk.out); have D : Hid (Below w0.heap.size w0 w5) := D.out.trans (hk.out.mono D.out.size); clear x0 x1 x2 x3 x4 x5 x6 x7 x8 x9 x10 x11 x12 x13; obtain ⟨_, x0, x1, x2, x3, x4, x5, x6, x7, x8, x9, x10, x11, x12, x13⟩ := qcR (P0.out.below D.out P0.out.lt); clear hb hk) | (go_at_call 125; refine (CQT.out _ (D.out.trans (show Below w0.heap.size w5 _ by go_grown))).mono ?_; rintro e w6 ⟨bt, ct, rfl, ho, hb⟩; have hk : Hid (Below w5.heap.size w5 w6) := (show Below w5.heap.size w5 _ by go_grown).trans (hb.mono (by go_size)); have zzw6 : w5.heap.size <= w6.heap.size := hk.out.size; have ra := hI (ra.out.later hk.out); have rc := hI (rc.out.later hk.out); have ro := hI (ro.out.later hk.out); have rqw := hI (rqw.out.later hk.out); have D : Hid (Below w0.heap.size w0 w6) := D.out.trans (hk.out.mono D.out.size); have rt := hI (RowI.of (qaB (base := w5.heap.size) ho (by go_size))); clear ho; clear x0 x1 x2 x3 x4 x5 x6 x7 x8 x9 x10 x11 x12 x13; obtain ⟨_, x0, x1, x2, x3, x4, x5, x6, x7, x8, x9, x10, x11, x12, x13⟩ := qcR (P0.out.below D.out P0.out.lt); clear hb hk) | (go_at_call 126; refine (CRS.out _).mono ?_; rintro e w7 ⟨rfl, hb⟩; have hk : Hid (Below w6.heap.size w6 w7) := (show Below w6.heap.size w6 _ by go_grown).trans (hb.mono (by go_size)); have zzw7 : w6.heap.size <= w7.heap.size := hk.out.size; have ra := hI (ra.out.later hk.out); have rc := hI (rc.out.later hk.out); have ro := hI (ro.out.later hk.out); have rqw := hI (rqw.out.later hk.out); have rt := hI (rt.out.later hk.out); have D : Hid (Below w0.heap.size w0 w7) := D.out.trans (hk.out.mono D.out.size); clear x0 x1 x2 x3 x4 x5 x6 x7 x8 x9 x10 x11 x12 x13; obtain ⟨_, x0, x1, x2, x3, x4, x5, x6, x7, x8, x9, x10, x11, x12, x13⟩ := qcR (P0.out.below D.out P0.out.lt); clear hb hk) | (go_at_call 125; refine (CQS.out _ (D.out.trans (show Below w0.heap.size w7 _ by go_grown))).mono ?_; rintro e w8 ⟨bs, cs, rfl, ho, hb⟩; have hk : Hid (Below w7.heap.size w7 w8) := (show Below w7.heap.size w7 _ by go_grown).trans (hb.mono (by go_size)); have zzw8 : w7.heap.size <= w8.heap.size := hk.out.size; have ra := hI (ra.out.later hk.out); have rc := hI (rc.out.later hk.out); have ro := hI (ro.out.later hk.out); have rqw := hI (rqw.out.later hk.out); have rt := hI (rt.out.later hk.out); have D : Hid (Below w0.heap.size w0 w8) := D.out.trans (hk.out.mono D.out.size); have rs := hI (RowI.of (qaB (base := w7.heap.size) ho (by go_size))); clear ho; clear x0 x1 x2 x3 x4 x5 x6 x7 x8 x9 x10 x11 x12 x13; obtain ⟨_, x0, x1, x2, x3, x4, x5, x6, x7, x8, x9, x10, x11, x12, x13⟩ := qcR (P0.out.below D.out P0.out.lt); clear hb hk) | (go_at_call 127; refine (CS.out _ (D.out.trans (show Below w0.heap.size w8 _ by go_grown))).mono ?_; rintro e w9 ⟨kb, kc, rfl, ho, hb⟩; have hk : Hid (Below w8.heap.size w8 w9) := (show Below w8.heap.size w8 _ by go_grown).trans (hb.mono (by go_size)); have zzw9 : w8.heap.size <= w9.heap.size := hk.out.size; have ra := hI (ra.out.later hk.out); have rc := hI (rc.out.later hk.out); have ro := hI (ro.out.later hk.out); have rqw := hI (rqw.out.later hk.out); have rt := hI (rt.out.later hk.out); have rs := hI (rs.out.later hk.out); have D : Hid (Below w0.heap.size w0 w9) := D.out.trans (hk.out.mono D.out.size); have rk := hI (RowI.of (qaB (base := w8.heap.size) ho (by go_size))); clear ho; clear x0 x1 x2 x3 x4 x5 x6 x7 x8 x9 x10 x11 x12 x13; obtain ⟨_, x0, x1, x2, x3, x4, x5, x6, x7, x8, x9, x10, x11, x12, x13⟩ := qcR (P0.out.below D.out P0.out.lt); have r9 := R0.out.below D.out R0.out.lt; have y0 : w9.cell? ⟨w.heap.size + 1, 0, none⟩ = some (.slice none 0 0) := r9.cell 0; have y1 : w9.cell? ⟨w.heap.size + 1, 1, none⟩ = some (.int .i64 0) := r9.cell 1; have y2 : w9.cell? ⟨w.heap.size + 1, 2, none⟩ = some (.slice none 0 0) := r9.cell 2; have y3 : w9.cell? ⟨w.heap.size + 1, 3, none⟩ = some (.slice none 0 0) := r9.cell 3; have y4 : w9.cell? ⟨w.heap.size + 1, 4, none⟩ = some (.int .i64 0) := r9.cell 4; have y5 : w9.cell? ⟨w.heap.size + 1, 5, none⟩ = some (.int .i64 0) := r9.cell 5; have y6 : w9.cell? ⟨w.heap.size + 1, 6, none⟩ = some (.slice none 0 0) := r9.cell 6; have y7 : w9.cell? ⟨w.heap.size + 1, 7, none⟩ = some (.int .i64 0) := r9.cell 7; have y8 : w9.cell? ⟨w.heap.size + 1, 8, none⟩ = some (.slice none 0 0) := r9.cell 8; have y9 : w9.cell? ⟨w.heap.size + 1, 9, none⟩ = some (.int .i64 0) := r9.cell 9; have y10 : w9.cell? ⟨w.heap.size + 1, 10, none⟩ = some (.slice none 0 0) := r9.cell 10; have y11 : w9.cell? ⟨w.heap.size + 1, 11, none⟩ = some (.slice none 0 0) := r9.cell 11; have y12 : w9.cell? ⟨w.heap.size + 1, 12, none⟩ = some (.int .i64 0) := r9.cell 12; have y13 : w9.cell? ⟨w.heap.size + 1, 13, none⟩ = some (.int .i64 0) := r9.cell 13; have yf : ∀ j, w9.frozen? ⟨w.heap.size + 1, j, none⟩ = false := fun j => r9.froz j; have R9 := hI r9; clear hb hk r9)))
 all_goals go_wp2
 all_goals
  have HH := hI (Blk.set (Blk.set (Blk.set (Blk.set (Blk.set (Blk.set (Blk.set (Blk.set (Blk.set (Blk.set (Blk.set (Blk.set (Blk.set (Blk.set (R9.out) 0 (.slice (some ⟨ab, 0, none⟩) N.sl.length ac)) 1 (.int .i64 N.fr)) 2 (.slice (some ⟨tb, 0, none⟩) N.ce.length tc)) 3 (.slice (some ⟨tb', 0, none⟩) N.od.length tc')) 4 (.int .i64 N.mv)) 5 (.int .i64 N.wm)) 6 (.slice bw N.w.length cw)) 7 (.int .i64 N.tm)) 8 (.slice bt N.t.length ct)) 9 (.int .i64 N.sm)) 10 (.slice bs N.s.length cs)) 11 (.slice kb N.sk.length kc)) 12 (.int .i64 N.ad)) 13 (.int .i64 N.dr))
  have OX := hI (OwnN.put14 (s := w.heap.size + 1) (OwnN.seq (A := ⟨some ⟨ab, 0, none⟩, ac, some ⟨tb, 0, none⟩, tc, some ⟨tb', 0, none⟩, tc', bw, cw, bt, ct, bs, cs, kb, kc⟩) (N := N) (B := w0.heap.size) (S1 := w1.heap.size) (S2 := w2.heap.size) (S3 := w4.heap.size) (S4 := w6.heap.size) (S5 := w8.heap.size) (S6 := w9.heap.size) (by omega) (by omega) (by omega) (by omega) (by omega) (ra.out.wide (by omega) (by omega)) (rc.out.wide (by omega) (by omega)) (ro.out.wide (by omega) (by omega)) (fun g hg e => hne (by have e1 : tb = g := Option.some.inj hg; have e2 : tb' = g := Option.some.inj e; rw [e1, e2])) (rqw.out.wide (by omega) (by omega)) (rt.out.wide (by omega) (by omega)) (rs.out.wide (by omega) (by omega)) (rk.out.wide (by omega) (by omega))) (by omega) (.slice (some ⟨ab, 0, none⟩) N.sl.length ac) (.int .i64 N.fr) (.slice (some ⟨tb, 0, none⟩) N.ce.length tc) (.slice (some ⟨tb', 0, none⟩) N.od.length tc') (.int .i64 N.mv) (.int .i64 N.wm) (.slice bw N.w.length cw) (.int .i64 N.tm) (.slice bt N.t.length ct) (.int .i64 N.sm) (.slice bs N.s.length cs) (.slice kb N.sk.length kc) (.int .i64 N.ad) (.int .i64 N.dr))
  have BX := hI (qaM (s := w.heap.size + 1) (B0.out.trans (D.out.mono B0.out.size)) (by omega) (.slice (some ⟨ab, 0, none⟩) N.sl.length ac) (.int .i64 N.fr) (.slice (some ⟨tb, 0, none⟩) N.ce.length tc) (.slice (some ⟨tb', 0, none⟩) N.od.length tc') (.int .i64 N.mv) (.int .i64 N.wm) (.slice bw N.w.length cw) (.int .i64 N.tm) (.slice bt N.t.length ct) (.int .i64 N.sm) (.slice bs N.s.length cs) (.slice kb N.sk.length kc) (.int .i64 N.ad) (.int .i64 N.dr))
  refine bodyPost_ret (results_cell_row Tryz.results68 _ _ (w.heap.size + 1) 39 #[.slice (some ⟨ab, 0, none⟩) N.sl.length ac, .int .i64 N.fr, .slice (some ⟨tb, 0, none⟩) N.ce.length tc, .slice (some ⟨tb', 0, none⟩) N.od.length tc', .int .i64 N.mv, .int .i64 N.wm, .slice bw N.w.length cw, .int .i64 N.tm, .slice bt N.t.length ct, .int .i64 N.sm, .slice bs N.s.length cs, .slice kb N.sk.length kc, .int .i64 N.ad, .int .i64 N.dr] (0, 0) _ rfl HH.out Tryz.underlying39 rfl (by kernel_rfl)) rfl ?_
  exact ⟨_, rfl, OX.out.base (by omega), BX.out⟩
end Go.Proofs.YtigpjmmfelndkaaGreatDoor
