/- The program's five functions on sketches. -/
import Derived.Test.YthigmdocfjhdlaaSkJ
namespace Go.Proofs.Ythigmdocfjhdlaa
open Go.RowKit

def newK : List Int × Int := (List.replicate 48 0, 0)

set_option maxRecDepth 100000 in
set_option maxHeartbeats 2000000 in
theorem implSNew_any (w : World) : Calls Try.prog 8 #[] w fun e w' => MadeK w w' e newK := by
  have F0 := hide1 (blkN2 w #[.slice none 0 0, .int .i64 0] #[.int .i64 0, .int .i64 0, .int .i64 0, .int .i64 0, .int .i64 0, .int .i64 0, .int .i64 0, .int .i64 0, .int .i64 0, .int .i64 0, .int .i64 0, .int .i64 0, .int .i64 0, .int .i64 0, .int .i64 0, .int .i64 0, .int .i64 0, .int .i64 0, .int .i64 0, .int .i64 0, .int .i64 0, .int .i64 0, .int .i64 0, .int .i64 0, .int .i64 0, .int .i64 0, .int .i64 0, .int .i64 0, .int .i64 0, .int .i64 0, .int .i64 0, .int .i64 0, .int .i64 0, .int .i64 0, .int .i64 0, .int .i64 0, .int .i64 0, .int .i64 0, .int .i64 0, .int .i64 0, .int .i64 0, .int .i64 0, .int .i64 0, .int .i64 0, .int .i64 0, .int .i64 0, .int .i64 0, .int .i64 0, .int .i64 0] 28 45)
  have CS := hide1 (fun w' (h : Grd w' (w.heap.size + 1) (List.replicate 48 0) 0) => sketch_any (w.heap.size + 1) (List.replicate 48 0) 0 w' (by rw [List.length_replicate]) h)
  have HZ : Hid ((#[.int .i64 0, .int .i64 0, .int .i64 0, .int .i64 0, .int .i64 0, .int .i64 0, .int .i64 0, .int .i64 0, .int .i64 0, .int .i64 0, .int .i64 0, .int .i64 0, .int .i64 0, .int .i64 0, .int .i64 0, .int .i64 0, .int .i64 0, .int .i64 0, .int .i64 0, .int .i64 0, .int .i64 0, .int .i64 0, .int .i64 0, .int .i64 0, .int .i64 0, .int .i64 0, .int .i64 0, .int .i64 0, .int .i64 0, .int .i64 0, .int .i64 0, .int .i64 0, .int .i64 0, .int .i64 0, .int .i64 0, .int .i64 0, .int .i64 0, .int .i64 0, .int .i64 0, .int .i64 0, .int .i64 0, .int .i64 0, .int .i64 0, .int .i64 0, .int .i64 0, .int .i64 0, .int .i64 0, .int .i64 0, .int .i64 0] : Array Value).toList = grC (List.replicate 48 0) 0) := hide1 rfl
  rw [HZ.out] at F0
  clear HZ
  go_enter Try.func8, Try.ntmps8
  go_wp2_with fail
  generalize ((w.alloc (.cells #[.slice none 0 0, .int .i64 0] 28)).alloc (.cells #[.int .i64 0, .int .i64 0, .int .i64 0, .int .i64 0, .int .i64 0, .int .i64 0, .int .i64 0, .int .i64 0, .int .i64 0, .int .i64 0, .int .i64 0, .int .i64 0, .int .i64 0, .int .i64 0, .int .i64 0, .int .i64 0, .int .i64 0, .int .i64 0, .int .i64 0, .int .i64 0, .int .i64 0, .int .i64 0, .int .i64 0, .int .i64 0, .int .i64 0, .int .i64 0, .int .i64 0, .int .i64 0, .int .i64 0, .int .i64 0, .int .i64 0, .int .i64 0, .int .i64 0, .int .i64 0, .int .i64 0, .int .i64 0, .int .i64 0, .int .i64 0, .int .i64 0, .int .i64 0, .int .i64 0, .int .i64 0, .int .i64 0, .int .i64 0, .int .i64 0, .int .i64 0, .int .i64 0, .int .i64 0, .int .i64 0] 45)) = w0 at F0 ⊢
  obtain ⟨K0, K1, B0⟩ := F0.out
  refine (CS.out w0 K1).mono ?_
  rintro e w1 ⟨ao, c, rfl, ho, hb⟩
  dsimp only at ho ⊢
  rw [List.length_replicate] at ho ⊢
  have J0 := K0.below hb K0.lt
  have HM := hide1 (MadeK.put (r := w.heap.size) (ad := 0) B0 (Nat.le_refl _) K0.lt (List.length_replicate ..) ho hb)
  have hh := hide1 (Blk.set (Blk.set J0 0 (.slice ao 48 c)) 1 (.int .i64 0))
  have y0 : w1.cell? ⟨w.heap.size, 0, none⟩ = some (.slice none 0 0) := J0.cell 0
  have y1 : w1.cell? ⟨w.heap.size, 1, none⟩ = some (.int .i64 0) := J0.cell 1
  have yf : ∀ j, w1.frozen? ⟨w.heap.size, j, none⟩ = false := fun j => J0.froz j
  clear K0 K1 B0 F0 CS ho hb J0
  unfold skV
  go_wp2
  refine bodyPost_ret (results_cell_row Try.results8 _ _ w.heap.size 28 #[.slice ao 48 c, .int .i64 0] (0, 0) _ rfl hh.out Try.underlying28 rfl (by kernel_rfl)) rfl ?_
  exact HM.out

set_option maxRecDepth 100000 in
theorem implSOk_any (ao : Option Addr) (l : List Int) (ca : Nat) (ad : Int) (w : World) (hA : RdZ w ao l) :
    Calls Try.prog 10 #[skV ao l.length ca ad] w fun e w' => ∃ x : Bool, e = .returned (.bool x) ∧ (x = true ↔ OkK l ad) ∧ Below w.heap.size w w' := by
  have C1 := hide1 (fun o => gridOf_any ao l ca ad (w.alloc o) (hA.later ((Below.refl _ _).alloc (Nat.le_refl _) o)))
  have B0 := hide1 (fun o => (Below.refl w.heap.size w).alloc (Nat.le_refl _) o)
  unfold skV at C1 ⊢
  clear hA
  go_enter Try.func10, Try.ntmps10
  go_wp2_with fail
  refine (C1.out _).mono ?_
  rintro e w1 ⟨hr, hb⟩
  have B1 := hide1 ((B0.out _).trans (hb.mono (show w.heap.size ≤ _ by rw [World.size_alloc]; omega)))
  clear hb
  rcases hr with ⟨rfl, hn⟩ | ⟨g, rfl, hy, _, _⟩
  · have HN := hide1 hn
    clear hn
    go_wp2
    go_ret
    exact ⟨false, rfl, ⟨(fun h => by cases h), fun h => absurd h HN.out⟩, B1.out⟩
  · have HY := hide1 hy
    clear hy
    go_wp2
    go_ret
    exact ⟨true, rfl, ⟨fun _ => HY.out, fun _ => rfl⟩, B1.out⟩

set_option maxRecDepth 100000 in
theorem implGuess_any (ao : Option Addr) (l : List Int) (ca : Nat) (ad : Int) (key : ByteArray) (w : World) (hs : key.size ≤ 1048576) (hA : RdZ w ao l) :
    Calls Try.prog 12 #[skV ao l.length ca ad, .string key] w fun e w' => e = .returned (.int .i64 (gueR l ad key)) ∧ Below w.heap.size w w' := by
  have C1 := hide1 (fun o => gridOf_any ao l ca ad (w.alloc o) (hA.later ((Below.refl _ _).alloc (Nat.le_refl _) o)))
  have B0 := hide1 (fun o => (Below.refl w.heap.size w).alloc (Nat.le_refl _) o)
  unfold skV at C1 ⊢
  clear hA
  go_enter Try.func12, Try.ntmps12
  go_wp2_with fail
  refine (C1.out _).mono ?_
  rintro e w1 ⟨hr, hb⟩
  have B1 := hide1 ((B0.out _).trans (hb.mono (show w.heap.size ≤ _ by rw [World.size_alloc]; omega)))
  clear hb
  rcases hr with ⟨rfl, hn⟩ | ⟨g, rfl, hy, _, hG⟩
  · have HN := hide1 (gueR_no (key := key) hn)
    clear hn
    go_wp2
    go_ret
    exact ⟨by rw [HN.out]; rfl, B1.out⟩
  · have HY := hide1 (gueR_yes (key := key) hy)
    have C2 := hide1 (guess_any g l ad key w1 hs hy.1 hG)
    clear hy hG
    go_wp2_with fail
    refine C2.out.mono ?_
    rintro e w2 ⟨rfl, hb2⟩
    have B2 := hide1 (B1.out.trans (hb2.mono B1.out.size))
    clear hb2
    go_wp2
    go_ret
    exact ⟨by rw [HY.out]; rfl, B2.out⟩

/-- The blocks of what came in and of a result, at a maker's start. -/
theorem start2 (w : World) (ao : Option Addr) (n ca : Nat) (ad : Int) : Hid (Blk ((w.alloc (.cells #[.slice ao n ca, .int .i64 ad] 28)).alloc (.cells #[.slice none 0 0, .int .i64 0] 28)) w.heap.size 28 [.slice ao n ca, .int .i64 ad] ∧ Blk ((w.alloc (.cells #[.slice ao n ca, .int .i64 ad] 28)).alloc (.cells #[.slice none 0 0, .int .i64 0] 28)) (w.heap.size + 1) 28 [.slice none 0 0, .int .i64 0] ∧ Below w.heap.size w ((w.alloc (.cells #[.slice ao n ca, .int .i64 ad] 28)).alloc (.cells #[.slice none 0 0, .int .i64 0] 28))) := blkN2 w _ _ _ _

set_option maxRecDepth 100000 in
set_option maxHeartbeats 2000000 in
theorem implHalve_any (ao : Option Addr) (l : List Int) (ca : Nat) (ad : Int) (w : World) (hl : l.length ≤ 1048576) (hA : RdZ w ao l) :
    Calls Try.prog 15 #[skV ao l.length ca ad] w fun e w' => MadeK w w' e (halR l ad) := by
  have C1 := hide1 (fun w' (h : Below w.heap.size w w') => gridOf_any ao l ca ad w' (hA.later h))
  have C2 := hide1 (fun w' (h : Below w.heap.size w w') => newSketch_any ao l ca ad w' hl (hA.later h))
  have F0 := start2 w ao l.length ca ad
  unfold skV at C1 C2 ⊢
  clear hA
  go_enter Try.func15, Try.ntmps15
  go_wp2_with fail
  generalize ((w.alloc (.cells #[.slice ao l.length ca, .int .i64 ad] 28)).alloc (.cells #[.slice none 0 0, .int .i64 0] 28)) = w0 at F0 ⊢
  obtain ⟨K0, K1, B0⟩ := F0.out
  refine (C1.out w0 B0).mono ?_
  rintro e w1 ⟨hr, hb⟩
  have J0 := hide1 (K0.below hb K0.lt)
  have J1 := hide1 (K1.below hb K1.lt)
  have B1 := hide1 (B0.trans (hb.mono B0.size))
  have hlt := K1.lt
  clear hb K0 K1 B0 F0
  rcases hr with ⟨rfl, hn⟩ | ⟨g, rfl, hy, hg, hG⟩
  · have HN := hide1 (halR_no hn)
    have x0 : w1.cell? ⟨w.heap.size, 0, none⟩ = some (.slice ao l.length ca) := J0.out.cell 0
    have x1 : w1.cell? ⟨w.heap.size, 1, none⟩ = some (.int .i64 ad) := J0.out.cell 1
    have hx : w.heap.size < w1.heap.size := J0.out.lt
    clear hn
    go_wp2_with fail
    refine (C2.out w1 B1.out).mono ?_
    rintro e w2 ⟨bo, c, rfl, ho, hb⟩
    dsimp only at ho
    have D1 := hide1 (J1.out.below hb J1.out.lt)
    have HM := hide1 (MadeK.put (r := w.heap.size + 1) (ad := ad) B1.out (by omega) J1.out.lt rfl ho hb)
    have hh := hide1 (Blk.set (Blk.set D1.out 0 (.slice bo l.length c)) 1 (.int .i64 ad))
    have y0 : w2.cell? ⟨w.heap.size + 1, 0, none⟩ = some (.slice none 0 0) := D1.out.cell 0
    have y1 : w2.cell? ⟨w.heap.size + 1, 1, none⟩ = some (.int .i64 0) := D1.out.cell 1
    have yf : ∀ j, w2.frozen? ⟨w.heap.size + 1, j, none⟩ = false := fun j => D1.out.froz j
    clear ho hb x0 x1 C1 C2
    unfold skV
    go_wp2
    refine bodyPost_ret (results_cell_row Try.results15 _ _ (w.heap.size + 1) 28 #[.slice bo l.length c, .int .i64 ad] (0, 0) _ rfl hh.out Try.underlying28 rfl (by kernel_rfl)) rfl ?_
    rw [HN.out]
    exact HM.out
  · have HY := hide1 (halR_yes hy)
    have C3 := hide1 (halve_any g l ad w1 hy.1 hy.in15 hG)
    have C4 := hide1 (fun w' (h : Grd w' g (halfK l) ad) => sketch_any g (halfK l) ad w' (by rw [halfK_length]; exact hy.1) h)
    have HL := hide1 (show (halfK l).length = 48 by rw [halfK_length]; exact hy.1)
    clear hy hG
    go_wp2_with fail
    refine C3.out.mono ?_
    rintro e w2 ⟨rfl, hG2, hgr⟩
    have D1 := hide1 (gblk hgr J1.out (fun e => by injection e with e; omega))
    have B2 := hide1 (B1.out.trans (gbelow hgr (fun k hk => by injection hk with e; omega) B1.out.size))
    have HG2 := hide1 hG2
    clear hgr hG2
    go_wp2_with fail
    refine (C4.out w2 HG2.out).mono ?_
    rintro e w3 ⟨bo, c, rfl, ho, hb⟩
    dsimp only at ho ⊢
    rw [HL.out] at ho ⊢
    have E1 := hide1 (D1.out.below hb D1.out.lt)
    have HM := hide1 (MadeK.put (r := w.heap.size + 1) (ad := ad) B2.out (by omega) D1.out.lt HL.out ho hb)
    have hh := hide1 (Blk.set (Blk.set E1.out 0 (.slice bo 48 c)) 1 (.int .i64 ad))
    have y0 : w3.cell? ⟨w.heap.size + 1, 0, none⟩ = some (.slice none 0 0) := E1.out.cell 0
    have y1 : w3.cell? ⟨w.heap.size + 1, 1, none⟩ = some (.int .i64 0) := E1.out.cell 1
    have yf : ∀ j, w3.frozen? ⟨w.heap.size + 1, j, none⟩ = false := fun j => E1.out.froz j
    clear ho hb C1 C2
    unfold skV
    go_wp2
    refine bodyPost_ret (results_cell_row Try.results15 _ _ (w.heap.size + 1) 28 #[.slice bo 48 c, .int .i64 ad] (0, 0) _ rfl hh.out Try.underlying28 rfl (by kernel_rfl)) rfl ?_
    rw [HY.out]
    exact HM.out

set_option maxRecDepth 100000 in
set_option maxHeartbeats 4000000 in
theorem implCount_any (ao : Option Addr) (l : List Int) (ca : Nat) (ad : Int) (key : ByteArray) (w : World) (hs : key.size ≤ 1048576) (hl : l.length ≤ 1048576) (hA : RdZ w ao l) :
    Calls Try.prog 9 #[skV ao l.length ca ad, .string key] w fun e w' => MadeK w w' e (cntR l ad key) := by
  have C1 := hide1 (fun w' (h : Below w.heap.size w w') => gridOf_any ao l ca ad w' (hA.later h))
  have C2 := hide1 (fun w' (h : Below w.heap.size w w') => newSketch_any ao l ca ad w' hl (hA.later h))
  have F0 := start2 w ao l.length ca ad
  unfold skV at C1 C2 ⊢
  clear hA
  go_enter Try.func9, Try.ntmps9
  go_wp2_with fail
  generalize ((w.alloc (.cells #[.slice ao l.length ca, .int .i64 ad] 28)).alloc (.cells #[.slice none 0 0, .int .i64 0] 28)) = w0 at F0 ⊢
  obtain ⟨K0, K1, B0⟩ := F0.out
  refine (C1.out w0 B0).mono ?_
  rintro e w1 ⟨hr, hb⟩
  have J0 := hide1 (K0.below hb K0.lt)
  have J1 := hide1 (K1.below hb K1.lt)
  have B1 := hide1 (B0.trans (hb.mono B0.size))
  have hlt := K1.lt
  clear hb K0 K1 B0 F0
  rcases hr with ⟨rfl, hn⟩ | ⟨g, rfl, hy, hg, hG⟩
  · have HN := hide1 (cntR_no (key := key) hn)
    have x0 : w1.cell? ⟨w.heap.size, 0, none⟩ = some (.slice ao l.length ca) := J0.out.cell 0
    have x1 : w1.cell? ⟨w.heap.size, 1, none⟩ = some (.int .i64 ad) := J0.out.cell 1
    have hx : w.heap.size < w1.heap.size := J0.out.lt
    clear hn
    go_wp2_with fail
    refine (C2.out w1 B1.out).mono ?_
    rintro e w2 ⟨bo, c, rfl, ho, hb⟩
    dsimp only at ho
    have D1 := hide1 (J1.out.below hb J1.out.lt)
    have HM := hide1 (MadeK.put (r := w.heap.size + 1) (ad := ad) B1.out (by omega) J1.out.lt rfl ho hb)
    have hh := hide1 (Blk.set (Blk.set D1.out 0 (.slice bo l.length c)) 1 (.int .i64 ad))
    have y0 : w2.cell? ⟨w.heap.size + 1, 0, none⟩ = some (.slice none 0 0) := D1.out.cell 0
    have y1 : w2.cell? ⟨w.heap.size + 1, 1, none⟩ = some (.int .i64 0) := D1.out.cell 1
    have yf : ∀ j, w2.frozen? ⟨w.heap.size + 1, j, none⟩ = false := fun j => D1.out.froz j
    clear ho hb x0 x1 C1 C2
    unfold skV
    go_wp2
    refine bodyPost_ret (results_cell_row Try.results9 _ _ (w.heap.size + 1) 28 #[.slice bo l.length c, .int .i64 ad] (0, 0) _ rfl hh.out Try.underlying28 rfl (by kernel_rfl)) rfl ?_
    rw [HN.out]
    exact HM.out
  · have HY := hide1 (cntR_yes (key := key) hy)
    have C3 := hide1 (add_any g l ad key w1 hs hy.1 hy.in15 hG)
    obtain ⟨A, hA⟩ : ∃ A, addK l key 3 = A := ⟨_, rfl⟩
    have LA := hide1 (show A.length = 48 by rw [← hA, addK_length]; exact hy.1)
    have IA := hide1 (show InK15 A by rw [← hA]; exact hy.in15.add key 3)
    have HR : Hid (cntK l ad key = if ad + 1 = 100 then (halfK A, 0) else (A, ad + 1)) := by show cntK l ad key = _; rw [cntK, hA]
    rw [hA] at C3
    have a1 := hy.2.1
    have a2 := hy.2.2.1
    clear hy hG hA
    go_wp2_with fail
    refine C3.out.mono ?_
    rintro e w2 ⟨rfl, hG2, hgr⟩
    have D1 := hide1 (gblk hgr J1.out (fun e => by injection e with e; omega))
    have B2 := hide1 (B1.out.trans (gbelow hgr (fun k hk => by injection hk with e; omega) B1.out.size))
    have HG2 := hide1 hG2
    have x0 := hG2.adds LA.out
    have xf := hG2.froz 48
    have hgl := hG2.lt
    clear hgr hG2
    by_cases c9 : ad + 1 = 100
    · obtain rfl : ad = 99 := by omega
      have R9 : Hid (cntR l 99 key = (halfK A, 0)) := by show cntR l 99 key = _; rw [HY.out, HR.out, if_pos c9]
      have F2 : Hid (Grd (w2.setCell ⟨g, 48, none⟩ (.int .i64 100)) g A 100 ∧ Blk (w2.setCell ⟨g, 48, none⟩ (.int .i64 100)) (w.heap.size + 1) 28 [.slice none 0 0, .int .i64 0] ∧ Below w.heap.size w (w2.setCell ⟨g, 48, none⟩ (.int .i64 100))) := ⟨HG2.out.setAdds LA.out 100, D1.out.far _ _ (by dsimp only; omega), B2.out.setCell (p := ⟨g, 48, none⟩) (by dsimp only; omega) _⟩
      have C4 := hide1 (fun w' (h : Grd w' g A 100) => halve_any g A 100 w' LA.out IA.out h)
      have C5 := hide1 (fun w' (h : Grd w' g (halfK A) 0) => sketch_any g (halfK A) 0 w' (by rw [halfK_length]; exact LA.out) h)
      have LH := hide1 (show (halfK A).length = 48 by rw [halfK_length]; exact LA.out)
      clear HY HR c9 a1 a2
      go_wp2_with fail
      generalize w2.setCell ⟨g, 48, none⟩ (.int .i64 100) = w3 at F2 ⊢
      obtain ⟨G3, E1, B3⟩ := F2.out
      refine (C4.out w3 G3).mono ?_
      rintro e w4 ⟨rfl, hG4, hgr⟩
      have L1 := hide1 (gblk hgr E1 (fun e => by injection e with e; omega))
      have B4 := hide1 (B3.trans (gbelow hgr (fun k hk => by injection hk with e; omega) B3.size))
      have z0 := hG4.adds LH.out
      have zf := hG4.froz 48
      have F4 : Hid (Grd (w4.setCell ⟨g, 48, none⟩ (.int .i64 0)) g (halfK A) 0 ∧ Blk (w4.setCell ⟨g, 48, none⟩ (.int .i64 0)) (w.heap.size + 1) 28 [.slice none 0 0, .int .i64 0] ∧ Below w.heap.size w (w4.setCell ⟨g, 48, none⟩ (.int .i64 0))) := ⟨hG4.setAdds LH.out 0, L1.out.far _ _ (by dsimp only; omega), B4.out.setCell (p := ⟨g, 48, none⟩) (by dsimp only; omega) _⟩
      clear F2 G3 E1 B3 hG4 hgr x0 xf
      go_wp2_with fail
      generalize w4.setCell ⟨g, 48, none⟩ (.int .i64 0) = w5 at F4 ⊢
      obtain ⟨G5, M1, B5⟩ := F4.out
      refine (C5.out w5 G5).mono ?_
      rintro e w6 ⟨bo, c, rfl, ho, hb⟩
      dsimp only at ho ⊢
      rw [LH.out] at ho ⊢
      have N1 := hide1 (M1.below hb M1.lt)
      have HM := hide1 (MadeK.put (r := w.heap.size + 1) (ad := 0) B5 (by omega) M1.lt LH.out ho hb)
      have hh := hide1 (Blk.set (Blk.set N1.out 0 (.slice bo 48 c)) 1 (.int .i64 0))
      have y0 : w6.cell? ⟨w.heap.size + 1, 0, none⟩ = some (.slice none 0 0) := N1.out.cell 0
      have y1 : w6.cell? ⟨w.heap.size + 1, 1, none⟩ = some (.int .i64 0) := N1.out.cell 1
      have yf : ∀ j, w6.frozen? ⟨w.heap.size + 1, j, none⟩ = false := fun j => N1.out.froz j
      clear ho hb C1 C2 M1 G5 B5 F4
      unfold skV
      go_wp2
      refine bodyPost_ret (results_cell_row Try.results9 _ _ (w.heap.size + 1) 28 #[.slice bo 48 c, .int .i64 0] (0, 0) _ rfl hh.out Try.underlying28 rfl (by kernel_rfl)) rfl ?_
      rw [R9.out]
      exact HM.out
    · have R9 : Hid (cntR l ad key = (A, ad + 1)) := by show cntR l ad key = _; rw [HY.out, HR.out, if_neg c9]
      have q : ((ad + 1) == 100) = false := by simp; omega
      have F2 : Hid (Grd (w2.setCell ⟨g, 48, none⟩ (.int .i64 (ad + 1))) g A (ad + 1) ∧ Blk (w2.setCell ⟨g, 48, none⟩ (.int .i64 (ad + 1))) (w.heap.size + 1) 28 [.slice none 0 0, .int .i64 0] ∧ Below w.heap.size w (w2.setCell ⟨g, 48, none⟩ (.int .i64 (ad + 1)))) := ⟨HG2.out.setAdds LA.out _, D1.out.far _ _ (by dsimp only; omega), B2.out.setCell (p := ⟨g, 48, none⟩) (by dsimp only; omega) _⟩
      have C5 := hide1 (fun w' (h : Grd w' g A (ad + 1)) => sketch_any g A (ad + 1) w' LA.out h)
      clear HY HR
      go_wp2_with fail
      generalize w2.setCell ⟨g, 48, none⟩ (.int .i64 (ad + 1)) = w3 at F2 ⊢
      obtain ⟨G5, M1, B5⟩ := F2.out
      refine (C5.out w3 G5).mono ?_
      rintro e w6 ⟨bo, c, rfl, ho, hb⟩
      dsimp only at ho ⊢
      rw [LA.out] at ho ⊢
      have N1 := hide1 (M1.below hb M1.lt)
      have HM := hide1 (MadeK.put (r := w.heap.size + 1) (ad := ad + 1) B5 (by omega) M1.lt LA.out ho hb)
      have hh := hide1 (Blk.set (Blk.set N1.out 0 (.slice bo 48 c)) 1 (.int .i64 (ad + 1)))
      have y0 : w6.cell? ⟨w.heap.size + 1, 0, none⟩ = some (.slice none 0 0) := N1.out.cell 0
      have y1 : w6.cell? ⟨w.heap.size + 1, 1, none⟩ = some (.int .i64 0) := N1.out.cell 1
      have yf : ∀ j, w6.frozen? ⟨w.heap.size + 1, j, none⟩ = false := fun j => N1.out.froz j
      clear ho hb C1 C2 M1 G5 B5 F2
      unfold skV
      go_wp2
      refine bodyPost_ret (results_cell_row Try.results9 _ _ (w.heap.size + 1) 28 #[.slice bo 48 c, .int .i64 (ad + 1)] (0, 0) _ rfl hh.out Try.underlying28 rfl (by kernel_rfl)) rfl ?_
      rw [R9.out]
      exact HM.out
end Go.Proofs.Ythigmdocfjhdlaa
