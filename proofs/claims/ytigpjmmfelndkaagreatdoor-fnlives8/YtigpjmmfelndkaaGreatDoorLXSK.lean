import Derived.Test.YtigpjmmfelndkaaGreatDoorLXSG
namespace Go.Proofs.YtigpjmmfelndkaaGreatDoor
open Go.RowKit
set_option maxRecDepth 100000
set_option maxHeartbeats 4000000
def newK : List Int × Int := (List.replicate 48 0, 0)
theorem qrG (w : World) : Calls Tryz.prog 60 #[] w fun e w' => MadeK w w' e newK := by
 have F0 := hI (qdI w #[.slice none 0 0, .int .i64 0] #[.int .i64 0, .int .i64 0, .int .i64 0, .int .i64 0, .int .i64 0, .int .i64 0, .int .i64 0, .int .i64 0, .int .i64 0, .int .i64 0, .int .i64 0, .int .i64 0, .int .i64 0, .int .i64 0, .int .i64 0, .int .i64 0, .int .i64 0, .int .i64 0, .int .i64 0, .int .i64 0, .int .i64 0, .int .i64 0, .int .i64 0, .int .i64 0, .int .i64 0, .int .i64 0, .int .i64 0, .int .i64 0, .int .i64 0, .int .i64 0, .int .i64 0, .int .i64 0, .int .i64 0, .int .i64 0, .int .i64 0, .int .i64 0, .int .i64 0, .int .i64 0, .int .i64 0, .int .i64 0, .int .i64 0, .int .i64 0, .int .i64 0, .int .i64 0, .int .i64 0, .int .i64 0, .int .i64 0, .int .i64 0, .int .i64 0] 35 168)
 have CS := hI (fun w' (h : Grd w' (w.heap.size + 1) (List.replicate 48 0) 0) => qiM (w.heap.size + 1) (List.replicate 48 0) 0 w' (by rw [List.length_replicate]) h)
 have HZ : Hid ((#[.int .i64 0, .int .i64 0, .int .i64 0, .int .i64 0, .int .i64 0, .int .i64 0, .int .i64 0, .int .i64 0, .int .i64 0, .int .i64 0, .int .i64 0, .int .i64 0, .int .i64 0, .int .i64 0, .int .i64 0, .int .i64 0, .int .i64 0, .int .i64 0, .int .i64 0, .int .i64 0, .int .i64 0, .int .i64 0, .int .i64 0, .int .i64 0, .int .i64 0, .int .i64 0, .int .i64 0, .int .i64 0, .int .i64 0, .int .i64 0, .int .i64 0, .int .i64 0, .int .i64 0, .int .i64 0, .int .i64 0, .int .i64 0, .int .i64 0, .int .i64 0, .int .i64 0, .int .i64 0, .int .i64 0, .int .i64 0, .int .i64 0, .int .i64 0, .int .i64 0, .int .i64 0, .int .i64 0, .int .i64 0, .int .i64 0] : Array Value).toList = grC (List.replicate 48 0) 0) := hI rfl
 rw [HZ.out] at F0
 clear HZ
 go_enter Tryz.func60, Tryz.ntmps60
 go_wp2_with fail
 generalize ((w.alloc (.cells #[.slice none 0 0, .int .i64 0] 35)).alloc (.cells #[.int .i64 0, .int .i64 0, .int .i64 0, .int .i64 0, .int .i64 0, .int .i64 0, .int .i64 0, .int .i64 0, .int .i64 0, .int .i64 0, .int .i64 0, .int .i64 0, .int .i64 0, .int .i64 0, .int .i64 0, .int .i64 0, .int .i64 0, .int .i64 0, .int .i64 0, .int .i64 0, .int .i64 0, .int .i64 0, .int .i64 0, .int .i64 0, .int .i64 0, .int .i64 0, .int .i64 0, .int .i64 0, .int .i64 0, .int .i64 0, .int .i64 0, .int .i64 0, .int .i64 0, .int .i64 0, .int .i64 0, .int .i64 0, .int .i64 0, .int .i64 0, .int .i64 0, .int .i64 0, .int .i64 0, .int .i64 0, .int .i64 0, .int .i64 0, .int .i64 0, .int .i64 0, .int .i64 0, .int .i64 0, .int .i64 0] 168)) = w0 at F0 ⊢
 obtain ⟨K0, K1, B0⟩ := F0.out
 refine (CS.out w0 K1).mono ?_
 rintro e w1 ⟨ao, c, rfl, ho, hb⟩
 dsimp only at ho ⊢
 rw [List.length_replicate] at ho ⊢
 have J0 := K0.below hb K0.lt
 have HM := hI (MadeK.put (r := w.heap.size) (ad := 0) B0 (Nat.le_refl _) K0.lt (List.length_replicate ..) ho hb)
 have hh := hI (Blk.set (Blk.set J0 0 (.slice ao 48 c)) 1 (.int .i64 0))
 have y0 : w1.cell? ⟨w.heap.size, 0, none⟩ = some (.slice none 0 0) := J0.cell 0
 have y1 : w1.cell? ⟨w.heap.size, 1, none⟩ = some (.int .i64 0) := J0.cell 1
 have yf (j) : w1.frozen? ⟨w.heap.size, j, none⟩ = false := J0.froz j
 clear K0 K1 B0 F0 CS ho hb J0
 unfold skV
 go_wp2
 refine bodyPost_ret (results_cell_row Tryz.results60 _ _ w.heap.size 35 #[.slice ao 48 c, .int .i64 0] (0, 0) _ rfl hh.out Tryz.underlying35 rfl (by kernel_rfl)) rfl ?_
 exact HM.out
theorem qtI (ao : Option Addr) (l : List Int) (ca : Nat) (ad : Int) (w : World) (hA : RdZ w ao l) :
  Calls Tryz.prog 105 #[skV ao l.length ca ad] w fun e w' => ∃ x : Bool, e = .returned (.bool x) /\ (x = true ↔ OkK l ad) /\ Below w.heap.size w w' := by
 have C1 := hI (fun o => qiW ao l ca ad (w.alloc o) (hA.later ((Below.refl _ _).alloc (Nat.le_refl _) o)))
 have B0 := hI (fun o => bAl w o)
 unfold skV at C1 ⊢
 clear hA
 go_enter Tryz.func105, Tryz.ntmps105
 go_wp2_with fail
 refine (C1.out _).mono ?_
 rintro e w1 ⟨hr, hb⟩
 have B1 := hI ((B0.out _).trans (hb.mono (show w.heap.size <= _ by rw [World.size_alloc]; omega)))
 clear hb
 rcases hr with ⟨rfl, hn⟩ | ⟨g, rfl, hy, _, _⟩
 ·have HN := hI hn
  clear hn
  go_wp2
  go_ret
  exact ⟨false, rfl, ⟨(fun h => by cases h), fun h => absurd h HN.out⟩, B1.out⟩
 ·have HY := hI hy
  clear hy
  go_wp2
  go_ret
  exact ⟨true, rfl, ⟨fun _ => HY.out, fun _ => rfl⟩, B1.out⟩
theorem qoJ (ao : Option Addr) (l : List Int) (ca : Nat) (ad : Int) (key : ByteArray) (w : World) (hs : key.size <= 1048576) (hA : RdZ w ao l) :
  Calls Tryz.prog 167 #[skV ao l.length ca ad, .string key] w fun e w' => e = .returned (.int .i64 (gueR l ad key)) /\ Below w.heap.size w w' := by
 have C1 := hI (fun o => qiW ao l ca ad (w.alloc o) (hA.later ((Below.refl _ _).alloc (Nat.le_refl _) o)))
 have B0 := hI (fun o => bAl w o)
 unfold skV at C1 ⊢
 clear hA
 go_enter Tryz.func167, Tryz.ntmps167
 go_wp2_with fail
 refine (C1.out _).mono ?_
 rintro e w1 ⟨hr, hb⟩
 have B1 := hI ((B0.out _).trans (hb.mono (show w.heap.size <= _ by rw [World.size_alloc]; omega)))
 clear hb
 rcases hr with ⟨rfl, hn⟩ | ⟨g, rfl, hy, _, hG⟩
 ·have HN := hI (qxY (key := key) hn)
  clear hn
  go_wp2
  go_ret
  exact ⟨by rw [HN.out]; rfl, B1.out⟩
 ·have HY := hI (quR (key := key) hy)
  have C2 := hI (qxX g l ad key w1 hs hy.1 hG)
  clear hy hG
  go_wp2_with fail
  refine C2.out.mono ?_
  rintro e w2 ⟨rfl, hb2⟩
  have B2 := tRn B1 hb2
  clear hb2
  go_wp2
  go_ret
  exact ⟨by rw [HY.out]; rfl, B2.out⟩
theorem qwZ (w : World) (ao : Option Addr) (n ca : Nat) (ad : Int) : Hid (Blk ((w.alloc (.cells #[.slice ao n ca, .int .i64 ad] 35)).alloc (.cells #[.slice none 0 0, .int .i64 0] 35)) w.heap.size 35 [.slice ao n ca, .int .i64 ad] /\ Blk ((w.alloc (.cells #[.slice ao n ca, .int .i64 ad] 35)).alloc (.cells #[.slice none 0 0, .int .i64 0] 35)) (w.heap.size + 1) 35 [.slice none 0 0, .int .i64 0] /\ Below w.heap.size w ((w.alloc (.cells #[.slice ao n ca, .int .i64 ad] 35)).alloc (.cells #[.slice none 0 0, .int .i64 0] 35))) := qdI w _ _ _ _
theorem qoK (ao : Option Addr) (l : List Int) (ca : Nat) (ad : Int) (key : ByteArray) (w : World) (hs : key.size <= 1048576) (hl : l.length <= 1048576) (hA : RdZ w ao l) :
  Calls Tryz.prog 83 #[skV ao l.length ca ad, .string key] w fun e w' => MadeK w w' e (cntR l ad key) := by
 have C1 := hI (fun w' (h : Below w.heap.size w w') => qiW ao l ca ad w' (hA.later h))
 have C2 := hI (fun w' (h : Below w.heap.size w w') => qhX ao l ca ad w' hl (hA.later h))
 have F0 := qwZ w ao l.length ca ad
 unfold skV at C1 C2 ⊢
 clear hA
 go_enter Tryz.func83, Tryz.ntmps83
 go_wp2_with fail
 generalize ((w.alloc (.cells #[.slice ao l.length ca, .int .i64 ad] 35)).alloc (.cells #[.slice none 0 0, .int .i64 0] 35)) = w0 at F0 ⊢
 obtain ⟨K0, K1, B0⟩ := F0.out
 refine (C1.out w0 B0).mono ?_
 rintro e w1 ⟨hr, hb⟩
 have J0 := hI (K0.below hb K0.lt)
 have J1 := hI (K1.below hb K1.lt)
 have B1 := hI (B0.trans (hb.mono B0.size))
 have hlt := K1.lt
 clear hb K0 K1 B0 F0
 rcases hr with ⟨rfl, hn⟩ | ⟨g, rfl, hy, hg, hG⟩
 ·have HN := hI (qyJ (key := key) hn)
  have x0 : w1.cell? ⟨w.heap.size, 0, none⟩ = some (.slice ao l.length ca) := J0.out.cell 0
  have x1 : w1.cell? ⟨w.heap.size, 1, none⟩ = some (.int .i64 ad) := J0.out.cell 1
  have hx : w.heap.size < w1.heap.size := J0.out.lt
  clear hn
  go_wp2_with fail
  refine (C2.out w1 B1.out).mono ?_
  rintro e w2 ⟨bo, c, rfl, ho, hb⟩
  dsimp only at ho
  have D1 := hI (J1.out.below hb J1.out.lt)
  have HM := hI (MadeK.put (r := w.heap.size + 1) (ad := ad) B1.out (by omega) J1.out.lt rfl ho hb)
  have hh := hI (Blk.set (Blk.set D1.out 0 (.slice bo l.length c)) 1 (.int .i64 ad))
  have y0 : w2.cell? ⟨w.heap.size + 1, 0, none⟩ = some (.slice none 0 0) := D1.out.cell 0
  have y1 : w2.cell? ⟨w.heap.size + 1, 1, none⟩ = some (.int .i64 0) := D1.out.cell 1
  have yf (j) : w2.frozen? ⟨w.heap.size + 1, j, none⟩ = false := D1.out.froz j
  clear ho hb x0 x1 C1 C2
  unfold skV
  go_wp2
  refine bodyPost_ret (results_cell_row Tryz.results83 _ _ (w.heap.size + 1) 35 #[.slice bo l.length c, .int .i64 ad] (0, 0) _ rfl hh.out Tryz.underlying35 rfl (by kernel_rfl)) rfl ?_
  rw [HN.out]
  exact HM.out
 ·have HY := hI (qoW (key := key) hy)
  have C3 := hI (zcT g l ad key w1 hs hy.1 hy.in15 hG)
  obtain ⟨A, hA⟩ : ∃ A, qkE l key 3 = A := ⟨_, rfl⟩
  have LA := hI (show A.length = 48 by rw [<- hA, qcN]; exact hy.1)
  have IA := hI (show InK15 A by rw [<- hA]; exact hy.in15.add key 3)
  have HR : Hid (qyK l ad key = if ad + 1 = 100 then (qeR A, 0) else (A, ad + 1)) := by show qyK l ad key = _; rw [qyK, hA]
  rw [hA] at C3
  have a1 := hy.2.1
  have a2 := hy.2.2.1
  clear hy hG hA
  go_wp2_with fail
  refine C3.out.mono ?_
  rintro e w2 ⟨rfl, hG2, hgr⟩
  have D1 := hI (qlV hgr J1.out (fun e => by injection e with e; omega))
  have B2 := hI (B1.out.trans (qaU hgr (fun k hk => by injection hk with e; omega) B1.out.size))
  have HG2 := hI hG2
  have x0 := hG2.adds LA.out
  have xf := hG2.froz 48
  have hgl := hG2.lt
  clear hgr hG2
  by_cases c9 : ad + 1 = 100
  ·obtain rfl : ad = 99 := by omega
   have R9 : Hid (cntR l 99 key = (qeR A, 0)) := by show cntR l 99 key = _; rw [HY.out, HR.out, if_pos c9]
   have F2 : Hid (Grd (w2.setCell ⟨g, 48, none⟩ (.int .i64 100)) g A 100 /\ Blk (w2.setCell ⟨g, 48, none⟩ (.int .i64 100)) (w.heap.size + 1) 35 [.slice none 0 0, .int .i64 0] /\ Below w.heap.size w (w2.setCell ⟨g, 48, none⟩ (.int .i64 100))) := ⟨HG2.out.setAdds LA.out 100, D1.out.far _ _ (by dsimp only; omega), B2.out.setCell (p := ⟨g, 48, none⟩) (by dsimp only; omega) _⟩
   have C4 := hI (fun w' (h : Grd w' g A 100) => qxW g A 100 w' LA.out IA.out h)
   have C5 := hI (fun w' (h : Grd w' g (qeR A) 0) => qiM g (qeR A) 0 w' (by rw [qbS]; exact LA.out) h)
   have LH := hI (show (qeR A).length = 48 by rw [qbS]; exact LA.out)
   clear HY HR c9 a1 a2
   go_wp2_with fail
   generalize w2.setCell ⟨g, 48, none⟩ (.int .i64 100) = w3 at F2 ⊢
   obtain ⟨G3, E1, B3⟩ := F2.out
   refine (C4.out w3 G3).mono ?_
   rintro e w4 ⟨rfl, hG4, hgr⟩
   have L1 := hI (qlV hgr E1 (fun e => by injection e with e; omega))
   have B4 := hI (B3.trans (qaU hgr (fun k hk => by injection hk with e; omega) B3.size))
   have z0 := hG4.adds LH.out
   have zf := hG4.froz 48
   have F4 : Hid (Grd (w4.setCell ⟨g, 48, none⟩ (.int .i64 0)) g (qeR A) 0 /\ Blk (w4.setCell ⟨g, 48, none⟩ (.int .i64 0)) (w.heap.size + 1) 35 [.slice none 0 0, .int .i64 0] /\ Below w.heap.size w (w4.setCell ⟨g, 48, none⟩ (.int .i64 0))) := ⟨hG4.setAdds LH.out 0, L1.out.far _ _ (by dsimp only; omega), B4.out.setCell (p := ⟨g, 48, none⟩) (by dsimp only; omega) _⟩
   clear F2 G3 E1 B3 hG4 hgr x0 xf
   go_wp2_with fail
   generalize w4.setCell ⟨g, 48, none⟩ (.int .i64 0) = w5 at F4 ⊢
   obtain ⟨G5, M1, B5⟩ := F4.out
   refine (C5.out w5 G5).mono ?_
   rintro e w6 ⟨bo, c, rfl, ho, hb⟩
   dsimp only at ho ⊢
   rw [LH.out] at ho ⊢
   have N1 := hI (M1.below hb M1.lt)
   have HM := hI (MadeK.put (r := w.heap.size + 1) (ad := 0) B5 (by omega) M1.lt LH.out ho hb)
   have hh := hI (Blk.set (Blk.set N1.out 0 (.slice bo 48 c)) 1 (.int .i64 0))
   have y0 : w6.cell? ⟨w.heap.size + 1, 0, none⟩ = some (.slice none 0 0) := N1.out.cell 0
   have y1 : w6.cell? ⟨w.heap.size + 1, 1, none⟩ = some (.int .i64 0) := N1.out.cell 1
   have yf (j) : w6.frozen? ⟨w.heap.size + 1, j, none⟩ = false := N1.out.froz j
   clear ho hb C1 C2 M1 G5 B5 F4
   unfold skV
   go_wp2
   refine bodyPost_ret (results_cell_row Tryz.results83 _ _ (w.heap.size + 1) 35 #[.slice bo 48 c, .int .i64 0] (0, 0) _ rfl hh.out Tryz.underlying35 rfl (by kernel_rfl)) rfl ?_
   rw [R9.out]
   exact HM.out
  ·have R9 : Hid (cntR l ad key = (A, ad + 1)) := by show cntR l ad key = _; rw [HY.out, HR.out, if_neg c9]
   have q : ((ad + 1) == 100) = false := by simp; omega
   have F2 : Hid (Grd (w2.setCell ⟨g, 48, none⟩ (.int .i64 (ad + 1))) g A (ad + 1) /\ Blk (w2.setCell ⟨g, 48, none⟩ (.int .i64 (ad + 1))) (w.heap.size + 1) 35 [.slice none 0 0, .int .i64 0] /\ Below w.heap.size w (w2.setCell ⟨g, 48, none⟩ (.int .i64 (ad + 1)))) := ⟨HG2.out.setAdds LA.out _, D1.out.far _ _ (by dsimp only; omega), B2.out.setCell (p := ⟨g, 48, none⟩) (by dsimp only; omega) _⟩
   have C5 := hI (fun w' (h : Grd w' g A (ad + 1)) => qiM g A (ad + 1) w' LA.out h)
   clear HY HR
   go_wp2_with fail
   generalize w2.setCell ⟨g, 48, none⟩ (.int .i64 (ad + 1)) = w3 at F2 ⊢
   obtain ⟨G5, M1, B5⟩ := F2.out
   refine (C5.out w3 G5).mono ?_
   rintro e w6 ⟨bo, c, rfl, ho, hb⟩
   dsimp only at ho ⊢
   rw [LA.out] at ho ⊢
   have N1 := hI (M1.below hb M1.lt)
   have HM := hI (MadeK.put (r := w.heap.size + 1) (ad := ad + 1) B5 (by omega) M1.lt LA.out ho hb)
   have hh := hI (Blk.set (Blk.set N1.out 0 (.slice bo 48 c)) 1 (.int .i64 (ad + 1)))
   have y0 : w6.cell? ⟨w.heap.size + 1, 0, none⟩ = some (.slice none 0 0) := N1.out.cell 0
   have y1 : w6.cell? ⟨w.heap.size + 1, 1, none⟩ = some (.int .i64 0) := N1.out.cell 1
   have yf (j) : w6.frozen? ⟨w.heap.size + 1, j, none⟩ = false := N1.out.froz j
   clear ho hb C1 C2 M1 G5 B5 F2
   unfold skV
   go_wp2
   refine bodyPost_ret (results_cell_row Tryz.results83 _ _ (w.heap.size + 1) 35 #[.slice bo 48 c, .int .i64 (ad + 1)] (0, 0) _ rfl hh.out Tryz.underlying35 rfl (by kernel_rfl)) rfl ?_
   rw [R9.out]
   exact HM.out
theorem qpR (w : World) : Calls Tryz.prog 65 #[] w fun e w' => MadeK w w' e newK := by
 obtain ⟨i0, hi, hz0, hz1, hz2⟩ := info_parts Tryz.infoZ
 have F0 : Hid (Blk (w.alloc (.cells #[.slice none 0 0, .int .i64 0] 35)) w.heap.size 35 [.slice none 0 0, .int .i64 0] /\ Below w.heap.size w (w.alloc (.cells #[.slice none 0 0, .int .i64 0] 35)) /\ (w.alloc (.cells #[.slice none 0 0, .int .i64 0] 35)).heap.size = w.heap.size + 1) := ⟨Blk.new w _ _, bAl _ _, World.size_alloc _ _⟩
 go_enter Tryz.func65, Tryz.ntmps65
 go_wp2_with (at_make; (refine wpList_make_full _ rfl _ _ 33 rfl (w.heap.size + 1) 3 i0 (.int .i64 0) 1 Tryz.underlying33 hi hz0 hz1 _ _ _ _ 48 rfl rfl rfl rfl (by rw [hz2]; omega) (by unfold maxLen; omega) (by rw [World.size_alloc]; exact Nat.le_refl _) ?_; intro w1 hown1 hg1; rw [zdY, F0.out.2.2] at hown1; have hb1 : Below (w.heap.size + 1) _ w1 := Below.grown (Below.refl _ _) hg1 (by rw [World.size_alloc]; exact Nat.le_refl _) (by intro k hk; cases hk); have J0 := hI (F0.out.1.below hb1 (by omega)); have B1 := hI (F0.out.2.1.trans (hb1.mono (by omega))); have O1 := hI hown1; have y0 : w1.cell? ⟨w.heap.size, 0, none⟩ = some (.slice none 0 0) := J0.out.cell 0; have y1 : w1.cell? ⟨w.heap.size, 1, none⟩ = some (.int .i64 0) := J0.out.cell 1; have yf : ∀ j, w1.frozen? ⟨w.heap.size, j, none⟩ = false := fun j => J0.out.froz j; clear F0 hown1 hg1 hb1))
 have hh := hI (Blk.set (Blk.set J0.out 0 (.slice (some ⟨w.heap.size + 1, 0, none⟩) 48 48)) 1 (.int .i64 0))
 refine bodyPost_ret (results_cell_row Tryz.results65 _ _ w.heap.size 35 #[.slice (some ⟨w.heap.size + 1, 0, none⟩) 48 48, .int .i64 0] (0, 0) _ rfl hh.out Tryz.underlying35 rfl (by kernel_rfl)) rfl ?_
 refine ⟨_, _, rfl, qaB (qaA (qaA O1.out _ _ ?_) _ _ ?_) (by omega), (B1.out.setCell (p := ⟨w.heap.size, 0, none⟩) (Nat.le_refl _) _).setCell (p := ⟨w.heap.size, 1, none⟩) (Nat.le_refl _) _⟩
 all_goals
  intro k hk
  have := (O1.out.lt k hk).1
  dsimp only
  omega
theorem zaS (w : World) (ty : TypeId) (B : Nat) (ao : Option Addr) (m c base : Nat) (nb : List Int) (hE : w.heap[B]? = some (.cells #[] 3 (0, 0))) (hB : base <= B) (hm : nb.length = m) (hA : RdZ w ao nb) (hlen : m <= 1048576) :
  ∃ b' c' w', (Builtin.append_ #[33, 33] ty #[.slice (some ⟨B, 0, none⟩) 0 0, .slice ao m c]).run Tryz.prog w = .ok (.slice (some ⟨b', 0, none⟩) m c') w' /\ w'.ownsRow base 3 1 (.slice (some ⟨b', 0, none⟩) m c') m (iz nb) /\ Below w.heap.size w w' := by
 obtain ⟨i0, hi, hz0, hz1, hz2⟩ := info_parts Tryz.infoZ
 have hBl := (Array.getElem?_eq_some_iff.1 hE).1
 by_cases h0 : m = 0
 ·subst h0
  have e : nb = [] := List.eq_nil_of_length_eq_zero hm
  subst e
  refine ⟨B, 0, w, ?_, ⟨rfl, .inr ⟨B, 0, #[], rfl, hB, hE, Nat.le_refl _, Nat.zero_le _, rfl, rfl⟩⟩, Below.refl _ _⟩
  cases ao <;> simp [Builtin.append_, run_underlying Tryz.underlying33, sizeOf, typeInfo, hi, Builtin.lenOf, Builtin.firstCells, loadCells, loadCellsFrom, storeCells]
 ·obtain ⟨g, o, rfl, hg, _⟩ := hA 0 (by omega)
  have hAt : ∀ j v, (iz nb)[j]? = some v -> w.cell? ((⟨g, o, none⟩ : Addr).add j) = some v := fun j v hj => by
   have hj' : j < nb.length := by have := (List.getElem?_eq_some_iff.1 hj).1; rwa [qaR] at this
   obtain ⟨b', o', e, _, h⟩ := hA j hj'
   simp only [Option.some.injEq, Addr.mk.injEq, and_true] at e
   obtain ⟨rfl, rfl⟩ := e
   rw [qjU nb j hj'] at hj
   rw [Addr.add_lit, <- hj]
   exact h
  have hl : (iz nb).length = m * i0.size := by rw [qaR, hz1, hm]; omega
  have hr := run_append_grow (P := Tryz.prog) w 33 ty 3 i0 (.int .i64 0) Tryz.underlying33 hi hz0 ⟨B, 0, none⟩ 0 0 [] (by simp) (fun j v h => by cases h) ⟨g, o, none⟩ m c (iz nb) hl hAt (by omega) (by omega) (by rw [Nat.zero_add, nextslicecap_zero (by omega), hz2]; omega)
  rw [Nat.zero_add] at hr
  have hge := grownCap_ge w m 0 3
  refine ⟨_, _, _, hr, ⟨by rw [qaR, hm]; omega, .inr ⟨w.heap.size, _, _, rfl, by omega, heap_alloc_new w.drew _, hge, grownCap_le_maxLen w m 0 3 (by unfold maxLen; omega), ?_, ?_⟩⟩, (Below.refl _ _).drew.alloc (Nat.le_refl _) _⟩
  ·have e : (Value.int .i64 0).cells.size = 1 := rfl
   simp only [Array.size_append, List.size_toArray, List.length_nil, size_zeroCells, hl, hz1, e, Nat.zero_add]
   generalize grownCap w m 0 3 = G at hge ⊢
   omega
  ·simp only [Array.toList_append, List.nil_append]
   rw [List.take_left' (by rw [qaR, hm]; omega)]
theorem qwW {ops : Array Oper} {o : Oper} {a : Act} {w : World} {K : Act -> World -> Prop} {Q : Exit -> Act -> World -> Prop} {E : Prop} (hgd : o.guard = none) (s x : Operand)
  (ho : o.op = .call { callee := .builtin .append, args := #[s, x], argTypes := #[33, 33] }) (B : Nat) (ao : Option Addr) (m c base : Nat) (nb : List Int)
  (hs : a.eval s = .slice (some ⟨B, 0, none⟩) 0 0) (hx : a.eval x = .slice ao m c) (hE : w.heap[B]? = some (.cells #[] 3 (0, 0))) (hB : base <= B) (hm : nb.length = m) (hA : RdZ w ao nb) (hlen : m <= 1048576)
  (h : ∀ b' c' w', w'.ownsRow base 3 1 (.slice (some ⟨b', 0, none⟩) m c') m (iz nb) -> Below w.heap.size w w' -> K (a.put o.dst (.slice (some ⟨b', 0, none⟩) m c')) w') :
  if Region.wanted o (yielded ops a.tmps) = true then Oper.wp Tryz.prog o a w K Q else E := by
 have hw : Region.wanted o (yielded ops a.tmps) = true := by simp [Region.wanted, hgd]
 rw [if_pos hw]
 obtain ⟨b', c', w', hrun, h1, h2⟩ := zaS w o.type B ao m c base nb hE hB hm hA hlen
 unfold Oper.wp
 simp only [execOp, ho, resolve, invoke, builtin, Sem.run_bind, Sem.run_pure, Result.andThen_ok, List.map_toArray, List.map_cons, List.map_nil, hs, hx, hrun]
 exact h b' c' w' h1 h2
theorem qhM (ao : Option Addr) (l : List Int) (ca : Nat) (ad : Int) (w : World) (hl : l.length <= 1048576) (hA : RdZ w ao l) :
  Calls Tryz.prog 86 #[skV ao l.length ca ad] w fun e w' => MadeK w w' e (l, ad) := by
 have F0 := qwZ w ao l.length ca ad
 have HA := hI hA
 clear hA
 unfold skV
 go_enter Tryz.func86, Tryz.ntmps86
 go_wp2_with fail
 generalize ((w.alloc (.cells #[.slice ao l.length ca, .int .i64 ad] 35)).alloc (.cells #[.slice none 0 0, .int .i64 0] 35)) = w0 at F0 ⊢
 obtain ⟨K0, R0, B0⟩ := F0.out
 have x0 : w0.cell? ⟨w.heap.size, 0, none⟩ = some (.slice ao l.length ca) := K0.cell 0
 have x1 : w0.cell? ⟨w.heap.size, 1, none⟩ = some (.int .i64 ad) := K0.cell 1
 have X := hI (And.intro x0 x1)
 have hs0 : w.heap.size < w0.heap.size := K0.lt
 have hs1 : w.heap.size + 1 < w0.heap.size := R0.lt
 have R0 := hI R0
 have B0 := hI B0
 have A0 := hI (HA.out.later B0.out)
 clear F0 K0
 go_region_held3 (fun w' => w'.cell? ⟨w.heap.size, 0, none⟩ = some (.slice ao l.length ca) /\ w'.cell? ⟨w.heap.size, 1, none⟩ = some (.int .i64 ad)) (first | go_keep | exact ⟨(D1.out.cell hs0).trans X.out.1, (D1.out.cell hs0).trans X.out.2⟩) ((refine qwW rfl (.tmp 3) (.tmp 5) rfl w0.heap.size ao l.length ca w0.heap.size l rfl rfl (heap_alloc_new _ _) (Nat.le_refl _) rfl (A0.out.later (by go_grown)) (by omega) ?_; intro b1 c1 w1 ho1 hb1; have D1 : Hid (Below w0.heap.size w0 w1) := (show Below w0.heap.size w0 _ by go_grown).trans (hb1.mono (by go_size)); have O1 := hI ho1; clear ho1 hb1; have r4 := R0.out.below D1.out hs1; have y0 : w1.cell? ⟨w.heap.size + 1, 0, none⟩ = some (.slice none 0 0) := r4.cell 0; have y1 : w1.cell? ⟨w.heap.size + 1, 1, none⟩ = some (.int .i64 0) := r4.cell 1; have yf : ∀ j, w1.frozen? ⟨w.heap.size + 1, j, none⟩ = false := fun j => r4.froz j; have R4 := hI r4; clear r4))
 all_goals go_wp2
 all_goals
  have hh := hI (Blk.set (Blk.set R4.out 0 (.slice (some ⟨b1, 0, none⟩) l.length c1)) 1 (.int .i64 ad))
  refine bodyPost_ret (results_cell_row Tryz.results86 _ _ (w.heap.size + 1) 35 #[.slice (some ⟨b1, 0, none⟩) l.length c1, .int .i64 ad] (0, 0) _ rfl hh.out Tryz.underlying35 rfl (by kernel_rfl)) rfl ?_
  exact MadeK.put (r := w.heap.size + 1) (ad := ad) B0.out (by omega) hs1 rfl O1.out D1.out
theorem qlB (key : ByteArray) (row : Nat) (w : World) (hs : key.size <= 1048576) (hr : row < 3) :
  Calls Tryz.prog 150 #[.string key, .int .i64 (row : Int)] w fun e w' => e = .returned (.int .i64 ((atK key row : Nat) : Int)) /\ w' = w := by
 have CH := hI (fun w => qeJ key (row : Int) w hs (by omega) (by omega))
 obtain ⟨x, hx⟩ : ∃ x, qcK key (row : Int) = x := ⟨_, rfl⟩
 rw [hx] at CH
 have HX : Hid (atK key row = row * 16 + x % 16) := by show atK key row = _; rw [atK, hx]
 have e1 := zdX x
 have k1 : x % 16 < 16 := by omega
 have xl : x < 4294967296 := by rw [<- hx]; exact qfK _ _
 obtain ⟨y, hy⟩ : ∃ y, x % 16 = y := ⟨_, rfl⟩
 rw [hy] at e1 k1 HX
 clear hx hy
 go_enter Tryz.func150, Tryz.ntmps150
 go_wp2_with fail
 refine (CH.out _).mono ?_
 rintro e w2 ⟨rfl, rfl⟩
 go_wp2
 go_ret
 exact ⟨by rw [HX.out]; simp, rfl⟩
theorem zcI (x lo hi : Int) (w : World) : Calls Tryz.prog 36 #[.int .i64 x, .int .i64 lo, .int .i64 hi] w fun e w' => e = .returned (.bool (decide (lo <= x) && decide (x <= hi))) /\ w' = w :=
 (qdP x lo hi w).mono fun _ _ h => ⟨h.1, h.2.symm⟩
theorem qgW (ao : Option Addr) (l : List Int) (ca : Nat) (ad : Int) (w : World) (hA : RdZ w ao l) :
  Calls Tryz.prog 112 #[skV ao l.length ca ad] w fun e w' => ∃ x : Bool, e = .returned (.bool x) /\ (x = true ↔ OkK l ad) /\ Below w.heap.size w w' := by
 have CI := hI (fun x lo hi w => zcI x lo hi w)
 have BX := hI (Blk.new w 35 #[.slice ao l.length ca, .int .i64 ad])
 have B0 := hI (bAl w (.cells #[.slice ao l.length ca, .int .i64 ad] 35))
 have A0 := hI (hA.later B0.out)
 clear hA
 unfold skV
 go_enter Tryz.func112, Tryz.ntmps112
 by_cases c1 : l.length = 48
 ·have q1 : ((l.length : Int) != 48) = false := by simp [c1]
  have C1 := hI c1
  have hlb : l.length <= 48 := by omega
  clear c1
  have C9 := hI (CI.out ad 0 99)
  rcases hq : (decide (0 <= ad) && decide (ad <= 99)) with _ | _
  ·have HN := hI (show ¬ OkK l ad from fun h => by have := h.2.1; have := h.2.2.1; simp at hq; omega)
   rw [hq] at C9
   clear hq
   go_wp2_with fail
   refine (C9.out _).mono ?_
   rintro e w1 ⟨rfl, rfl⟩
   go_wp2
   go_ret
   exact ⟨false, rfl, ⟨(fun h => by cases h), fun h => absurd h HN.out⟩, B0.out⟩
  ·have HQ := hI (show 0 <= ad /\ ad <= 99 by simpa using hq)
   rw [hq] at C9
   clear hq
   go_wp2_with fail
   refine (C9.out _).mono ?_
   rintro e w1 ⟨rfl, rfl⟩
   clear C9
   generalize w.alloc (.cells #[.slice ao l.length ca, .int .i64 ad] 35) = w1 at BX B0 A0 ⊢
   have x0 : w1.cell? ⟨w.heap.size, 0, none⟩ = some (.slice ao l.length ca) := BX.out.cell 0
   go_wp2
   go_loop [3] (fun iv => ∃ i : Nat, i <= l.length /\ iv = .int .i64 (i : Int) /\ Hid (∀ j, j < i -> 0 <= gK l j /\ gK l j <= 15)) (fun iv => l.length - (intOf iv).toNat)
   case atStart => exact ⟨0, by omega, rfl, fun j hj => by omega⟩
   case round =>
    obtain ⟨i, hi, rfl, hall⟩ := hrel
    by_cases hlt : i < l.length
    ·have k1 : (i : Int) < (l.length : Int) := by omega
     obtain ⟨b, o, rfl, hb, h1⟩ := A0.out i hlt
     rw [qfL l i hlt] at h1
     obtain ⟨s, hs⟩ : ∃ s, gK l i = s := ⟨_, rfl⟩
     rw [hs] at h1
     have HS := hI hs
     clear hs
     have CE := hI (CI.out s 0 15)
     rcases hq : (decide (0 <= s) && decide (s <= 15)) with _ | _
     ·have HN := hI (show ¬ OkK l ad from fun h => by have := h.in15.g i; rw [HS.out] at this; simp at hq; omega)
      rw [hq] at CE
      clear hq
      go_wp2_with fail
      refine (CE.out _).mono ?_
      rintro e w2 ⟨rfl, rfl⟩
      go_wp2
      go_ret
      exact ⟨false, rfl, ⟨(fun h => by cases h), fun h => absurd h HN.out⟩, B0.out⟩
     ·have HQ2 := hI (show 0 <= s /\ s <= 15 by simpa using hq)
      rw [hq] at CE
      clear hq
      go_wp2_with fail
      refine (CE.out _).mono ?_
      rintro e w2 ⟨rfl, rfl⟩
      go_wp2
      go_round
      case rel =>
       refine ⟨i + 1, by omega, by go_num, fun j hj => ?_⟩
       by_cases hj2 : j < i
       ·exact hall.out j hj2
       ·rw [show j = i by omega, HS.out]; exact HQ2.out
      case measure => simp [intOf]; omega
    ·obtain rfl : i = l.length := by omega
     go_wp2
     go_ret
     have HOK : OkK l ad := ⟨C1.out, HQ.out.1, HQ.out.2, fun i hi => by rw [qfL l i hi]; exact hall.out i hi⟩
     first | exact ⟨true, rfl, ⟨(fun _ => HOK), fun _ => rfl⟩, B0.out⟩ | exact .inr ⟨rfl, HOK, B0.out⟩
 ·have q1 : ((l.length : Int) != 48) = true := by simp; omega
  have C1 := hI c1
  clear c1
  go_wp2
  go_ret
  first | exact ⟨false, rfl, ⟨(fun h => by cases h), fun h => absurd h.1 C1.out⟩, B0.out⟩ | exact .inl ⟨rfl, (fun h => absurd h.1 C1.out), B0.out⟩
end Go.Proofs.YtigpjmmfelndkaaGreatDoor
