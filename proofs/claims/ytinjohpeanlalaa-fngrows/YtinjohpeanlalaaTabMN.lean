/- The next old cell moved, by the program. -/
import Derived.Test.YtinjohpeanlalaaXI
import Derived.Deep.Cut
namespace Go.Proofs.Ytinjohpeanlalaa
open Go.RowKit

/-- One old cell moved. -/
def stepM (l : List Ce) (x : Ce) : Option (List Ce) := if x.key.toList = [] then some l else layC l x.key x.h
theorem stepM_len {l l' : List Ce} {x : Ce} (h : stepM l x = some l') : l'.length = l.length := by
  unfold stepM at h
  split at h
  · injection h with h; rw [h]
  · exact layC_length h
theorem Brd.setM {B b g mv : Nat} {w : World} {l o : List Ce} (h : Brd B w b g l o mv) : Brd B (w.setCell ⟨b, 2, none⟩ (.int .i64 ((mv : Int) + 1))) b g l o (mv + 1) := by
  refine ⟨h.lb, h.lg, h.ne, ?_, h.tl.far _ _ (Ne.symm h.ne)⟩
  rw [show (((mv + 1 : Nat)) : Int) = (mv : Int) + 1 by omega]
  exact Blk.set h.hd 2 _

set_option maxRecDepth 100000 in
set_option maxHeartbeats 4000000 in
theorem next_any {B b g mv : Nat} {w : World} {l o : List Ce} (h : Brd B w b g l o mv) (hB : B ≤ w.heap.size) (hm : mv < o.length) (hl : l.length ≤ 1048576) (hl0 : 0 < l.length) (ho : o.length ≤ 1048576) (hk : o[mv].key.size ≤ 1048576) :
    Calls Try.prog 49 #[.pointer (some ⟨b, 0, none⟩)] w fun e w' => ((∃ l', stepM l o[mv] = some l' ∧ e = .returned (.bool true) ∧ Brd B w' b g l' (o.set mv gC) (mv + 1)) ∨ (stepM l o[mv] = none ∧ e = .returned (.bool false) ∧ Brd B w' b g l o mv)) ∧ Below B w w' := by
  have km : (mv : Int) < (o.length : Int) := by omega
  have km0 : (0 : Int) ≤ (mv : Int) := by omega
  have wmv : IntKind.i64.wrap ((mv : Int) + 1) = (mv : Int) + 1 := IntWalk.i64_in _ ⟨by omega, by omega⟩
  have x1 : w.cell? ⟨b, 1, none⟩ = some (.slice (some ⟨g, l.length * 2, none⟩) o.length o.length) := by have := h.hd.cell 1; rw [show oldP g l.length o.length = some ⟨g, l.length * 2, none⟩ from if_neg (by omega)] at this; exact this
  have x2 : w.cell? ⟨b, 2, none⟩ = some (.int .i64 (mv : Int)) := h.hd.cell 2
  obtain ⟨y0, y1⟩ := Blk.segat (A := l) (L := o) (C := []) (of := l.length * 2) (by rw [List.append_nil]; exact h.tl) rfl hm
  have HD := hide1 h
  have hbl : b < w.heap.size := h.hd.lt
  have hgl : g < w.heap.size := h.tl.lt
  have hbn : ¬ b = w.heap.size := by omega
  have hgn : ¬ g = w.heap.size := by omega
  obtain ⟨x, hx⟩ : ∃ x, o[mv] = x := ⟨_, rfl⟩
  rw [hx] at y0 y1 hk ⊢
  have HX := hide1 hx
  obtain ⟨ky, hh⟩ := x
  have F0 : Hid (Blk (w.alloc (.cells #[.string ky, .int .i64 hh] 47)) w.heap.size 47 [.string ky, .int .i64 hh] ∧ Below w.heap.size w (w.alloc (.cells #[.string ky, .int .i64 hh] 47))) := ⟨Blk.new w _ _, (Below.refl _ _).alloc (Nat.le_refl _) _⟩
  simp only at y0 y1 hk
  clear h hx
  go_enter Try.func49, Try.ntmps49
  go_upto_region 1 with fail
  go_region
  all_goals
    have F1 : Hid (Blk (w.alloc (.cells #[.string ky, .int .i64 hh] 47)).drew w.heap.size 47 [.string ky, .int .i64 hh] ∧ Below w.heap.size w (w.alloc (.cells #[.string ky, .int .i64 hh] 47)).drew) := ⟨F0.out.1, F0.out.2.drew⟩
    generalize (w.alloc (.cells #[.string ky, .int .i64 hh] 47)).drew = w0 at F1 ⊢
    obtain ⟨K0, B0⟩ := F1.out
    have D0 := hide1 (HD.out.later B0)
    have n0 : w0.cell? ⟨w.heap.size, 0, none⟩ = some (.string ky) := K0.cell 0
    have n1 : w0.cell? ⟨w.heap.size, 1, none⟩ = some (.int .i64 hh) := K0.cell 1
    have hs0 : w.heap.size < w0.heap.size := K0.lt
    have B0 := hide1 B0
    have BB : Hid (Below B w w0) := B0.out.mono hB
    clear F0 F1 x1 x2 y0 y1 hbn hgn K0
    by_cases d1 : ky.toList = []
    · have b1 : ky.toList.isEmpty = true := by rw [d1]; rfl
      have HS : Hid (stepM l ⟨ky, hh⟩ = some l) := by show stepM l ⟨ky, hh⟩ = some l; unfold stepM; rw [if_pos d1]
      obtain ⟨w2, hw2⟩ : ∃ w2, w2 = w0 := ⟨_, rfl⟩
      subst hw2
      have E2 := D0
      have BB2 := BB
      obtain ⟨L2, hL2⟩ : ∃ L2, L2 = l := ⟨_, rfl⟩
      have HLL : Hid (L2.length = l.length) := by show L2.length = l.length; rw [hL2]
      rw [← hL2] at E2
      rw [← hL2] at HS
      have HS1 : Hid (stepM l ⟨ky, hh⟩ = some L2) := by rw [hL2] at HS ⊢; exact HS
      clear hL2 HS
      go_upto_region 4 with fail
      have hLl : L2.length = l.length := HLL.out
      have hmx := HX.out
      have z1 : w2.cell? ⟨b, 1, none⟩ = some (.slice (some ⟨g, l.length * 2, none⟩) o.length o.length) := by have := E2.out.hd.cell 1; rw [hLl] at this; rw [show oldP g l.length o.length = some ⟨g, l.length * 2, none⟩ from if_neg (by omega)] at this; exact this
      have z2 : w2.cell? ⟨b, 2, none⟩ = some (.int .i64 (mv : Int)) := E2.out.hd.cell 2
      obtain ⟨t0, t1⟩ := Blk.segat (A := L2) (L := o) (C := []) (of := l.length * 2) (by rw [List.append_nil]; exact E2.out.tl) (by rw [hLl]) hm
      have f0 := E2.out.tl.froz (l.length * 2 + mv * 2)
      have f1 := E2.out.tl.froz (l.length * 2 + mv * 2 + 1)
      have fb := E2.out.hd.froz 2
      have hne := E2.out.ne
      have hlb := E2.out.lb
      have hlg := E2.out.lg
      have G3 := E2.out.setO hm gC
      rw [hLl] at G3
      have G3 := hide1 G3
      have G4 := hide1 (G3.out.setM)
      have BL : Hid (Below B w ((((w2.setCell ⟨g, l.length * 2 + mv * 2, none⟩ (.string ⟨#[]⟩)).setCell ⟨g, l.length * 2 + mv * 2 + 1, none⟩ (.int .i64 (-2)))).setCell ⟨b, 2, none⟩ (.int .i64 ((mv : Int) + 1)))) := (((BB2.out.setCell (p := ⟨g, _, none⟩) hlg _).setCell (p := ⟨g, _, none⟩) hlg _).setCell (p := ⟨b, 2, none⟩) hlb _)
      have u2 : ((w2.setCell ⟨g, l.length * 2 + mv * 2, none⟩ (.string ⟨#[]⟩)).setCell ⟨g, l.length * 2 + mv * 2 + 1, none⟩ (.int .i64 (-2))).cell? ⟨b, 2, none⟩ = some (.int .i64 (mv : Int)) := G3.out.hd.cell 2
      have uf : ((w2.setCell ⟨g, l.length * 2 + mv * 2, none⟩ (.string ⟨#[]⟩)).setCell ⟨g, l.length * 2 + mv * 2 + 1, none⟩ (.int .i64 (-2))).frozen? ⟨b, 2, none⟩ = false := G3.out.hd.froz 2
      rw [hmx] at t0 t1
      clear hmx HX hLl
      dsimp only at t0 t1
      unfold gC at G3 G4
      dsimp only at G3 G4
      go_wp2
      go_region
      all_goals
        go_wp2
        go_ret
        first | exact ⟨.inl ⟨L2, HS1.out, rfl, G4.out⟩, BL.out⟩ | exact ⟨.inl ⟨L2, HS1.out, rfl, G4.out.later (Below.refl _ _).drew⟩, BL.out.drew⟩
    · have b1 : ky.toList.isEmpty = false := by cases h : ky.toList with | nil => exact absurd h d1 | cons a b => rfl
      have HS : Hid (stepM l ⟨ky, hh⟩ = layC l ky hh) := by show stepM l ⟨ky, hh⟩ = _; unfold stepM; rw [if_neg d1]
      have CL := hide1 (lay_any D0.out ⟨ky, hh⟩ (Nat.le_trans hB B0.out.size) hl hl0 hk)
      unfold ceV at CL
      dsimp only at CL
      go_wp2_with fail
      refine CL.out.mono ?_
      rintro e w2 ⟨hr, hb2⟩
      have BB2 := hide1 (BB.out.trans hb2)
      clear hb2 CL n0 n1
      rcases hr with ⟨L2, hL2, rfl, hE2⟩ | ⟨hno, rfl, hE2⟩
      · have HLL := hide1 (layC_length hL2)
        have HS1 : Hid (stepM l ⟨ky, hh⟩ = some L2) := HS.out.trans hL2
        have E2 := hide1 hE2
        clear hL2 hE2
        go_upto_region 4 with fail
        have hLl : L2.length = l.length := HLL.out
        have hmx := HX.out
        have z1 : w2.cell? ⟨b, 1, none⟩ = some (.slice (some ⟨g, l.length * 2, none⟩) o.length o.length) := by have := E2.out.hd.cell 1; rw [hLl] at this; rw [show oldP g l.length o.length = some ⟨g, l.length * 2, none⟩ from if_neg (by omega)] at this; exact this
        have z2 : w2.cell? ⟨b, 2, none⟩ = some (.int .i64 (mv : Int)) := E2.out.hd.cell 2
        obtain ⟨t0, t1⟩ := Blk.segat (A := L2) (L := o) (C := []) (of := l.length * 2) (by rw [List.append_nil]; exact E2.out.tl) (by rw [hLl]) hm
        have f0 := E2.out.tl.froz (l.length * 2 + mv * 2)
        have f1 := E2.out.tl.froz (l.length * 2 + mv * 2 + 1)
        have fb := E2.out.hd.froz 2
        have hne := E2.out.ne
        have hlb := E2.out.lb
        have hlg := E2.out.lg
        have G3 := E2.out.setO hm gC
        rw [hLl] at G3
        have G3 := hide1 G3
        have G4 := hide1 (G3.out.setM)
        have BL : Hid (Below B w ((((w2.setCell ⟨g, l.length * 2 + mv * 2, none⟩ (.string ⟨#[]⟩)).setCell ⟨g, l.length * 2 + mv * 2 + 1, none⟩ (.int .i64 (-2)))).setCell ⟨b, 2, none⟩ (.int .i64 ((mv : Int) + 1)))) := (((BB2.out.setCell (p := ⟨g, _, none⟩) hlg _).setCell (p := ⟨g, _, none⟩) hlg _).setCell (p := ⟨b, 2, none⟩) hlb _)
        have u2 : ((w2.setCell ⟨g, l.length * 2 + mv * 2, none⟩ (.string ⟨#[]⟩)).setCell ⟨g, l.length * 2 + mv * 2 + 1, none⟩ (.int .i64 (-2))).cell? ⟨b, 2, none⟩ = some (.int .i64 (mv : Int)) := G3.out.hd.cell 2
        have uf : ((w2.setCell ⟨g, l.length * 2 + mv * 2, none⟩ (.string ⟨#[]⟩)).setCell ⟨g, l.length * 2 + mv * 2 + 1, none⟩ (.int .i64 (-2))).frozen? ⟨b, 2, none⟩ = false := G3.out.hd.froz 2
        rw [hmx] at t0 t1
        clear hmx HX hLl
        dsimp only at t0 t1
        unfold gC at G3 G4
        dsimp only at G3 G4
        go_wp2
        go_region
        all_goals
          go_wp2
          go_ret
          first | exact ⟨.inl ⟨L2, HS1.out, rfl, G4.out⟩, BL.out⟩ | exact ⟨.inl ⟨L2, HS1.out, rfl, G4.out.later (Below.refl _ _).drew⟩, BL.out.drew⟩
      · have HS1 : Hid (stepM l ⟨ky, hh⟩ = none) := HS.out.trans hno
        have E2 := hide1 hE2
        clear hno hE2
        go_wp2
        go_ret
        exact ⟨.inr ⟨HS1.out, rfl, E2.out⟩, BB2.out⟩
end Go.Proofs.Ytinjohpeanlalaa
