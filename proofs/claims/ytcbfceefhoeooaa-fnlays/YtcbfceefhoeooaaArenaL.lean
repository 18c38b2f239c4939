/- The contracts of the model's functions that lift out of a place. -/
import Derived.Test.YtcbfceefhoeooaaArenaW
import Derived.Deep.Cut
namespace Go.Proofs.Ytcbfceefhoeooaa
open Go.RowKit

/-- The Gen of a slot that is lifted. -/
def upGen (g : Int) : Int := if 41666665 < g + 1 then 0 else g + 1
def lifted (s : Sl) (f : Int) : Sl := ⟨upGen s.gen, false, ⟨#[]⟩, ⟨#[]⟩, f⟩

set_option maxRecDepth 100000 in
set_option maxHeartbeats 2000000 in
theorem specLift_any (ao : Option Addr) (l : List Sl) (ca : Nat) (f h : Int) (w : World) (hl : l.length ≤ 1048576) (h1 : -9223372036854775808 ≤ h) (h2 : h ≤ 9223372036854775807) (hA : RdA w ao l) :
    Calls Try.prog 30 #[arV ao l.length ca f, .int .i64 h] w fun e w' =>
      ((∃ (k b c : Nat) (hk : k < l.length), e = .returned (.tuple #[arV (some ⟨b, 0, none⟩) l.length c (k : Int), .bool true]) ∧ AtA l f h k ∧ w'.ownsRow w.heap.size 40 5 (.slice (some ⟨b, 0, none⟩) l.length c) l.length (sls (l.set k (lifted l[k] f))))
       ∨ (e = .returned (.tuple #[arV none 0 0 0, .bool false]) ∧ ∀ k, ¬ AtA l f h k)) ∧ Below w.heap.size w w' := by
  have C1 := hide1 (fun o1 o2 => specAt_any ao l ca f h ((w.alloc o1).alloc o2) hl h1 h2 (hA.later (below2 w o1 o2)))
  have HA := hide1 hA
  clear hA
  unfold arV at C1 ⊢
  go_enter Try.func30, Try.ntmps30
  go_wp2_with fail
  refine (C1.out _ _).mono ?_
  rintro e w1 ⟨hx, hb1⟩
  have bl := blocks2 w (.cells #[.slice ao l.length ca, .int .i64 f] 26) (.cells #[.slice none 0 0, .int .i64 0] 26)
  have B1 := hide1 ((below2 w (.cells #[.slice ao l.length ca, .int .i64 f] 26) (.cells #[.slice none 0 0, .int .i64 0] 26)).trans (hb1.mono (below2 w _ _).size))
  have hsz : w.heap.size + 1 + 1 ≤ w1.heap.size := by have := hb1.size; simp only [World.size_alloc] at this; exact this
  rw [← hb1.block w.heap.size (by simp only [World.size_alloc]; omega), ← hb1.block (w.heap.size + 1) (by simp only [World.size_alloc]; omega)] at bl
  obtain ⟨b1, b2⟩ := bl
  have x0 : w1.cell? ⟨w.heap.size, 0, none⟩ = some (.slice ao l.length ca) := by rw [cell_of_row w1 w.heap.size 0 _ _ _ b1]; rfl
  have x1 : w1.cell? ⟨w.heap.size, 1, none⟩ = some (.int .i64 f) := by rw [cell_of_row w1 w.heap.size 1 _ _ _ b1]; rfl
  have y0 : w1.cell? ⟨w.heap.size + 1, 0, none⟩ = some (.slice none 0 0) := by rw [cell_of_row w1 (w.heap.size + 1) 0 _ _ _ b2]; rfl
  have y1 : w1.cell? ⟨w.heap.size + 1, 1, none⟩ = some (.int .i64 0) := by rw [cell_of_row w1 (w.heap.size + 1) 1 _ _ _ b2]; rfl
  have f0 : ∀ j, w1.frozen? ⟨w.heap.size + 1, j, none⟩ = false := fun j => by simp [World.frozen?, b2]
  have BB := hide1 b2
  clear hb1 b1 b2
  rcases hx with ⟨k, rfl, hk⟩ | ⟨rfl, hn⟩
  · have q : decide ((k : Int) < 0) = false := by simp
    have hlt := hk.lt
    have HK := hide1 hk
    have hn24 := hk.ok.most
    have hgn := hk.ok.slots k hlt
    obtain ⟨g1, g2⟩ : 0 ≤ l[k].gen ∧ l[k].gen ≤ 41666665 := ⟨hgn.1, hgn.2.1⟩
    have CP := hide1 (specCopy_any ao l ca f w1 hn24 (by omega) (HA.out.later B1.out))
    unfold arV at CP
    have k1 : (k : Int) < (l.length : Int) := by omega
    obtain ⟨g, rfl, hg, hs⟩ := HA.out.at k hlt
    have HS := hide1 hs
    clear hs hgn hk
    go_wp2_with fail
    refine CP.out.mono ?_
    rintro e w2 ⟨b, c, rfl, ho, hb2⟩
    have hbl := ho.lt b rfl
    have z0 := (hb2.cell (p := ⟨w.heap.size, 0, none⟩) (by dsimp only; omega)).trans x0
    have z1 := (hb2.cell (p := ⟨w.heap.size, 1, none⟩) (by dsimp only; omega)).trans x1
    have BB2 := hide1 ((hb2.block (w.heap.size + 1) (by omega)).trans BB.out)
    have v0 := (hb2.cell (p := ⟨w.heap.size + 1, 0, none⟩) (by dsimp only; omega)).trans y0
    have v1 := (hb2.cell (p := ⟨w.heap.size + 1, 1, none⟩) (by dsimp only; omega)).trans y1
    have fz : ∀ j, w2.frozen? ⟨w.heap.size + 1, j, none⟩ = false := fun j => by simp [World.frozen?, BB2.out]
    have B2 := hide1 (B1.out.trans (hb2.mono B1.out.size))
    obtain ⟨s0, s1, s2, s3, s4⟩ := HS.out.below B2.out hg
    obtain ⟨u0, t0⟩ := own_some ho (k * 5) (by omega)
    obtain ⟨u1, t1⟩ := own_some ho (k * 5 + 1) (by omega)
    obtain ⟨u2, t2⟩ := own_some ho (k * 5 + 2) (by omega)
    obtain ⟨u3, t3⟩ := own_some ho (k * 5 + 3) (by omega)
    obtain ⟨u4, t4⟩ := own_some ho (k * 5 + 4) (by omega)
    have r0 := ho.frozenAt (k * 5)
    have r1 := ho.frozenAt (k * 5 + 1)
    have r2 := ho.frozenAt (k * 5 + 2)
    have r3 := ho.frozenAt (k * 5 + 3)
    have r4 := ho.frozenAt (k * 5 + 4)
    have hs2 := hb2.size
    have l0 : w.heap.size < w2.heap.size := by omega
    have l1 : w.heap.size + 1 < w2.heap.size := by omega
    have l2 : b < w2.heap.size := hbl.2
    have l3 : g < w2.heap.size := by omega
    have hb3 : w.heap.size + 1 + 1 ≤ b := by omega
    have hbs : ¬ b = w.heap.size + 1 := by omega
    have hbs2 : ¬ w.heap.size + 1 = b := by omega
    have HO := hide1 ho
    have OK5 := hide1 (fun gn => own_set5 ho rfl k hlt ⟨gn, false, ⟨#[]⟩, ⟨#[]⟩, f⟩)
    have BK5 := hide1 (fun gn => below_set5 B2.out (show w.heap.size ≤ b by omega) k ⟨gn, false, ⟨#[]⟩, ⟨#[]⟩, f⟩)
    clear ho hb2 x0 x1 y0 y1 f0 s1 s2 s3 s4
    by_cases cg : 41666665 < l[k].gen + 1
    · have qg : decide (41666665 < l[k].gen + 1) = true := decide_eq_true cg
      have HG := hide1 (show upGen l[k].gen = 0 by unfold upGen; rw [if_pos cg])
      clear cg
      go_upto_region 10 with fail
      have O5 := OK5.out (0 : Int)
      have B5 := BK5.out (0 : Int)
      change ((((((w2.setCell ⟨b, k * 5, none⟩ (.int .i64 (0 : Int))).setCell ⟨b, k * 5 + 1, none⟩ (.bool false)).setCell ⟨b, k * 5 + 2, none⟩ (.string ⟨#[]⟩)).setCell ⟨b, k * 5 + 3, none⟩ (.string ⟨#[]⟩)).setCell ⟨b, k * 5 + 4, none⟩ (.int .i64 f))).ownsRow _ _ _ _ _ _ at O5
      have BK : ((((((w2.setCell ⟨b, k * 5, none⟩ (.int .i64 (0 : Int))).setCell ⟨b, k * 5 + 1, none⟩ (.bool false)).setCell ⟨b, k * 5 + 2, none⟩ (.string ⟨#[]⟩)).setCell ⟨b, k * 5 + 3, none⟩ (.string ⟨#[]⟩)).setCell ⟨b, k * 5 + 4, none⟩ (.int .i64 f))).heap[w.heap.size + 1]? = some (.cells #[.slice none 0 0, .int .i64 0] 26 (0, 0)) := by
        rw [Below.heap_setCell _ _ _ _ hbs2, Below.heap_setCell _ _ _ _ hbs2, Below.heap_setCell _ _ _ _ hbs2, Below.heap_setCell _ _ _ _ hbs2, Below.heap_setCell _ _ _ _ hbs2]
        exact BB2.out
      have hz5 : ((((((w2.setCell ⟨b, k * 5, none⟩ (.int .i64 (0 : Int))).setCell ⟨b, k * 5 + 1, none⟩ (.bool false)).setCell ⟨b, k * 5 + 2, none⟩ (.string ⟨#[]⟩)).setCell ⟨b, k * 5 + 3, none⟩ (.string ⟨#[]⟩)).setCell ⟨b, k * 5 + 4, none⟩ (.int .i64 f))).heap.size = w2.heap.size := by simp only [World.size_setCell]
      try simp only at O5 B5
      generalize (((((w2.setCell ⟨b, k * 5, none⟩ (.int .i64 (0 : Int))).setCell ⟨b, k * 5 + 1, none⟩ (.bool false)).setCell ⟨b, k * 5 + 2, none⟩ (.string ⟨#[]⟩)).setCell ⟨b, k * 5 + 3, none⟩ (.string ⟨#[]⟩)).setCell ⟨b, k * 5 + 4, none⟩ (.int .i64 f)) = w5 at *
      clear z0 z1 v0 v1 fz s0 t0 t1 t2 t3 t4 r0 r1 r2 r3 r4 l3
      have bz := heap_alloc_new w5 (.cells #[.slice (some ⟨b, 0, none⟩) l.length c, .int .i64 (k : Int)] 26)
      have O6 := hide1 (O5.alloc (.cells #[.slice (some ⟨b, 0, none⟩) l.length c, .int .i64 (k : Int)] 26))
      have B6 := hide1 (B5.alloc B5.size (.cells #[.slice (some ⟨b, 0, none⟩) l.length c, .int .i64 (k : Int)] 26))
      have BK2 := (((Below.refl w5.heap.size w5).alloc (Nat.le_refl _) (.cells #[.slice (some ⟨b, 0, none⟩) l.length c, .int .i64 (k : Int)] 26)).block (w.heap.size + 1) (by omega)).trans BK
      generalize w5.alloc (.cells #[.slice (some ⟨b, 0, none⟩) l.length c, .int .i64 (k : Int)] 26) = wz at *
      rw [hz5] at bz
      have p0 : wz.cell? ⟨w2.heap.size, 0, none⟩ = some (.slice (some ⟨b, 0, none⟩) l.length c) := by rw [cell_of_row wz w2.heap.size 0 _ _ _ bz]; rfl
      have p1 : wz.cell? ⟨w2.heap.size, 1, none⟩ = some (.int .i64 (k : Int)) := by rw [cell_of_row wz w2.heap.size 1 _ _ _ bz]; rfl
      have p3 : wz.cell? ⟨w.heap.size + 1, 0, none⟩ = some (.slice none 0 0) := by rw [cell_of_row wz (w.heap.size + 1) 0 _ _ _ BK2]; rfl
      have p4 : wz.cell? ⟨w.heap.size + 1, 1, none⟩ = some (.int .i64 0) := by rw [cell_of_row wz (w.heap.size + 1) 1 _ _ _ BK2]; rfl
      have fz : ∀ j, wz.frozen? ⟨w.heap.size + 1, j, none⟩ = false := fun j => by simp [World.frozen?, BK2]
      have BK3 := hide1 BK2
      clear bz BK2 BK O5 B5 hz5
      go_wp2
      refine bodyPost_ret (results_row2 Try.results30 _ _ (w.heap.size + 1) 26 #[.slice (some ⟨b, 0, none⟩) l.length c, .int .i64 (k : Int)] (0, 0) _ rfl (heap2 BK3.out _ _) Try.underlying26 rfl (by kernel_rfl)) rfl ?_
      refine ⟨.inl ⟨k, b, c, hlt, rfl, HK.out, ?_⟩, ?_⟩
      · show World.ownsRow _ _ _ _ _ _ (sls (l.set k ⟨upGen l[k].gen, false, ⟨#[]⟩, ⟨#[]⟩, f⟩))
        rw [HG.out]
        refine own_base (own_far (own_far O6.out _ _ ?_) _ _ ?_) (by omega)
        · intro j hj; have : j = b := (by simpa [Value.ownBlock] using hj.symm); dsimp only; omega
        · intro j hj; have : j = b := (by simpa [Value.ownBlock] using hj.symm); dsimp only; omega
      · exact (B6.out.setCell (p := ⟨w.heap.size + 1, 0, none⟩) (by dsimp only; omega) _).setCell (p := ⟨w.heap.size + 1, 1, none⟩) (by dsimp only; omega) _
    · have qg : decide (41666665 < l[k].gen + 1) = false := decide_eq_false cg
      have HG := hide1 (show upGen l[k].gen = l[k].gen + 1 by unfold upGen; rw [if_neg cg])
      clear cg
      go_upto_region 10 with fail
      have O5 := OK5.out (l[k].gen + 1)
      have B5 := BK5.out (l[k].gen + 1)
      change ((((((w2.setCell ⟨b, k * 5, none⟩ (.int .i64 (l[k].gen + 1))).setCell ⟨b, k * 5 + 1, none⟩ (.bool false)).setCell ⟨b, k * 5 + 2, none⟩ (.string ⟨#[]⟩)).setCell ⟨b, k * 5 + 3, none⟩ (.string ⟨#[]⟩)).setCell ⟨b, k * 5 + 4, none⟩ (.int .i64 f))).ownsRow _ _ _ _ _ _ at O5
      have BK : ((((((w2.setCell ⟨b, k * 5, none⟩ (.int .i64 (l[k].gen + 1))).setCell ⟨b, k * 5 + 1, none⟩ (.bool false)).setCell ⟨b, k * 5 + 2, none⟩ (.string ⟨#[]⟩)).setCell ⟨b, k * 5 + 3, none⟩ (.string ⟨#[]⟩)).setCell ⟨b, k * 5 + 4, none⟩ (.int .i64 f))).heap[w.heap.size + 1]? = some (.cells #[.slice none 0 0, .int .i64 0] 26 (0, 0)) := by
        rw [Below.heap_setCell _ _ _ _ hbs2, Below.heap_setCell _ _ _ _ hbs2, Below.heap_setCell _ _ _ _ hbs2, Below.heap_setCell _ _ _ _ hbs2, Below.heap_setCell _ _ _ _ hbs2]
        exact BB2.out
      have hz5 : ((((((w2.setCell ⟨b, k * 5, none⟩ (.int .i64 (l[k].gen + 1))).setCell ⟨b, k * 5 + 1, none⟩ (.bool false)).setCell ⟨b, k * 5 + 2, none⟩ (.string ⟨#[]⟩)).setCell ⟨b, k * 5 + 3, none⟩ (.string ⟨#[]⟩)).setCell ⟨b, k * 5 + 4, none⟩ (.int .i64 f))).heap.size = w2.heap.size := by simp only [World.size_setCell]
      try simp only at O5 B5
      generalize (((((w2.setCell ⟨b, k * 5, none⟩ (.int .i64 (l[k].gen + 1))).setCell ⟨b, k * 5 + 1, none⟩ (.bool false)).setCell ⟨b, k * 5 + 2, none⟩ (.string ⟨#[]⟩)).setCell ⟨b, k * 5 + 3, none⟩ (.string ⟨#[]⟩)).setCell ⟨b, k * 5 + 4, none⟩ (.int .i64 f)) = w5 at *
      clear z0 z1 v0 v1 fz s0 t0 t1 t2 t3 t4 r0 r1 r2 r3 r4 l3
      have bz := heap_alloc_new w5 (.cells #[.slice (some ⟨b, 0, none⟩) l.length c, .int .i64 (k : Int)] 26)
      have O6 := hide1 (O5.alloc (.cells #[.slice (some ⟨b, 0, none⟩) l.length c, .int .i64 (k : Int)] 26))
      have B6 := hide1 (B5.alloc B5.size (.cells #[.slice (some ⟨b, 0, none⟩) l.length c, .int .i64 (k : Int)] 26))
      have BK2 := (((Below.refl w5.heap.size w5).alloc (Nat.le_refl _) (.cells #[.slice (some ⟨b, 0, none⟩) l.length c, .int .i64 (k : Int)] 26)).block (w.heap.size + 1) (by omega)).trans BK
      generalize w5.alloc (.cells #[.slice (some ⟨b, 0, none⟩) l.length c, .int .i64 (k : Int)] 26) = wz at *
      rw [hz5] at bz
      have p0 : wz.cell? ⟨w2.heap.size, 0, none⟩ = some (.slice (some ⟨b, 0, none⟩) l.length c) := by rw [cell_of_row wz w2.heap.size 0 _ _ _ bz]; rfl
      have p1 : wz.cell? ⟨w2.heap.size, 1, none⟩ = some (.int .i64 (k : Int)) := by rw [cell_of_row wz w2.heap.size 1 _ _ _ bz]; rfl
      have p3 : wz.cell? ⟨w.heap.size + 1, 0, none⟩ = some (.slice none 0 0) := by rw [cell_of_row wz (w.heap.size + 1) 0 _ _ _ BK2]; rfl
      have p4 : wz.cell? ⟨w.heap.size + 1, 1, none⟩ = some (.int .i64 0) := by rw [cell_of_row wz (w.heap.size + 1) 1 _ _ _ BK2]; rfl
      have fz : ∀ j, wz.frozen? ⟨w.heap.size + 1, j, none⟩ = false := fun j => by simp [World.frozen?, BK2]
      have BK3 := hide1 BK2
      clear bz BK2 BK O5 B5 hz5
      go_wp2
      refine bodyPost_ret (results_row2 Try.results30 _ _ (w.heap.size + 1) 26 #[.slice (some ⟨b, 0, none⟩) l.length c, .int .i64 (k : Int)] (0, 0) _ rfl (heap2 BK3.out _ _) Try.underlying26 rfl (by kernel_rfl)) rfl ?_
      refine ⟨.inl ⟨k, b, c, hlt, rfl, HK.out, ?_⟩, ?_⟩
      · show World.ownsRow _ _ _ _ _ _ (sls (l.set k ⟨upGen l[k].gen, false, ⟨#[]⟩, ⟨#[]⟩, f⟩))
        rw [HG.out]
        refine own_base (own_far (own_far O6.out _ _ ?_) _ _ ?_) (by omega)
        · intro j hj; have : j = b := (by simpa [Value.ownBlock] using hj.symm); dsimp only; omega
        · intro j hj; have : j = b := (by simpa [Value.ownBlock] using hj.symm); dsimp only; omega
      · exact (B6.out.setCell (p := ⟨w.heap.size + 1, 0, none⟩) (by dsimp only; omega) _).setCell (p := ⟨w.heap.size + 1, 1, none⟩) (by dsimp only; omega) _
  · have HN := hide1 hn
    clear hn
    go_wp2
    refine bodyPost_ret (results_row2 Try.results30 _ _ (w.heap.size + 1) 26 #[.slice none 0 0, .int .i64 0] (0, 0) _ rfl (heap2 BB.out _ _) Try.underlying26 rfl (by kernel_rfl)) rfl ?_
    exact ⟨.inr ⟨rfl, HN.out⟩, (B1.out.setCell (p := ⟨w.heap.size + 1, 0, none⟩) (by dsimp only; omega) _).setCell (p := ⟨w.heap.size + 1, 1, none⟩) (by dsimp only; omega) _⟩
end Go.Proofs.Ytcbfceefhoeooaa
