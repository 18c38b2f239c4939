/- The program's functions on sketches: new, right, counted, guessed, halved. -/
import Derived.Test.YthigmdocfjhdlaaSkI
namespace Go.Proofs.Ythigmdocfjhdlaa
open Go.RowKit

theorem own_full {w : World} {base n g : Nat} {e : TypeId} {xs : List Value} (h : w.ownsRow base e 1 (.slice (some ⟨g, 0, none⟩) n n) n xs) : Blk w g e xs := by
  rcases h.2 with ⟨hv, _⟩ | ⟨g', cap, cur, hv, _, hh, _, _, hs, ht⟩
  · cases hv
  · simp only [Value.slice.injEq, Option.some.injEq, Addr.mk.injEq, and_true, true_and] at hv
    obtain ⟨rfl, rfl⟩ := hv
    have : cur.toList = xs := by
      rw [← ht, List.take_of_length_le (by rw [Array.length_toList, hs]; exact Nat.le_refl _)]
    unfold Blk
    rw [← this]
    simpa using hh
theorem blk_own {w : World} {base n g : Nat} {e : TypeId} {xs : List Value} (h : Blk w g e xs) (hn : xs.length = n) (hm : n ≤ maxLen) (hb : base ≤ g) : w.ownsRow base e 1 (.slice (some ⟨g, 0, none⟩) n n) n xs :=
  ⟨by omega, .inr ⟨g, n, xs.toArray, rfl, hb, h, Nat.le_refl _, hm, by simpa using hn, by simp [← hn]⟩⟩
/-- What is made is put into a result. -/
theorem MadeK.put {w w2 w3 : World} {r c n : Nat} {ao : Option Addr} {l : List Int} {ad : Int} (hB : Below w.heap.size w w2) (hr : w.heap.size ≤ r) (hr2 : r < w2.heap.size) (hn : l.length = n) (o : w3.ownsRow w2.heap.size 3 1 (.slice ao n c) n (iz l)) (hb : Below w2.heap.size w2 w3) :
    MadeK w ((w3.setCell ⟨r, 0, none⟩ (.slice ao n c)).setCell ⟨r, 1, none⟩ (.int .i64 ad)) (.returned (.agg #[.slice ao n c, .int .i64 ad])) (l, ad) := by
  subst hn
  have hs := hB.size
  refine ⟨ao, c, rfl, own_base (own_far (own_far o _ _ ?_) _ _ ?_) hs, ((hB.trans (hb.mono hs)).setCell (p := ⟨r, 0, none⟩) hr _).setCell (p := ⟨r, 1, none⟩) hr _⟩
  all_goals
    intro k hk
    have := (o.lt k hk).1
    dsimp only
    omega

set_option maxRecDepth 100000 in
set_option maxHeartbeats 2000000 in
theorem newSketch_any (ao : Option Addr) (l : List Int) (ca : Nat) (ad : Int) (w : World) (hl : l.length ≤ 1048576) (hA : RdZ w ao l) :
    Calls Try.prog 21 #[skV ao l.length ca ad] w fun e w' => MadeK w w' e (l, ad) := by
  obtain ⟨i0, hi, hz0, hz1, hz2⟩ := info_parts Try.infoZ
  have hsz : (Try.prog.info? 3).map (·.size) = some 1 := by rw [hi]; simp [hz1]
  have HA := hide1 hA
  clear hA
  unfold skV
  have F0 := hide1 (blkN2 w #[.slice ao l.length ca, .int .i64 ad] #[.slice none 0 0, .int .i64 0] 28 28)
  obtain ⟨n, hn⟩ : ∃ n, l.length = n := ⟨_, rfl⟩
  have HN := hide1 hn
  rw [hn] at F0 hl ⊢
  clear hn
  have CS : Hid (∀ w1 : World, Below w.heap.size w w1 → 0 < (iz l).length → ∃ ad, ao = some ad ∧ ∀ j v, (iz l)[j]? = some v → w1.cell? (ad.add j) = some v) := by
    show ∀ w1 : World, _
    intro w1 hb h0
    rw [iz_length] at h0
    have hR := HA.out.later hb
    obtain ⟨b, o, e, _, _⟩ := hR 0 h0
    refine ⟨⟨b, o, none⟩, e, fun j v hj => ?_⟩
    have hj' : j < l.length := by have := (List.getElem?_eq_some_iff.1 hj).1; rwa [iz_length] at this
    obtain ⟨b', o', e', _, hc⟩ := hR j hj'
    rw [e] at e'
    simp only [Option.some.injEq, Addr.mk.injEq, and_true] at e'
    obtain ⟨rfl, rfl⟩ := e'
    rw [iz_get l j hj'] at hj
    rw [Addr.add_lit, ← hj]
    exact hc
  have LN : Hid ((iz l).length = n) := hide1 (by rw [iz_length]; exact HN.out)
  obtain ⟨Z, hZ⟩ : ∃ Z, Z = iz (List.replicate n 0) := ⟨_, rfl⟩
  have ZN : Hid (Z.length = n) := hide1 (by rw [hZ, iz_length, List.length_replicate])
  have HZ := hide1 hZ
  obtain ⟨L, hL⟩ : ∃ L, iz l = L := ⟨_, rfl⟩
  rw [hL] at CS LN
  have L1 : Hid (∀ v ∈ L, v.oneCell' = true) := hide1 (by rw [← hL]; exact iz_one l)
  have HLL := hide1 hL
  clear hZ hL
  go_enter Try.func21, Try.ntmps21
  go_wp2_with (first | (at_make; (refine wpList_make_full _ rfl _ _ 26 rfl (w.heap.size + 1 + 1) 3 i0 (.int .i64 0) 1 Try.underlying26 hi hz0 hz1 _ _ _ _ n rfl rfl rfl rfl (by rw [hz2]; omega) (by unfold maxLen; omega) (by simp only [World.size_alloc]; omega) ?_; intro w1 hown1 hg1; have hb1 : Below (w.heap.size + 1 + 1) _ w1 := Below.grown (Below.refl _ _) hg1 (by simp only [World.size_alloc]; omega) (by intro k hk; cases hk); simp only [World.size_alloc] at hown1; rw [madeZ, ← HZ.out] at hown1; have J0 := hide1 (F0.out.1.below hb1 (by omega)); have J1 := hide1 (F0.out.2.1.below hb1 (by omega)); have B1 := hide1 (F0.out.2.2.trans (hb1.mono (by omega))); have R1 := hide1 (own_full hown1); have x0 : w1.cell? ⟨w.heap.size, 0, none⟩ = some (.slice ao n ca) := J0.out.cell 0; clear hb1 hg1 hown1 F0)) | ((refine wpList_copy_splice rfl (.tmp 8) (.tmp 10) 26 26 rfl 3 Try.underlying26 hsz _ _ _ _ _ _ rfl rfl (w.heap.size + 1 + 1) 0 Z 3 R1.out L (by rw [LN.out]; exact (Nat.min_self n).symm) (fun h0 => ⟨rfl, CS.out w1 B1.out h0⟩) (by rw [LN.out, ZN.out]; omega) L1.out (w.heap.size + 1 + 1) w1 (Below.refl _ _) (Nat.le_refl _) ?_; intro w2 HG2 hb2; have D0 := hide1 (J0.out.below hb2 (by omega)); have D1 := hide1 (J1.out.below hb2 (by omega)); have B2 := hide1 (B1.out.trans (hb2.mono (by omega))); have z1 : w2.cell? ⟨w.heap.size, 1, none⟩ = some (.int .i64 ad) := D0.out.cell 1; have y0 : w2.cell? ⟨w.heap.size + 1, 0, none⟩ = some (.slice none 0 0) := D1.out.cell 0; have y1 : w2.cell? ⟨w.heap.size + 1, 1, none⟩ = some (.int .i64 0) := D1.out.cell 1; have yf : ∀ j, w2.frozen? ⟨w.heap.size + 1, j, none⟩ = false := fun j => D1.out.froz j; clear hb2)))
  have hh := hide1 (Blk.set (Blk.set D1.out 0 (.slice (some ⟨w.heap.size + 1 + 1, 0, none⟩) n n)) 1 (.int .i64 ad))
  refine bodyPost_ret (results_cell_row Try.results21 _ _ (w.heap.size + 1) 28 #[.slice (some ⟨w.heap.size + 1 + 1, 0, none⟩) n n, .int .i64 ad] (0, 0) _ rfl hh.out Try.underlying28 rfl (by kernel_rfl)) rfl ?_
  have hsp : splice Z 0 L = L := by
    unfold splice
    rw [List.take_zero, List.nil_append, Nat.zero_add, List.drop_eq_nil_of_le (by rw [LN.out, ZN.out]; exact Nat.le_refl _), List.append_nil]
  have HG := HG2.out
  rw [hsp, ← HLL.out] at HG
  have ho : w2.ownsRow (w.heap.size + 1 + 1) 3 1 (.slice (some ⟨w.heap.size + 1 + 1, 0, none⟩) n n) n (iz l) := blk_own HG (by rw [iz_length]; exact HN.out) (by unfold maxLen; omega) (Nat.le_refl _)
  refine ⟨_, _, by dsimp only; rw [HN.out]; rfl, ?_, (B2.out.setCell (p := ⟨w.heap.size + 1, 0, none⟩) (by dsimp only; omega) _).setCell (p := ⟨w.heap.size + 1, 1, none⟩) (by dsimp only; omega) _⟩
  dsimp only
  rw [HN.out]
  refine own_base (own_far (own_far ho _ _ ?_) _ _ ?_) (by omega)
  all_goals
    intro k hk
    have := (ho.lt k hk).1
    dsimp only
    omega
end Go.Proofs.Ythigmdocfjhdlaa
