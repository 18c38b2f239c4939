/- The contracts of the statements' functions on tables, whole: copied, sized, marked, held. -/
import Derived.Test.YtahglnojllkjdaaTabT
namespace Go.Proofs.Ytahglnojllkjdaa
open Go.RowKit

/-- Two rows lie apart. -/
def apart2 (u v : Value) : Prop := ∀ k, u.ownBlock = some k → v.ownBlock ≠ some k

set_option maxRecDepth 100000 in
set_option maxHeartbeats 1000000 in
theorem toTable_any (ao a' : Option Addr) (l l' : List Ce) (ca ca' : Nat) (mv : Int) (w : World) (hl : l.length ≤ 1048576) (hl' : l'.length ≤ 1048576) (hA : RdJ w ao l) (hA' : RdJ w a' l') :
    Calls Try.prog 22 #[tbV ao l.length ca a' l'.length ca' mv] w fun e w' => ∃ b c b' c', e = .returned (tbV b l.length c b' l'.length c' mv) ∧ w'.ownsRow w.heap.size 65 2 (.slice b l.length c) l.length (ces l) ∧ w'.ownsRow w.heap.size 65 2 (.slice b' l'.length c') l'.length (ces l') ∧ apart2 (.slice b l.length c) (.slice b' l'.length c') ∧ Below w.heap.size w w' := by
  have C1 := hide1 (fun w1 (h : Below w.heap.size w w1) => toCellS_any ao l ca w1 hl (hA.later h))
  have C2 := hide1 (fun w1 (h : Below w.heap.size w w1) => toCellS_any a' l' ca' w1 hl' (hA'.later h))
  clear hA hA'
  unfold tbV
  have F0 : Hid (Blk (((w.alloc (.cells #[.slice ao l.length ca, .slice a' l'.length ca', .int .i64 mv] 34)).alloc (.cells #[.slice none 0 0, .slice none 0 0, .int .i64 0] 26)).alloc (.cells #[.slice none 0 0, .slice none 0 0, .int .i64 0] 26)) w.heap.size 34 [.slice ao l.length ca, .slice a' l'.length ca', .int .i64 mv] ∧ Blk (((w.alloc (.cells #[.slice ao l.length ca, .slice a' l'.length ca', .int .i64 mv] 34)).alloc (.cells #[.slice none 0 0, .slice none 0 0, .int .i64 0] 26)).alloc (.cells #[.slice none 0 0, .slice none 0 0, .int .i64 0] 26)) (w.heap.size + 1) 26 [.slice none 0 0, .slice none 0 0, .int .i64 0] ∧ Blk (((w.alloc (.cells #[.slice ao l.length ca, .slice a' l'.length ca', .int .i64 mv] 34)).alloc (.cells #[.slice none 0 0, .slice none 0 0, .int .i64 0] 26)).alloc (.cells #[.slice none 0 0, .slice none 0 0, .int .i64 0] 26)) (w.heap.size + 1 + 1) 26 [.slice none 0 0, .slice none 0 0, .int .i64 0] ∧ Below w.heap.size w (((w.alloc (.cells #[.slice ao l.length ca, .slice a' l'.length ca', .int .i64 mv] 34)).alloc (.cells #[.slice none 0 0, .slice none 0 0, .int .i64 0] 26)).alloc (.cells #[.slice none 0 0, .slice none 0 0, .int .i64 0] 26))) := by
    have bl := blocks3 w (.cells #[.slice ao l.length ca, .slice a' l'.length ca', .int .i64 mv] 34) (.cells #[.slice none 0 0, .slice none 0 0, .int .i64 0] 26) (.cells #[.slice none 0 0, .slice none 0 0, .int .i64 0] 26)
    exact ⟨bl.1, bl.2.1, bl.2.2, (below2 w _ _).alloc (by simp only [World.size_alloc]; omega) _⟩
  go_enter Try.func22, Try.ntmps22
  go_wp2_with fail
  generalize (((w.alloc (.cells #[.slice ao l.length ca, .slice a' l'.length ca', .int .i64 mv] 34)).alloc (.cells #[.slice none 0 0, .slice none 0 0, .int .i64 0] 26)).alloc (.cells #[.slice none 0 0, .slice none 0 0, .int .i64 0] 26)) = w0 at F0 ⊢
  obtain ⟨K0, K1, K2, B0⟩ := F0.out
  have hs0 : w.heap.size + 1 + 1 < w0.heap.size := K2.lt
  refine (C1.out w0 B0).mono ?_
  rintro e w1 ⟨b, c, rfl, hown1, hb1⟩
  have J0 := K0.below hb1 K0.lt
  have J1 := K1.below hb1 K1.lt
  have J2 := K2.below hb1 K2.lt
  have hs1 := hb1.size
  have x1 : w1.cell? ⟨w.heap.size, 1, none⟩ = some (.slice a' l'.length ca') := J0.cell 1
  have y0 : w1.cell? ⟨w.heap.size + 1 + 1, 0, none⟩ = some (.slice none 0 0) := J2.cell 0
  have yf : ∀ j, w1.frozen? ⟨w.heap.size + 1 + 1, j, none⟩ = false := fun j => J2.froz j
  have hlow1 : ∀ k, (Value.slice b l.length c).ownBlock = some k → w0.heap.size ≤ k ∧ k < w1.heap.size := fun k hk => hown1.lt k hk
  have F1 : Hid (Blk (w1.setCell ⟨w.heap.size + 1 + 1, 0, none⟩ (.slice b l.length c)) w.heap.size 34 [.slice ao l.length ca, .slice a' l'.length ca', .int .i64 mv] ∧ Blk (w1.setCell ⟨w.heap.size + 1 + 1, 0, none⟩ (.slice b l.length c)) (w.heap.size + 1) 26 [.slice none 0 0, .slice none 0 0, .int .i64 0] ∧ Blk (w1.setCell ⟨w.heap.size + 1 + 1, 0, none⟩ (.slice b l.length c)) (w.heap.size + 1 + 1) 26 [.slice b l.length c, .slice none 0 0, .int .i64 0] ∧ (w1.setCell ⟨w.heap.size + 1 + 1, 0, none⟩ (.slice b l.length c)).ownsRow w0.heap.size 65 2 (.slice b l.length c) l.length (ces l) ∧ Below w.heap.size w (w1.setCell ⟨w.heap.size + 1 + 1, 0, none⟩ (.slice b l.length c)) ∧ w1.heap.size ≤ (w1.setCell ⟨w.heap.size + 1 + 1, 0, none⟩ (.slice b l.length c)).heap.size) := by
    refine ⟨Blk.far J0 _ _ (by dsimp only; omega), Blk.far J1 _ _ (by dsimp only; omega), Blk.set J2 0 _, own_far hown1 _ _ (fun k hk => by have := (hlow1 k hk).1; dsimp only; omega), (B0.trans (hb1.mono B0.size)).setCell (p := ⟨w.heap.size + 1 + 1, 0, none⟩) (by dsimp only; omega) _, by simp [World.setCell]⟩
  have HL1 := hide1 hlow1
  clear hown1 hb1 J0 J1 J2 K0 K1 K2 B0 F0 C1 hlow1
  go_wp2_with fail
  generalize (w1.setCell ⟨w.heap.size + 1 + 1, 0, none⟩ (.slice b l.length c)) = w2 at F1 ⊢
  obtain ⟨G0, G1, G2, O1, B2, hs2⟩ := F1.out
  refine (C2.out w2 B2).mono ?_
  rintro e w3 ⟨b', c', rfl, hown3, hb3⟩
  have J0 := G0.below hb3 G0.lt
  have J1 := hide1 (G1.below hb3 G1.lt)
  have J2 := G2.below hb3 G2.lt
  have O3 := hide1 (own_kept O1 hb3)
  have P3 := hide1 hown3
  have B3 := hide1 (B2.trans (hb3.mono B2.size))
  have hap : Hid (apart2 (.slice b l.length c) (.slice b' l'.length c')) := fun k hk hk' => by
    have h1 := (HL1.out k hk).2
    have h2 := (P3.out.lt k hk').1
    omega
  have hl3 := hide1 (fun k (hk : (Value.slice b' l'.length c').ownBlock = some k) => (P3.out.lt k hk).1)
  have hll3 := hide1 (fun k (hk : (Value.slice b l.length c).ownBlock = some k) => (HL1.out k hk).1)
  have x2 : w3.cell? ⟨w.heap.size, 2, none⟩ = some (.int .i64 mv) := J0.cell 2
  have z0 : w3.cell? ⟨w.heap.size + 1 + 1, 0, none⟩ = some (.slice b l.length c) := J2.cell 0
  have z1 : w3.cell? ⟨w.heap.size + 1 + 1, 1, none⟩ = some (.slice none 0 0) := J2.cell 1
  have z2 : w3.cell? ⟨w.heap.size + 1 + 1, 2, none⟩ = some (.int .i64 0) := J2.cell 2
  have zf : ∀ j, w3.frozen? ⟨w.heap.size + 1 + 1, j, none⟩ = false := fun j => J2.froz j
  have r0 : w3.cell? ⟨w.heap.size + 1, 0, none⟩ = some (.slice none 0 0) := J1.out.cell 0
  have r1 : w3.cell? ⟨w.heap.size + 1, 1, none⟩ = some (.slice none 0 0) := J1.out.cell 1
  have r2 : w3.cell? ⟨w.heap.size + 1, 2, none⟩ = some (.int .i64 0) := J1.out.cell 2
  have rf : ∀ j, w3.frozen? ⟨w.heap.size + 1, j, none⟩ = false := fun j => J1.out.froz j
  have hs3 := hb3.size
  clear hown3 hb3 J0 J2 G0 G1 G2 O1 B2 F1 C2 x1 y0 yf
  go_wp2
  have hh : Blk (((((w3.setCell ⟨w.heap.size + 1 + 1, 1, none⟩ (.slice b' l'.length c')).setCell ⟨w.heap.size + 1 + 1, 2, none⟩ (.int .i64 mv)).setCell ⟨w.heap.size + 1, 0, none⟩ (.slice b l.length c)).setCell ⟨w.heap.size + 1, 1, none⟩ (.slice b' l'.length c')).setCell ⟨w.heap.size + 1, 2, none⟩ (.int .i64 mv)) (w.heap.size + 1) 26 [.slice b l.length c, .slice b' l'.length c', .int .i64 mv] :=
    Blk.set (Blk.set (Blk.set (Blk.far (Blk.far J1.out ⟨w.heap.size + 1 + 1, 1, none⟩ _ (by dsimp only; omega)) ⟨w.heap.size + 1 + 1, 2, none⟩ _ (by dsimp only; omega)) 0 (.slice b l.length c)) 1 (.slice b' l'.length c')) 2 (.int .i64 mv)
  refine bodyPost_ret (results_cell_row Try.results22 _ _ (w.heap.size + 1) 26 #[.slice b l.length c, .slice b' l'.length c', .int .i64 mv] (0, 0) _ rfl hh Try.underlying26 rfl (by kernel_rfl)) rfl ?_
  refine ⟨b, c, b', c', rfl, ?_, ?_, hap.out, ?_⟩
  · refine own_base (own_far (own_far (own_far (own_far (own_far O3.out _ _ ?_) _ _ ?_) _ _ ?_) _ _ ?_) _ _ ?_) (by omega)
    all_goals
      intro k hk
      have := hll3.out k hk
      dsimp only
      omega
  · refine own_base (own_far (own_far (own_far (own_far (own_far P3.out _ _ ?_) _ _ ?_) _ _ ?_) _ _ ?_) _ _ ?_) (by omega)
    all_goals
      intro k hk
      have := hl3.out k hk
      dsimp only
      omega
  · exact ((((B3.out.setCell (p := ⟨w.heap.size + 1 + 1, 1, none⟩) (by dsimp only; omega) _).setCell (p := ⟨w.heap.size + 1 + 1, 2, none⟩) (by dsimp only; omega) _).setCell (p := ⟨w.heap.size + 1, 0, none⟩) (by dsimp only; omega) _).setCell (p := ⟨w.heap.size + 1, 1, none⟩) (by dsimp only; omega) _).setCell (p := ⟨w.heap.size + 1, 2, none⟩) (by dsimp only; omega) _

set_option maxRecDepth 100000 in
theorem szTable_any (ao a' : Option Addr) (l l' : List Ce) (ca ca' : Nat) (mv : Int) (w : World) (hl : l.length ≤ 9223372036854775807) (hl' : l'.length ≤ 9223372036854775807) (hA : RdJ w ao l) (hA' : RdJ w a' l') (hS : ∀ i (h : i < l.length), l[i].key.size ≤ 9223372036854775807) (hS' : ∀ i (h : i < l'.length), l'[i].key.size ≤ 9223372036854775807) :
    Calls Try.prog 20 #[tbV ao l.length ca a' l'.length ca' mv, .int .i64 1048576] w fun e w' => (e = .returned (.int .i64 (-1)) ∨ ∃ r : Nat, e = .returned (.int .i64 (r : Int)) ∧ smallC l ∧ smallC l') ∧ Below w.heap.size w w' := by
  have C1 := hide1 (fun o => szCellS_any ao l ca 1048576 (w.alloc o) (by omega) hl (hA.later ((Below.refl _ _).alloc (Nat.le_refl _) o)) hS)
  have C2 := hide1 (fun w1 (h : Below w.heap.size w w1) (r : Nat) (hr : r ≤ 1048576) => szCellS_any a' l' ca' r w1 hr hl' (hA'.later h) hS')
  clear hA hA' hS hS'
  unfold tbV
  go_enter Try.func20, Try.ntmps20
  go_wp2_with fail
  refine (C1.out _).mono ?_
  rintro e w1 ⟨hr, hb1⟩
  have B1 := hide1 (((Below.refl _ _).alloc (Nat.le_refl _) _).trans (hb1.mono (show w.heap.size ≤ _ by rw [World.size_alloc]; omega)))
  have x1 : w1.cell? ⟨w.heap.size, 1, none⟩ = some (.slice a' l'.length ca') := (Blk.below (Blk.new w 34 #[.slice ao l.length ca, .slice a' l'.length ca', .int .i64 mv]) hb1 (by rw [World.size_alloc]; omega)).cell 1
  clear hb1
  rcases hr with rfl | ⟨r, rfl, hr, hsm⟩
  · go_wp2
    go_ret
    exact ⟨.inl rfl, B1.out⟩
  · have q : decide ((r : Int) < 0) = false := by simp
    have HS := hide1 hsm
    clear hsm
    go_wp2_with fail
    refine (C2.out w1 B1.out r hr).mono ?_
    rintro e w2 ⟨hr2, hb2⟩
    have B2 := hide1 (B1.out.trans (hb2.mono B1.out.size))
    rcases hr2 with rfl | ⟨r2, rfl, hr2, hsm2⟩
    · go_wp2
      go_ret
      exact ⟨.inl rfl, B2.out⟩
    · have q2 : decide ((r2 : Int) < 0) = false := by simp
      have HS2 := hide1 hsm2
      clear hsm2
      go_wp2
      go_ret
      exact ⟨.inr ⟨r2, rfl, HS.out, HS2.out⟩, B2.out⟩

set_option maxRecDepth 100000 in
theorem heldTable_any (ao a' : Option Addr) (n m ca ca' k : Nat) (mv : Int) (w : World) (hn : n ≤ 1048576) (hm : m ≤ 1048576) (hk : k ≤ 1048576) (hk0 : 0 < k) (hA : RdC w ao (patCs k n)) (hA' : RdC w a' (patCs (k + 2 * n) m)) :
    Calls Try.prog 19 #[tbV ao n ca a' m ca' mv, .int .i64 (k : Int)] w fun e w' => e = .returned (.int .i64 ((k : Int) + 2 * (n : Int) + 2 * (m : Int))) ∧ Below w.heap.size w w' := by
  have C1 := hide1 (fun o => heldCellS_any ao n ca k (w.alloc o) hn (by omega) hk0 (hA.later ((Below.refl _ _).alloc (Nat.le_refl _) o)))
  have C2 := hide1 (fun w1 (h : Below w.heap.size w w1) => heldCellS_any a' m ca' (k + 2 * n) w1 hm (by omega) (by omega) (hA'.later h))
  rw [show ((k + 2 * n : Nat) : Int) = (k : Int) + 2 * (n : Int) by omega] at C2
  have q : decide ((k : Int) + 2 * (n : Int) < 0) = false := by simp; omega
  have q2 : decide ((k : Int) + 2 * (n : Int) + 2 * (m : Int) < 0) = false := by simp; omega
  clear hA hA'
  unfold tbV
  go_enter Try.func19, Try.ntmps19
  go_wp2_with fail
  refine (C1.out _).mono ?_
  rintro e w1 ⟨rfl, hb1⟩
  have B1 := hide1 (((Below.refl _ _).alloc (Nat.le_refl _) _).trans (hb1.mono (show w.heap.size ≤ _ by rw [World.size_alloc]; omega)))
  have x1 : w1.cell? ⟨w.heap.size, 1, none⟩ = some (.slice a' m ca') := (Blk.below (Blk.new w 26 #[.slice ao n ca, .slice a' m ca', .int .i64 mv]) hb1 (by rw [World.size_alloc]; omega)).cell 1
  clear hb1
  go_wp2_with fail
  refine (C2.out w1 B1.out).mono ?_
  rintro e w2 ⟨rfl, hb2⟩
  go_wp2
  go_ret
  exact ⟨rfl, B1.out.trans (hb2.mono B1.out.size)⟩

theorem own_grown2 {w w' : World} {base n size : Nat} {e : TypeId} {v : Value} {xs : List Value} {r : Option Nat} (h : w.ownsRow base e size v n xs) (hg : w.grownBy w' r) (hne : ∀ k, v.ownBlock = some k → r ≠ some k) : w'.ownsRow base e size v n xs := by
  refine ⟨h.1, ?_⟩
  rcases h.2 with h2 | ⟨k, cap, cur, hv, hk, hh, q⟩
  · exact .inl h2
  · exact .inr ⟨k, cap, cur, hv, hk, by rw [hg.block k (Array.getElem?_eq_some_iff.1 hh).1 (fun e => hne k (by rw [hv]; rfl) e.symm)]; exact hh, q⟩

set_option maxRecDepth 100000 in
theorem markTable_any (ao a' : Option Addr) (n m ca ca' k : Nat) (mv : Int) (xs ys : List Value) (base base' : Nat) (w : World) (hn : n ≤ 1048576) (hm : m ≤ 1048576) (hk : k ≤ 1048576) (hk0 : 0 < k) (hown : w.ownsRow base 65 2 (.slice ao n ca) n xs) (hown' : w.ownsRow base' 65 2 (.slice a' m ca') m ys) (hap : apart2 (.slice ao n ca) (.slice a' m ca')) :
    Calls Try.prog 18 #[tbV ao n ca a' m ca' mv, .int .i64 (k : Int)] w fun e w' => e = .returned (.int .i64 ((k : Int) + 2 * (n : Int) + 2 * (m : Int))) ∧ w'.ownsRow base 65 2 (.slice ao n ca) n (ces (patCs k n)) ∧ w'.ownsRow base' 65 2 (.slice a' m ca') m (ces (patCs (k + 2 * n) m)) ∧ (∀ j, j < w.heap.size → (Value.slice ao n ca).ownBlock ≠ some j → (Value.slice a' m ca').ownBlock ≠ some j → w'.heap[j]? = w.heap[j]?) ∧ w'.os = w.os ∧ w'.tape = w.tape ∧ w'.output = w.output ∧ w.heap.size ≤ w'.heap.size := by
  have C1 := hide1 (fun o => markCellS_any (.slice ao n ca) n k xs base (w.alloc o) hn (by omega) hk0 (hown.alloc o))
  have C2 := hide1 (fun w1 (h : w1.ownsRow base' 65 2 (.slice a' m ca') m ys) => markCellS_any (.slice a' m ca') m (k + 2 * n) ys base' w1 hm (by omega) (by omega) h)
  rw [show ((k + 2 * n : Nat) : Int) = (k : Int) + 2 * (n : Int) by omega] at C2
  have HO := hide1 (fun o => hown'.alloc o)
  have hlt : Hid (∀ j, (Value.slice ao n ca).ownBlock = some j → j ≠ w.heap.size) := fun j hj => by have := (hown.lt j hj).2; omega
  have HAP := hide1 hap
  clear hown hown' hap
  unfold tbV
  go_enter Try.func18, Try.ntmps18
  go_wp2_with fail
  refine (C1.out _).mono ?_
  rintro e w1 ⟨rfl, ho1, hg1⟩
  have x1 : w1.cell? ⟨w.heap.size, 1, none⟩ = some (.slice a' m ca') := by
    have hb : Blk w1 w.heap.size 26 [.slice ao n ca, .slice a' m ca', .int .i64 mv] := (hg1.block w.heap.size (by rw [World.size_alloc]; omega) (fun e => hlt.out _ e.symm rfl)).trans (Blk.new w 26 #[.slice ao n ca, .slice a' m ca', .int .i64 mv])
    exact hb.cell 1
  have O2 := hide1 (own_grown2 (HO.out _) hg1 (fun j hj hj2 => HAP.out j hj2 hj))
  have O1 := hide1 ho1
  have G1 := hide1 hg1
  clear ho1 hg1
  go_wp2_with fail
  refine (C2.out w1 O2.out).mono ?_
  rintro e w2 ⟨rfl, ho2, hg2⟩
  have O3 := hide1 ho2
  have G2 := hide1 hg2
  have O4 := hide1 (own_grown2 O1.out hg2 (fun j hj hj2 => HAP.out j hj hj2))
  clear ho2 hg2
  go_wp2
  go_ret
  refine ⟨rfl, O4.out, O3.out, fun j hj h1 h2 => ?_, G2.out.os.trans G1.out.os, G2.out.tape.trans G1.out.tape, G2.out.output.trans G1.out.output, ?_⟩
  · have s1 := G1.out.size
    rw [World.size_alloc] at s1
    rw [G2.out.block j (by omega) (fun e => h2 e.symm), G1.out.block j (by rw [World.size_alloc]; omega) (fun e => h1 e.symm)]
    exact Below.heap_alloc w _ j hj
  · have s1 := G1.out.size
    have s2 := G2.out.size
    rw [World.size_alloc] at s1
    omega
end Go.Proofs.Ytahglnojllkjdaa
