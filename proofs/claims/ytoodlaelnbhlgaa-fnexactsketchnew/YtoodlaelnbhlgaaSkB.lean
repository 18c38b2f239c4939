/- The contracts of the statements' functions on sketches: comparing, marking, holding, copying, sizing. -/
import Derived.Test.YtoodlaelnbhlgaaSk
namespace Go.Proofs.Ytoodlaelnbhlgaa
open Go.RowKit

/-- A sketch as a value. -/
def skV (a : Option Addr) (n c : Nat) (ad : Int) : Value := .agg #[.slice a n c, .int .i64 ad]
theorem blkN2 (w : World) (c1 c2 : Array Value) (t1 t2 : TypeId) : Blk ((w.alloc (.cells c1 t1)).alloc (.cells c2 t2)) w.heap.size t1 c1.toList ∧ Blk ((w.alloc (.cells c1 t1)).alloc (.cells c2 t2)) (w.heap.size + 1) t2 c2.toList ∧ Below w.heap.size w ((w.alloc (.cells c1 t1)).alloc (.cells c2 t2)) := by
  refine ⟨Blk.more (Blk.new w _ _) _, ?_, below2 w _ _⟩
  have := Blk.new (w.alloc (.cells c1 t1)) t2 c2
  rw [World.size_alloc] at this
  exact this
theorem blkN3 (w : World) (c1 c2 c3 : Array Value) (t1 t2 t3 : TypeId) : Blk (((w.alloc (.cells c1 t1)).alloc (.cells c2 t2)).alloc (.cells c3 t3)) w.heap.size t1 c1.toList ∧ Blk (((w.alloc (.cells c1 t1)).alloc (.cells c2 t2)).alloc (.cells c3 t3)) (w.heap.size + 1) t2 c2.toList ∧ Blk (((w.alloc (.cells c1 t1)).alloc (.cells c2 t2)).alloc (.cells c3 t3)) (w.heap.size + 1 + 1) t3 c3.toList ∧ Below w.heap.size w (((w.alloc (.cells c1 t1)).alloc (.cells c2 t2)).alloc (.cells c3 t3)) := by
  obtain ⟨h1, h2, h3⟩ := blkN2 w c1 c2 t1 t2
  refine ⟨h1.more _, h2.more _, ?_, h3.alloc (by simp only [World.size_alloc]; omega) _⟩
  have := Blk.new ((w.alloc (.cells c1 t1)).alloc (.cells c2 t2)) t3 c3
  rw [World.size_alloc, World.size_alloc] at this
  exact this
theorem gtrans {w w' w'' : World} {r : Option Nat} (h : w.grownBy w' r) (h' : w'.grownBy w'' r) : w.grownBy w'' r :=
  ⟨h'.os.trans h.os, h'.tape.trans h.tape, h'.output.trans h.output, Nat.le_trans h.size h'.size, fun k hk hne => (h'.block k (Nat.lt_of_lt_of_le hk h.size) hne).trans (h.block k hk hne)⟩
theorem gblk {w w' : World} {r : Option Nat} {g : Nat} {t : TypeId} {cs : List Value} (h : w.grownBy w' r) (hB : Blk w g t cs) (hne : r ≠ some g) : Blk w' g t cs := (h.block g hB.lt (fun e => hne e.symm)).trans hB
theorem gown {w w' : World} {r : Option Nat} {base n size : Nat} {e : TypeId} {v : Value} {xs : List Value} (h : w.grownBy w' r) (hO : w.ownsRow base e size v n xs) (hne : ∀ k, v.ownBlock = some k → r ≠ some k) : w'.ownsRow base e size v n xs := by
  refine ⟨hO.1, ?_⟩
  rcases hO.2 with h2 | ⟨g, cap, cur, hv, hg, hh, r'⟩
  · exact .inl h2
  · exact .inr ⟨g, cap, cur, hv, hg, (h.block g (Array.getElem?_eq_some_iff.1 hh).1 (fun e => hne g (by rw [hv]; rfl) e.symm)).trans hh, r'⟩

set_option maxRecDepth 100000 in
set_option maxHeartbeats 1000000 in
theorem eqSketch_any (a b : Option Addr) (l m : List Int) (ca cb : Nat) (va vb : Int) (w : World) (hl : l.length ≤ 1048576) (ha : RdZ w a l) (hb : RdZ w b m) :
    Calls Try.prog 10 #[skV a l.length ca va, skV b m.length cb vb] w fun e w' => ∃ x : Bool, e = .returned (.bool x) ∧ (x = true ↔ l = m ∧ va = vb) ∧ Below w.heap.size w w' := by
  have C1 := hide1 (fun o1 o2 => eqIntS_any a b l m ca cb ((w.alloc o1).alloc o2) hl (ha.later (below2 w o1 o2)) (hb.later (below2 w o1 o2)))
  clear ha hb
  unfold skV
  go_enter Try.func10, Try.ntmps10
  go_wp2_with fail
  refine (C1.out _ _).mono ?_
  rintro e w1 ⟨x, rfl, hx, hb1⟩
  have HX := hide1 hx
  obtain ⟨k1, k2, k3⟩ := blkN2 w #[.slice a l.length ca, .int .i64 va] #[.slice b m.length cb, .int .i64 vb] 24 24
  have B1 := hide1 (k3.trans (hb1.mono k3.size))
  have x1 : w1.cell? ⟨w.heap.size, 1, none⟩ = some (.int .i64 va) := (k1.below hb1 k1.lt).cell 1
  have y1 : w1.cell? ⟨w.heap.size + 1, 1, none⟩ = some (.int .i64 vb) := (k2.below hb1 k2.lt).cell 1
  clear hb1 hx k1 k2 k3
  rcases x with _ | _
  · have HN := hide1 (show l ≠ m from fun h => by have := HX.out.2 h; cases this)
    clear HX
    go_wp2
    go_ret
    exact ⟨false, rfl, ⟨(fun h => by cases h), fun h => absurd h.1 HN.out⟩, B1.out⟩
  · have HE := hide1 (HX.out.1 rfl)
    clear HX
    rcases hq : (va == vb) with _ | _
    · have q : (va != vb) = true := by rw [bne, hq]; rfl
      have HF := hide1 (show va ≠ vb from fun h => by rw [h] at hq; simp at hq)
      clear hq
      go_wp2
      go_ret
      exact ⟨false, rfl, ⟨(fun h => by cases h), fun h => absurd h.2 HF.out⟩, B1.out⟩
    · have q : (va != vb) = false := by rw [bne, hq]; rfl
      have HF := hide1 (show va = vb by simpa using hq)
      clear hq
      go_wp2
      go_ret
      exact ⟨true, rfl, ⟨(fun _ => ⟨HE.out, HF.out⟩), fun _ => rfl⟩, B1.out⟩
theorem eqSketch_same (a b : Option Addr) (l : List Int) (ca cb : Nat) (v : Int) (w : World) (hl : l.length ≤ 1048576) (ha : RdZ w a l) (hb : RdZ w b l) :
    Calls Try.prog 10 #[skV a l.length ca v, skV b l.length cb v] w fun e w' => e = .returned (.bool true) ∧ Below w.heap.size w w' := by
  refine (eqSketch_any a b l l ca cb v v w hl ha hb).mono ?_
  rintro e w' ⟨x, rfl, hx, hb⟩
  obtain rfl : x = true := hx.2 ⟨rfl, rfl⟩
  exact ⟨rfl, hb⟩

set_option maxRecDepth 100000 in
theorem markSketch_any (ao : Option Addr) (c k base : Nat) (l : List Int) (ad : Int) (w : World) (hn : l.length ≤ 1048576) (hk : k ≤ 1048576) (hown : w.ownsRow base 3 1 (.slice ao l.length c) l.length (iz l)) :
    Calls Try.prog 11 #[skV ao l.length c ad, .int .i64 (k : Int)] w fun e w' => e = .returned (.int .i64 ((k : Int) + (l.length : Int))) ∧ w'.ownsRow base 3 1 (.slice ao l.length c) l.length (iz (patZ k l.length)) ∧ w.grownBy w' (Value.slice ao l.length c).ownBlock := by
  have C1 := hide1 (fun o => markIntS_any ao c k base l (w.alloc o) hn hk (hown.alloc o))
  have G := hide1 (fun o => gnew (r := (Value.slice ao l.length c).ownBlock) ((Below.refl w.heap.size w).alloc (Nat.le_refl _) o))
  clear hown
  unfold skV
  go_enter Try.func11, Try.ntmps11
  go_wp2_with fail
  refine (C1.out _).mono ?_
  rintro e w1 ⟨rfl, ho, hg⟩
  have HO := hide1 ho
  have HG := hide1 (gtrans (G.out _) hg)
  clear ho hg G
  go_wp2
  go_ret
  exact ⟨rfl, HO.out, HG.out⟩

set_option maxRecDepth 100000 in
theorem heldSketch_any (ao : Option Addr) (n ca k : Nat) (ad : Int) (w : World) (hn : n ≤ 1048576) (hk : k ≤ 1048576) (hA : RdZ w ao (patZ k n)) :
    Calls Try.prog 12 #[skV ao n ca ad, .int .i64 (k : Int)] w fun e w' => e = .returned (.int .i64 ((k : Int) + (n : Int))) ∧ Below w.heap.size w w' := by
  have C1 := hide1 (fun o => heldIntS_any ao n ca k (w.alloc o) hn hk (hA.later ((Below.refl _ _).alloc (Nat.le_refl _) o)))
  have B1 := hide1 (fun o => (Below.refl w.heap.size w).alloc (Nat.le_refl _) o)
  clear hA
  have q : decide ((k : Int) + (n : Int) < 0) = false := by simp; omega
  unfold skV
  go_enter Try.func12, Try.ntmps12
  go_wp2_with fail
  refine (C1.out _).mono ?_
  rintro e w1 ⟨rfl, rfl⟩
  go_wp2
  go_ret
  exact ⟨rfl, B1.out _⟩

set_option maxRecDepth 100000 in
set_option maxHeartbeats 1000000 in
theorem toSketch_any (ao : Option Addr) (l : List Int) (ca : Nat) (ad : Int) (w : World) (hl : l.length ≤ 1048576) (hA : RdZ w ao l) :
    Calls Try.prog 15 #[skV ao l.length ca ad] w fun e w' => ∃ b c, e = .returned (skV b l.length c ad) ∧ w'.ownsRow w.heap.size 3 1 (.slice b l.length c) l.length (iz l) ∧ Below w.heap.size w w' := by
  have C1 := hide1 (fun w1 (h : Below w.heap.size w w1) => toIntS_any ao l ca w1 hl (hA.later h))
  clear hA
  unfold skV
  have F0 := hide1 (blkN3 w #[.slice ao l.length ca, .int .i64 ad] #[.slice none 0 0, .int .i64 0] #[.slice none 0 0, .int .i64 0] 29 24 24)
  go_enter Try.func15, Try.ntmps15
  go_wp2_with fail
  generalize (((w.alloc (.cells #[.slice ao l.length ca, .int .i64 ad] 29)).alloc (.cells #[.slice none 0 0, .int .i64 0] 24)).alloc (.cells #[.slice none 0 0, .int .i64 0] 24)) = w0 at F0 ⊢
  obtain ⟨K0, K1, K2, B0⟩ := F0.out
  have hs0 : w.heap.size + 1 + 1 < w0.heap.size := K2.lt
  refine (C1.out w0 B0).mono ?_
  rintro e w1 ⟨b, c, rfl, hown1, hb1⟩
  have J0 := K0.below hb1 K0.lt
  have J1 := hide1 (K1.below hb1 K1.lt)
  have J2 := hide1 (K2.below hb1 K2.lt)
  have hlow := hide1 (fun k (hk : (Value.slice b l.length c).ownBlock = some k) => (hown1.lt k hk).1)
  have O1 := hide1 hown1
  have B1 := hide1 (B0.trans (hb1.mono B0.size))
  have x1 : w1.cell? ⟨w.heap.size, 1, none⟩ = some (.int .i64 ad) := J0.cell 1
  have y0 : w1.cell? ⟨w.heap.size + 1 + 1, 0, none⟩ = some (.slice none 0 0) := J2.out.cell 0
  have y1 : w1.cell? ⟨w.heap.size + 1 + 1, 1, none⟩ = some (.int .i64 0) := J2.out.cell 1
  have yf : ∀ j, w1.frozen? ⟨w.heap.size + 1 + 1, j, none⟩ = false := fun j => J2.out.froz j
  have r0 : w1.cell? ⟨w.heap.size + 1, 0, none⟩ = some (.slice none 0 0) := J1.out.cell 0
  have r1 : w1.cell? ⟨w.heap.size + 1, 1, none⟩ = some (.int .i64 0) := J1.out.cell 1
  have rf : ∀ j, w1.frozen? ⟨w.heap.size + 1, j, none⟩ = false := fun j => J1.out.froz j
  clear hown1 hb1 J0 K0 K1 K2 B0 F0 C1
  go_wp2
  have hh : Blk ((((w1.setCell ⟨w.heap.size + 1 + 1, 0, none⟩ (.slice b l.length c)).setCell ⟨w.heap.size + 1 + 1, 1, none⟩ (.int .i64 ad)).setCell ⟨w.heap.size + 1, 0, none⟩ (.slice b l.length c)).setCell ⟨w.heap.size + 1, 1, none⟩ (.int .i64 ad)) (w.heap.size + 1) 24 [.slice b l.length c, .int .i64 ad] :=
    Blk.set (Blk.set (Blk.far (Blk.far J1.out ⟨w.heap.size + 1 + 1, 0, none⟩ _ (by dsimp only; omega)) ⟨w.heap.size + 1 + 1, 1, none⟩ _ (by dsimp only; omega)) 0 (.slice b l.length c)) 1 (.int .i64 ad)
  refine bodyPost_ret (results_cell_row Try.results15 _ _ (w.heap.size + 1) 24 #[.slice b l.length c, .int .i64 ad] (0, 0) _ rfl hh Try.underlying24 rfl (by kernel_rfl)) rfl ?_
  refine ⟨b, c, rfl, ?_, ?_⟩
  · refine own_base (own_far (own_far (own_far (own_far O1.out _ _ ?_) _ _ ?_) _ _ ?_) _ _ ?_) (by omega)
    all_goals
      intro k hk
      have := hlow.out k hk
      dsimp only
      omega
  · exact (((B1.out.setCell (p := ⟨w.heap.size + 1 + 1, 0, none⟩) (by dsimp only; omega) _).setCell (p := ⟨w.heap.size + 1 + 1, 1, none⟩) (by dsimp only; omega) _).setCell (p := ⟨w.heap.size + 1, 0, none⟩) (by dsimp only; omega) _).setCell (p := ⟨w.heap.size + 1, 1, none⟩) (by dsimp only; omega) _

set_option maxRecDepth 100000 in
theorem szSketch_any (ao : Option Addr) (n ca : Nat) (ad : Int) (w : World) (hl : n ≤ 9223372036854775807) :
    Calls Try.prog 13 #[skV ao n ca ad, .int .i64 1048576] w fun e w' => (e = .returned (.int .i64 (-1)) ∨ ∃ r : Nat, e = .returned (.int .i64 (r : Int)) ∧ n ≤ 1048576) ∧ Below w.heap.size w w' := by
  have C1 := hide1 (fun w1 => szIntS_any ao n ca 1048576 w1 hl (Nat.le_refl _))
  have B1 := hide1 (fun o => (Below.refl w.heap.size w).alloc (Nat.le_refl _) o)
  unfold skV
  go_enter Try.func13, Try.ntmps13
  go_wp2_with fail
  refine (C1.out _).mono ?_
  rintro e w1 ⟨hr, rfl⟩
  rcases hr with ⟨rfl, _⟩ | ⟨r, rfl, hsm⟩
  · go_wp2
    go_ret
    exact ⟨.inl rfl, B1.out _⟩
  · have q : decide ((r : Int) < 0) = false := by simp
    have HS := hide1 (show n ≤ 1048576 by omega)
    clear hsm
    go_wp2
    go_ret
    exact ⟨.inr ⟨r, rfl, HS.out⟩, B1.out _⟩
end Go.Proofs.Ytoodlaelnbhlgaa
