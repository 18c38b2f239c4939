/- The contracts of the statements' functions on queues: comparing, marking, holding, copying, sizing. -/
import Derived.Test.YtaafofgfeaodhaaQuA
namespace Go.Proofs.Ytaafofgfeaodhaa
open Go.RowKit

/-- A queue as a value. -/
def quV (a : Option Addr) (n c : Nat) (ad : Int) : Value := .agg #[.int .i64 ad, .slice a n c]

set_option maxRecDepth 100000 in
set_option maxHeartbeats 1000000 in
theorem eqQueue_any (a b : Option Addr) (l m : List ByteArray) (ca cb : Nat) (va vb : Int) (w : World) (hl : l.length ≤ 1048576) (ha : RdQ w a l) (hb : RdQ w b m) :
    Calls Try.prog 23 #[quV a l.length ca va, quV b m.length cb vb] w fun e w' => ∃ x : Bool, e = .returned (.bool x) ∧ (x = true ↔ l = m ∧ va = vb) ∧ Below w.heap.size w w' := by
  have C1 := hide1 (fun o1 o2 => eqTextS_any a b l m ca cb ((w.alloc o1).alloc o2) hl (ha.later (below2 w o1 o2)) (hb.later (below2 w o1 o2)))
  clear ha hb
  unfold quV
  rcases hq : (va == vb) with _ | _
  · have q : (va != vb) = true := by rw [bne, hq]; rfl
    have HF := hide1 (show va ≠ vb from fun h => by rw [h] at hq; simp at hq)
    clear hq
    go_enter Try.func23, Try.ntmps23
    go_wp2
    go_ret
    exact ⟨false, rfl, ⟨(fun h => by cases h), fun h => absurd h.2 HF.out⟩, below2 w _ _⟩
  · have q : (va != vb) = false := by rw [bne, hq]; rfl
    have HF := hide1 (show va = vb by simpa using hq)
    clear hq
    go_enter Try.func23, Try.ntmps23
    go_wp2_with fail
    refine (C1.out _ _).mono ?_
    rintro e w1 ⟨x, rfl, hx, hb1⟩
    have HX := hide1 hx
    have B1 := hide1 ((below2 w _ _).trans (hb1.mono (below2 w _ _).size))
    clear hb1 hx
    rcases x with _ | _
    · have HN := hide1 (show l ≠ m from fun h => by have := HX.out.2 h; cases this)
      clear HX
      go_wp2
      go_ret
      exact ⟨false, rfl, ⟨(fun h => by cases h), fun h => absurd h.1 HN.out⟩, B1.out⟩
    · have HE := hide1 (HX.out.1 rfl)
      clear HX
      go_wp2
      go_ret
      exact ⟨true, rfl, ⟨(fun _ => ⟨HE.out, HF.out⟩), fun _ => rfl⟩, B1.out⟩
theorem eqQueue_same (a b : Option Addr) (l : List ByteArray) (ca cb : Nat) (v : Int) (w : World) (hl : l.length ≤ 1048576) (ha : RdQ w a l) (hb : RdQ w b l) :
    Calls Try.prog 23 #[quV a l.length ca v, quV b l.length cb v] w fun e w' => e = .returned (.bool true) ∧ Below w.heap.size w w' := by
  refine (eqQueue_any a b l l ca cb v v w hl ha hb).mono ?_
  rintro e w' ⟨x, rfl, hx, hb⟩
  obtain rfl : x = true := hx.2 ⟨rfl, rfl⟩
  exact ⟨rfl, hb⟩

set_option maxRecDepth 100000 in
theorem markQueue_any (ao : Option Addr) (c k base : Nat) (l : List ByteArray) (ad : Int) (w : World) (hn : l.length ≤ 1048576) (hk : k ≤ 1048576) (hk0 : 0 < k) (hown : w.ownsRow base 9 1 (.slice ao l.length c) l.length (sc l)) :
    Calls Try.prog 25 #[quV ao l.length c ad, .int .i64 (k : Int)] w fun e w' => e = .returned (.int .i64 ((k : Int) + (l.length : Int))) ∧ w'.ownsRow base 9 1 (.slice ao l.length c) l.length (sc (patQ k l.length)) ∧ w.grownBy w' (Value.slice ao l.length c).ownBlock := by
  have C1 := hide1 (fun o => markTextS_any ao c k base l (w.alloc o) hn hk hk0 (hown.alloc o))
  have G := hide1 (fun o => gnew (r := (Value.slice ao l.length c).ownBlock) ((Below.refl w.heap.size w).alloc (Nat.le_refl _) o))
  clear hown
  unfold quV
  go_enter Try.func25, Try.ntmps25
  go_wp2_with fail
  refine (C1.out _).mono ?_
  rintro e w1 ⟨rfl, ho, hg⟩
  have HO := hide1 ho
  have HG := hide1 (gtrans (G.out _) hg)
  clear ho hg G
  go_wp2
  go_ret
  exact ⟨rfl, HO.out, HG.out⟩

set_option maxRecDepth 100000 in
theorem heldQueue_any (ao : Option Addr) (n ca k : Nat) (ad : Int) (w : World) (hn : n ≤ 1048576) (hk : k ≤ 1048576) (hk0 : 0 < k) (hA : RdQ w ao (patQ k n)) :
    Calls Try.prog 26 #[quV ao n ca ad, .int .i64 (k : Int)] w fun e w' => e = .returned (.int .i64 ((k : Int) + (n : Int))) ∧ Below w.heap.size w w' := by
  have C1 := hide1 (fun o => heldTextS_any ao n ca k (w.alloc o) hn hk hk0 (hA.later ((Below.refl _ _).alloc (Nat.le_refl _) o)))
  have B1 := hide1 (fun o => (Below.refl w.heap.size w).alloc (Nat.le_refl _) o)
  clear hA
  have q : decide ((k : Int) + (n : Int) < 0) = false := by simp; omega
  unfold quV
  go_enter Try.func26, Try.ntmps26
  go_wp2_with fail
  refine (C1.out _).mono ?_
  rintro e w1 ⟨rfl, hb1⟩
  have B2 := hide1 ((B1.out _).trans (hb1.mono (B1.out _).size))
  clear hb1 B1
  go_wp2
  go_ret
  exact ⟨rfl, B2.out⟩

set_option maxRecDepth 100000 in
set_option maxHeartbeats 1000000 in
theorem toQueue_any (ao : Option Addr) (l : List ByteArray) (ca : Nat) (ad : Int) (w : World) (hl : l.length ≤ 1048576) (hA : RdQ w ao l) :
    Calls Try.prog 22 #[quV ao l.length ca ad] w fun e w' => ∃ b c, e = .returned (quV b l.length c ad) ∧ w'.ownsRow w.heap.size 9 1 (.slice b l.length c) l.length (sc l) ∧ Below w.heap.size w w' := by
  have C1 := hide1 (fun w1 (h : Below w.heap.size w w1) => toTextS_any ao l ca w1 hl (hA.later h))
  clear hA
  unfold quV
  have F0 := hide1 (blkN3 w #[.int .i64 ad, .slice ao l.length ca] #[.int .i64 0, .slice none 0 0] #[.int .i64 ad, .slice none 0 0] 38 26 26)
  go_enter Try.func22, Try.ntmps22
  go_wp2_with fail
  generalize (((w.alloc (.cells #[.int .i64 ad, .slice ao l.length ca] 38)).alloc (.cells #[.int .i64 0, .slice none 0 0] 26)).alloc (.cells #[.int .i64 ad, .slice none 0 0] 26)) = w0 at F0 ⊢
  obtain ⟨K0, K1, K2, B0⟩ := F0.out
  have hs0 : w.heap.size + 1 + 1 < w0.heap.size := K2.lt
  refine (C1.out w0 B0).mono ?_
  rintro e w1 ⟨b, c, rfl, hown1, hb1⟩
  have J1 := hide1 (K1.below hb1 K1.lt)
  have J2 := hide1 (K2.below hb1 K2.lt)
  have hlow := hide1 (fun k (hk : (Value.slice b l.length c).ownBlock = some k) => (hown1.lt k hk).1)
  have O1 := hide1 hown1
  have B1 := hide1 (B0.trans (hb1.mono B0.size))
  have y0 : w1.cell? ⟨w.heap.size + 1 + 1, 0, none⟩ = some (.int .i64 ad) := J2.out.cell 0
  have y1 : w1.cell? ⟨w.heap.size + 1 + 1, 1, none⟩ = some (.slice none 0 0) := J2.out.cell 1
  have yf : ∀ j, w1.frozen? ⟨w.heap.size + 1 + 1, j, none⟩ = false := fun j => J2.out.froz j
  have r0 : w1.cell? ⟨w.heap.size + 1, 0, none⟩ = some (.int .i64 0) := J1.out.cell 0
  have r1 : w1.cell? ⟨w.heap.size + 1, 1, none⟩ = some (.slice none 0 0) := J1.out.cell 1
  have rf : ∀ j, w1.frozen? ⟨w.heap.size + 1, j, none⟩ = false := fun j => J1.out.froz j
  clear hown1 hb1 K0 K1 K2 B0 F0 C1
  go_wp2
  have hh : Blk (((w1.setCell ⟨w.heap.size + 1 + 1, 1, none⟩ (.slice b l.length c)).setCell ⟨w.heap.size + 1, 0, none⟩ (.int .i64 ad)).setCell ⟨w.heap.size + 1, 1, none⟩ (.slice b l.length c)) (w.heap.size + 1) 26 [.int .i64 ad, .slice b l.length c] :=
    Blk.set (Blk.set (Blk.far J1.out ⟨w.heap.size + 1 + 1, 1, none⟩ _ (by dsimp only; omega)) 0 (.int .i64 ad)) 1 (.slice b l.length c)
  refine bodyPost_ret (results_cell_row Try.results22 _ _ (w.heap.size + 1) 26 #[.int .i64 ad, .slice b l.length c] (0, 0) _ rfl hh Try.underlying26 rfl (by kernel_rfl)) rfl ?_
  refine ⟨b, c, rfl, ?_, ?_⟩
  · refine own_base (own_far (own_far (own_far O1.out _ _ ?_) _ _ ?_) _ _ ?_) (by omega)
    all_goals
      intro k hk
      have := hlow.out k hk
      dsimp only
      omega
  · exact ((B1.out.setCell (p := ⟨w.heap.size + 1 + 1, 1, none⟩) (by dsimp only; omega) _).setCell (p := ⟨w.heap.size + 1, 0, none⟩) (by dsimp only; omega) _).setCell (p := ⟨w.heap.size + 1, 1, none⟩) (by dsimp only; omega) _

set_option maxRecDepth 100000 in
theorem szQueue_any (ao : Option Addr) (l : List ByteArray) (ca : Nat) (ad : Int) (w : World) (hn : l.length ≤ 9223372036854775807) (hs : ∀ i (h : i < l.length), l[i].size ≤ 9223372036854775807) (hA : RdQ w ao l) :
    Calls Try.prog 20 #[quV ao l.length ca ad, .int .i64 1048576] w fun e w' => (e = .returned (.int .i64 (-1)) ∨ ∃ r : Nat, e = .returned (.int .i64 (r : Int)) ∧ l.length ≤ 1048576 ∧ ∀ i (h : i < l.length), l[i].size ≤ 1048576) ∧ Below w.heap.size w w' := by
  have B1 := hide1 (fun o => (Below.refl w.heap.size w).alloc (Nat.le_refl _) o)
  have C1 := hide1 (fun o => szTextS_any ao l ca 1048576 (w.alloc o) hn hs (Nat.le_refl _) (hA.later (B1.out o)))
  clear hn hs hA
  unfold quV
  go_enter Try.func20, Try.ntmps20
  go_wp2_with fail
  refine (C1.out _).mono ?_
  rintro e w1 ⟨hr, rfl⟩
  rcases hr with rfl | ⟨r, rfl, _, hsm⟩
  · go_wp2
    go_ret
    exact ⟨.inl rfl, B1.out _⟩
  · have q : decide ((r : Int) < 0) = false := by simp
    have HS := hide1 hsm
    clear hsm
    go_wp2
    go_ret
    exact ⟨.inr ⟨r, rfl, HS.out⟩, B1.out _⟩
end Go.Proofs.Ytaafofgfeaodhaa
