/- A table given out whole, by the program. -/
import Derived.Test.YtahglnojllkjdaaTabW
namespace Go.Proofs.Ytahglnojllkjdaa
open Go.RowKit

/-- What a maker of a table gives: two rows of its own, apart. -/
def MadeV (w w' : World) (v : Value) (l o : List Ce) (mv : Int) : Prop := ∃ (b c b' c' : Nat), v = tbV (some ⟨b, 0, none⟩) l.length c (some ⟨b', 0, none⟩) o.length c' mv ∧ w'.ownsRow w.heap.size 65 2 (.slice (some ⟨b, 0, none⟩) l.length c) l.length (ces l) ∧ w'.ownsRow w.heap.size 65 2 (.slice (some ⟨b', 0, none⟩) o.length c') o.length (ces o) ∧ b ≠ b' ∧ Below w.heap.size w w'

set_option maxRecDepth 100000 in
set_option maxHeartbeats 2000000 in
theorem newTable_any (ao a' : Option Addr) (l o : List Ce) (ca ca' : Nat) (mv : Int) (w : World) (hl : l.length ≤ 1048576) (hl' : o.length ≤ 1048576) (hA : RdJ w ao l) (hA' : RdJ w a' o) :
    Calls Try.prog 62 #[tbV ao l.length ca a' o.length ca' mv] w fun e w' => ∃ v, e = .returned v ∧ MadeV w w' v l o mv := by
  have C1 := hide1 (fun w' (hb : Below w.heap.size w w') => newCells_any ao l ca w' hl (hA.later hb))
  have C2 := hide1 (fun w' (hb : Below w.heap.size w w') => newCells_any a' o ca' w' hl' (hA'.later hb))
  have F0 : Hid (Blk ((w.alloc (.cells #[.slice ao l.length ca, .slice a' o.length ca', .int .i64 mv] 26)).alloc (.cells #[.slice none 0 0, .slice none 0 0, .int .i64 0] 26)) w.heap.size 26 [.slice ao l.length ca, .slice a' o.length ca', .int .i64 mv] ∧ Blk ((w.alloc (.cells #[.slice ao l.length ca, .slice a' o.length ca', .int .i64 mv] 26)).alloc (.cells #[.slice none 0 0, .slice none 0 0, .int .i64 0] 26)) (w.heap.size + 1) 26 [.slice none 0 0, .slice none 0 0, .int .i64 0] ∧ Below w.heap.size w ((w.alloc (.cells #[.slice ao l.length ca, .slice a' o.length ca', .int .i64 mv] 26)).alloc (.cells #[.slice none 0 0, .slice none 0 0, .int .i64 0] 26))) := by
    refine ⟨Blk.more (Blk.new w _ _) _, ?_, below2 w _ _⟩
    have := Blk.new (w.alloc (.cells #[.slice ao l.length ca, .slice a' o.length ca', .int .i64 mv] 26)) 26 #[.slice none 0 0, .slice none 0 0, .int .i64 0]
    rw [World.size_alloc] at this
    exact this
  clear hA hA'
  unfold tbV
  go_enter Try.func62, Try.ntmps62
  go_wp2_with fail
  generalize ((w.alloc (.cells #[.slice ao l.length ca, .slice a' o.length ca', .int .i64 mv] 26)).alloc (.cells #[.slice none 0 0, .slice none 0 0, .int .i64 0] 26)) = w0 at F0 ⊢
  obtain ⟨K0, R0, B0⟩ := F0.out
  have x0 : w0.cell? ⟨w.heap.size, 0, none⟩ = some (.slice ao l.length ca) := K0.cell 0
  have x1 : w0.cell? ⟨w.heap.size, 1, none⟩ = some (.slice a' o.length ca') := K0.cell 1
  have x2 : w0.cell? ⟨w.heap.size, 2, none⟩ = some (.int .i64 mv) := K0.cell 2
  have X := hide1 (And.intro x0 (And.intro x1 x2))
  have hs0 : w.heap.size < w0.heap.size := K0.lt
  have hs1 : w.heap.size + 1 < w0.heap.size := R0.lt
  have R0 := hide1 R0
  have B0 := hide1 B0
  clear F0 K0
  go_region_held3 (fun w' => w'.cell? ⟨w.heap.size, 0, none⟩ = some (.slice ao l.length ca) ∧ w'.cell? ⟨w.heap.size, 1, none⟩ = some (.slice a' o.length ca') ∧ w'.cell? ⟨w.heap.size, 2, none⟩ = some (.int .i64 mv)) (first | go_keep | exact ⟨(D4.out.cell hs0).trans X.out.1, (D4.out.cell hs0).trans X.out.2.1, (D4.out.cell hs0).trans X.out.2.2⟩ | exact ⟨(D3.out.cell hs0).trans X.out.1, (D3.out.cell hs0).trans X.out.2.1, (D3.out.cell hs0).trans X.out.2.2⟩) ((first | (go_at_call 75; have D3' := D3.out; refine (C2.out _ (B0.out.trans ((D3.out.trans (show Below w0.heap.size w3 _ by go_grown)).mono B0.out.size))).mono ?_; rintro e w4 ⟨b4, rfl, ho4, hb4⟩; have D4 : Hid (Below w0.heap.size w0 w4) := (D3.out.trans (show Below w0.heap.size w3 _ by go_grown)).trans (hb4.mono (by have := D3.out.size; go_size)); have O4 : Hid (w4.ownsRow w3.heap.size 65 2 (.slice (some ⟨b4, 0, none⟩) o.length o.length) o.length (ces o)) := ho4; have E4 : Hid (Below w3.heap.size w3 w4) := (show Below w3.heap.size w3 _ by go_grown).trans hb4; have r4 := R0.out.below D4.out hs1; have y0 : w4.cell? ⟨w.heap.size + 1, 0, none⟩ = some (.slice none 0 0) := r4.cell 0; have y1 : w4.cell? ⟨w.heap.size + 1, 1, none⟩ = some (.slice none 0 0) := r4.cell 1; have y2 : w4.cell? ⟨w.heap.size + 1, 2, none⟩ = some (.int .i64 0) := r4.cell 2; have yf : ∀ j, w4.frozen? ⟨w.heap.size + 1, j, none⟩ = false := fun j => r4.froz j; have R4 := hide1 r4; clear r4) | (go_at_call 75; refine (C1.out _ (B0.out.trans ((show Below w0.heap.size w0 _ by go_grown).mono B0.out.size))).mono ?_; rintro e w3 ⟨b3, rfl, ho3, hb3⟩; have D3 : Hid (Below w0.heap.size w0 w3) := (show Below w0.heap.size w0 _ by go_grown).trans hb3; have O3 : Hid (w3.ownsRow w0.heap.size 65 2 (.slice (some ⟨b3, 0, none⟩) l.length l.length) l.length (ces l)) := ho3)))
  go_wp2
  have hh : Blk (((w4.setCell ⟨w.heap.size + 1, 0, none⟩ (.slice (some ⟨b3, 0, none⟩) l.length l.length)).setCell ⟨w.heap.size + 1, 1, none⟩ (.slice (some ⟨b4, 0, none⟩) o.length o.length)).setCell ⟨w.heap.size + 1, 2, none⟩ (.int .i64 mv)) (w.heap.size + 1) 26 [.slice (some ⟨b3, 0, none⟩) l.length l.length, .slice (some ⟨b4, 0, none⟩) o.length o.length, .int .i64 mv] :=
    Blk.set (Blk.set (Blk.set R4.out 0 _) 1 _) 2 _
  have l3 := O3.out.lt b3 rfl
  have l4 := O4.out.lt b4 rfl
  refine bodyPost_ret (results_cell_row Try.results62 _ _ (w.heap.size + 1) 26 #[.slice (some ⟨b3, 0, none⟩) l.length l.length, .slice (some ⟨b4, 0, none⟩) o.length o.length, .int .i64 mv] (0, 0) _ rfl hh Try.underlying26 rfl (by kernel_rfl)) rfl ?_
  refine ⟨_, rfl, b3, l.length, b4, o.length, rfl, ?_, ?_, by omega, ?_⟩
  · refine own_base (own_far (own_far (own_far (own_kept O3.out E4.out) _ _ ?_) _ _ ?_) _ _ ?_) (by have := B0.out.size; omega)
    all_goals
      intro k hk
      have ek : b3 = k := Option.some.inj hk
      dsimp only
      omega
  · refine own_base (own_far (own_far (own_far O4.out _ _ ?_) _ _ ?_) _ _ ?_) (by have := B0.out.size; have := D3.out.size; omega)
    all_goals
      intro k hk
      have ek : b4 = k := Option.some.inj hk
      have := D3.out.size
      dsimp only
      omega
  · exact (((B0.out.trans (D4.out.mono B0.out.size)).setCell (p := ⟨w.heap.size + 1, 0, none⟩) (by dsimp only; omega) _).setCell (p := ⟨w.heap.size + 1, 1, none⟩) (by dsimp only; omega) _).setCell (p := ⟨w.heap.size + 1, 2, none⟩) (by dsimp only; omega) _

theorem cell_far3 {w : World} {s r j : Nat} {a b c : Value} (h : r ≠ s) : (((w.setCell ⟨s, 0, none⟩ a).setCell ⟨s, 1, none⟩ b).setCell ⟨s, 2, none⟩ c).cell? ⟨r, j, none⟩ = w.cell? ⟨r, j, none⟩ :=
  World.cell?_of_block (w := w) (((Below.heap_setCell _ ⟨s, 2, none⟩ c r h).trans (Below.heap_setCell _ ⟨s, 1, none⟩ b r h)).trans (Below.heap_setCell w ⟨s, 0, none⟩ a r h))

set_option maxRecDepth 100000 in
set_option maxHeartbeats 2000000 in
theorem table_any {w : World} {r : Nat} (ao a' : Option Addr) (l o : List Ce) (ca ca' : Nat) (mv : Int) (hK : Blk w r 71 [.slice ao l.length ca, .slice a' o.length ca', .int .i64 mv]) (hl : l.length ≤ 1048576) (hl' : o.length ≤ 1048576) (hA : RdJ w ao l) (hA' : RdJ w a' o) :
    Calls Try.prog 46 #[.pointer (some ⟨r, 0, none⟩)] w fun e w' => ∃ v, e = .returned v ∧ MadeV w w' v l o mv := by
  have C1 := hide1 (fun w' (hb : Below w.heap.size w w') => newTable_any ao a' l o ca ca' mv w' hl hl' (hA.later hb) (hA'.later hb))
  have F0 : Hid (Blk (w.alloc (.cells #[.slice none 0 0, .slice none 0 0, .int .i64 0] 26)) r 71 [.slice ao l.length ca, .slice a' o.length ca', .int .i64 mv] ∧ Blk (w.alloc (.cells #[.slice none 0 0, .slice none 0 0, .int .i64 0] 26)) w.heap.size 26 [.slice none 0 0, .slice none 0 0, .int .i64 0] ∧ Below w.heap.size w (w.alloc (.cells #[.slice none 0 0, .slice none 0 0, .int .i64 0] 26))) := ⟨Blk.more hK _, Blk.new w _ _, (Below.refl _ _).alloc (Nat.le_refl _) _⟩
  have hrl := hK.lt
  clear hA hA' hK
  unfold tbV at C1
  go_enter Try.func46, Try.ntmps46
  go_wp2_with fail
  generalize (w.alloc (.cells #[.slice none 0 0, .slice none 0 0, .int .i64 0] 26)) = w0 at F0 ⊢
  obtain ⟨K0, R0, B0⟩ := F0.out
  have x0 : w0.cell? ⟨r, 0, none⟩ = some (.slice ao l.length ca) := K0.cell 0
  have x1 : w0.cell? ⟨r, 1, none⟩ = some (.slice a' o.length ca') := K0.cell 1
  have x2 : w0.cell? ⟨r, 2, none⟩ = some (.int .i64 mv) := K0.cell 2
  have X := hide1 (And.intro x0 (And.intro x1 x2))
  have hs0 : r < w0.heap.size := K0.lt
  have hs1 : w.heap.size < w0.heap.size := R0.lt
  have hrn : r ≠ w.heap.size := by omega
  have R0 := hide1 R0
  have B0 := hide1 B0
  clear F0 K0
  go_region_held3 (fun w' => w'.cell? ⟨r, 0, none⟩ = some (.slice ao l.length ca) ∧ w'.cell? ⟨r, 1, none⟩ = some (.slice a' o.length ca') ∧ w'.cell? ⟨r, 2, none⟩ = some (.int .i64 mv)) (first | go_keep | exact ⟨(D4.out.cell hs0).trans X.out.1, (D4.out.cell hs0).trans X.out.2.1, (D4.out.cell hs0).trans X.out.2.2⟩ | exact ⟨(cell_far3 hrn).trans ((D4.out.cell hs0).trans X.out.1), (cell_far3 hrn).trans ((D4.out.cell hs0).trans X.out.2.1), (cell_far3 hrn).trans ((D4.out.cell hs0).trans X.out.2.2)⟩) ((go_at_call 62; refine (C1.out _ (B0.out.trans ((show Below w0.heap.size w0 _ by go_grown).mono B0.out.size))).mono ?_; rintro e w4 ⟨v, rfl, b3, c3, b4, c4, rfl, ho3, ho4, hne, hb4⟩; unfold tbV; have D4 : Hid (Below w0.heap.size w0 w4) := (show Below w0.heap.size w0 _ by go_grown).trans hb4; have O3 : Hid (w4.ownsRow w0.heap.size 65 2 (.slice (some ⟨b3, 0, none⟩) l.length c3) l.length (ces l)) := ho3; have O4 : Hid (w4.ownsRow w0.heap.size 65 2 (.slice (some ⟨b4, 0, none⟩) o.length c4) o.length (ces o)) := ho4; have r4 := R0.out.below D4.out hs1; have y0 : w4.cell? ⟨w.heap.size, 0, none⟩ = some (.slice none 0 0) := r4.cell 0; have y1 : w4.cell? ⟨w.heap.size, 1, none⟩ = some (.slice none 0 0) := r4.cell 1; have y2 : w4.cell? ⟨w.heap.size, 2, none⟩ = some (.int .i64 0) := r4.cell 2; have yf : ∀ j, w4.frozen? ⟨w.heap.size, j, none⟩ = false := fun j => r4.froz j; have R4 := hide1 r4; clear r4 ho3 ho4))
  go_wp2
  have hh : Blk (((w4.setCell ⟨w.heap.size, 0, none⟩ (.slice (some ⟨b3, 0, none⟩) l.length c3)).setCell ⟨w.heap.size, 1, none⟩ (.slice (some ⟨b4, 0, none⟩) o.length c4)).setCell ⟨w.heap.size, 2, none⟩ (.int .i64 mv)) w.heap.size 26 [.slice (some ⟨b3, 0, none⟩) l.length c3, .slice (some ⟨b4, 0, none⟩) o.length c4, .int .i64 mv] :=
    Blk.set (Blk.set (Blk.set R4.out 0 _) 1 _) 2 _
  have l3 := O3.out.lt b3 rfl
  have l4 := O4.out.lt b4 rfl
  refine bodyPost_ret (results_cell_row Try.results46 _ _ w.heap.size 26 #[.slice (some ⟨b3, 0, none⟩) l.length c3, .slice (some ⟨b4, 0, none⟩) o.length c4, .int .i64 mv] (0, 0) _ rfl hh Try.underlying26 rfl (by kernel_rfl)) rfl ?_
  refine ⟨_, rfl, b3, c3, b4, c4, rfl, ?_, ?_, hne, ?_⟩
  · refine own_base (own_far (own_far (own_far O3.out _ _ ?_) _ _ ?_) _ _ ?_) (by have := B0.out.size; omega)
    all_goals
      intro k hk
      have ek : b3 = k := Option.some.inj hk
      dsimp only
      omega
  · refine own_base (own_far (own_far (own_far O4.out _ _ ?_) _ _ ?_) _ _ ?_) (by have := B0.out.size; omega)
    all_goals
      intro k hk
      have ek : b4 = k := Option.some.inj hk
      dsimp only
      omega
  · exact (((B0.out.trans (D4.out.mono B0.out.size)).setCell (p := ⟨w.heap.size, 0, none⟩) (by dsimp only; omega) _).setCell (p := ⟨w.heap.size, 1, none⟩) (by dsimp only; omega) _).setCell (p := ⟨w.heap.size, 2, none⟩) (by dsimp only; omega) _
end Go.Proofs.Ytahglnojllkjdaa
