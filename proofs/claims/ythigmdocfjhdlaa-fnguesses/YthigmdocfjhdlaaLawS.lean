/- What the laws of sketches hold: two sketches in variables, the names; guesses at right sketches. -/
import Derived.Test.YthigmdocfjhdlaaDrawS
import Derived.Test.YthigmdocfjhdlaaSkQ
namespace Go.Proofs.Ythigmdocfjhdlaa
open Go.RowKit

def nm5 (j : Nat) : ByteArray := ⟨(keyL.getD j []).toArray⟩
theorem nm5_size (j : Nat) (h : j < 12) : (nm5 j).size ≤ 12 := by
  have := keyL_sizes ⟨j, h⟩
  show (keyL.getD j []).toArray.size ≤ 12
  rw [List.size_toArray]
  exact this.2
/-- The names lie in memory. -/
def Nms (w : World) (N : Nat) : Prop := N < w.heap.size ∧ ∀ j, j < 12 → w.cell? ⟨N, j, none⟩ = some (.string (nm5 j))
theorem Nms.later {w w' : World} {N : Nat} (h : Nms w N) (hb : Below w.heap.size w w') : Nms w' N := ⟨Nat.lt_of_lt_of_le h.1 hb.size, fun j hj => (hb.cell (p := ⟨N, j, none⟩) h.1).trans (h.2 j hj)⟩

set_option maxRecDepth 100000 in
theorem names5_any (w : World) : Calls Try.prog 11 #[] w fun e w' => e = .returned (.slice (some ⟨w.heap.size, 0, none⟩) 12 12) ∧ Nms w' w.heap.size ∧ Below w.heap.size w w' := by
  go_enter Try.func11, Try.ntmps11
  go_wp2
  go_ret
  refine ⟨rfl, ⟨by rw [World.size_alloc]; omega, fun j hj => ?_⟩, (Below.refl _ _).alloc (Nat.le_refl _) _⟩
  rw [World.cell?_alloc_at _ _ _ _ rfl]
  match j, hj with
  | 0, _ => rfl
  | 1, _ => rfl
  | 2, _ => rfl
  | 3, _ => rfl
  | 4, _ => rfl
  | 5, _ => rfl
  | 6, _ => rfl
  | 7, _ => rfl
  | 8, _ => rfl
  | 9, _ => rfl
  | 10, _ => rfl
  | 11, _ => rfl

/-- A right sketch in a variable. -/
structure OneK (w : World) (A : Nat) (ao : Option Addr) (l : List Int) (ca : Nat) (ad : Int) : Prop where
  ok : OkK l ad
  var : Blk w A 28 [.slice ao l.length ca, .int .i64 ad]
  rd : RdZ w ao l
theorem OneK.later {w w' : World} {A ca : Nat} {ao : Option Addr} {l : List Int} {ad : Int} (h : OneK w A ao l ca ad) (hb : Below w.heap.size w w') : OneK w' A ao l ca ad := ⟨h.ok, h.var.below hb h.var.lt, h.rd.later hb⟩
theorem OneK.cells {w : World} {A ca : Nat} {ao : Option Addr} {l : List Int} {ad : Int} (h : OneK w A ao l ca ad) : A < w.heap.size ∧ w.cell? ⟨A, 0, none⟩ = some (.slice ao l.length ca) ∧ w.cell? ⟨A, 1, none⟩ = some (.int .i64 ad) := ⟨h.var.lt, h.var.cell 0, h.var.cell 1⟩
theorem OneK.box {w : World} {base ca : Nat} {ao : Option Addr} {l : List Int} {ad : Int} (hok : OkK l ad) (ho : w.ownsRow base 3 1 (.slice ao l.length ca) l.length (iz l)) : OneK (w.alloc (.cells #[.slice ao l.length ca, .int .i64 ad] 28)) w.heap.size ao l ca ad :=
  ⟨hok, Blk.new w _ _, rdZ_of_own (ho.alloc _)⟩
theorem gueI {w w' : World} {A ca : Nat} {ao : Option Addr} {l : List Int} {ad : Int} (h : OneK w A ao l ca ad) (z : ByteArray) (hz : z.size ≤ 12) (hb : Below w.heap.size w w') :
    Calls Try.prog 12 #[.agg #[.slice ao l.length ca, .int .i64 ad], .string z] w' fun e w'' => e = .returned (.int .i64 (leastK l z 3)) ∧ Below w'.heap.size w' w'' := by
  have := implGuess_any ao l ca ad z w' (by omega) (h.rd.later hb)
  rw [gueR_yes h.ok] at this
  exact this
theorem gueS {w w' : World} {A ca : Nat} {ao : Option Addr} {l : List Int} {ad : Int} (h : OneK w A ao l ca ad) (z : ByteArray) (hz : z.size ≤ 12) (hb : Below w.heap.size w w') :
    Calls Try.prog 13 #[.agg #[.slice ao l.length ca, .int .i64 ad], .string z] w' fun e w'' => e = .returned (.int .i64 (leastK l z 3)) ∧ Below w'.heap.size w' w'' := by
  have := specGuess_any ao l ca ad z w' (by omega) (h.rd.later hb)
  rw [gueR_yes h.ok] at this
  exact this
theorem okI {w w' : World} {A ca : Nat} {ao : Option Addr} {l : List Int} {ad : Int} (h : OneK w A ao l ca ad) (hb : Below w.heap.size w w') :
    Calls Try.prog 10 #[.agg #[.slice ao l.length ca, .int .i64 ad]] w' fun e w'' => e = .returned (.bool true) ∧ Below w'.heap.size w' w'' := by
  refine (implSOk_any ao l ca ad w' (h.rd.later hb)).mono ?_
  rintro e w'' ⟨x, rfl, hx, hb⟩
  obtain rfl : x = true := hx.2 h.ok
  exact ⟨rfl, hb⟩
theorem halI {w w' : World} {A ca : Nat} {ao : Option Addr} {l : List Int} {ad : Int} (h : OneK w A ao l ca ad) (hb : Below w.heap.size w w') :
    Calls Try.prog 15 #[.agg #[.slice ao l.length ca, .int .i64 ad]] w' fun e w'' => ∃ (p : Option Addr) (c : Nat), e = .returned (.agg #[.slice p (halfK l).length c, .int .i64 ad]) ∧ w''.ownsRow w'.heap.size 3 1 (.slice p (halfK l).length c) (halfK l).length (iz (halfK l)) ∧ Below w'.heap.size w' w'' := by
  refine (implHalve_any ao l ca ad w' (by rw [h.ok.1]; omega) (h.rd.later hb)).mono ?_
  rintro e w'' ⟨p, c, rfl, ho, hb⟩
  rw [halR_yes h.ok] at ho ⊢
  exact ⟨p, c, rfl, ho, hb⟩
theorem cntI {w w' : World} {A ca : Nat} {ao : Option Addr} {l : List Int} {ad : Int} (h : OneK w A ao l ca ad) (z : ByteArray) (hz : z.size ≤ 12) (hb : Below w.heap.size w w') :
    Calls Try.prog 9 #[.agg #[.slice ao l.length ca, .int .i64 ad], .string z] w' fun e w'' => ∃ (p : Option Addr) (c : Nat), e = .returned (.agg #[.slice p (cntK l ad z).1.length c, .int .i64 (cntK l ad z).2]) ∧ w''.ownsRow w'.heap.size 3 1 (.slice p (cntK l ad z).1.length c) (cntK l ad z).1.length (iz (cntK l ad z).1) ∧ Below w'.heap.size w' w'' := by
  refine (implCount_any ao l ca ad z w' (by omega) (by rw [h.ok.1]; omega) (h.rd.later hb)).mono ?_
  rintro e w'' ⟨p, c, rfl, ho, hb⟩
  rw [cntR_yes h.ok] at ho ⊢
  exact ⟨p, c, rfl, ho, hb⟩
end Go.Proofs.Ythigmdocfjhdlaa
