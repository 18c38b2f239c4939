import Derived.Test.YtigpjmmfelndkaaGreatDoorKYB
namespace Go.Proofs.YtigpjmmfelndkaaGreatDoor
open Go.RowKit
theorem qaV {B g : Nat} {w : World} {a : Option Addr} {len cap : Nat} (h : Drw B w a len cap g) (A j : Nat) (v : Value) (hA : g < A) : Drw B (w.setCell ⟨A, j, none⟩ v) a len cap g :=
 h.keep (B' := g + 1) ((Below.refl _ _).setCell (p := ⟨A, j, none⟩) (by dsimp only; omega) v) (by have := h.cur.1; omega) (by omega)
theorem qbZ {w wr : World} {g A j : Nat} (h : w.grownBy wr (some g)) (hA : w.heap.size < A) (v : Value) : w.grownBy (wr.setCell ⟨A, j, none⟩ v) (some g) :=
 ⟨h.os, h.tape, h.output, by have := h.size; simpa using this, fun k hk hne => by rw [Below.heap_setCell _ _ _ _ (by dsimp only; omega)]; exact h.block k hk hne⟩
theorem qbY {w wr : World} {g : Nat} (h : w.grownBy wr (some g)) (j : Nat) (v : Value) : w.grownBy (wr.setCell ⟨w.heap.size, j, none⟩ v) (some g) :=
 ⟨h.os, h.tape, h.output, by have := h.size; simpa using this, fun k hk hne => by rw [Below.heap_setCell _ _ _ _ (by dsimp only; omega)]; exact h.block k hk hne⟩
theorem code_grow {w : World} {a : Option Addr} {len : Nat} (hc : Code w.heap.size w a len) (o : Obj) : Code (w.alloc o).heap.size (w.alloc o) a len := by
 have h1 := hc.below ((Below.refl w.heap.size w).alloc (Nat.le_refl _) o) (Nat.le_refl _)
 exact ⟨h1.le, fun j hj => by obtain ⟨b, o', v, e1, e2, e3, e4⟩ := h1.cells j hj; exact ⟨b, o', v, e1, by rw [World.size_alloc]; omega, e3, e4⟩⟩
theorem big4_no (a : Option Addr) (len cap : Nat) (w : World) (h : len <= 1048576) : Calls Tryz.prog 5 #[.slice a len cap] w fun e w' => e = .returned (.bool false) /\ w = w' := by
 have q : decide ((1048576 : Int) < (len : Int)) = false := decide_eq_false (by omega)
 go_enter Tryz.func5, Tryz.ntmps5
 go_wp2
 go_ret
 exact ⟨by first | rfl | (show Ending.returned (.bool (decide ((1048576 : Int) < (len : Int)))) = _; rw [q]), rfl⟩
theorem big4_yes (a : Option Addr) (len cap : Nat) (w : World) (h : ¬ len <= 1048576) : Calls Tryz.prog 5 #[.slice a len cap] w fun e w' => e = .returned (.bool true) /\ w = w' := by
 have q : decide ((1048576 : Int) < (len : Int)) = true := decide_eq_true (by omega)
 go_enter Tryz.func5, Tryz.ntmps5
 go_wp2
 go_ret
 exact ⟨by first | rfl | (show Ending.returned (.bool (decide ((1048576 : Int) < (len : Int)))) = _; rw [q]), rfl⟩
theorem okQ_nil {m : Int} (h0 : 0 <= m) (h : m <= 24) : OkQ [] m := by
 refine ⟨h0, h, h0, ?_, List.nodup_nil⟩
 intro s hs
 cases hs
theorem InN.new {n : Nat} (h2 : 2 <= n) (hn : n <= 24) : InN (newN n) := by
 have hs := most_sum h2
 refine ⟨⟨OkA.new n (by omega) hn, OkN.new (by have := cellsN_ok n; unfold szOk at this; omega), fun k hk => by simp [qaD, newN] at hk, fun k x hk he => ?_, fun j hj hu => ?_⟩, by rw [show (newN n).sl = newL n n from rfl, qaK]; exact h2, rfl, rfl, ?_, ?_, ?_, ?_, ?_, ?_, ?_, ?_, ?_, ?_⟩
 ·obtain ⟨c, hc, e, _⟩ := he
  rcases hc with hc | hc
  ·have := List.eq_of_mem_replicate hc
   rw [this] at e
   exact absurd (by rw [<- e]; exact by simp [nC]) hk
  ·cases hc
 ·have e : (newN n).sl[j] = ⟨0, false, ⟨#[]⟩, ⟨#[]⟩, if j + 1 = n then -1 else (j : Int) + 1⟩ := newL_at n n j hj
  rw [e] at hu
  cases hu
 ·rw [show (newN n).sl = newL n n from rfl, qaK]; exact List.length_replicate
 ·exact okQ_nil (m := (qfA n : Int)) (by omega) (by omega)
 ·exact okQ_nil (m := (mostT n : Int)) (by omega) (by omega)
 ·exact okQ_nil (m := (qfM n : Int)) (by omega) (by omega)
 ·rw [show (newN n).sl = newL n n from rfl, qaK]; rfl
 ·rw [show (newN n).sl = newL n n from rfl, qaK]; rfl
 ·rw [show (newN n).sl = newL n n from rfl, qaK]; rfl
 ·show OkK (List.replicate 48 0) 0
  exact ⟨List.length_replicate, by decide, by decide, fun i hi => by rw [List.getElem_replicate]; decide⟩
 ·show okD 0 = true
  decide
 ·exact List.nodup_nil
end Go.Proofs.YtigpjmmfelndkaaGreatDoor
