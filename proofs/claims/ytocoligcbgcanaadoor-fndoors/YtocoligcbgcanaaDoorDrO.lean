/- Whether a door is right: the program's function and the model's; what came in, made the program's. -/
import Derived.Test.YtocoligcbgcanaaDoorDrP
import Derived.Test.YtocoligcbgcanaaDoorGenB
import Derived.WalkSmall
import Derived.Lib.SmallJoins
import Derived.ProofKit
import Derived.OpenShut
namespace Go.Proofs.YtocoligcbgcanaaDoor
open Go.ChangeShapes Go.WideShapes Go.ChangeAt Go.RowKit Go.Deep Go.Joins

theorem implDoorOk_any (d : Int) (w : World) :
    Calls Tryd.prog 10 #[.agg #[.int .i64 d]] w fun e w' => e = .returned (.bool (okD d)) ∧ Below w.heap.size w w' := by
  by_cases h1 : 0 ≤ d
  · by_cases h2 : d < 4294967296
    · have e : okD d = true := by unfold okD; simp; omega
      rw [e]
      go_enter Tryd.func10, Tryd.ntmps10
      go_wp2
      go_ret
      exact ⟨rfl, (Below.refl _ _).alloc (Nat.le_refl _) _⟩
    · have e : okD d = false := by unfold okD; simp; omega
      rw [e]
      go_enter Tryd.func10, Tryd.ntmps10
      go_wp2
      go_ret
      exact ⟨rfl, (Below.refl _ _).alloc (Nat.le_refl _) _⟩
  · have e : okD d = false := by unfold okD; simp; omega
    rw [e]
    go_enter Tryd.func10, Tryd.ntmps10
    go_wp2
    go_ret
    exact ⟨rfl, (Below.refl _ _).alloc (Nat.le_refl _) _⟩

theorem specDoorOk_any (d : Int) (w : World) :
    Calls Tryd.prog 19 #[.agg #[.int .i64 d]] w fun e w' => e = .returned (.bool (okD d)) ∧ Below w.heap.size w w' := by
  have C := hide1 (fun w' => in_any d 0 4294967295 w')
  change Hid (∀ w', Calls _ _ _ _ fun e w'' => e = .returned (.bool (okD d)) ∧ _) at C
  generalize okD d = b at *
  go_enter Tryd.func19, Tryd.ntmps19
  go_wp2_with fail
  refine (C.out _).mono ?_
  rintro e w1 ⟨rfl, rfl⟩
  go_wp2
  go_ret
  exact ⟨rfl, (Below.refl _ _).alloc (Nat.le_refl _) _⟩

set_option maxRecDepth 100000 in
theorem toDoor_any (d : Int) (w : World) :
    Calls Tryd.prog 13 #[.agg #[.int .i64 d]] w fun e w' => e = .returned (.agg #[.int .i64 d]) ∧ Below w.heap.size w w' := by
  have F0 := hide1 (blkN3 w #[.int .i64 d] #[.int .i64 d] #[.int .i64 d] 31 27 27)
  go_enter Tryd.func13, Tryd.ntmps13
  go_wp2
  obtain ⟨K0, K1, K2, B0⟩ := F0.out
  refine bodyPost_ret (results_cell_row Tryd.results13 _ _ (w.heap.size + 1) 27 #[.int .i64 d] (0, 0) _ rfl K1 Tryd.underlying27 rfl (by kernel_rfl)) rfl ?_
  exact ⟨rfl, B0⟩

theorem array1 {α : Type} {cs : Array α} (h : cs.size = 1) : ∃ c0, cs = #[c0] := by
  obtain ⟨l⟩ := cs
  match l, h with
  | [c0], _ => exact ⟨c0, rfl⟩
/-- A door that came in. -/
theorem open_door {H : Type} {enc : TypeId × Value → H} {w : World} {r : Reach} {b0 base : Nat} {sp : Nat → Bool} {held : Bool} {v : Value} {d : DataW H} {p : List MemPlace} (hv : Value.okWide Tryd.prog w r b0 31 v) (h : DataW.Trod enc Tryd.prog w base sp held 31 v d p) :
    ∃ ad : Int, v = .agg #[.int .i64 ad] := by
  obtain ⟨cs, rfl, hsz⟩ := okWide_struct Tryd.underlying31 hv
  obtain ⟨c0, rfl⟩ := array1 (hsz.trans (show Tryd.prog.cellsOf 31 = 1 by kernel_rfl))
  obtain ⟨fuel, hf⟩ := h
  obtain ⟨y0, n, hx, _, h0⟩ := trod_struct1 Tryd.underlying31 hf
  have h1 : DataW.trod enc Tryd.prog w base sp held n 3 [c0] = some y0 := by simpa [Value.cells, show Tryd.prog.cellsOf 3 = 1 by kernel_rfl] using h0
  obtain ⟨f, e1, _, _⟩ := DataW.trod_int Tryd.underlying3 h1
  simp at e1
  subst e1
  exact ⟨f, rfl⟩
end Go.Proofs.YtocoligcbgcanaaDoor
