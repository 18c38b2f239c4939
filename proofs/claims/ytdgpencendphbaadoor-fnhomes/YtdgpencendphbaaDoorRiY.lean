/- Rings, by the model: whether nodes are those of a ring. -/
import Derived.Test.YtdgpencendphbaaDoorSk
import Derived.Test.YtdgpencendphbaaDoorRiR
import Derived.Deep.RegionHeld3
namespace Go.Proofs.YtdgpencendphbaaDoor
open Go.RowKit
set_option linter.unusedVariables false

/-- Node i is one that a ring takes, behind those ahead of it. -/
def okNd (L : List Int) (i : Nat) : Prop := ∀ (h : i < L.length), (1 ≤ L[i] ∧ L[i] ≤ 9) ∧ (∀ (h0 : 0 < i), L[i - 1]'(by omega) < L[i])
def okNds (L : List Int) : Prop := (1 ≤ L.length ∧ L.length ≤ 6) ∧ ∀ i, i < L.length → okNd L i

set_option maxRecDepth 100000 in
set_option maxHeartbeats 2000000 in
theorem specNodesOk_any (ao : Option Addr) (L : List Int) (ca : Nat) (w : World) (hl : L.length ≤ 1048576) (hA : RdZ w ao L) :
    Calls Tryd.prog 47 #[.slice ao L.length ca] w fun e w' => ∃ x : Bool, e = .returned (.bool x) ∧ (x = true ↔ okNds L) ∧ Below w.heap.size w w' := by
  have CI := hide1 (in_any (L.length : Int) 1 6 w)
  by_cases c0 : 1 ≤ L.length ∧ L.length ≤ 6
  · have q : (decide (1 ≤ (L.length : Int)) && decide ((L.length : Int) ≤ 6)) = true := by rw [Bool.and_eq_true, decide_eq_true_iff, decide_eq_true_iff]; omega
    rw [q] at CI
    clear q
    have HA := hide1 hA
    clear hA
    go_enter Tryd.func47, Tryd.ntmps47
    go_wp2_with fail
    refine CI.out.mono ?_
    rintro e w1 ⟨rfl, rfl⟩
    clear CI
    go_wp2
    go_loopw [3] (fun iv wr => ∃ i : Nat, i ≤ L.length ∧ iv = .int .i64 (i : Int) ∧ Hid (∀ j, j < i → okNd L j) ∧ Below w.heap.size w wr) (fun iv _ => L.length - (intOf iv).toNat)
    case atStart => exact ⟨0, by omega, rfl, fun j hj => by omega, Below.refl _ _⟩
    case round =>
      obtain ⟨i, hi, rfl, hn, hbel⟩ := hrel
      by_cases hlt : i < L.length
      · have k1 : (i : Int) < (L.length : Int) := by omega
        obtain ⟨b, o, rfl, hb, x1⟩ := (HA.out.later hbel) i hlt
        obtain ⟨z, hz, y1⟩ : ∃ z, L[i] = z ∧ wr.cell? ⟨b, o + i, none⟩ = some (.int .i64 z) := ⟨_, rfl, x1⟩
        have CR := hide1 (fun w' => in_any z 1 9 w')
        have CQ := hide1 (fun w' => (in_any z 1 9 w').mono (fun e w2 h => And.intro h.1 h.2.symm))
        have H1 := hide1 (show ¬ (1 ≤ z ∧ z ≤ 9) → ¬ okNds L from fun h1 h => h1 (hz ▸ (h.2 i hlt hlt).1))
        clear x1
        by_cases c1 : 1 ≤ z ∧ z ≤ 9
        · have q1 : (decide (1 ≤ z) && decide (z ≤ 9)) = true := by rw [Bool.and_eq_true, decide_eq_true_iff, decide_eq_true_iff]; exact c1
          rw [q1] at CR CQ
          clear q1 H1
          by_cases c2 : 0 < i
          · obtain ⟨p, hp⟩ : ∃ p, p + 1 = i := ⟨i - 1, by omega⟩
            have k2 : (0 : Int) < (i : Int) := by omega
            obtain ⟨b', o', e', _, x2⟩ := (HA.out.later hbel) p (by omega)
            simp only [Option.some.injEq, Addr.mk.injEq, and_true] at e'
            obtain ⟨rfl, rfl⟩ := e'
            have k3 : IntKind.i64.wrap ((i : Int) - 1) = (p : Int) := (IntWalk.i64_in _ ⟨by omega, by omega⟩).trans (by omega)
            have k7 : (p : Int) < (L.length : Int) := by omega
            obtain ⟨y, hy, y2⟩ : ∃ y, L[p] = y ∧ wr.cell? ⟨b, o + p, none⟩ = some (.int .i64 y) := ⟨_, rfl, x2⟩
            have hy2 : L[i - 1]'(by omega) = y := by subst hp; exact hy
            have HX := hide1 (show y < z → okNd L i from fun h1 _ => ⟨hz ▸ c1, fun _ => by rw [hz, hy2]; exact h1⟩)
            have HY := hide1 (show ¬ y < z → ¬ okNds L from fun h1 h => h1 (by have := (h.2 i hlt hlt).2 c2; rw [hz, hy2] at this; exact this))
            clear x2 hy hz hy2 hp
            by_cases c3 : y < z
            · have q3 : decide (z ≤ y) = false := decide_eq_false (by omega)
              have q4 : ¬ z ≤ y := by omega
              have HZ := hide1 (HX.out c3)
              go_wp2
              go_region_held3 (fun w' => w'.cell? ⟨b, o + i, none⟩ = some (.int .i64 z) ∧ w'.cell? ⟨b, o + p, none⟩ = some (.int .i64 y)) (first | go_keep | exact ⟨y1, y2⟩) ((go_at_call 67; refine (CR.out _).mono ?_; rintro e w7 ⟨rfl, rfl⟩))
              go_wp2
              go_roundw
              case rel => exact ⟨i + 1, by omega, by go_num, fun j hj => by
                by_cases e : j < i
                · exact hn.out j e
                · obtain rfl : j = i := by omega
                  exact HZ.out, hbel.drew⟩
              case measure => simp [intOf]; omega
            · have q3 : decide (z ≤ y) = true := decide_eq_true (by omega)
              have q4 : z ≤ y := by omega
              have HZ := hide1 (HY.out c3)
              go_wp2
              go_region_held3 (fun w' => w'.cell? ⟨b, o + i, none⟩ = some (.int .i64 z) ∧ w'.cell? ⟨b, o + p, none⟩ = some (.int .i64 y)) (first | go_keep | exact ⟨y1, y2⟩) ((go_at_call 67; refine (CR.out _).mono ?_; rintro e w7 ⟨rfl, rfl⟩))
              go_wp2
              go_ret
              exact ⟨false, rfl, ⟨(fun h => by cases h), fun h => absurd h HZ.out⟩, hbel.drew⟩
          · have k2 : ¬ (0 : Int) < (i : Int) := by omega
            have HZ := hide1 (show okNd L i from fun _ => ⟨hz ▸ c1, fun h0 => absurd h0 c2⟩)
            clear hz
            go_wp2
            go_quiet ((go_at_call 67; exact Calls.quiet_of_same (CQ.out _)))
            go_wp2
            go_roundw
            case rel => exact ⟨i + 1, by omega, by go_num, fun j hj => by
              by_cases e : j < i
              · exact hn.out j e
              · obtain rfl : j = i := by omega
                exact HZ.out, by first | exact hbel.drew | exact hbel | exact below_drewN hbel _⟩
            case measure => simp [intOf]; omega
        · have q1 : (decide (1 ≤ z) && decide (z ≤ 9)) = false := by rw [Bool.and_eq_false_iff, decide_eq_false_iff_not, decide_eq_false_iff_not]; omega
          rw [q1] at CR CQ
          have HZ := hide1 (H1.out c1)
          clear q1 H1 hz
          go_wp2
          go_quiet ((go_at_call 67; exact Calls.quiet_of_same (CQ.out _)))
          go_wp2
          go_ret
          exact ⟨false, rfl, ⟨(fun h => by cases h), fun h => absurd h HZ.out⟩, by first | exact hbel.drew | exact hbel | exact below_drewN hbel _⟩
      · have HX := hide1 (show okNds L from ⟨c0, fun j hj => hn.out j (by omega)⟩)
        go_wp2
        go_ret
        exact ⟨true, rfl, ⟨fun _ => HX.out, fun _ => rfl⟩, hbel⟩
  · have q : (decide (1 ≤ (L.length : Int)) && decide ((L.length : Int) ≤ 6)) = false := by rw [Bool.and_eq_false_iff, decide_eq_false_iff_not, decide_eq_false_iff_not]; omega
    rw [q] at CI
    clear q
    go_enter Tryd.func47, Tryd.ntmps47
    go_wp2_with fail
    refine CI.out.mono ?_
    rintro e w1 ⟨rfl, rfl⟩
    go_wp2
    go_ret
    exact ⟨false, rfl, ⟨(fun h => by cases h), fun h => absurd h.1 c0⟩, Below.refl _ _⟩
end Go.Proofs.YtdgpencendphbaaDoor
