/- The stamp of a call: the program's and the model's; what is done. -/
import Derived.Test.YtcahaimefgkmiaaClM
import Derived.Test.YtcahaimefgkmiaaGen
import Derived.IntWalk
import Derived.Deep.RegionHeld3
namespace Go.Proofs.Ytcahaimefgkmiaa
open Go.RowKit
set_option linter.unusedVariables false

/-- Whether it is so. -/
noncomputable def bo (p : Prop) : Bool := @decide p (Classical.propDecidable p)
theorem bo_t {p : Prop} (h : p) : bo p = true := by unfold bo; exact @decide_eq_true p (Classical.propDecidable p) h
theorem bo_f {p : Prop} (h : ¬ p) : bo p = false := by unfold bo; exact @decide_eq_false p (Classical.propDecidable p) h
theorem bo_true {p : Prop} : bo p = true ↔ p := by
  constructor
  · intro h
    refine Classical.byContradiction fun hp => ?_
    rw [bo_f hp] at h
    cases h
  · exact bo_t
theorem bo_iff {p q : Prop} (h : p ↔ q) : bo p = bo q := by rw [propext h]
/-- A call's cells. -/
def clA (x : Cl) : Array Value := #[.int .i64 x.op, .string x.key, .string x.val, .int .i64 x.wh, .int .i64 x.dn, .int .i64 x.vr, .int .i64 x.ep, .int .i64 x.nu, .string x.gt]
theorem clA_C (x : Cl) : (clA x).toList = clC x := rfl
theorem sizeCl : (Try.prog.info? 26).map (·.size) = some 9 := by kernel_rfl
theorem oneCl (x : Cl) : (clA x).all (·.oneCell') = true := by simp [clA, Value.oneCell']
def stp (c : Cl) : Int := if (0 ≤ c.ep ∧ c.ep ≤ 9) ∧ 0 ≤ c.nu ∧ c.nu ≤ 999 then 1000 * c.ep + c.nu else 0
theorem stp_wrap {e n : Int} (h1 : 0 ≤ e) (h2 : e ≤ 9) (h3 : 0 ≤ n) (h4 : n ≤ 999) : wrap64 (wrap64 (1000 * e) + n) = 1000 * e + n := by
  have e1 : wrap64 (1000 * e) = 1000 * e := IntWalk.wrap64_in _ (by omega)
  rw [e1]
  exact IntWalk.wrap64_in _ (by omega)
set_option maxRecDepth 100000 in
theorem implStamp_any (x : Cl) (w : World) : Calls Try.prog 11 #[.agg (clA x)] w fun e w' => e = .returned (.int .i64 (stp x)) ∧ Below w.heap.size w w' := by
  obtain ⟨op, key, val, wh, dn, vr, ep, nu, gt⟩ := x
  by_cases h1 : ep < 0
  · have hs : stp ⟨op, key, val, wh, dn, vr, ep, nu, gt⟩ = 0 := if_neg (by dsimp only; omega)
    rw [hs]
    clear hs
    unfold clA
    go_enter Try.func11, Try.ntmps11
    go_wp2
    go_ret
    exact ⟨rfl, by go_grown⟩
  by_cases h2 : 9 < ep
  · have hs : stp ⟨op, key, val, wh, dn, vr, ep, nu, gt⟩ = 0 := if_neg (by dsimp only; omega)
    rw [hs]
    clear hs
    unfold clA
    go_enter Try.func11, Try.ntmps11
    go_wp2
    go_ret
    exact ⟨rfl, by go_grown⟩
  by_cases h3 : nu < 0
  · have hs : stp ⟨op, key, val, wh, dn, vr, ep, nu, gt⟩ = 0 := if_neg (by dsimp only; omega)
    rw [hs]
    clear hs
    unfold clA
    go_enter Try.func11, Try.ntmps11
    go_wp2
    go_ret
    exact ⟨rfl, by go_grown⟩
  by_cases h4 : 1000 ≤ nu
  · have hs : stp ⟨op, key, val, wh, dn, vr, ep, nu, gt⟩ = 0 := if_neg (by dsimp only; omega)
    rw [hs]
    clear hs
    unfold clA
    go_enter Try.func11, Try.ntmps11
    go_wp2
    go_ret
    exact ⟨rfl, by go_grown⟩
  · have hs : stp ⟨op, key, val, wh, dn, vr, ep, nu, gt⟩ = 1000 * ep + nu := if_pos (by dsimp only; omega)
    rw [hs]
    clear hs
    unfold clA
    have W := stp_wrap (e := ep) (n := nu) (by omega) (by omega) (by omega) (by omega)
    go_enter Try.func11, Try.ntmps11
    go_wp2
    go_ret
    exact ⟨by first | rfl | (rw [W]) | simp [W], by go_grown⟩
set_option maxRecDepth 100000 in
theorem specStamp_any (x : Cl) (w : World) : Calls Try.prog 9 #[.agg (clA x)] w fun e w' => e = .returned (.int .i64 (stp x)) ∧ Below w.heap.size w w' := by
  have CI := hide1 (fun x lo hi w => in_any x lo hi w)
  obtain ⟨op, key, val, wh, dn, vr, ep, nu, gt⟩ := x
  by_cases h1 : 0 ≤ ep
  · have D1 := hide1 (decide_eq_true h1)
    by_cases h2 : ep ≤ 9
    · have D2 := hide1 (decide_eq_true h2)
      by_cases h3 : 0 ≤ nu
      · have D3 := hide1 (decide_eq_true h3)
        by_cases h4 : nu ≤ 999
        · have D4 := hide1 (decide_eq_true h4)
          have hs : stp ⟨op, key, val, wh, dn, vr, ep, nu, gt⟩ = 1000 * ep + nu := if_pos (by dsimp only; omega)
          rw [hs]
          clear hs
          unfold clA
          have W := stp_wrap (e := ep) (n := nu) (by omega) (by omega) (by omega) (by omega)
          go_enter Try.func9, Try.ntmps9
          go_wp2_with (go_at_call 26; refine (CI.out _ _ _ _).mono ?_; rintro e w2 ⟨rfl, rfl⟩; try simp only [D1.out, D2.out, D3.out, D4.out])
          go_ret
          exact ⟨by first | rfl | (rw [W]) | simp [W], by go_grown⟩
        · have D4 := hide1 (decide_eq_false h4)
          have hs : stp ⟨op, key, val, wh, dn, vr, ep, nu, gt⟩ = 0 := if_neg (by dsimp only; omega)
          rw [hs]
          clear hs
          unfold clA
          go_enter Try.func9, Try.ntmps9
          go_wp2_with (go_at_call 26; refine (CI.out _ _ _ _).mono ?_; rintro e w2 ⟨rfl, rfl⟩; try simp only [D1.out, D2.out, D3.out, D4.out])
          go_ret
          exact ⟨rfl, by go_grown⟩
      · have D3 := hide1 (decide_eq_false h3)
        have hs : stp ⟨op, key, val, wh, dn, vr, ep, nu, gt⟩ = 0 := if_neg (by dsimp only; omega)
        rw [hs]
        clear hs
        unfold clA
        go_enter Try.func9, Try.ntmps9
        go_wp2_with (go_at_call 26; refine (CI.out _ _ _ _).mono ?_; rintro e w2 ⟨rfl, rfl⟩; try simp only [D1.out, D2.out, D3.out])
        go_ret
        exact ⟨rfl, by go_grown⟩
    · have D2 := hide1 (decide_eq_false h2)
      have hs : stp ⟨op, key, val, wh, dn, vr, ep, nu, gt⟩ = 0 := if_neg (by dsimp only; omega)
      rw [hs]
      clear hs
      unfold clA
      go_enter Try.func9, Try.ntmps9
      go_wp2_with (go_at_call 26; refine (CI.out _ _ _ _).mono ?_; rintro e w2 ⟨rfl, rfl⟩; try simp only [D1.out, D2.out])
      go_ret
      exact ⟨rfl, by go_grown⟩
  · have D1 := hide1 (decide_eq_false h1)
    have hs : stp ⟨op, key, val, wh, dn, vr, ep, nu, gt⟩ = 0 := if_neg (by dsimp only; omega)
    rw [hs]
    clear hs
    unfold clA
    go_enter Try.func9, Try.ntmps9
    go_wp2_with (go_at_call 26; refine (CI.out _ _ _ _).mono ?_; rintro e w2 ⟨rfl, rfl⟩; try simp only [D1.out])
    go_ret
    exact ⟨rfl, by go_grown⟩
end Go.Proofs.Ytcahaimefgkmiaa
