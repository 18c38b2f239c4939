/- How many numbers each place gets, by both: a row of counts of the call's own. -/
import Derived.Test.YtejjheoimafeoaaJuI
import Derived.Test.YtejjheoimafeoaaSk
namespace Go.Proofs.Ytejjheoimafeoaa
open Go.RowKit
set_option linter.unusedVariables false

/-- What Spread answers. -/
def sprR (l : List Int) (n : Int) : List Int := if n < 1 ∨ 1000 < n then [] else sprF n.toNat l
theorem sprR_no {l : List Int} {n : Int} (h : n < 1 ∨ 1000 < n) : sprR l n = [] := if_pos h
theorem sprR_yes {l : List Int} {m : Nat} (h1 : 1 ≤ m) (h2 : m ≤ 1000) : sprR l (m : Int) = sprF m l := by
  rw [sprR, if_neg (by omega)]
  rfl
theorem clampJ_nat {m : Nat} (h1 : 1 ≤ m) (h2 : m ≤ 1000) : clampJ (m : Int) = m := by
  unfold clampJ
  split
  · omega
  · split <;> omega
theorem sprR_length (l : List Int) (n : Int) : (sprR l n).length ≤ 1000 := by
  unfold sprR
  split
  · simp
  · rw [sprF_length]; omega

/-- A row of counts of the call's own. -/
def MadeZ (w w' : World) (e : Ending) (L : List Int) : Prop := ∃ b c, e = .returned (.slice b L.length c) ∧ w'.ownsRow w.heap.size 3 1 (.slice b L.length c) L.length (iz L) ∧ Below w.heap.size w w'
theorem stp_iz {m : Nat} {acc : List Int} {z v : Int} (hv : acc.getD (plcJ m z) 0 = v) : (iz acc).set (plcJ m z) (.int .i64 (v + 1)) = iz (stpJ m acc z) := by
  rw [stpJ, iz_set, hv]
theorem count_at {m : Nat} {l : List Int} {p i : Nat} (hp : p < m) (hi : i < l.length) (hl : l.length ≤ 1048576) : ∃ v : Int, (sprF m (l.take i)).getD p 0 = v ∧ (iz (sprF m (l.take i)))[p]? = some (.int .i64 v) ∧ 0 ≤ v ∧ v ≤ 1048576 := by
  have hp2 : p < (sprF m (l.take i)).length := by rw [sprF_length]; exact hp
  have hb := sprF_bd m (l.take i) p hp2
  rw [List.length_take] at hb
  refine ⟨(sprF m (l.take i))[p], ?_, iz_get _ p hp2, hb.1, by omega⟩
  rw [List.getD_eq_getElem?_getD, List.getElem?_eq_getElem hp2]
  rfl

set_option maxRecDepth 100000 in
set_option maxHeartbeats 1000000 in
theorem implSpread_any (ao : Option Addr) (l : List Int) (ca : Nat) (n : Int) (w : World) (hl : l.length ≤ 1048576) (hA : RdZ w ao l) :
    Calls Try.prog 12 #[.slice ao l.length ca, .int .i64 n] w fun e w' => MadeZ w w' e (sprR l n) := by
  obtain ⟨i0, hi, hz0, hz1, hz2⟩ := info_parts Try.infoZ
  have HA := hide1 hA
  clear hA
  by_cases hn : n < 1 ∨ 1000 < n
  · rw [sprR_no hn]
    have hq : n < 1 ∨ (¬ n < 1 ∧ 1000 < n) := by omega
    clear hn
    rcases hq with h1 | ⟨h1, h2⟩
    all_goals
      go_enter Try.func12, Try.ntmps12
      go_wp2
      go_ret
      exact ⟨_, _, rfl, owns_empty w _, (Below.refl _ _).alloc (Nat.le_refl _) _⟩
  obtain ⟨m, rfl⟩ : ∃ m : Nat, n = (m : Int) := ⟨n.toNat, by omega⟩
  have h1 : 1 ≤ m := by omega
  have h2 : m ≤ 1000 := by omega
  clear hn
  rw [sprR_yes h1 h2]
  have hc := clampJ_nat h1 h2
  have k1 : ¬ (m : Int) < 1 := by omega
  have k2 : ¬ 1000 < (m : Int) := by omega
  have CJ := hide1 (fun z w' => by have h := implJump_any z (m : Int) w'; rw [hc, plcJ_int h1 z] at h; exact h)
  clear hc
  go_enter Try.func12, Try.ntmps12
  go_wp2_with (at_make; (refine wpList_make_full _ rfl _ _ 24 rfl w.heap.size 3 i0 (.int .i64 0) 1 Try.underlying24 hi hz0 hz1 _ _ _ _ m rfl rfl rfl rfl (by rw [hz2]; omega) (by unfold maxLen; omega) (Nat.le_refl _) ?_; intro w0 hown0 hg0))
  rw [madeZ] at hown0
  have HO := hide1 hown0
  clear hown0
  go_loopw [19] (fun iv wr => ∃ i : Nat, i ≤ l.length ∧ iv = .int .i64 (i : Int) ∧ wr.ownsRow w.heap.size 3 1 (.slice (some ⟨w.heap.size, 0, none⟩) m m) m (iz (sprF m (l.take i))) ∧ Below w.heap.size w wr) (fun iv _ => l.length - (intOf iv).toNat)
  case atStart => exact ⟨0, by omega, rfl, HO.out, Below.grown (Below.refl _ _) hg0 (Nat.le_refl _) (by intro k hk; cases hk)⟩
  case round =>
    obtain ⟨i, hi, rfl, hown, hbel⟩ := hrel
    by_cases hlt : i < l.length
    · have k3 : (i : Int) < (l.length : Int) := by omega
      obtain ⟨b, o, rfl, hb, hx⟩ := HA.out i hlt
      have x0 := (hbel.cell (p := ⟨b, o + i, none⟩) hb).trans hx
      obtain ⟨s, hs⟩ : ∃ s, l[i] = s := ⟨_, rfl⟩
      rw [hs] at x0
      have HS := hide1 hs
      clear hx hs
      have hp := plcJ_lt h1 s
      have C1 := hide1 (CJ.out s)
      have CA := hide1 (count_at (m := m) (l := l) hp hlt hl)
      have ST := hide1 (fun v => stp_iz (m := m) (acc := sprF m (l.take i)) (z := s) (v := v))
      obtain ⟨p, hpe⟩ : ∃ p, plcJ m s = p := ⟨_, rfl⟩
      rw [hpe] at C1 CA ST hp
      clear hpe
      have HO1 := hide1 hown
      have HB1 := hide1 hbel
      clear hown hbel
      go_wp2_with fail
      refine (C1.out _).mono ?_
      rintro e w1 ⟨rfl, hb1⟩
      have HO2 := hide1 (own_kept HO1.out hb1)
      have HB2 := hide1 (HB1.out.trans (hb1.mono HB1.out.size))
      obtain ⟨v, hv, hvc, hv0, hv1⟩ := CA.out
      have y0 := (HO2.out.cellAt p (by omega)).trans hvc
      have y1 := HO2.out.frozenAt p
      have k4 : (p : Int) < (m : Int) := by omega
      have k5 : IntKind.i64.wrap (v + 1) = v + 1 := IntWalk.i64_in _ ⟨by omega, by omega⟩
      have HV := hide1 hv
      clear hb1 hv hvc CA
      go_wp2
      go_roundw
      case rel =>
        have st := (World.ownsRow.stored HO2.out p (.int .i64 (v + 1))).1
        rw [ST.out v HV.out, ← HS.out, ← sprF_take m l i hlt] at st
        exact ⟨i + 1, by omega, by go_num, st, HB2.out.setCell (p := ⟨w.heap.size, p, none⟩) (Nat.le_refl _) _⟩
      case measure => simp [intOf]; omega
    · obtain rfl : i = l.length := by omega
      rw [List.take_length] at hown
      have HO1 := hide1 hown
      clear hown
      go_wp2
      go_ret
      exact ⟨_, _, by rw [sprF_length]; rfl, by rw [sprF_length]; exact HO1.out, hbel⟩
set_option maxRecDepth 100000 in
set_option maxHeartbeats 1000000 in
theorem specSpread_any (ao : Option Addr) (l : List Int) (ca : Nat) (n : Int) (w : World) (hl : l.length ≤ 1048576) (hA : RdZ w ao l) :
    Calls Try.prog 13 #[.slice ao l.length ca, .int .i64 n] w fun e w' => MadeZ w w' e (sprR l n) := by
  obtain ⟨i0, hi, hz0, hz1, hz2⟩ := info_parts Try.infoZ
  have HA := hide1 hA
  clear hA
  by_cases hn : n < 1 ∨ 1000 < n
  · rw [sprR_no hn]
    have q : (decide (1 ≤ n) && decide (n ≤ 1000)) = false := by rw [Bool.and_eq_false_iff, decide_eq_false_iff_not, decide_eq_false_iff_not]; omega
    have CI := hide1 (fun w' => in_any n 1 1000 w')
    rw [q] at CI
    clear hn q
    go_enter Try.func13, Try.ntmps13
    go_wp2_with fail
    refine (CI.out _).mono ?_
    rintro e w1 ⟨rfl, rfl⟩
    go_wp2
    go_ret
    exact ⟨_, _, rfl, owns_empty w _, (Below.refl _ _).alloc (Nat.le_refl _) _⟩
  obtain ⟨m, rfl⟩ : ∃ m : Nat, n = (m : Int) := ⟨n.toNat, by omega⟩
  have h1 : 1 ≤ m := by omega
  have h2 : m ≤ 1000 := by omega
  clear hn
  rw [sprR_yes h1 h2]
  have hc := clampJ_nat h1 h2
  have q : (decide (1 ≤ (m : Int)) && decide ((m : Int) ≤ 1000)) = true := by rw [Bool.and_eq_true, decide_eq_true_iff, decide_eq_true_iff]; omega
  have CI := hide1 (fun w' => in_any (m : Int) 1 1000 w')
  rw [q] at CI
  clear q
  have B0 := hide1 ((Below.refl w.heap.size w).alloc (Nat.le_refl _) (.cells #[] 3))
  have S0 : (w.alloc (.cells #[] 3)).heap.size = w.heap.size + 1 := World.size_alloc _ _
  have CJ := hide1 (fun z w' => by have h := specJump_any z (m : Int) w'; rw [hc, plcJ_int h1 z] at h; exact h)
  clear hc
  go_enter Try.func13, Try.ntmps13
  go_wp2_with fail
  refine (CI.out _).mono ?_
  rintro e w1 ⟨rfl, rfl⟩
  generalize w.alloc (.cells #[] 3) = w1 at *
  go_wp2_with (at_make; (refine wpList_make_full _ rfl _ _ 24 rfl (w.heap.size + 1) 3 i0 (.int .i64 0) 1 Try.underlying24 hi hz0 hz1 _ _ _ _ m rfl rfl rfl rfl (by rw [hz2]; omega) (by unfold maxLen; omega) (by omega) ?_; intro w0 hown0 hg0))
  rw [madeZ, S0] at hown0
  have HO := hide1 hown0
  clear hown0
  go_loopw [6] (fun iv wr => ∃ i : Nat, i ≤ l.length ∧ iv = .int .i64 (i : Int) ∧ wr.ownsRow (w.heap.size + 1) 3 1 (.slice (some ⟨w.heap.size + 1, 0, none⟩) m m) m (iz (sprF m (l.take i))) ∧ Below (w.heap.size + 1) w1 wr) (fun iv _ => l.length - (intOf iv).toNat)
  case atStart => exact ⟨0, by omega, rfl, HO.out, Below.grown (Below.refl _ _) hg0 (by omega) (by intro k hk; cases hk)⟩
  case round =>
    obtain ⟨i, hi, rfl, hown, hbel⟩ := hrel
    by_cases hlt : i < l.length
    · have k3 : (i : Int) < (l.length : Int) := by omega
      obtain ⟨b, o, rfl, hb, hx⟩ := (HA.out.later B0.out) i hlt
      have x0 := (hbel.cell (p := ⟨b, o + i, none⟩) (by show b < _; omega)).trans hx
      obtain ⟨s, hs⟩ : ∃ s, l[i] = s := ⟨_, rfl⟩
      rw [hs] at x0
      have HS := hide1 hs
      clear hx hs
      have hp := plcJ_lt h1 s
      have C1 := hide1 (CJ.out s)
      have CA := hide1 (count_at (m := m) (l := l) hp hlt hl)
      have ST := hide1 (fun v => stp_iz (m := m) (acc := sprF m (l.take i)) (z := s) (v := v))
      obtain ⟨p, hpe⟩ : ∃ p, plcJ m s = p := ⟨_, rfl⟩
      rw [hpe] at C1 CA ST hp
      clear hpe
      have HO1 := hide1 hown
      have HB1 := hide1 hbel
      clear hown hbel
      go_wp2_with fail
      refine (C1.out _).mono ?_
      rintro e w2 ⟨rfl, hb1⟩
      subst hb1
      have HO2 := HO1
      have HB2 := HB1
      obtain ⟨v, hv, hvc, hv0, hv1⟩ := CA.out
      have y0 := (HO2.out.cellAt p (by omega)).trans hvc
      have y1 := HO2.out.frozenAt p
      have k4 : (p : Int) < (m : Int) := by omega
      have k5 : IntKind.i64.wrap (v + 1) = v + 1 := IntWalk.i64_in _ ⟨by omega, by omega⟩
      have HV := hide1 hv
      clear hv hvc CA
      go_wp2
      go_roundw
      case rel =>
        have st := (World.ownsRow.stored HO2.out p (.int .i64 (v + 1))).1
        rw [ST.out v HV.out, ← HS.out, ← sprF_take m l i hlt] at st
        exact ⟨i + 1, by omega, by go_num, st, HB2.out.setCell (p := ⟨w.heap.size + 1, p, none⟩) (Nat.le_refl _) _⟩
      case measure => simp [intOf]; omega
    · obtain rfl : i = l.length := by omega
      rw [List.take_length] at hown
      have HO1 := hide1 hown
      clear hown
      go_wp2
      go_ret
      exact ⟨_, _, by rw [sprF_length]; rfl, by rw [sprF_length]; exact own_base HO1.out (by omega), B0.out.trans (hbel.mono (by omega))⟩
end Go.Proofs.Ytejjheoimafeoaa
