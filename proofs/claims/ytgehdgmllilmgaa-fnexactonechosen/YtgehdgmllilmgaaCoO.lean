/- Decisions by the model: whether one value was chosen; a drawn number of voices and tries. -/
import Derived.Test.YtgehdgmllilmgaaYM
import Derived.Test.YtgehdgmllilmgaaBaD
import Derived.Deep.DeepCutAuto
namespace Go.Proofs.Ytgehdgmllilmgaa
open Go.RowKit
set_option linter.unusedVariables false
variable {lo : Nat → Prop}

/-- All are as the first one. -/
def oneL : List ByteArray → Bool
  | [] => true
  | x :: xs => xs.all (fun y => y.toList == x.toList)
theorem oneL_of {l : List ByteArray} (h : ∀ x ∈ l, ∀ y ∈ l, x = y) : oneL l = true := by
  cases l with
  | nil => rfl
  | cons x xs =>
    unfold oneL
    rw [List.all_eq_true]
    intro y hy
    rw [h y (by simp [hy]) x (by simp)]
    simp
theorem headD_get {l : List ByteArray} (h : 0 < l.length) : l.headD ⟨#[]⟩ = l[0] := by
  cases l with
  | nil => simp at h
  | cons a l => rfl
def sameTo (l : List ByteArray) (i : Nat) : Bool := ((l.take i).drop 1).all (fun y => y.toList == (l.headD ⟨#[]⟩).toList)
theorem sameTo_one (l : List ByteArray) : sameTo l 1 = true := by
  cases l with
  | nil => rfl
  | cons x xs => rfl
theorem sameTo_next {l : List ByteArray} {i : Nat} (h1 : 1 ≤ i) (h : i < l.length) : sameTo l (i + 1) = (sameTo l i && (l[i].toList == (l.headD ⟨#[]⟩).toList)) := by
  unfold sameTo
  rw [List.take_succ_eq_append_getElem h, List.drop_append_of_le_length (by simp; omega), List.all_append]
  simp
theorem sameTo_all (l : List ByteArray) : sameTo l l.length = oneL l := by
  unfold sameTo
  rw [List.take_length]
  cases l with
  | nil => rfl
  | cons x xs => rfl
theorem sameTo_more {l : List ByteArray} {i : Nat} (h1 : 1 ≤ i) (h : i < l.length) (hf : sameTo l (i + 1) = false) : oneL l = false := by
  rw [← sameTo_all]
  have : ∀ k, i + 1 + k ≤ l.length → sameTo l (i + 1 + k) = false := by
    intro k
    induction k with
    | zero => intro _; exact hf
    | succ k ih =>
      intro hk
      rw [show i + 1 + (k + 1) = (i + 1 + k) + 1 by omega, sameTo_next (by omega) (by omega), ih (by omega)]
      rfl
  have := this (l.length - (i + 1)) (by omega)
  rwa [show i + 1 + (l.length - (i + 1)) = l.length by omega] at this

set_option maxRecDepth 100000 in
set_option maxHeartbeats 1000000 in
theorem specOne_any (c : Cn) (A : CA) (w : World) (hl : c.ch.length ≤ 1048576) (hA : RdG txE 1 w A.ca c.ch) :
    Calls Try.prog 17 #[.agg #[.slice A.va c.vs.length A.vc, .slice A.ta c.ts.length A.tc, .slice A.na c.ns.length A.nc, .slice A.ca c.ch.length A.cc]] w fun e w' => e = .returned (.bool (oneL c.ch)) ∧ Below w.heap.size w w' := by
  have F0 := hide1 (And.intro (Blk.new w 32 #[.slice A.va c.vs.length A.vc, .slice A.ta c.ts.length A.tc, .slice A.na c.ns.length A.nc, .slice A.ca c.ch.length A.cc]) ((Below.refl w.heap.size w).alloc (Nat.le_refl _) (.cells #[.slice A.va c.vs.length A.vc, .slice A.ta c.ts.length A.tc, .slice A.na c.ns.length A.nc, .slice A.ca c.ch.length A.cc] 32)))
  have HA := hide1 (hA.later F0.out.2)
  clear hA
  go_enter Try.func17, Try.ntmps17
  go_upto_region 1 with fail
  generalize (w.alloc (.cells #[.slice A.va c.vs.length A.vc, .slice A.ta c.ts.length A.tc, .slice A.na c.ns.length A.nc, .slice A.ca c.ch.length A.cc] 32)) = u at F0 HA ⊢
  have lX : w.heap.size < u.heap.size := F0.out.1.lt
  go_wp2
  go_loopw [3] (fun iv wr => ∃ i : Nat, 1 ≤ i ∧ (i ≤ c.ch.length ∨ i = 1) ∧ iv = .int .i64 (i : Int) ∧ Hid (sameTo c.ch i = true) ∧ Hid (Below u.heap.size u wr)) (fun iv _ => c.ch.length + 1 - (intOf iv).toNat)
  case atStart => exact ⟨1, Nat.le_refl _, .inr rfl, rfl, hide1 (sameTo_one _), hide1 (Below.refl _ _)⟩
  case round =>
    obtain ⟨i, hi1, hi2, rfl, hs, HB⟩ := hrel
    have x3 : wr.cell? ⟨w.heap.size, 3, none⟩ = some (.slice A.ca c.ch.length A.cc) := (HB.out.cell lX).trans (F0.out.1.cell 3)
    by_cases hlt : i < c.ch.length
    · have k1 : (i : Int) < (c.ch.length : Int) := by omega
      have k2 : (0 : Int) < (c.ch.length : Int) := by omega
      have k3 : (0 : Int) ≤ (i : Int) := by omega
      obtain ⟨b, o, hb, hbl, hc⟩ := HA.out i hlt
      obtain ⟨b', o', hb', hbl', hc'⟩ := HA.out 0 (by omega)
      rw [hb] at hb'
      injection hb' with hb'
      injection hb' with e1 e2
      subst e1 e2
      have y0 : wr.cell? ⟨b, o + i, none⟩ = some (.string c.ch[i]) := by
        have := (HB.out.cell (p := ⟨b, o + i * 1 + 0, none⟩) hbl).trans (hc 0 (by omega))
        rw [Nat.mul_one] at this
        exact this
      have y1 : wr.cell? ⟨b, o, none⟩ = some (.string c.ch[0]) := by
        have := (HB.out.cell (p := ⟨b, o + 0 * 1 + 0, none⟩) hbl').trans (hc' 0 (by omega))
        exact this
      rw [hb] at x3
      have hd : c.ch.headD ⟨#[]⟩ = c.ch[0] := headD_get (by omega)
      have HN := hide1 (sameTo_next hi1 hlt)
      rw [hs.out, hd] at HN
      have HM := hide1 (fun h => sameTo_more (l := c.ch) hi1 hlt h)
      clear hc hc' hd hb hs
      generalize c.ch[i] = z at *
      generalize c.ch[0] = z0 at *
      cases cz : (z.toList == z0.toList)
      · rw [cz] at HN
        have q : (z.toList != z0.toList) = true := by simp [bne, cz]
        have HQ := hide1 (HM.out (by rw [HN.out]; rfl))
        clear HN HM
        go_wp2_with fail
        go_quiet (fail)
        go_wp2
        go_ret
        exact ⟨by rw [HQ.out]; rfl, below_drewN (F0.out.2.trans (HB.out.mono F0.out.2.size)) nq⟩
      · rw [cz] at HN
        have q : (z.toList != z0.toList) = false := by simp [bne, cz]
        have HQ := hide1 (show sameTo c.ch (i + 1) = true by rw [HN.out]; rfl)
        clear HN HM
        go_wp2_with fail
        go_quiet (fail)
        go_wp2
        go_roundw
        case rel => exact ⟨i + 1, by omega, .inl (by omega), by go_num, HQ, hide1 (below_drewN HB.out nq)⟩
        case measure => simp [intOf]; omega
    · have k1 : ¬ ((i : Int) < (c.ch.length : Int)) := by omega
      have HQ := hide1 (show oneL c.ch = true by
        by_cases h : i = c.ch.length
        · rw [← sameTo_all, ← h]; exact hs.out
        · have h0 : c.ch.length = 0 := by omega
          rw [List.eq_nil_of_length_eq_zero h0]; rfl)
      go_wp2
      go_ret
      exact ⟨by rw [HQ.out]; rfl, F0.out.2.trans (HB.out.mono F0.out.2.size)⟩

def plN (n : Nat) : List Int := [-1, (n : Int), (n : Int) + 1, 9223372036854775807, -9223372036854775808]
theorem plN_in (n j : Nat) (hn : n ≤ 1000) : -9223372036854775808 ≤ (plN n).getD j 0 ∧ (plN n).getD j 0 ≤ 9223372036854775807 := by
  match j with
  | 0 => exact ⟨by show (-9223372036854775808 : Int) ≤ -1; decide, by show (-1 : Int) ≤ 9223372036854775807; decide⟩
  | 1 => exact ⟨by show (-9223372036854775808 : Int) ≤ (n : Int); omega, by show (n : Int) ≤ 9223372036854775807; omega⟩
  | 2 => exact ⟨by show (-9223372036854775808 : Int) ≤ (n : Int) + 1; omega, by show (n : Int) + 1 ≤ 9223372036854775807; omega⟩
  | 3 => exact ⟨by show (-9223372036854775808 : Int) ≤ 9223372036854775807; decide, by show (9223372036854775807 : Int) ≤ 9223372036854775807; decide⟩
  | 4 => exact ⟨by show (-9223372036854775808 : Int) ≤ -9223372036854775808; decide, by show (-9223372036854775808 : Int) ≤ 9223372036854775807; decide⟩
  | k + 5 => exact ⟨by show (-9223372036854775808 : Int) ≤ 0; decide, by show (0 : Int) ≤ 9223372036854775807; decide⟩
set_option maxHeartbeats 400000 in
theorem placeN_any {B : Nat} {w : World} {a : Option Addr} {len cap g : Nat} (h : Drw B w a len cap g) (n : Nat) (hn1 : 1 ≤ n) (hn : n ≤ 1000) :
    Calls Try.prog 45 #[.pointer (some ⟨g, 0, none⟩), .int .i64 (n : Int)] w fun e w' => ∃ z : Int, e = .returned (.int .i64 z) ∧ (-9223372036854775808 ≤ z ∧ z ≤ 9223372036854775807) ∧ Drw B w' a len cap g ∧ w.grownBy w' (some g) := by
  have qn : IntKind.i64.wrap ((n : Int) + 1) = (n : Int) + 1 := IntWalk.i64_in _ ⟨by omega, by omega⟩
  go_enter Try.func45, Try.ntmps45
  go_wp2_with fail
  refine (once_any h 15 (by omega)).mono ?_
  rintro e w1 ⟨b, rfl, h1, hb1⟩
  cases b with
  | true =>
    go_wp2_with fail
    have hlt := h1.lt
    refine (pickInt_any (h1.later ((Below.refl _ _).alloc (Nat.le_refl _) _)) w1.heap.size 5 5 (by omega) (by omega) (by omega) (fun j => (plN n).getD j 0) (fun j hj => ?_) (by rw [World.size_alloc]; omega)).mono ?_
    · rw [World.cell?_alloc_at _ _ _ _ rfl]
      match j, hj with
      | 0, _ => rfl
      | 1, _ => rfl
      | 2, _ => rfl
      | 3, _ => rfl
      | 4, _ => rfl
    · rintro e w2 ⟨j, rfl, h2, hb2⟩
      have hin := hide1 (plN_in n j hn)
      generalize (plN n).getD j 0 = z at *
      go_wp2
      go_ret
      exact ⟨_, rfl, hin.out, h2, hb1.trans ((World.grownBy_alloc w1 _ _).trans hb2)⟩
  | false =>
    go_wp2_with (go_at_call 44; refine (below_any h1 (n : Int) (by omega)).mono ?_; rintro e w2 ⟨y, rfl, hy, _, h2, hb2⟩)
    go_ret
    exact ⟨_, rfl, ⟨by omega, by have := hy (by omega); omega⟩, h2, hb1.trans hb2⟩
theorem drawCN_any (w : World) (a : Option Addr) (len cap : Nat) (hc : Code w.heap.size w a len) :
    Calls Try.prog 21 #[.slice a len cap] w fun e w' => ∃ v t : Int, e = .returned (.tuple #[.int .i64 v, .int .i64 t]) ∧ (-9223372036854775808 ≤ v ∧ v ≤ 9223372036854775807) ∧ (-9223372036854775808 ≤ t ∧ t ≤ 9223372036854775807) ∧ Below w.heap.size w w' := by
  go_enter Try.func21, Try.ntmps21
  go_wp2_with fail
  refine (new_any w a len cap hc).mono ?_
  rintro e w1 ⟨g, rfl, h1, hb1⟩
  have hBg := h1.cur.1
  have h1b := h1.base
  go_wp2_with fail
  refine (placeN_any h1 6 (by omega) (by omega)).mono ?_
  rintro e w2 ⟨v, rfl, hv, h2, hb2⟩
  have HV := hide1 hv
  clear hv
  go_wp2_with fail
  refine (placeN_any h2 5 (by omega) (by omega)).mono ?_
  rintro e w3 ⟨t, rfl, ht, h3, hb3⟩
  have HT := hide1 ht
  clear ht
  go_wp2
  go_returns
  exact ⟨v, t, rfl, HV.out, HT.out, hb1.trans (grow_below (hb2.trans hb3) hBg h1b)⟩
end Go.Proofs.Ytgehdgmllilmgaa
