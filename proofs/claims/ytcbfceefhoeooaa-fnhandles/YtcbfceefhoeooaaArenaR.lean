/- The contracts of the model's functions that read a place: the slot of a handle, what lies there, handles, how many are used. -/
import Derived.Test.YtcbfceefhoeooaaArenaO
namespace Go.Proofs.Ytcbfceefhoeooaa
open Go.RowKit

/-- A handle is one of slot k. -/
structure AtA (l : List Sl) (f h : Int) (k : Nat) : Prop where
  ok : OkA l f
  nonneg : 0 ≤ h
  lt : k < l.length
  place : h % 24 = (k : Int)
  used : l[k].used = true
  gen : l[k].gen = h / 24

theorem box_cells {w w1 : World} {o : Obj} {cs : Array Value} {t : TypeId} (ho : o = .cells cs t) (hb : Below (w.alloc o).heap.size (w.alloc o) w1) (j : Nat) : w1.cell? ⟨w.heap.size, j, none⟩ = cs[j]? := by
  subst ho
  rw [hb.cell (p := ⟨w.heap.size, j, none⟩) (by dsimp only; rw [World.size_alloc]; omega), World.cell?_alloc_at _ _ _ _ rfl]
theorem below_box {w w1 : World} {o : Obj} (hb : Below (w.alloc o).heap.size (w.alloc o) w1) : Below w.heap.size w w1 :=
  ((Below.refl _ _).alloc (Nat.le_refl _) _).trans (hb.mono (by rw [World.size_alloc]; omega))

set_option maxRecDepth 100000 in
set_option maxHeartbeats 1000000 in
theorem specAt_any (ao : Option Addr) (l : List Sl) (ca : Nat) (f h : Int) (w : World) (hl : l.length ≤ 1048576) (h1 : -9223372036854775808 ≤ h) (h2 : h ≤ 9223372036854775807) (hA : RdA w ao l) :
    Calls Try.prog 41 #[arV ao l.length ca f, .int .i64 h] w fun e w' => ((∃ k : Nat, e = .returned (.int .i64 (k : Int)) ∧ AtA l f h k) ∨ (e = .returned (.int .i64 (-1)) ∧ ∀ k, ¬ AtA l f h k)) ∧ Below w.heap.size w w' := by
  have C1 := hide1 (fun o => specOk_any ao l ca f (w.alloc o) hl (hA.later ((Below.refl _ _).alloc (Nat.le_refl _) o)))
  have HA := hide1 hA
  clear hA
  unfold arV at C1 ⊢
  go_enter Try.func41, Try.ntmps41
  go_wp2_with fail
  refine (C1.out _).mono ?_
  rintro e w1 ⟨x, rfl, hx, hb1⟩
  have x0 : w1.cell? ⟨w.heap.size, 0, none⟩ = some (.slice ao l.length ca) := box_cells rfl hb1 0
  have B1 := hide1 (below_box hb1)
  have HX := hide1 hx
  clear hb1 hx
  rcases x with _ | _
  · have HN := hide1 (show ∀ k, ¬ AtA l f h k from fun k hk => by have := HX.out.2 hk.ok; cases this)
    clear HX
    go_wp2
    go_ret
    exact ⟨.inr ⟨rfl, HN.out⟩, B1.out⟩
  · have HOK := hide1 (HX.out.1 rfl)
    clear HX
    by_cases hneg : h < 0
    · have q : decide (h < 0) = true := decide_eq_true hneg
      have HN := hide1 (show ∀ k, ¬ AtA l f h k from fun k hk => by have := hk.nonneg; omega)
      clear hneg
      go_wp2
      go_ret
      exact ⟨.inr ⟨rfl, HN.out⟩, B1.out⟩
    · obtain ⟨n, rfl⟩ := Int.eq_ofNat_of_zero_le (show 0 ≤ h by omega)
      have q0 : decide ((n : Int) < 0) = false := by simp
      obtain ⟨k, hk⟩ : ∃ k, n % 24 = k := ⟨_, rfl⟩
      have q1 : (n : Int) % 24 = (k : Int) := by omega
      have Q1 := hide1 q1
      have HK := hide1 hk
      clear hneg hk
      by_cases hlt : k < l.length
      · have q2 : decide ((l.length : Int) ≤ (k : Int)) = false := by simp; omega
        have k1 : (k : Int) < (l.length : Int) := by omega
        obtain ⟨g, rfl, hg, hs⟩ := HA.out.at k hlt
        obtain ⟨y0, y1, y2, y3, y4⟩ := hs.below B1.out hg
        clear hs y2 y3 y4
        obtain ⟨r, hr⟩ : ∃ r, n / 24 = r := ⟨_, rfl⟩
        have q3 : (n : Int) / 24 = (r : Int) := by omega
        have HR := hide1 hr
        clear hr
        rcases hu : l[k].used with _ | _
        · rw [hu] at y1
          have HN := hide1 (show ∀ j, ¬ AtA l f (n : Int) j from fun j hj => by
            have h1 := hj.place
            have h2 := HK.out
            obtain rfl : j = k := by omega
            have := hj.used
            rw [hu] at this
            cases this)
          clear hu
          go_wp2
          go_ret
          exact ⟨.inr ⟨rfl, HN.out⟩, B1.out⟩
        · rw [hu] at y1
          by_cases hgn : l[k].gen = (r : Int)
          · rw [hgn] at y0
            have q4 : ((r : Int) != (r : Int)) = false := by simp
            have HY := hide1 (show AtA l f (n : Int) k from ⟨HOK.out, by omega, hlt, by have := HK.out; omega, hu, by have := HR.out; rw [hgn]; omega⟩)
            clear hu hgn
            go_wp2
            go_ret
            exact ⟨.inl ⟨k, by first | rfl | (show Ending.returned (.int .i64 ((n : Int) % 24)) = _; rw [Q1.out]), HY.out⟩, B1.out⟩
          · have q4 : (l[k].gen != (r : Int)) = true := by simp [hgn]
            have HN := hide1 (show ∀ j, ¬ AtA l f (n : Int) j from fun j hj => by
              have h1 := hj.place
              have h2 := HK.out
              obtain rfl : j = k := by omega
              have h3 := hj.gen
              have h4 := HR.out
              exact hgn (by rw [h3]; omega))
            clear hu hgn
            generalize l[k].gen = gn at *
            go_wp2
            go_ret
            exact ⟨.inr ⟨rfl, HN.out⟩, B1.out⟩
      · have q2 : decide ((l.length : Int) ≤ (k : Int)) = true := by simp; omega
        have q2' : decide ((l.length : Int) ≤ (n : Int) % 24) = true := by rw [q1]; exact q2
        have HN := hide1 (show ∀ j, ¬ AtA l f (n : Int) j from fun j hj => by
          have h1 := hj.place
          have h2 := HK.out
          have h3 := hj.lt
          omega)
        have hge : l.length ≤ k := by omega
        clear hlt
        go_wp2
        go_ret
        exact ⟨.inr ⟨rfl, HN.out⟩, B1.out⟩

/-- The handle of a place, -1 where there is none. -/
def HanA (l : List Sl) (f p : Int) (r : Int) : Prop := (∃ (k : Nat) (hk : k < l.length), p = (k : Int) ∧ OkA l f ∧ l[k].used = true ∧ r = 24 * l[k].gen + (k : Int)) ∨ (r = -1 ∧ ¬ ∃ (k : Nat) (hk : k < l.length), p = (k : Int) ∧ OkA l f ∧ l[k].used = true)

set_option maxRecDepth 100000 in
set_option maxHeartbeats 1000000 in
theorem specHandle_any (ao : Option Addr) (l : List Sl) (ca : Nat) (f p : Int) (w : World) (hl : l.length ≤ 1048576) (hA : RdA w ao l) :
    Calls Try.prog 31 #[arV ao l.length ca f, .int .i64 p] w fun e w' => (∃ r : Int, e = .returned (.int .i64 r) ∧ HanA l f p r) ∧ Below w.heap.size w w' := by
  have C1 := hide1 (fun o => specOk_any ao l ca f (w.alloc o) hl (hA.later ((Below.refl _ _).alloc (Nat.le_refl _) o)))
  have HA := hide1 hA
  clear hA
  unfold arV at C1 ⊢
  go_enter Try.func31, Try.ntmps31
  go_wp2_with fail
  refine (C1.out _).mono ?_
  rintro e w1 ⟨x, rfl, hx, hb1⟩
  have x0 : w1.cell? ⟨w.heap.size, 0, none⟩ = some (.slice ao l.length ca) := box_cells rfl hb1 0
  have B1 := hide1 (below_box hb1)
  have HX := hide1 hx
  clear hb1 hx
  rcases x with _ | _
  · have HN := hide1 (show HanA l f p (-1) from .inr ⟨rfl, fun ⟨k, hk, _, ho, _⟩ => by have := HX.out.2 ho; cases this⟩)
    clear HX
    go_wp2
    go_ret
    exact ⟨⟨_, rfl, HN.out⟩, B1.out⟩
  · have HOK := hide1 (HX.out.1 rfl)
    clear HX
    have ci := fun w => in_any p 0 ((l.length : Int) - 1) w
    by_cases hr : 0 ≤ p ∧ p ≤ (l.length : Int) - 1
    · rw [show (decide ((0 : Int) ≤ p) && decide (p ≤ (l.length : Int) - 1)) = true by simp; omega] at ci
      have CI := hide1 ci
      obtain ⟨k, rfl⟩ := Int.eq_ofNat_of_zero_le hr.1
      have hlt : k < l.length := by omega
      have k1 : (k : Int) < (l.length : Int) := by omega
      obtain ⟨g, rfl, hg, hs⟩ := HA.out.at k hlt
      obtain ⟨y0, y1, y2, y3, y4⟩ := hs.below B1.out hg
      have hgn := HOK.out.slots k hlt
      obtain ⟨g1, g2⟩ : 0 ≤ l[k].gen ∧ l[k].gen ≤ 41666665 := ⟨hgn.1, hgn.2.1⟩
      clear hs y2 y3 y4 ci hr hgn
      rcases hu : l[k].used with _ | _
      · rw [hu] at y1
        have HN := hide1 (show HanA l f (k : Int) (-1) from .inr ⟨rfl, fun ⟨j, hj, he, _, h⟩ => by obtain rfl : k = j := (by omega); rw [hu] at h; cases h⟩)
        clear hu
        go_wp2_with fail
        refine (CI.out _).mono ?_
        rintro e w2 ⟨rfl, rfl⟩
        go_wp2
        go_ret
        exact ⟨⟨_, rfl, HN.out⟩, B1.out⟩
      · rw [hu] at y1
        have HN := hide1 (show HanA l f (k : Int) (24 * l[k].gen + (k : Int)) from .inl ⟨k, hlt, rfl, HOK.out, hu, rfl⟩)
        clear hu
        generalize l[k].gen = gn at *
        go_wp2_with fail
        refine (CI.out _).mono ?_
        rintro e w2 ⟨rfl, rfl⟩
        go_wp2
        go_ret
        exact ⟨⟨_, rfl, HN.out⟩, B1.out⟩
    · rw [show (decide ((0 : Int) ≤ p) && decide (p ≤ (l.length : Int) - 1)) = false by simp; omega] at ci
      have CI := hide1 ci
      have HN := hide1 (show HanA l f p (-1) from .inr ⟨rfl, fun ⟨j, hj, he, _, _⟩ => by omega⟩)
      clear ci hr
      go_wp2_with fail
      refine (CI.out _).mono ?_
      rintro e w2 ⟨rfl, rfl⟩
      go_wp2
      go_ret
      exact ⟨⟨_, rfl, HN.out⟩, B1.out⟩

/-- How many of the first are used. -/
def usedN (l : List Sl) : Nat → Nat
  | 0 => 0
  | i + 1 => usedN l i + (if (l[i]?.map (·.used)) = some true then 1 else 0)
theorem usedN_le (l : List Sl) : ∀ i, usedN l i ≤ i
  | 0 => Nat.le_refl _
  | i + 1 => by have := usedN_le l i; rw [usedN]; split <;> omega

end Go.Proofs.Ytcbfceefhoeooaa
