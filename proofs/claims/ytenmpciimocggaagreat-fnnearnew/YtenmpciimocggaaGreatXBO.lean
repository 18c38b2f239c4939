/- The contract of the model's test whether a place is right. -/
import Derived.Test.YtenmpciimocggaaGreatXB
import Derived.Deep.LoopGhost
namespace Go.Proofs.YtenmpciimocggaaGreat
open Go.RowKit

theorem pigeon : ∀ (n : Nat) (v : List Nat), v.Nodup → (∀ p ∈ v, p < n) → v.length ≤ n
  | 0, v, _, h => by
    match v, h with
    | [], _ => exact Nat.le_refl _
    | p :: v, h => exact absurd (h p (by simp)) (Nat.not_lt_zero _)
  | n + 1, v, hn, h => by
    by_cases c : n ∈ v
    · have ih := pigeon n (v.erase n) (hn.erase n) (fun p hp => by
        have h1 := h p (List.mem_of_mem_erase hp)
        have h2 : p ≠ n := ((hn.mem_erase_iff).1 hp).1
        omega)
      rw [List.length_erase_of_mem c] at ih
      omega
    · have ih := pigeon n v hn (fun p hp => by
        have h1 := h p hp
        have h2 : p ≠ n := fun e => c (e ▸ hp)
        omega)
      omega

theorem Tryz.infoBool : (Tryz.prog.info? 4).map (fun i => (i.zero, i.size, i.bytes)) = some (some (.bool false), 1, 1) := by kernel_rfl
/-- The cells of a row of truths. -/
def tc (l : List Bool) : List Value := l.map Value.bool
theorem tc_set (l : List Bool) (i : Nat) (b : Bool) : (tc l).set i (.bool b) = tc (l.set i b) := by unfold tc; rw [List.map_set]
/-- Which places were met. -/
def met (n : Nat) (vis : List Nat) : List Bool := (List.range n).map fun j => decide (j ∈ vis)
theorem met_length (n : Nat) (vis : List Nat) : (met n vis).length = n := by simp [met]
theorem met_at (n : Nat) (vis : List Nat) (j : Nat) (h : j < n) : (met n vis)[j]? = some (decide (j ∈ vis)) := by simp [met, h]
theorem met_nil (n : Nat) : met n [] = List.replicate n false := by
  refine List.ext_getElem? fun j => ?_
  by_cases h : j < n
  · rw [met_at n [] j h]; simp [h]
  · rw [List.getElem?_eq_none (by rw [met_length]; omega), List.getElem?_eq_none (by simp; omega)]
theorem met_snoc (n : Nat) (vis : List Nat) (p : Nat) (hp : p < n) : (met n vis).set p true = met n (vis ++ [p]) := by
  refine List.ext_getElem? fun j => ?_
  by_cases h : j < n
  · rw [met_at _ _ j h]
    by_cases e : p = j
    · subst e; rw [List.getElem?_set_self (by rw [met_length]; exact hp)]; simp
    · rw [List.getElem?_set_ne e, met_at _ _ j h]
      have : j ≠ p := fun h => e h.symm
      simp [this]
  · rw [List.getElem?_eq_none (by rw [List.length_set, met_length]; omega), List.getElem?_eq_none (by rw [met_length]; omega)]

/-- What the walk along the chain knows. -/
structure WayA (l : List Sl) (f a : Int) (vis : List Nat) : Prop where
  path : Path l f vis a
  nodup : vis.Nodup
  lt : ∀ p ∈ vis, p < l.length
theorem WayA.not_out {l : List Sl} {f a : Int} {vis : List Nat} (h : WayA l f a vis) (ha : a ≠ -1) (ho : ¬ (0 ≤ a ∧ a ≤ (l.length : Int) - 1)) : ¬ OkA l f := by
  rintro ⟨_, _, ⟨V, hV, _⟩, _⟩
  obtain ⟨V', rfl, hc⟩ := h.path.chain.1 hV
  match V', hc with
  | [], hc => exact ha hc
  | p :: V', hc =>
    have e : a = (p : Int) := hc.1
    have hp := hc.2.1
    omega
theorem WayA.not_seen {l : List Sl} {f : Int} {p : Nat} {vis : List Nat} (h : WayA l f (p : Int) vis) (hs : p ∈ vis) : ¬ OkA l f := by
  rintro ⟨_, _, ⟨V, hV, _⟩, _⟩
  obtain ⟨V', rfl, hc⟩ := h.path.chain.1 hV
  match V', hc with
  | [], hc => have e : (p : Int) = -1 := hc; omega
  | q :: V', hc =>
    have e : (p : Int) = (q : Int) := hc.1
    obtain rfl : p = q := by omega
    have := hV.nodup
    rw [List.nodup_append] at this
    exact this.2.2 p hs p (by simp) rfl
theorem WayA.not_used {l : List Sl} {f : Int} {p : Nat} {vis : List Nat} (h : WayA l f (p : Int) vis) (hp : p < l.length) (hu : l[p].used = true) : ¬ OkA l f := by
  rintro ⟨_, _, ⟨V, hV, hall⟩, _⟩
  obtain ⟨V', rfl, hc⟩ := h.path.chain.1 hV
  match V', hc with
  | [], hc => have e : (p : Int) = -1 := hc; omega
  | q :: V', hc =>
    have e : (p : Int) = (q : Int) := hc.1
    obtain rfl : p = q := by omega
    have := (hall p hp).2 (by simp)
    rw [hu] at this
    cases this
theorem WayA.next {l : List Sl} {f : Int} {p : Nat} {vis : List Nat} (h : WayA l f (p : Int) vis) (hp : p < l.length) (hs : p ∉ vis) : WayA l f l[p].next (vis ++ [p]) := by
  refine ⟨h.path.snoc hp, ?_, ?_⟩
  · rw [List.nodup_append]
    refine ⟨h.nodup, by simp, ?_⟩
    intro a ha b hb e
    simp at hb
    subst hb e
    exact hs ha
  · intro q hq
    rcases List.mem_append.1 hq with h1 | h1
    · exact h.lt q h1
    · simp at h1; omega
theorem WayA.room {l : List Sl} {f : Int} {p : Nat} {vis : List Nat} (h : WayA l f (p : Int) vis) (hp : p < l.length) (hs : p ∉ vis) : vis.length < l.length := by
  have w := h.next hp hs
  have := pigeon l.length _ w.nodup w.lt
  simp at this
  omega

theorem str_nil {z : ByteArray} (h : z.size = 0) : z.toList = [] := by
  rw [ByteArray.toList_eq]
  exact List.eq_nil_of_length_eq_zero (by simpa using h)
theorem str_ne {z : ByteArray} (h : ¬ z.size = 0) : ¬ z.toList = [] := by
  rw [ByteArray.toList_eq]
  intro e
  have := congrArg List.length e
  simp at this
  exact h (by simp [this])
theorem OkA.met {l : List Sl} {f : Int} {vis : List Nat} (h : OkA l f) (hc : Chain l f vis) (i : Nat) (hi : i < l.length) : l[i].used = false ↔ i ∈ vis := by
  obtain ⟨V, hV, hall⟩ := h.chain
  rw [← Chain.det hV hc]
  exact hall i hi

end Go.Proofs.YtenmpciimocggaaGreat
namespace Go.Proofs.YtenmpciimocggaaGreat
open Go.RowKit

/-- A handle is one of slot k. -/
structure AtA (l : List Sl) (f h : Int) (k : Nat) : Prop where
  ok : OkA l f
  nonneg : 0 ≤ h
  lt : k < l.length
  place : h % 24 = (k : Int)
  used : l[k].used = true
  gen : l[k].gen = h / 24

theorem box_cells {w w1 : World} {o : Obj} {cs : Array Value} {t : TypeId} (ho : o = .cells cs t) (hb : Below (w.alloc o).heap.size (w.alloc o) w1) (j : Nat) : w1.cell? ⟨w.heap.size, j, none⟩ = cs[j]? := by
  subst ho
  rw [hb.cell (p := ⟨w.heap.size, j, none⟩) (by dsimp only; rw [World.size_alloc]; omega), World.cell?_alloc_at _ _ _ _ rfl]
theorem below_box {w w1 : World} {o : Obj} (hb : Below (w.alloc o).heap.size (w.alloc o) w1) : Below w.heap.size w w1 :=
  ((Below.refl _ _).alloc (Nat.le_refl _) _).trans (hb.mono (by rw [World.size_alloc]; omega))

/-- The handle of a place, -1 where there is none. -/
def HanA (l : List Sl) (f p : Int) (r : Int) : Prop := (∃ (k : Nat) (hk : k < l.length), p = (k : Int) ∧ OkA l f ∧ l[k].used = true ∧ r = 24 * l[k].gen + (k : Int)) ∨ (r = -1 ∧ ¬ ∃ (k : Nat) (hk : k < l.length), p = (k : Int) ∧ OkA l f ∧ l[k].used = true)

/-- How many of the first are used. -/
def usedN (l : List Sl) : Nat → Nat
  | 0 => 0
  | i + 1 => usedN l i + (if (l[i]?.map (·.used)) = some true then 1 else 0)
theorem usedN_le (l : List Sl) : ∀ i, usedN l i ≤ i
  | 0 => Nat.le_refl _
  | i + 1 => by have := usedN_le l i; rw [usedN]; split <;> omega

end Go.Proofs.YtenmpciimocggaaGreat
