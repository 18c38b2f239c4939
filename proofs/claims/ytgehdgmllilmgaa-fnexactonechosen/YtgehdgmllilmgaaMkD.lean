/- Councils that are small; a council that is read later. -/
import Derived.Test.YtgehdgmllilmgaaMkC
import Derived.Test.YtgehdgmllilmgaaCoEq
namespace Go.Proofs.Ytgehdgmllilmgaa
open Go.RowKit
set_option linter.unusedVariables false

/-- Small enough for all that the statements do. -/
structure Sc12 (c : Cn) : Prop where
  v : c.vs.length ≤ 1000
  t : c.ts.length ≤ 4
  s : ∀ y ∈ c.ts, tsz y ≤ 10000
  n : c.ns.length ≤ 10000
  c : c.ch.length ≤ 10000
theorem Sc12.sm {c : Cn} {A : CA} (h : Sc12 c) (he : A.L.map (·.y) = c.ts) : SmC A c := by
  have hl : A.L.length = c.ts.length := by rw [← he, List.length_map]
  exact ⟨h.v, by rw [hl]; exact h.t, fun t ht => h.s t.y (by rw [← he]; exact List.mem_map.2 ⟨t, ht, rfl⟩), h.n, h.c⟩
theorem RdC12.later {lo : Nat → Prop} {w w' : World} {B : Nat} {A : CA} {c : Cn} (h : RdC12 lo w B A c) (hb : Below w.heap.size w w') : RdC12 lo w' B A c :=
  ⟨h.v.later hb, h.vn, h.e, h.t.later hb, h.tn, fun t ht => ⟨(h.r t ht).1.later hb, (h.r t ht).2.1, (h.r t ht).2.2.1.later hb, (h.r t ht).2.2.2⟩, h.n.later hb, h.nn, h.nl, h.c.later hb, h.cn⟩
theorem new_sc (v t : Int) : Sc12 (newC v t) := by
  unfold newC
  by_cases c : okNew v t
  · rw [if_pos c]
    obtain ⟨⟨h1, h2⟩, h3, h4⟩ := c
    obtain ⟨l1, l2, l3, l4⟩ := newCn_len v.toNat t.toNat
    refine ⟨by rw [l1]; omega, by rw [l2]; omega, fun y hy => ?_, by rw [l3]; omega, by rw [l4]; omega⟩
    obtain ⟨i, _, rfl⟩ := List.mem_map.1 hy
    show 5 + 6 * 0 + 0 ≤ 10000
    omega
  · rw [if_neg c]
    exact ⟨by decide, by decide, fun y hy => by simp [zeroCn] at hy, by decide, by decide⟩
theorem Sc12.eq {c : Cn} (h : Sc12 c) : Sm12 c := by
  have h1 := h.v
  have h2 := h.t
  have h3 := h.n
  have h4 := h.c
  refine ⟨by omega, by omega, by omega, by omega, fun y hy => ?_⟩
  have := h.s y hy
  unfold tsz at this
  omega
/-- A council in a box, as cells. -/
theorem cells4 {w : World} {g : Nat} {a b c d : Value} (h : Blk w g 32 [a, b, c, d]) : w.cell? ⟨g, 0, none⟩ = some a ∧ w.cell? ⟨g, 1, none⟩ = some b ∧ w.cell? ⟨g, 2, none⟩ = some c ∧ w.cell? ⟨g, 3, none⟩ = some d := ⟨h.cell 0, h.cell 1, h.cell 2, h.cell 3⟩
end Go.Proofs.Ytgehdgmllilmgaa
