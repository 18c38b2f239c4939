/- Who serves; who is alike: plain. -/
import Derived.Test.YtcahaimefgkmiaaRsO
import Derived.Test.YtcahaimefgkmiaaBoP
namespace Go.Proofs.Ytcahaimefgkmiaa
open Go.RowKit
set_option linter.unusedVariables false

/-- The view of an epoch; nobody is in it where there is none. -/
def vwO (vs : List (List Int)) (e : Int) : List Int := if 1 ≤ e then vs.getD (e - 1).toNat [] else []
def HdG (vs : List (List Int)) (m : Mb) : Prop := ∃ t, vwO vs m.ep = m.id :: t
def OneP (vs : List (List Int)) (ms : List Mb) : Prop := (∀ m ∈ ms, m.se = true → HdG vs m) ∧ ∀ i (hi : i < ms.length) k (hk : k < ms.length), i ≠ k → ms[i].se = true → ms[k].se = true → ms[i].ep ≠ ms[k].ep
def MusG (vs : List (List Int)) (a b : Mb) : Prop := a.se = true ∧ a.tk.op = 0 ∧ b.ba = true ∧ b.ep = a.ep ∧ b.id ∈ vwO vs a.ep
def AlkP (vs : List (List Int)) (ms : List Mb) : Prop := ∀ i (hi : i < ms.length) k (hk : k < ms.length), i ≠ k → MusG vs ms[i] ms[k] → ms[i].is = ms[k].is
def Gv.vs (g : Gv) : List (List Int) := g.M.map (·.l)
def Gv.ms (g : Gv) : List Mb := g.L.map (·.m)
theorem vwO_in {M : List Vw} {e : Nat} (h : e < M.length) : vwO (M.map (·.l)) ((e : Int) + 1) = M[e].l := by
  unfold vwO
  rw [if_pos (by omega)]
  have : ((e : Int) + 1 - 1).toNat = e := by omega
  rw [this]
  simp [h]
theorem vwO_out {M : List Vw} {e : Int} (h : ¬ (1 ≤ e ∧ e ≤ M.length)) : vwO (M.map (·.l)) e = [] := by
  unfold vwO
  by_cases h1 : 1 ≤ e
  · rw [if_pos h1]
    rw [List.getD_eq_getElem?_getD, List.getElem?_eq_none (by simp; omega)]
    rfl
  · rw [if_neg h1]
theorem OneP.of_L {g : Gv} : OneP g.vs g.ms ↔ (∀ x ∈ g.L, x.m.se = true → HdG g.vs x.m) ∧ ∀ i (hi : i < g.L.length) k (hk : k < g.L.length), i ≠ k → g.L[i].m.se = true → g.L[k].m.se = true → g.L[i].m.ep ≠ g.L[k].m.ep := by
  unfold OneP Gv.ms
  simp only [List.mem_map, forall_exists_index, and_imp, forall_apply_eq_imp_iff₂, List.length_map, List.getElem_map]
end Go.Proofs.Ytcahaimefgkmiaa
