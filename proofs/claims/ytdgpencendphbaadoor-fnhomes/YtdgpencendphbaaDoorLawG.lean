/- What the laws of rings hold from world to world; the homes of a key, plain. -/
import Derived.Test.YtdgpencendphbaaDoorRiG
namespace Go.Proofs.YtdgpencendphbaaDoor
open Go.RowKit
set_option linter.unusedVariables false

/-- Nodes in a row, their ring in a box. -/
structure StG (w0 w : World) (A : Nat) (bn : Option Addr) (L : List Int) (bo : Option Addr) (R : List Sp) (co : Nat) : Prop where
  rn : RdZ w bn L
  rr : RdP w bo R
  vr : VarR w 28 A bo R.length co
  bel : Below w0.heap.size w0 w
theorem StG.later {w0 w w' : World} {A : Nat} {bn bo : Option Addr} {L : List Int} {R : List Sp} {co : Nat} (h : StG w0 w A bn L bo R co) (hb : Below w.heap.size w w') : StG w0 w' A bn L bo R co :=
  ⟨h.rn.later hb, h.rr.later hb, h.vr.later hb, h.bel.trans (hb.mono h.bel.size)⟩
theorem own_cap1 {w : World} {base n c : Nat} {e : TypeId} {ao : Option Addr} {xs : List Value} (h : w.ownsRow base e 1 (.slice ao n c) n xs) : n ≤ c ∧ c ≤ maxLen := by
  rcases h.2 with ⟨hv, h0⟩ | ⟨g, cap, cur, hv, _, _, h1, h2, _⟩
  · injection hv with e1 e2 e3
    subst e3
    exact ⟨by omega, Nat.zero_le _⟩
  · injection hv with e1 e2 e3
    subst e3
    exact ⟨h1, h2⟩
theorem wf_small {v : Int} (h1 : 1 ≤ v) (h2 : v ≤ 9) : (Lit.int .i64 v).wf = true := WalkArith.wf_i64 (by omega)
theorem ring_wf {L : List Int} (h : okNds L) : WfN (ringL spotF L) := by
  intro i hi
  have hm := List.getElem_mem hi
  obtain ⟨v, hv, k, _, e⟩ := (ringL_in spotF L _).1 hm
  have := h.rng v hv
  rw [e]
  exact wf_small this.1 this.2
theorem okNds.nodup {L : List Int} (h : okNds L) : L.Nodup := h.asc.imp (fun {a b} h e => by subst e; exact absurd h (Int.lt_irrefl _))
theorem ring_ne {L : List Int} (h : okNds L) : ringL spotF L ≠ [] := fun e => by
  have := ringL_len spotF L
  rw [e] at this
  have := h.1.1
  simp at *
  omega
theorem allH_in {L : List Int} {h v : Int} : v ∈ allH (ringL spotF L) h ↔ v ∈ L := by rw [allH_mem, ringL_node]
/-- Three homes of a key: how many, the first one, each once, nodes all. -/
theorem homes3 {L : List Int} (hok : okNds L) (h : Int) : (homesS (ringL spotF L) h 3).length = min 3 L.length ∧ (∀ (h0 : 0 < (homesS (ringL spotF L) h 3).length), (homesS (ringL spotF L) h 3)[0] = homeS (ringL spotF L) h) ∧ (homesS (ringL spotF L) h 3).Nodup ∧ (∀ v ∈ homesS (ringL spotF L) h 3, v ∈ L) ∧ homeS (ringL spotF L) h ∈ L := by
  have e : homesS (ringL spotF L) h 3 = (allH (ringL spotF L) h).take 3 := rfl
  obtain ⟨r, hr⟩ := allH_first (ring_ne hok) h
  rw [e]
  refine ⟨by rw [List.length_take, allH_len spotF hok.nodup], ?_, ?_, ?_, ?_⟩
  · intro h0
    simp only [List.getElem_take, hr]
    rfl
  · exact (once_nodup (seen := [])).sublist (List.take_sublist _ _)
  · intro v hv
    exact allH_in.1 (List.mem_of_mem_take hv)
  · have : homeS (ringL spotF L) h ∈ allH (ringL spotF L) h := by rw [hr]; exact List.mem_cons_self
    exact allH_in.1 this
theorem RdZ.takeG {w : World} {a : Option Addr} {l : List Int} (h : RdZ w a l) (k : Nat) : RdZ w a (l.take k) := by
  intro i hi
  have hi' : i < l.length := by rw [List.length_take] at hi; omega
  obtain ⟨b, o, h1, h2, h3⟩ := h i hi'
  exact ⟨b, o, h1, h2, by rw [h3]; simp⟩
theorem nodup_take {l : List Int} (h : l.Nodup) {k : Nat} (hk : k < l.length) : ¬ l[k] ∈ l.take k := by
  intro hm
  obtain ⟨j, hj, e⟩ := List.getElem_of_mem hm
  have hj' : j < k := by rw [List.length_take] at hj; omega
  rw [List.getElem_take] at e
  have := (List.nodup_iff_pairwise_ne.1 h)
  rw [List.pairwise_iff_getElem] at this
  exact this j k (by omega) hk hj' e
end Go.Proofs.YtdgpencendphbaaDoor
