/- Decisions, plain: what a run of right events has at its end. -/
import Derived.Test.YtgehdgmllilmgaaYX
import Derived.Test.YtgehdgmllilmgaaCoO
namespace Go.Proofs.Ytgehdgmllilmgaa
open Go.RowKit
set_option linter.unusedVariables false

/-- How many of the first k have it. -/
def cntP (P : Nat → Bool) : Nat → Nat
  | 0 => 0
  | k + 1 => cntP P k + (if P k then 1 else 0)
theorem cntP_ge (P : Nat → Bool) : ∀ (k : Nat) (S : List Nat), S.Nodup → (∀ i ∈ S, i < k ∧ P i = true) → S.length ≤ cntP P k
  | 0, S, _, h => by
    cases S with
    | nil => exact Nat.le_refl _
    | cons a l => exact absurd (h a (by simp)).1 (by omega)
  | k + 1, S, hn, h => by
    unfold cntP
    by_cases c : k ∈ S
    · have h1 := cntP_ge P k (S.erase k) (hn.erase k) (fun x hx => by
        have hm := (hn.mem_erase_iff).1 hx
        exact ⟨by have := (h x hm.2).1; have := hm.1; omega, (h x hm.2).2⟩)
      rw [List.length_erase_of_mem c] at h1
      rw [if_pos (h k c).2]
      omega
    · have h1 := cntP_ge P k S hn (fun x hx => by
        have := (h x hx).1
        have : x ≠ k := fun e => c (e ▸ hx)
        exact ⟨by omega, (h x hx).2⟩)
      omega
theorem cntP_le (P : Nat → Bool) : ∀ k, cntP P k ≤ k
  | 0 => Nat.le_refl _
  | k + 1 => by
    have := cntP_le P k
    unfold cntP
    split <;> omega
/-- A voice took this value. -/
def tookB (vs : List Vo) (x : ByteArray) (i : Nat) : Bool := decide (0 < (vj vs i).t) && decide ((vj vs i).v = x)
structure RunD (v t : Nat) (es : List Hp) (c : Cn) : Prop where
  nv : c.vs.length = v
  nt : c.ts.length = t
  al : ∀ x ∈ c.ch, ∀ y ∈ c.ch, x = y
  pr : ∀ x ∈ c.ch, ∃ e ∈ es, e.k = 1 ∧ e.v = x
  mo : ∀ x ∈ c.ch, mostI (v : Int) ≤ (cntP (tookB c.vs x) v : Int)
  ok : ∀ i, i < v → okVo (vj c.vs i)
  vz : ∀ x ∈ c.vs, x.v.size ≤ 40
  cz : c.ch.length ≤ 80
  ce : ∀ x ∈ c.ch, x.size ≤ 40
theorem run_facts {v t : Nat} {es : List Hp} {R : Cn × List Int × Bool} (hv : 1 ≤ v ∧ v ≤ 5) (ht : 1 ≤ t ∧ t ≤ 4) (hl : es.length ≤ 80) (he : ∀ e ∈ es, okHp t e) (hR : runR v t es = R) : R.2.2 = true ∧ RunD v t es R.1 := by
  have ok1 : okNew (v : Int) (t : Int) ∧ okHps (t : Int) es := ⟨⟨⟨by omega, by omega⟩, by omega, by omega⟩, hl, he⟩
  unfold runR at hR
  rw [if_pos ok1, Int.toNat_natCast, Int.toNat_natCast] at hR
  subst hR
  refine ⟨rfl, ?_⟩
  show RunD v t es (runC (newCn v t) es).1
  have G : GC v t (fun x => ∃ e ∈ es, e.k = 1 ∧ e.v = x) (runC (newCn v t) es).1 := GC.runC es (GC.new v t (by omega)) he (fun e hm hk => ⟨e, hm, hk, rfl⟩)
  have S : Sz (0 + es.length) (runC (newCn v t) es).1 := Sz.runC es (Sz.new v t hv.2) (fun e hm => okHp.size (he e hm))
  obtain ⟨V, A, G⟩ := G
  have hp : ∀ x ∈ (runC (newCn v t) es).1.ch, ∃ e ∈ es, e.k = 1 ∧ e.v = x := fun x hx => (G.most hx).1
  refine ⟨G.nv, G.nt, fun x hx y hy => G.alike hx hy, hp, fun x hx => ?_, G.ok, S.v, by have := S.h; omega, fun x hx => ?_⟩
  · obtain ⟨_, T, h1, h2, h3⟩ := G.most hx
    have h4 := cntP_ge (tookB (runC (newCn v t) es).1.vs x) v T h1 (fun i hi => ⟨(h3 i hi).1, by unfold tookB; rw [decide_eq_true (h3 i hi).2.1, decide_eq_true (h3 i hi).2.2]; rfl⟩)
    unfold mostI
    rw [if_neg (by omega)]
    omega
  · obtain ⟨e, hm, _, rfl⟩ := hp x hx
    exact okHp.size (he e hm)
theorem oneL_all {l : List ByteArray} (h : ∀ x ∈ l, ∀ y ∈ l, x = y) : oneL l = true := oneL_of h
end Go.Proofs.Ytgehdgmllilmgaa
