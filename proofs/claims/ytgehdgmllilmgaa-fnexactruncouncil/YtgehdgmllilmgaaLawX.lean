/- Councils that are run: small, and what is marked beside them. -/
import Derived.Test.YtgehdgmllilmgaaMkD
import Derived.Test.YtgehdgmllilmgaaYT
import Derived.Test.YtgehdgmllilmgaaCnY
namespace Go.Proofs.Ytgehdgmllilmgaa
open Go.ChangeShapes Go.WideShapes Go.ChangeAt Go.RowKit
set_option linter.unusedVariables false

theorem slot_mk (k : Nat) (A : CA) (c : Cn) (i : Nat) : slot (mkA k A c) i = slot A i := by
  match i with
  | 0 => rfl
  | 1 => rfl
  | 2 => rfl
  | 3 => rfl
  | j + 4 =>
    show (match (mkL (k + 3 * c.vs.length) A.L A.L.length)[j / 2]? with | none => none | some t => if j % 2 = 0 then t.pa else t.ka) = (match A.L[j / 2]? with | none => none | some t => if j % 2 = 0 then t.pa else t.ka)
    unfold mkL
    rw [List.getElem?_mapIdx]
    cases A.L[j / 2]? with
    | none => rfl
    | some t =>
      simp only [Option.map_some]
      by_cases h : j / 2 < A.L.length
      · rw [if_pos h]
      · rw [if_neg h]
theorem mkA_in {k : Nat} {A : CA} {c : Cn} {G : Nat} (h : InA (mkA k A c) G) : InA A G := by
  obtain ⟨j, x, hx, e⟩ := h
  exact ⟨j, x, by rw [← slot_mk k A c]; exact hx, e⟩
theorem OwX.farG {base : Nat} {w w' : World} {A : CA} {xs : List Value} {c : Cn} {r : Option Nat} (hO : OwX base w A xs c) (hg : w.grownBy w' r) (hr : ∀ q, r = some q → ¬ InA A q) : OwX base w' A xs c := by
  cases r with
  | none => exact hO.kept (gbelow hg (fun q hq => by cases hq) (Nat.le_refl _))
  | some q => exact hO.farR (hr q rfl) hg
theorem Fr.ownR {A A' : CA} {w w' : World} {base n k : Nat} {e : TypeId} {v : Value} {xs : List Value} (h : Fr A w A' w') (ho : w.ownsRow base e k v n xs) (hn : ∀ q, v.ownBlock = some q → ¬ InA A q) : w'.ownsRow base e k v n xs :=
  ⟨ho.1, by
    rcases ho.2 with hv | ⟨g, cap, cur, hv, h1, h2, h3⟩
    · exact .inl hv
    · exact .inr ⟨g, cap, cur, hv, h1, (h.block g (Array.getElem?_eq_some_iff.1 h2).1 (hn g (by rw [hv]; rfl))).trans h2, h3⟩⟩
theorem run_sc {v t : Int} {es : List Hp} {R : Cn × List Int × Bool} (h : runR v t es = R) : Sc12 R.1 ∧ R.2.1.length ≤ 80 := by
  unfold runR at h
  by_cases c : okNew v t ∧ okHps t es
  · rw [if_pos c] at h
    subst h
    obtain ⟨⟨⟨v1, v2⟩, t1, t2⟩, hl, he⟩ := c
    obtain ⟨vn, hvn⟩ : ∃ n : Nat, v = (n : Int) := ⟨v.toNat, by omega⟩
    obtain ⟨tn, htn⟩ : ∃ n : Nat, t = (n : Int) := ⟨t.toNat, by omega⟩
    subst hvn htn
    rw [Int.toNat_natCast, Int.toNat_natCast]
    have G : GC vn tn (fun _ => True) (runC (newCn vn tn) es).1 := GC.runC es (GC.new vn tn (by omega)) he (fun _ _ _ => trivial)
    have S : Sz (0 + es.length) (runC (newCn vn tn) es).1 := Sz.runC es (Sz.new vn tn (by omega)) (fun e hm => okHp.size (he e hm))
    have F := (fit_of G S (by omega)).1
    have hk := codes_len es (newCn vn tn)
    have hnt : (runC (newCn vn tn) es).1.ts.length = tn := by obtain ⟨_, _, G⟩ := G; exact G.nt
    refine ⟨⟨?_, ?_, fun y hy => ?_, ?_, ?_⟩, ?_⟩
    · exact F.v
    · show (runC (newCn vn tn) es).1.ts.length ≤ 4
      omega
    · have := F.l y hy
      unfold tsz
      omega
    · show (runC (newCn vn tn) es).1.ns.length ≤ 10000
      have := S.l
      omega
    · show (runC (newCn vn tn) es).1.ch.length ≤ 10000
      have := S.h
      omega
    · show (runC (newCn vn tn) es).2.length ≤ 80
      omega
  · rw [if_neg c] at h
    subst h
    exact ⟨⟨by decide, by decide, fun y hy => by simp [zeroCn] at hy, by decide, by decide⟩, by decide⟩
set_option maxRecDepth 100000 in
/-- A row of events that came in. -/
theorem open_happens {H : Type} {enc : TypeId × Value → H} {w : World} {r : Reach} {b0 base : Nat} {sp : Nat → Bool} {held : Bool} {v : Value} {d : DataW H} {p : List MemPlace} (hv : Value.okWide Try.prog w r b0 55 v) (h : DataW.Trod enc Try.prog w base sp held 55 v d p) :
    ∃ (ao : Option Addr) (l : List Hp) (ca : Nat), v = .slice ao l.length ca ∧ RdG hpC 4 w ao l ∧ l.length ≤ maxLen ∧ ∀ s ∈ l, wfHappen s := by
  obtain ⟨a0, len0, cap0, rfl⟩ := okWide_slice Try.underlying55 hv
  obtain ⟨n, h0⟩ := h
  obtain ⟨ao, l, ca, e0, hR, hl, hw⟩ := open_happensE h0
  simp [Value.cells] at e0
  obtain ⟨rfl, rfl, rfl⟩ := e0
  exact ⟨_, l, _, rfl, hR, hl, hw⟩
end Go.Proofs.Ytgehdgmllilmgaa
