/- A region that draws its order, by an invariant: one obligation an operation instead of one an order. -/
import Derived.Test.YtmfpgnoeemjhiaaRowI
import Derived.Deep.RegionLaw
import Derived.ArgAppend
namespace Go.Proofs.Ytmfpgnoeemjhiaa
open Go.RowKit
set_option linter.unusedVariables false

theorem cnt_set (l : Array Bool) (i : Nat) (h : l.getD i true = false) : (l.setIfInBounds i true).toList.count false + 1 = l.toList.count false := by
  have hi : i < l.size := by
    by_cases c : i < l.size
    · exact c
    · rw [Array.getD_eq_getD_getElem?, Array.getElem?_eq_none (by omega)] at h
      cases h
  have hv : l.toList[i]'(by simpa using hi) = false := by
    rw [Array.getD_eq_getD_getElem?, Array.getElem?_eq_getElem hi] at h
    simpa using h
  rw [Array.toList_setIfInBounds, List.count_set (by simpa using hi), hv]
  have hp : 0 < l.toList.count false := List.count_pos_iff.2 (hv ▸ List.getElem_mem _)
  rw [if_pos (by rfl), if_neg (by decide)]
  omega
theorem set_at {l : Array Bool} {i k : Nat} (h : (l.setIfInBounds i true).getD k false = true) (hk : k ≠ i) : l.getD k false = true := by
  rw [Array.getD_eq_getD_getElem?, Array.getElem?_setIfInBounds, if_neg (fun e => hk e.symm)] at h
  rwa [Array.getD_eq_getD_getElem?]
theorem set_get {l : Array Bool} {i k : Nat} : (l.setIfInBounds i true).getD k false = true → k = i ∨ l.getD k false = true := fun h => by
  by_cases c : k = i
  · exact .inl c
  · exact .inr (set_at h c)
section
variable {P : Program} {ops : Array Oper} {Q : Exit → Act → World → Prop} {md : Region.Mode}
theorem ready_at {l : Array Bool} {i : Nat} (h : i ∈ Region.ready md ops l) : i < ops.size ∧ l.getD i true = false ∧ ∃ o, ops[i]? = some o ∧ ∀ e ∈ o.after, Region.binds md e = true → l.getD e.on false = true := by
  unfold Region.ready at h
  rw [List.mem_filter, List.mem_range] at h
  obtain ⟨h1, h2⟩ := h
  rw [Bool.and_eq_true] at h2
  obtain ⟨h2, h3⟩ := h2
  refine ⟨h1, by simpa using h2, ?_⟩
  cases ho : ops[i]? with
  | none => rw [ho] at h3; cases h3
  | some o =>
    rw [ho] at h3
    refine ⟨o, rfl, fun e he hb => ?_⟩
    simp only [Option.map_some, Option.getD_some, Array.all_eq_true'] at h3
    have := h3 e he
    rw [hb] at this
    simpa using this
theorem ready_nil {l : Array Bool} (h : Region.ready md ops l = []) {i : Nat} {o : Oper} (ho : ops[i]? = some o) (hd : ∀ e ∈ o.after, l.getD e.on false = true) : l.getD i true = true := by
  have hi : i < ops.size := (Array.getElem?_eq_some_iff.1 ho).1
  cases c : l.getD i true with
  | true => rfl
  | false =>
    have : i ∈ Region.ready md ops l := by
      unfold Region.ready
      rw [List.mem_filter, List.mem_range]
      refine ⟨hi, ?_⟩
      rw [c, ho]
      simp only [Bool.not_false, Bool.true_and, Option.map_some, Option.getD_some, Array.all_eq_true']
      intro e he
      rw [hd e he]
      simp
    rw [h] at this
    cases this
theorem getD_tt {l : Array Bool} {i : Nat} (hi : i < l.size) (h : l.getD i true = true) : l.getD i false = true := by
  rw [Array.getD_eq_getD_getElem?, Array.getElem?_eq_getElem hi] at h ⊢
  simpa using h
/-- What holds at the beginning and is kept by each operation that may come up, holds at the end. -/
theorem wpAny_inv (I : Array Bool → Act → World → Prop)
    (hs : ∀ l a w i, l.size = ops.size → I l a w → i ∈ Region.ready md ops l → wpOp P ops Q i (fun a w => I (l.setIfInBounds i true) a w) a w)
    (hf : ∀ l a w, l.size = ops.size → I l a w → Region.ready md ops l = [] → Q .normal a w) :
    ∀ (fuel : Nat) (l : Array Bool) (a : Act) (w : World), l.size = ops.size → l.toList.count false ≤ fuel → I l a w → wpAny P md ops Q fuel l a w
  | 0, l, a, w, hl, hc, h => by
    have hn : Region.ready md ops l = [] := by
      cases hr : Region.ready md ops l with
      | nil => rfl
      | cons i t =>
        have hi : i ∈ Region.ready md ops l := by rw [hr]; simp
        obtain ⟨_, h2, _⟩ := ready_at hi
        have := cnt_set l i h2
        omega
    exact ⟨hn, hf l a w hl h hn⟩
  | fuel + 1, l, a, w, hl, hc, h => by
    refine ⟨fun hn => hf l a w hl h hn, fun i hi => ?_⟩
    obtain ⟨_, h2, _⟩ := ready_at hi
    have := cnt_set l i h2
    exact wpOp_mono (fun a w h' => wpAny_inv I hs hf fuel _ a w (by rw [Array.size_setIfInBounds]; exact hl) (by omega) h') (hs l a w i hl h hi)
end
section
variable {P : Program} {α : Type} {enc : α → List Value} {k : Nat} {t e : TypeId}
theorem own_leI {w : World} {base n ca : Nat} {a : Option Addr} {xs : List Value} (h : w.ownsRow base e k (.slice a n ca) n xs) : n ≤ ca := by
  rcases h.2 with ⟨hv, h0⟩ | ⟨g, cap, cur, hv, _, _, hc, _⟩
  · omega
  · injection hv with h1 h2 h3
    omega
/-- Others put behind an empty row that has no room: new memory alone. -/
theorem cpE_run (E : EncK enc k) (R : RowK P t e k) (w : World) (ty : TypeId) (g : Nat) (ao : Option Addr) (m c : Nat) (l : List α) (hm : l.length = m) (hA : RdG enc k w ao l) (hlen : m ≤ 1048576) :
    ∃ b' c' w', (Builtin.append_ #[t, t] ty #[.slice (some ⟨g, 0, none⟩) 0 0, .slice ao m c]).run P w = .ok (.slice b' m c') w' ∧ RdG enc k w' b' l ∧ Below w.heap.size w w' ∧ (∀ b o, b' = some ⟨b, o, none⟩ → 0 < m → w.heap.size ≤ b) ∧ m ≤ c' := by
  obtain ⟨i0, z, b, hi, hz0, hz1, hz2, hz3, hb⟩ := R.inf
  by_cases h0 : m = 0
  · subst h0
    have e0 : l = [] := List.eq_nil_of_length_eq_zero hm
    subst e0
    refine ⟨some ⟨g, 0, none⟩, 0, w, ?_, RdG.nil _ _, Below.refl _ _, fun _ _ _ h => by omega, Nat.le_refl _⟩
    cases ao <;> simp [Builtin.append_, run_underlying R.sl, sizeOf, typeInfo, hi, Builtin.lenOf, Builtin.firstCells, loadCells, loadCellsFrom, storeCells]
  · obtain ⟨g2, o, rfl, hg, _⟩ := hA 0 (by omega)
    have hl : (rowG enc l).length = m * k := by rw [rowG_length enc k E.len, hm]
    have hAt : ∀ j v, (rowG enc l)[j]? = some v → w.cell? ((⟨g2, o, none⟩ : Addr).add j) = some v := fun j v hj => by
      have hj' : j < m * k := by have := (List.getElem?_eq_some_iff.1 hj).1; omega
      have hk0 := R.pos
      have hd : j / k < l.length := by rw [hm]; exact Nat.div_lt_of_lt_mul (by rw [Nat.mul_comm]; exact hj')
      have hr : j % k < k := Nat.mod_lt _ hk0
      have hjk : j = j / k * k + j % k := by rw [Nat.mul_comm]; exact (Nat.div_add_mod j k).symm
      obtain ⟨b', o', e', _, h⟩ := hA (j / k) hd
      simp only [Option.some.injEq, Addr.mk.injEq, and_true] at e'
      obtain ⟨rfl, rfl⟩ := e'
      have h1 := h (j % k) hr
      have h2 := rowG_at enc k E.len l (j / k) (j % k) hd hr
      rw [← hjk] at h2
      rw [Addr.add_lit, show o + j = o + j / k * k + j % k by omega, h1, ← h2]
      exact hj
    have hbl : (0 + m) * b ≤ (0 + m) * 256 := Nat.mul_le_mul_left _ hb
    obtain ⟨v', w', h1, h2, h3⟩ := run_append_arg_grows (P := P) (w := w) t ty e i0 z k b R.sl hi hz0 hz1 hz2 hz3 R.pos ⟨g, 0, none⟩ 0 0 [] (by simp) (by simp) ⟨g2, o, none⟩ m c (rowG enc l) hl hAt (by omega) (by unfold maxLen; omega) (by omega)
    rw [Nat.zero_add, List.nil_append] at h2
    obtain ⟨b', c', rfl⟩ := form_of h2
    refine ⟨b', c', w', h1, rdG_of_own E.len h2 hm, gbelow h3 (fun q hq => by cases hq) (Nat.le_refl _), fun b2 o2 hb2 _ => (h2.lt b2 (by subst hb2; rfl)).1, own_leI h2⟩
end
end Go.Proofs.Ytmfpgnoeemjhiaa
