/- What a table is that is right, plain: no key twice, each key on its way. -/
import Derived.Test.YtinjohpeanlalaaXK
import Derived.Test.YtinjohpeanlalaaXL
import Derived.Test.YtinjohpeanlalaaXJ
namespace Go.Proofs.Ytinjohpeanlalaa
open Go.RowKit

/-- Cell i is on the way that begins at p. -/
def Way (l : List Ce) (p i : Nat) : Prop := ∃ d, d < l.length ∧ (p + d) % l.length = i ∧ ∀ e, e < d → ∀ (x : Ce), l[(p + e) % l.length]? = some x → ¬ isNone x
def Rch (l : List Ce) : Prop := ∀ (i : Nat) (x : Ce), l[i]? = some x → x.key.toList ≠ [] → Way l (hashN x.key 0 % l.length) i
def Dst (l : List Ce) : Prop := ∀ (i j : Nat) (x y : Ce), l[i]? = some x → l[j]? = some y → x.key.toList ≠ [] → x.key = y.key → i = j
theorem seekD_way {l : List Ce} {key : ByteArray} {p : Nat} : ∀ (m i j : Nat), seekD l key p i m = some j → ∃ d, i ≤ d ∧ d < i + m ∧ (p + d) % l.length = j ∧ ∀ e, i ≤ e → e < d → ∀ (x : Ce), l[(p + e) % l.length]? = some x → ¬ isNone x
  | 0, _, _, h => by cases h
  | m + 1, i, j, h => by
    rw [seekD, stepS] at h
    cases hx : l[(p + i) % l.length]? with
    | none => rw [hx] at h; cases h
    | some x =>
      rw [hx] at h
      simp only at h
      by_cases c1 : x.key.toList = key.toList ∧ 0 ≤ x.h
      · rw [if_pos c1] at h
        injection h with h
        exact ⟨i, by omega, by omega, h, fun e h1 h2 => by omega⟩
      · rw [if_neg c1] at h
        by_cases c2 : x.key.toList = [] ∧ x.h = -1
        · rw [if_pos c2] at h; cases h
        · rw [if_neg c2] at h
          obtain ⟨d, h1, h2, h3, h4⟩ := seekD_way m (i + 1) j h
          refine ⟨d, by omega, by omega, h3, fun e e1 e2 y hy => ?_⟩
          by_cases he : e = i
          · subst he
            rw [hx] at hy
            injection hy with hy
            subst hy
            exact c2
          · exact h4 e (by omega) e2 y hy
theorem way_seekD {l : List Ce} {key : ByteArray} {p j : Nat} {y : Ce} (hd : Dst l) (hj : l[j]? = some y) (hy : y.key = key) (hk : key.toList ≠ []) (hh : 0 ≤ y.h) : ∀ (m i : Nat), (∃ d, i ≤ d ∧ d < i + m ∧ (p + d) % l.length = j ∧ ∀ e, i ≤ e → e < d → ∀ (x : Ce), l[(p + e) % l.length]? = some x → ¬ isNone x) → seekD l key p i m = some j
  | 0, i, ⟨d, h1, h2, _⟩ => by omega
  | m + 1, i, ⟨d, h1, h2, h3, h4⟩ => by
    have hn : 0 < l.length := by have := (List.getElem?_eq_some_iff.1 hj).1; omega
    have hq : (p + i) % l.length < l.length := Nat.mod_lt _ hn
    rw [seekD, stepS]
    cases hx : l[(p + i) % l.length]? with
    | none => rw [List.getElem?_eq_getElem hq] at hx; cases hx
    | some x =>
      simp only
      by_cases c1 : x.key.toList = key.toList ∧ 0 ≤ x.h
      · rw [if_pos c1]
        have he : x.key = y.key := by rw [hy]; exact bytes_eq c1.1
        have := hd _ j x y hx hj (by rw [c1.1]; exact hk) he
        rw [this]
      · rw [if_neg c1]
        by_cases hdi : d = i
        · subst hdi
          rw [h3] at hx
          rw [hx] at hj
          injection hj with hj
          exact absurd ⟨by rw [hj, hy], by rw [hj]; exact hh⟩ c1
        · have hnn : ¬ (x.key.toList = [] ∧ x.h = -1) := h4 i (by omega) (by omega) x hx
          rw [if_neg hnn]
          exact way_seekD hd hj hy hk hh m (i + 1) ⟨d, by omega, by omega, h3, fun e e1 e2 => h4 e (by omega) e2⟩
theorem fit_at {l : List Ce} (h : FitC l) {i : Nat} {x : Ce} (hx : l[i]? = some x) : fitC x := by
  obtain ⟨hi, e⟩ := List.getElem?_eq_some_iff.1 hx
  rw [← e]
  exact h i hi
theorem fit_h {x : Ce} (h : fitC x) (hk : x.key.toList ≠ []) : 0 ≤ x.h := by
  rcases h with h | h
  · exact absurd h.1 hk
  · exact h.2.2
/-- A key of cells that are right is found where it is. -/
theorem seek_at {l : List Ce} (hf : FitC l) (hd : Dst l) (hr : Rch l) {i : Nat} {x : Ce} (hx : l[i]? = some x) (hk : x.key.toList ≠ []) : seekC l x.key = some i := by
  obtain ⟨d, h1, h2, h3⟩ := hr i x hx hk
  exact way_seekD hd hx rfl hk (fit_h (fit_at hf hx) hk) _ _ ⟨d, by omega, by omega, h2, fun e _ => h3 e⟩
theorem seek_none {l : List Ce} {key : ByteArray} (h : ∀ (i : Nat) (x : Ce), l[i]? = some x → x.key ≠ key) : seekC l key = none := by
  cases hs : seekC l key with
  | none => rfl
  | some k =>
    have hk : k < l.length := seekD_lt _ _ _ hs
    exact absurd (seekC_key hs hk) (h k _ (List.getElem?_eq_getElem hk))
theorem right_iff {l : List Ce} : (∀ i (h : i < l.length), okC l i l[i]) ↔ FitC l ∧ Dst l ∧ Rch l := by
  rw [ok_iff]
  constructor
  · rintro ⟨hf, hF⟩
    have hs : ∀ (i : Nat) (x : Ce), l[i]? = some x → x.key.toList ≠ [] → seekC l x.key = some i := by
      intro i x hx hk
      obtain ⟨hi, e⟩ := List.getElem?_eq_some_iff.1 hx
      have := hF i hi (by rw [e]; exact hk)
      rw [e, srchC_seek hf hk] at this
      exact this
    refine ⟨hf, ?_, ?_⟩
    · intro i j x y hx hy hk e
      have h1 := hs i x hx hk
      have h2 := hs j y hy (by rw [← e]; exact hk)
      rw [← e, h1] at h2
      injection h2
    · intro i x hx hk
      obtain ⟨d, h1, h2, h3, h4⟩ := seekD_way _ _ _ (hs i x hx hk)
      exact ⟨d, by omega, h3, fun e he => h4 e (by omega) he⟩
  · rintro ⟨hf, hd, hr⟩
    refine ⟨hf, fun i hi hk => ?_⟩
    rw [srchC_seek hf hk]
    exact seek_at hf hd hr (List.getElem?_eq_getElem hi) hk
/-- A table is right, told by its cells. -/
structure OkN (l o : List Ce) (mv : Int) : Prop where
  size : l.length = 4 ∨ l.length = 8 ∨ l.length = 16 ∨ l.length = 32 ∨ l.length = 64
  half : o.length = 0 ∨ 2 * o.length = l.length
  moved : 0 ≤ mv ∧ mv ≤ (o.length : Int)
  l1 : FitC l ∧ Dst l ∧ Rch l
  l2 : ∃ (i : Nat) (x : Ce), l[i]? = some x ∧ isNone x
  o1 : FitC o ∧ Dst o ∧ Rch o
  gone : ∀ (i : Nat) (x : Ce), o[i]? = some x → (i : Int) < mv → x.key.toList = [] ∧ x.h = -2
  apart : ∀ (i j : Nat) (x y : Ce), o[i]? = some x → l[j]? = some y → x.key.toList ≠ [] → x.key ≠ y.key
theorem okN_iff {l o : List Ce} {mv : Int} : OkT l o mv ↔ OkN l o mv := by
  constructor
  · intro h
    have hl := right_iff.1 h.cells.1
    refine ⟨h.size, h.half, h.moved, hl, ?_, right_iff.1 h.olds.1, ?_, ?_⟩
    · obtain ⟨i, hi, hx⟩ := h.cells.2 rfl
      exact ⟨i, _, List.getElem?_eq_getElem hi, hx⟩
    · intro i x hx hm
      obtain ⟨hi, e⟩ := List.getElem?_eq_some_iff.1 hx
      rw [← e]
      exact (h.old i hi).1 hm
    · intro i j x y hx hy hk e
      obtain ⟨hi, e1⟩ := List.getElem?_eq_some_iff.1 hx
      have h1 := (h.old i hi).2 (by rw [e1]; exact hk)
      have h2 := seek_at hl.1 hl.2.1 hl.2.2 hy (by rw [← e]; exact hk)
      rw [e1, e, h2] at h1
      cases h1
  · intro h
    refine ⟨h.size, h.half, h.moved, ⟨right_iff.2 h.l1, fun _ => ?_⟩, ⟨right_iff.2 h.o1, fun e => by cases e⟩, fun i hi => ⟨fun hm => h.gone i _ (List.getElem?_eq_getElem hi) hm, fun hk => seek_none fun j y hy e => h.apart i j _ y (List.getElem?_eq_getElem hi) hy hk e.symm⟩⟩
    obtain ⟨i, x, hx, hn⟩ := h.l2
    obtain ⟨hi, e⟩ := List.getElem?_eq_some_iff.1 hx
    exact ⟨i, hi, by rw [e]; exact hn⟩
theorem set_at {l : List Ce} {k i : Nat} {c x : Ce} (h : (l.set k c)[i]? = some x) : (i = k ∧ x = c) ∨ (i ≠ k ∧ l[i]? = some x) := by
  rw [List.getElem?_set] at h
  split at h
  · rename_i e
    split at h
    · injection h with h; exact .inl ⟨e.symm, h.symm⟩
    · cases h
  · rename_i e
    exact .inr ⟨fun e' => e e'.symm, h⟩
theorem Way.set {l : List Ce} {p i k : Nat} {c : Ce} (h : Way l p i) (hc : ¬ isNone c) : Way (l.set k c) p i := by
  obtain ⟨d, h1, h2, h3⟩ := h
  refine ⟨d, by rw [List.length_set]; exact h1, by rw [List.length_set]; exact h2, fun e he x hx => ?_⟩
  rw [List.length_set] at hx
  rcases set_at hx with ⟨_, rfl⟩ | ⟨_, hx⟩
  · exact hc
  · exact h3 e he x hx
theorem set_right {l : List Ce} {k : Nat} {c : Ce} (h : FitC l ∧ Dst l ∧ Rch l) (hf : fitC c) (hc : ¬ isNone c) (hd : c.key.toList ≠ [] → (∀ (j : Nat) (x : Ce), j ≠ k → l[j]? = some x → x.key ≠ c.key) ∧ Way l (hashN c.key 0 % l.length) k) : FitC (l.set k c) ∧ Dst (l.set k c) ∧ Rch (l.set k c) := by
  obtain ⟨h1, h2, h3⟩ := h
  refine ⟨?_, ?_, ?_⟩
  · intro i hi
    rcases set_at (List.getElem?_eq_getElem hi) with ⟨_, e⟩ | ⟨_, e⟩
    · rw [e]; exact hf
    · exact fit_at h1 e
  · intro i j x y hx hy hk e
    rcases set_at hx with ⟨ei, ex⟩ | ⟨hi, hx2⟩ <;> rcases set_at hy with ⟨ej, ey⟩ | ⟨hj, hy2⟩
    · rw [ei, ej]
    · exact absurd (e.symm.trans (by rw [ex])) ((hd (by rw [← ex]; exact hk)).1 j y hj hy2)
    · exact absurd (e.trans (by rw [ey])) ((hd (by rw [← ey, ← e]; exact hk)).1 i x hi hx2)
    · exact h2 i j x y hx2 hy2 hk e
  · intro i x hx hk
    rw [List.length_set]
    rcases set_at hx with ⟨rfl, rfl⟩ | ⟨_, hx⟩
    · exact (hd hk).2.set hc
    · exact (h3 i x hx hk).set hc
theorem gC_key : gC.key.toList = [] := by
  unfold gC
  rw [ByteArray.toList, ByteArray.toList.loop]
  rfl
theorem gone_fit : fitC gC := .inl ⟨gC_key, .inr rfl⟩
theorem gone_not : ¬ isNone gC := fun h => by have := h.2; simp [gC] at this
theorem gone_right {l : List Ce} (k : Nat) (h : FitC l ∧ Dst l ∧ Rch l) : FitC (l.set k gC) ∧ Dst (l.set k gC) ∧ Rch (l.set k gC) :=
  set_right h gone_fit gone_not (fun e => absurd gC_key e)
theorem freeD_way {l : List Ce} {p : Nat} : ∀ (m i k : Nat), freeD l p i m = some k → ∃ x, l[k]? = some x ∧ x.key.toList = [] ∧ ∃ d, i ≤ d ∧ d < i + m ∧ (p + d) % l.length = k ∧ ∀ e, i ≤ e → e < d → ∀ (x : Ce), l[(p + e) % l.length]? = some x → ¬ isNone x
  | 0, _, _, h => by cases h
  | m + 1, i, k, h => by
    rw [freeD] at h
    cases hx : l[(p + i) % l.length]? with
    | none => rw [hx] at h; cases h
    | some x =>
      rw [hx] at h
      simp only at h
      by_cases c1 : x.key.toList = []
      · rw [if_pos c1] at h
        injection h with h
        exact ⟨x, by rw [← h]; exact hx, c1, i, by omega, by omega, h, fun e h1 h2 => by omega⟩
      · rw [if_neg c1] at h
        obtain ⟨y, hy1, hy2, d, h1, h2, h3, h4⟩ := freeD_way m (i + 1) k h
        refine ⟨y, hy1, hy2, d, by omega, by omega, h3, fun e e1 e2 z hz => ?_⟩
        by_cases he : e = i
        · subst he
          rw [hx] at hz
          injection hz with hz
          subst hz
          exact fun hn => c1 hn.1
        · exact h4 e (by omega) e2 z hz
theorem noneN_one {l : List Ce} {k : Nat} (h : ∀ (i : Nat) (x : Ce), i ≠ k → l[i]? = some x → ¬ isNone x) : ∀ n, noneN l n ≤ if k < n then 1 else 0
  | 0 => by simp [noneN]
  | n + 1 => by
    have ih := noneN_one h n
    rw [noneN]
    by_cases hk : n = k
    · subst hk
      rw [if_neg (by omega)] at ih
      rw [if_pos (by omega)]
      split
      · split <;> omega
      · omega
    · cases hx : l[n]? with
      | none => simp only; split at ih <;> split <;> omega
      | some x =>
        simp only
        rw [if_neg (show ¬ (x.key.toList = [] ∧ x.h = -1) from h n x hk hx)]
        split at ih <;> split <;> omega
/-- A key laid into cells that are right, that is not among them. -/
theorem put_right {l l' : List Ce} {key : ByteArray} {h : Int} (hl : FitC l ∧ Dst l ∧ Rch l) (hn : ∃ (i : Nat) (x : Ce), l[i]? = some x ∧ isNone x) (hk : key.toList ≠ []) (hs : key.size ≤ 12) (hh : 0 ≤ h) (ha : ∀ (i : Nat) (x : Ce), l[i]? = some x → x.key ≠ key) (e : putC l key h = some l') :
    (FitC l' ∧ Dst l' ∧ Rch l') ∧ (∃ (i : Nat) (x : Ce), l'[i]? = some x ∧ isNone x) ∧ ∃ k, l' = l.set k ⟨key, h⟩ ∧ ∃ x, l[k]? = some x ∧ x.key.toList = [] := by
  unfold putC at e
  split at e
  · rename_i k hfk
    obtain ⟨x, hx, hx0, d, d1, d2, d3, d4⟩ := freeD_way _ _ _ hfk
    rw [hx] at e
    simp only at e
    split at e
    · cases e
    · rename_i hc
      injection e with e
      subst e
      refine ⟨set_right hl (.inr ⟨hk, hs, hh⟩) (fun hx => hk hx.1) (fun _ => ⟨fun j y _ hy => ha j y hy, d, by omega, d3, fun e he => d4 e (by omega) he⟩), ?_, k, rfl, x, hx, hx0⟩
      have key2 : ∃ (i : Nat) (y : Ce), i ≠ k ∧ l[i]? = some y ∧ isNone y := by
        refine Classical.byContradiction fun hno => ?_
        have hall : ∀ (i : Nat) (y : Ce), i ≠ k → l[i]? = some y → ¬ isNone y := fun i y h1 h2 h3 => hno ⟨i, y, h1, h2, h3⟩
        obtain ⟨i, y, hy, hny⟩ := hn
        have hik : i = k := Classical.byContradiction fun h1 => hall i y h1 hy hny
        subst hik
        rw [hx] at hy
        injection hy with hy
        subst hy
        have := noneN_one hall l.length
        exact hc ⟨by split at this <;> omega, hny.2⟩
      obtain ⟨i, y, h1, h2, h3⟩ := key2
      exact ⟨i, y, by rw [List.getElem?_set_ne (Ne.symm h1)]; exact h2, h3⟩
  · cases e
end Go.Proofs.Ytinjohpeanlalaa
namespace Go.Proofs.Ytinjohpeanlalaa
open Go.RowKit

theorem rep_at {n i : Nat} {x : Ce} (h : (List.replicate n nC)[i]? = some x) : x = nC := by
  obtain ⟨hi, e⟩ := List.getElem?_eq_some_iff.1 h
  rw [List.getElem_replicate] at e
  exact e.symm
theorem nC_no : nC.key.toList = [] := gC_key
theorem rep_right (n : Nat) : FitC (List.replicate n nC) ∧ Dst (List.replicate n nC) ∧ Rch (List.replicate n nC) := by
  refine ⟨fun i hi => ?_, fun i j x y hx _ hk _ => ?_, fun i x hx hk => ?_⟩
  · rw [List.getElem_replicate]
    exact .inl ⟨nC_no, .inl rfl⟩
  · rw [rep_at hx] at hk
    exact absurd nC_no hk
  · rw [rep_at hx] at hk
    exact absurd nC_no hk
theorem rep_none {n : Nat} (hn : 0 < n) : ∃ (i : Nat) (x : Ce), (List.replicate n nC)[i]? = some x ∧ isNone x :=
  ⟨0, nC, by rw [List.getElem?_replicate, if_pos hn], nC_no, rfl⟩
theorem nil_right : FitC [] ∧ Dst [] ∧ Rch [] := by
  refine ⟨fun i hi => by simp at hi, fun i j x y hx => by simp at hx, fun i x hx => by simp at hx⟩
theorem OkN.new {n : Nat} (hn : n = 4 ∨ n = 8 ∨ n = 16 ∨ n = 32 ∨ n = 64) : OkN (List.replicate n nC) [] 0 := by
  refine ⟨by rw [List.length_replicate]; exact hn, .inl rfl, ⟨by omega, by simp⟩, rep_right n, rep_none (by omega), nil_right, fun i x hx => by simp at hx, fun i j x y hx => by simp at hx⟩
theorem OkN.grow {l o : List Ce} {mv : Int} (h : OkN l o mv) (h2 : 2 * l.length ≤ 64) : OkN (List.replicate (2 * l.length) nC) l 0 := by
  have hs := h.size
  refine ⟨by rw [List.length_replicate]; omega, .inr (by rw [List.length_replicate]), ⟨by omega, by omega⟩, rep_right _, rep_none (by omega), h.l1, fun i x _ hm => by omega, fun i j x y _ hy hk e => ?_⟩
  rw [rep_at hy] at e
  rw [e] at hk
  exact hk nC_no
theorem OkN.end {l o : List Ce} {mv : Int} (h : OkN l o mv) : OkN l [] 0 :=
  ⟨h.size, .inl rfl, ⟨by omega, by simp⟩, h.l1, h.l2, nil_right, fun i x hx => by simp at hx, fun i j x y hx => by simp at hx⟩
/-- A cell of the old ones is gone. -/
theorem OkN.goneO {l o : List Ce} {mv : Int} (h : OkN l o mv) (k : Nat) : OkN l (o.set k gC) mv := by
  refine ⟨h.size, by rw [List.length_set]; exact h.half, by rw [List.length_set]; exact h.moved, h.l1, h.l2, gone_right k h.o1, fun i x hx hm => ?_, fun i j x y hx hy hk => ?_⟩
  · rcases set_at hx with ⟨_, e⟩ | ⟨_, hx⟩
    · rw [e]; exact ⟨gC_key, rfl⟩
    · exact h.gone i x hx hm
  · rcases set_at hx with ⟨_, e⟩ | ⟨_, hx⟩
    · rw [e] at hk; exact absurd gC_key hk
    · exact h.apart i j x y hx hy hk
/-- Cell k of the new ones, that has a key, is another. -/
theorem OkN.setL {l o : List Ce} {mv : Int} (h : OkN l o mv) {k : Nat} {x c : Ce} (hx : l[k]? = some x) (hk : x.key.toList ≠ []) (hc : c = gC ∨ (c.key = x.key ∧ 0 ≤ c.h)) : OkN (l.set k c) o mv := by
  have hnn : ¬ isNone x := fun hn => hk hn.1
  have hcn : ¬ isNone c := by
    rcases hc with rfl | ⟨e, _⟩
    · exact gone_not
    · exact fun hn => hk (by rw [← e]; exact hn.1)
  refine ⟨by rw [List.length_set]; exact h.size, by rw [List.length_set]; exact h.half, h.moved, ?_, ?_, h.o1, h.gone, fun i j y z hy hz hky e => ?_⟩
  · rcases hc with rfl | ⟨e, hh⟩
    · exact gone_right k h.l1
    · refine set_right h.l1 (.inr ⟨by rw [e]; exact hk, ?_, hh⟩) hcn (fun _ => ⟨fun j y hj hy e2 => hj (h.l1.2.1 j k y x hy hx (by rw [e2, e]; exact hk) (by rw [e2, e])), by rw [e]; exact h.l1.2.2 k x hx hk⟩)
      rw [e]
      rcases fit_at h.l1.1 hx with f | f
      · exact absurd f.1 hk
      · exact f.2.1
  · obtain ⟨i, y, hy, hn⟩ := h.l2
    have hik : i ≠ k := by
      intro e
      rw [e, hx] at hy
      injection hy with hy
      rw [hy] at hnn
      exact hnn hn
    exact ⟨i, y, by rw [List.getElem?_set_ne (Ne.symm hik)]; exact hy, hn⟩
  · rcases set_at hz with ⟨_, e2⟩ | ⟨_, hz⟩
    · rcases hc with rfl | ⟨e3, _⟩
      · rw [e2] at e
        rw [e] at hky
        exact hky gC_key
      · exact h.apart i k y x hy hx hky (by rw [e, e2, e3])
    · exact h.apart i j y z hy hz hky e
/-- A key that is in none of the cells is laid into the new ones. -/
theorem OkN.putL {l l' o : List Ce} {mv : Int} (h : OkN l o mv) {key : ByteArray} {hd : Int} (hk : key.toList ≠ []) (hs : key.size ≤ 12) (hh : 0 ≤ hd) (hl : ∀ (i : Nat) (x : Ce), l[i]? = some x → x.key ≠ key) (ho : ∀ (i : Nat) (x : Ce), o[i]? = some x → x.key ≠ key) (e : putC l key hd = some l') : OkN l' o mv := by
  obtain ⟨hr, hn, k, rfl, x, hx, hx0⟩ := put_right h.l1 h.l2 hk hs hh hl e
  refine ⟨by rw [List.length_set]; exact h.size, by rw [List.length_set]; exact h.half, h.moved, hr, hn, h.o1, h.gone, fun i j y z hy hz hky e => ?_⟩
  rcases set_at hz with ⟨_, e2⟩ | ⟨_, hz⟩
  · exact ho i y hy (by rw [e, e2])
  · exact h.apart i j y z hy hz hky e
theorem seek_no {l : List Ce} {key : ByteArray} (hl : FitC l ∧ Dst l ∧ Rch l) (hk : key.toList ≠ []) (h : seekC l key = none) : ∀ (i : Nat) (x : Ce), l[i]? = some x → x.key ≠ key := by
  intro i x hx e
  have := seek_at hl.1 hl.2.1 hl.2.2 hx (by rw [e]; exact hk)
  rw [e, h] at this
  cases this
theorem seek_yes {l : List Ce} {key : ByteArray} {k : Nat} (h : seekC l key = some k) : ∃ x, l[k]? = some x ∧ x.key = key := by
  have hk : k < l.length := seekD_lt _ _ _ h
  exact ⟨_, List.getElem?_eq_getElem hk, seekC_key h hk⟩
theorem OkN.take {l o L O : List Ce} {mv M : Int} {key : ByteArray} (h : OkN l o mv) (hk : key.toList ≠ []) (e : takeR l o mv key = some (L, O, M)) : OkN L O M := by
  unfold takeR at e
  split at e
  · rename_i k hs
    obtain ⟨x, hx, hxk⟩ := seek_yes hs
    injection e with e
    injection e with e1 e2
    injection e2 with e2 e3
    rw [← e1, ← e2, ← e3]
    exact h.setL hx (by rw [hxk]; exact hk) (.inl rfl)
  · split at e
    · rename_i k hs
      injection e with e
      injection e with e1 e2
      injection e2 with e2 e3
      rw [← e1, ← e2, ← e3]
      exact h.goneO k
    · cases e
theorem goneO_no {l o : List Ce} {mv : Int} (h : OkN l o mv) {key : ByteArray} (hk : key.toList ≠ []) : OkN l (goneO o key) mv ∧ ∀ (i : Nat) (x : Ce), (goneO o key)[i]? = some x → x.key ≠ key := by
  unfold Go.Proofs.Ytinjohpeanlalaa.goneO
  cases hs : seekC o key with
  | none => exact ⟨h, seek_no h.o1 hk hs⟩
  | some k =>
    obtain ⟨y, hy, hyk⟩ := seek_yes hs
    refine ⟨h.goneO k, fun i x hx e => ?_⟩
    rcases set_at hx with ⟨_, e2⟩ | ⟨hi, hx⟩
    · rw [← e, e2] at hk
      exact hk gC_key
    · exact hi (h.o1.2.1 i k x y hx hy (by rw [e]; exact hk) (by rw [e, hyk]))
theorem OkN.put {l o L O : List Ce} {mv M : Int} {key : ByteArray} {hd : Int} (h : OkN l o mv) (hk : key.toList ≠ []) (hsz : key.size ≤ 12) (hh : 0 ≤ hd) (e : putR l o mv key hd = some (L, O, M)) : OkN L O M := by
  unfold putR at e
  split at e
  · rename_i k hs
    obtain ⟨x, hx, hxk⟩ := seek_yes hs
    injection e with e
    injection e with e1 e2
    injection e2 with e2 e3
    rw [← e1, ← e2, ← e3]
    exact h.setL hx (by rw [hxk]; exact hk) (.inr ⟨hxk.symm, hh⟩)
  · rename_i hs
    split at e
    · rename_i l' hp
      injection e with e
      injection e with e1 e2
      injection e2 with e2 e3
      rw [← e1, ← e2, ← e3]
      obtain ⟨h1, h2⟩ := goneO_no h hk
      exact h1.putL hk hsz hh (seek_no h.l1 hk hs) h2 hp
    · cases e
/-- So many steps of moving. -/
def moveS (l o : List Ce) (m : Nat) : Nat → List Ce × List Ce × Nat
  | 0 => (l, o, m)
  | s + 1 => match o[m]? with
    | none => (l, o, m)
    | some x => if x.key.toList = [] then moveS l (o.set m gC) (m + 1) s else match putC l x.key x.h with
      | none => (l, o, m)
      | some l' => moveS l' (o.set m gC) (m + 1) s
/-- The next old cell is moved. -/
theorem OkN.next {l o : List Ce} {m : Nat} (h : OkN l o (m : Int)) (hm : m < o.length) : OkN l (o.set m gC) ((m + 1 : Nat) : Int) := by
  have h1 := h.goneO m
  refine ⟨h1.size, h1.half, by rw [List.length_set]; exact ⟨by omega, by omega⟩, h1.l1, h1.l2, h1.o1, fun i x hx hi => ?_, h1.apart⟩
  rcases set_at hx with ⟨_, e⟩ | ⟨hne, hx⟩
  · rw [e]; exact ⟨gC_key, rfl⟩
  · exact h.gone i x hx (by omega)
theorem OkN.nextPut {l l' o : List Ce} {m : Nat} {x : Ce} (h : OkN l o (m : Int)) (hx : o[m]? = some x) (hk : x.key.toList ≠ []) (e : putC l x.key x.h = some l') : OkN l' (o.set m gC) ((m + 1 : Nat) : Int) := by
  have hm := (List.getElem?_eq_some_iff.1 hx).1
  rcases fit_at h.o1.1 hx with f | f
  · exact absurd f.1 hk
  refine (h.next hm).putL hk f.2.1 f.2.2 (fun i y hy e2 => h.apart m i x y hx hy hk e2.symm) (fun i y hy e2 => ?_) e
  rcases set_at hy with ⟨_, e3⟩ | ⟨hne, hy⟩
  · rw [← e2, e3] at hk
    exact hk gC_key
  · exact hne (h.o1.2.1 m i x y hx hy hk e2.symm).symm
theorem OkN.moves : ∀ (s : Nat) {l o : List Ce} {m : Nat}, OkN l o (m : Int) → OkN (moveS l o m s).1 (moveS l o m s).2.1 ((moveS l o m s).2.2 : Int)
  | 0, _, _, _, h => h
  | s + 1, l, o, m, h => by
    rw [moveS]
    cases hx : o[m]? with
    | none => exact h
    | some x =>
      simp only
      by_cases hk : x.key.toList = []
      · rw [if_pos hk]
        exact OkN.moves s (h.next (List.getElem?_eq_some_iff.1 hx).1)
      · rw [if_neg hk]
        cases hp : putC l x.key x.h with
        | none => exact h
        | some l' => exact OkN.moves s (h.nextPut hx hk hp)
/-- What MoveSome answers at a right table with old cells. -/
def moveR (l o : List Ce) (m s : Nat) : List Ce × List Ce × Nat := if (moveS l o m s).2.2 = o.length then ((moveS l o m s).1, [], 0) else moveS l o m s
theorem OkN.moveR {l o : List Ce} {m : Nat} (h : OkN l o (m : Int)) (s : Nat) : OkN (moveR l o m s).1 (moveR l o m s).2.1 ((moveR l o m s).2.2 : Int) := by
  have h1 := OkN.moves s h
  unfold Go.Proofs.Ytinjohpeanlalaa.moveR
  split
  · exact h1.end
  · exact h1
end Go.Proofs.Ytinjohpeanlalaa
