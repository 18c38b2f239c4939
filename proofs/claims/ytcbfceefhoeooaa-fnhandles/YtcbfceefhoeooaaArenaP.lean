/- A right place stays right: new, laid, lifted, its Gens turned; plain. -/
import Derived.Test.YtcbfceefhoeooaaArenaL
import Derived.Test.YtcbfceefhoeooaaArenaN
namespace Go.Proofs.Ytcbfceefhoeooaa

theorem Chain.congr {l l' : List Sl} : ∀ {V : List Nat} {a : Int}, Chain l a V → (∀ p ∈ V, ∀ (h : p < l.length), ∃ h' : p < l'.length, l'[p].next = l[p].next) → Chain l' a V
  | [], _, h, _ => h
  | p :: V, a, h, hs => by
    obtain ⟨e, hp, hc⟩ := h
    obtain ⟨hp', hn⟩ := hs p (by simp) hp
    refine ⟨e, hp', ?_⟩
    rw [hn]
    exact Chain.congr hc (fun q hq hl => hs q (by simp [hq]) hl)
theorem Chain.set {l : List Sl} {V : List Nat} {a : Int} (h : Chain l a V) (k : Nat) (s : Sl) (hk : k ∉ V) : Chain (l.set k s) a V :=
  h.congr fun p hp hl => ⟨by rw [List.length_set]; exact hl, by
    have hne : k ≠ p := fun e => hk (by rw [e]; exact hp)
    rw [List.getElem_set_ne hne]⟩

/-- A slot of the chain's head is laid. -/
theorem OkA.lay {l : List Sl} {k : Nat} (h : OkA l (k : Int)) (hk : k < l.length) (ky vl : ByteArray) (h1 : 1 ≤ ky.size) (h2 : ky.size ≤ 12) (h3 : vl.size ≤ 20) : OkA (l.set k ⟨l[k].gen, true, ky, vl, 0⟩) l[k].next := by
  obtain ⟨V, hV, hu⟩ := h.chain
  have hs := h.slots k hk
  match V, hV, hu with
  | [], hV, _ => have e : (k : Int) = -1 := hV; omega
  | p :: V, hV, hu =>
    have hnd := hV.nodup
    obtain ⟨e, hp, hc⟩ := hV
    obtain rfl : k = p := by omega
    have hkV : k ∉ V := (List.nodup_cons.1 hnd).1
    refine ⟨by rw [List.length_set]; exact h.least, by rw [List.length_set]; exact h.most, ⟨V, hc.set k _ hkV, ?_⟩, ?_⟩
    · intro i hi
      rw [List.length_set] at hi
      by_cases e : k = i
      · subst e
        rw [List.getElem_set_self]
        exact ⟨fun h => (by cases h), fun h => absurd h hkV⟩
      · rw [List.getElem_set_ne e, hu i hi, List.mem_cons]
        exact ⟨fun h => h.resolve_left (fun x => e x.symm), .inr⟩
    · intro i hi
      rw [List.length_set] at hi
      by_cases e : k = i
      · subst e
        rw [List.getElem_set_self]
        exact ⟨hs.1, hs.2.1, (fun _ => ⟨h1, h2, h3, rfl⟩), fun h => by cases h⟩
      · rw [List.getElem_set_ne e]; exact h.slots i hi

theorem upGen_in {g : Int} (h1 : 0 ≤ g) : 0 ≤ upGen g ∧ upGen g ≤ 41666665 := by
  unfold upGen; split <;> omega
/-- A slot that is used is lifted. -/
theorem OkA.lift {l : List Sl} {f : Int} {k : Nat} (h : OkA l f) (hk : k < l.length) (hu : l[k].used = true) : OkA (l.set k (lifted l[k] f)) (k : Int) := by
  obtain ⟨V, hV, hall⟩ := h.chain
  have hs := h.slots k hk
  have hkV : k ∉ V := fun hm => by have := (hall k hk).2 hm; rw [hu] at this; cases this
  refine ⟨by rw [List.length_set]; exact h.least, by rw [List.length_set]; exact h.most, ⟨k :: V, ⟨rfl, by rw [List.length_set]; exact hk, ?_⟩, ?_⟩, ?_⟩
  · rw [List.getElem_set_self]
    exact hV.set k _ hkV
  · intro i hi
    rw [List.length_set] at hi
    by_cases e : k = i
    · subst e
      rw [List.getElem_set_self]
      exact ⟨fun _ => by simp, fun _ => rfl⟩
    · rw [List.getElem_set_ne e, hall i hi, List.mem_cons]
      exact ⟨.inr, fun h => h.resolve_left (fun x => e x.symm)⟩
  · intro i hi
    rw [List.length_set] at hi
    by_cases e : k = i
    · subst e
      rw [List.getElem_set_self]
      exact ⟨(upGen_in hs.1).1, (upGen_in hs.1).2, (fun h => by cases h), fun _ => ⟨rfl, rfl⟩⟩
    · rw [List.getElem_set_ne e]; exact h.slots i hi
/-- A Gen is turned. -/
theorem OkA.gen {l : List Sl} {f : Int} {k : Nat} (h : OkA l f) (hk : k < l.length) (g : Int) (g1 : 0 ≤ g) (g2 : g ≤ 41666665) : OkA (l.set k { l[k] with gen := g }) f := by
  obtain ⟨V, hV, hall⟩ := h.chain
  refine ⟨by rw [List.length_set]; exact h.least, by rw [List.length_set]; exact h.most, ⟨V, hV.congr fun p _ hl => ⟨by rw [List.length_set]; exact hl, ?_⟩, ?_⟩, ?_⟩
  · by_cases e : k = p
    · subst e; rw [List.getElem_set_self]
    · rw [List.getElem_set_ne e]
  · intro i hi
    rw [List.length_set] at hi
    by_cases e : k = i
    · subst e; rw [List.getElem_set_self]; exact hall k hk
    · rw [List.getElem_set_ne e]; exact hall i hi
  · intro i hi
    rw [List.length_set] at hi
    by_cases e : k = i
    · subst e
      rw [List.getElem_set_self]
      have := h.slots k hk
      exact ⟨g1, g2, this.2.2.1, this.2.2.2⟩
    · rw [List.getElem_set_ne e]; exact h.slots i hi
theorem newL_at (n : Nat) : ∀ (i j : Nat) (h : j < (newL n i).length), (newL n i)[j] = ⟨0, false, ⟨#[]⟩, ⟨#[]⟩, if j + 1 = n then -1 else (j : Int) + 1⟩
  | 0, j, h => by simp [newL] at h
  | i + 1, j, h => by
    simp only [newL]
    by_cases e : j < (newL n i).length
    · rw [List.getElem_append_left e]; exact newL_at n i j e
    · rw [List.getElem_append_right (by omega)]
      have hj : j = i := by simp [newL, newL_length] at h; rw [newL_length] at e; omega
      subst hj
      simp
theorem chain_new (n : Nat) : ∀ (d i : Nat), i + d = n → 0 < d → Chain (newL n n) (i : Int) (List.range' i d)
  | 0, _, _, h => by omega
  | 1, i, h, _ => by
    refine ⟨rfl, by rw [newL_length]; omega, ?_⟩
    rw [newL_at, if_pos (by omega)]
    rfl
  | d + 2, i, h, _ => by
    refine ⟨rfl, by rw [newL_length]; omega, ?_⟩
    rw [newL_at, if_neg (by omega)]
    have := chain_new n (d + 1) (i + 1) (by omega) (by omega)
    simpa using this
/-- A new place is right. -/
theorem OkA.new (n : Nat) (h1 : 1 ≤ n) (h2 : n ≤ 24) : OkA (newL n n) 0 := by
  refine ⟨by rw [newL_length]; exact h1, by rw [newL_length]; exact h2, ⟨List.range' 0 n, chain_new n n 0 (by omega) (by omega), ?_⟩, ?_⟩
  · intro i hi
    rw [newL_at]
    rw [newL_length] at hi
    simp [List.mem_range', hi]
  · intro i hi
    rw [newL_at]
    exact ⟨by simp, by simp, (fun h => by cases h), fun _ => ⟨rfl, rfl⟩⟩
end Go.Proofs.Ytcbfceefhoeooaa
