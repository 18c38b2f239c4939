/- What a room writes out, plain: a place is right just when what is written is what was taken in. -/
import Derived.Test.YtcbfceefhoeooaaArenaP
import Derived.Test.YtcbfceefhoeooaaRoom
namespace Go.Proofs.Ytcbfceefhoeooaa

/-- Slots filled up to 24. -/
def fillup (l : List Sl) : List Sl := l ++ List.replicate (24 - l.length) zS
theorem fillup_length {l : List Sl} (h : l.length ≤ 24) : (fillup l).length = 24 := by simp [fillup]; omega
theorem fillup_at {l : List Sl} (i : Nat) (h : i < l.length) : (fillup l)[i]? = some l[i] := by
  rw [fillup, List.getElem?_append_left h, List.getElem?_eq_getElem h]
theorem fillup_out {l : List Sl} (i : Nat) (h : l.length ≤ i) (h2 : i < 24) : (fillup l)[i]? = some zS := by
  rw [fillup, List.getElem?_append_right h, List.getElem?_replicate, if_pos (by omega)]
theorem Chain.hd {l : List Sl} {V : List Nat} {a : Int} (h : Chain l a V) : a = hdI V := by
  match V, h with
  | [], h => exact h
  | k :: V, h => exact h.1
def asUsed (s : Sl) : Sl := ⟨s.gen, true, s.key, s.val, 0⟩
def genAt (L : List Sl) (k : Nat) : Int := (L[k]?.map (·.gen)).getD 0
def wrtU (L : List Sl) (n : Nat) : List Sl := (L.take n).map asUsed ++ List.replicate (24 - n) zS
def frS (g : Int) (p : Int) : Sl := ⟨g, false, ⟨#[]⟩, ⟨#[]⟩, p⟩
def wrtV (L : List Sl) : List Sl → List Nat → List Sl
  | out, [] => out
  | out, k :: V => wrtV L (out.set k (frS (genAt L k) (hdI V))) V
/-- What is written out. -/
def wrt (L : List Sl) (n : Nat) (V : List Nat) : List Sl := wrtV L (wrtU L n) V
theorem wrtU_length {L : List Sl} {n : Nat} (hL : L.length = 24) (hn : n ≤ 24) : (wrtU L n).length = 24 := by simp [wrtU, hL]; omega
theorem wrtV_length (L : List Sl) : ∀ (V : List Nat) (out : List Sl), (wrtV L out V).length = out.length
  | [], _ => rfl
  | k :: V, out => by rw [wrtV, wrtV_length L V, List.length_set]
theorem wrtU_at {L : List Sl} {n i : Nat} (hL : L.length = 24) (hn : n ≤ 24) (hi : i < n) : (wrtU L n)[i]? = some (asUsed (L[i]'(by omega))) := by
  rw [wrtU, List.getElem?_append_left (by simp; omega), List.getElem?_map, List.getElem?_take, if_pos hi, List.getElem?_eq_getElem (by omega)]
  rfl
theorem wrtU_out {L : List Sl} {n i : Nat} (hL : L.length = 24) (hi : n ≤ i) (hi2 : i < 24) : (wrtU L n)[i]? = some zS := by
  rw [wrtU, List.getElem?_append_right (by simp; omega), List.getElem?_replicate, if_pos (by simp; omega)]
theorem wrtV_chain {m : List Sl} (L : List Sl) : ∀ (V : List Nat) (a : Int) (out : List Sl), Chain m a V → m.length ≤ out.length → ∀ i (hi : i < m.length), (wrtV L out V)[i]? = if i ∈ V then some (frS (genAt L i) m[i].next) else out[i]?
  | [], _, out, _, _, i, _ => by simp [wrtV]
  | k :: V, a, out, hc, ho, i, hi => by
    have hnd := hc.nodup
    obtain ⟨_, hk, hc'⟩ := hc
    rw [wrtV, wrtV_chain L V _ _ hc' (by rw [List.length_set]; exact ho) i hi]
    have hkV : k ∉ V := (List.nodup_cons.1 hnd).1
    by_cases e : k = i
    · subst e
      rw [if_neg hkV, if_pos (by simp), List.getElem?_set_self (by omega), ← hc'.hd]
    · have e2 : i ≠ k := fun h => e h.symm
      rw [List.getElem?_set_ne e]
      simp [e2]
theorem wrtV_out {m : List Sl} (L : List Sl) : ∀ (V : List Nat) (a : Int) (out : List Sl), Chain m a V → ∀ i, m.length ≤ i → (wrtV L out V)[i]? = out[i]?
  | [], _, _, _, _, _ => rfl
  | k :: V, a, out, hc, i, hi => by
    obtain ⟨_, hk, hc'⟩ := hc
    rw [wrtV, wrtV_out L V _ _ hc' i hi, List.getElem?_set_ne (by omega)]
theorem bytes_none {z : ByteArray} (h : z.size = 0) : z = ⟨#[]⟩ := by
  cases z with
  | mk d => have : d.size = 0 := h; simp at this; subst this; rfl

theorem wrt_eq {m L : List Sl} {f : Int} {V : List Nat} (hok : OkA m f) (hc : Chain m f V) (hL : L.length = 24)
    (hg : ∀ i (h : i < m.length), ∃ s, L[i]? = some s ∧ s.gen = m[i].gen ∧ (i ∉ V → s.key = m[i].key ∧ s.val = m[i].val)) : wrt L m.length V = fillup m := by
  have hm := hok.most
  refine List.ext_getElem? fun i => ?_
  by_cases hi : i < m.length
  · rw [wrt, wrtV_chain L V f _ hc (by rw [wrtU_length hL hm]; exact hm) i hi, fillup_at i hi]
    obtain ⟨s, hs, hsg, hskv⟩ := hg i hi
    have hmet := hok.met hc i hi
    have hsl := hok.slots i hi
    by_cases hv : i ∈ V
    · rw [if_pos hv]
      have hu := hmet.2 hv
      obtain ⟨k0, v0⟩ := hsl.2.2.2 hu
      have e1 : genAt L i = m[i].gen := by rw [genAt, hs]; exact hsg
      rw [e1]
      generalize m[i] = t at *
      cases t
      simp only at hu k0 v0
      subst hu
      rw [bytes_none k0, bytes_none v0]
      rfl
    · rw [if_neg hv, wrtU_at hL hm hi]
      have hu : m[i].used = true := by
        rcases h : m[i].used with _ | _
        · exact absurd (hmet.1 h) hv
        · rfl
      obtain ⟨_, _, _, n0⟩ := hsl.2.2.1 hu
      obtain ⟨k0, v0⟩ := hskv hv
      have hs' : L[i]'(by omega) = s := by
        rw [List.getElem?_eq_getElem (by omega)] at hs
        exact Option.some.inj hs
      rw [hs', asUsed, hsg, k0, v0]
      generalize m[i] = t at *
      cases t
      simp only at hu n0
      subst hu n0
      rfl
  · by_cases h24 : i < 24
    · rw [wrt, wrtV_out L V f _ hc i (by omega), wrtU_out hL (by omega) h24, fillup_out i (by omega) h24]
    · rw [List.getElem?_eq_none (by rw [wrt, wrtV_length, wrtU_length hL hm]; omega), List.getElem?_eq_none (by rw [fillup_length hm]; omega)]

theorem wrt_ok {l : List Sl} {f : Int} {V : List Nat} (hc : Chain l f V) (h1 : 1 ≤ l.length) (h2 : l.length ≤ 24)
    (hs : ∀ i (h : i < l.length), 0 ≤ l[i].gen ∧ l[i].gen ≤ 41666665 ∧ (l[i].used = true → 1 ≤ l[i].key.size ∧ l[i].key.size ≤ 12 ∧ l[i].val.size ≤ 20)) (he : wrt (fillup l) l.length V = fillup l) : OkA l f := by
  have hL := fillup_length h2
  have key : ∀ i (hi : i < l.length), (i ∈ V → l[i].used = false ∧ l[i].key.size = 0 ∧ l[i].val.size = 0) ∧ (i ∉ V → l[i].used = true ∧ l[i].next = 0) := by
    intro i hi
    have h : (wrt (fillup l) l.length V)[i]? = (fillup l)[i]? := by rw [he]
    rw [wrt, wrtV_chain _ V f _ hc (by rw [wrtU_length hL h2]; exact h2) i hi, fillup_at i hi] at h
    constructor
    · intro hv
      rw [if_pos hv] at h
      have := Option.some.inj h
      rw [← this]
      exact ⟨rfl, rfl, rfl⟩
    · intro hv
      rw [if_neg hv, wrtU_at hL h2 hi] at h
      have := Option.some.inj h
      rw [← this]
      exact ⟨rfl, rfl⟩
  refine ⟨h1, h2, ⟨V, hc, fun i hi => ⟨fun hu => ?_, fun hv => ((key i hi).1 hv).1⟩⟩, fun i hi => ?_⟩
  · by_cases hv : i ∈ V
    · exact hv
    · have := ((key i hi).2 hv).1
      rw [hu] at this
      cases this
  · obtain ⟨g1, g2, g3⟩ := hs i hi
    refine ⟨g1, g2, fun hu => ?_, fun hu => ?_⟩
    · by_cases hv : i ∈ V
      · have := ((key i hi).1 hv).1
        rw [hu] at this
        cases this
      · exact ⟨(g3 hu).1, (g3 hu).2.1, (g3 hu).2.2, ((key i hi).2 hv).2⟩
    · by_cases hv : i ∈ V
      · exact ((key i hi).1 hv).2
      · have := ((key i hi).2 hv).1
        rw [hu] at this
        cases this

theorem count_next (i : Nat) : ∀ V : List Nat, V.countP (fun x => decide (x < i + 1)) = V.countP (fun x => decide (x < i)) + V.count i
  | [] => rfl
  | k :: V => by
    have ih := count_next i V
    simp only [List.countP_cons, List.count_cons]
    by_cases h1 : k < i
    · have h2 : k < i + 1 := by omega
      have h3 : ¬ k = i := by omega
      simp [h1, h2, h3, ih]; omega
    · by_cases h4 : k = i
      · subst h4; simp [ih]; omega
      · have h2 : ¬ k < i + 1 := by omega
        simp [h1, h2, h4, ih]
theorem count_nodup (i : Nat) : ∀ V : List Nat, V.Nodup → V.count i = if i ∈ V then 1 else 0
  | [], _ => by simp
  | k :: V, h => by
    have hk := List.nodup_cons.1 h
    rw [List.count_cons, count_nodup i V hk.2]
    by_cases e : k = i
    · subst e; simp [hk.1]
    · have e2 : ¬ i = k := fun h => e h.symm
      simp [e, e2]
theorem used_chain {l : List Sl} {f : Int} {V : List Nat} (hok : OkA l f) (hc : Chain l f V) : usedN l l.length + V.length = l.length := by
  have key : ∀ i, i ≤ l.length → usedN l i + V.countP (fun x => decide (x < i)) = i := by
    intro i
    induction i with
    | zero => intro _; simp [usedN]
    | succ i ih =>
      intro hi
      have ih := ih (by omega)
      have hlt : i < l.length := by omega
      rw [usedN, count_next, count_nodup i V hc.nodup, List.getElem?_eq_getElem hlt]
      have hmet := hok.met hc i hlt
      rcases hu : l[i].used with _ | _
      · simp [hu, hmet.1 hu]; omega
      · have : i ∉ V := fun h => by rw [hmet.2 h] at hu; cases hu
        simp [hu, this]; omega
  have h := key l.length (Nat.le_refl _)
  rw [List.countP_eq_length.2 (fun x hx => by simpa using hc.lt x hx)] at h
  exact h
end Go.Proofs.Ytcbfceefhoeooaa
