/- What a place of slots is, plain: its chain of free ones, when it is right. -/
import Derived.Test.YtcbfceefhoeooaaKit
namespace Go.Proofs.Ytcbfceefhoeooaa

structure Sl where
  gen : Int
  used : Bool
  key : ByteArray
  val : ByteArray
  next : Int

/-- The cells of a slot, and of a row of them. -/
def slC (s : Sl) : List Value := [.int .i64 s.gen, .bool s.used, .string s.key, .string s.val, .int .i64 s.next]
def sls (l : List Sl) : List Value := l.flatMap slC
theorem slC_length (s : Sl) : (slC s).length = 5 := rfl
theorem sls_length (l : List Sl) : (sls l).length = l.length * 5 := by
  induction l with
  | nil => rfl
  | cons s l ih => rw [sls, List.flatMap_cons, List.length_append, slC_length, ← sls, ih, List.length_cons]; omega
theorem sls_append (l m : List Sl) : sls (l ++ m) = sls l ++ sls m := by simp [sls]
theorem sls_cons (s : Sl) (l : List Sl) : sls (s :: l) = slC s ++ sls l := rfl
/-- Cell j of slot i. -/
theorem sls_at : ∀ (l : List Sl) (i j : Nat) (hi : i < l.length), j < 5 → (sls l)[i * 5 + j]? = (slC l[i])[j]?
  | s :: l, 0, j, _, hj => by rw [sls_cons, Nat.zero_mul, Nat.zero_add, List.getElem?_append_left (by rw [slC_length]; exact hj)]; rfl
  | s :: l, i + 1, j, hi, hj => by
    rw [sls_cons, List.getElem?_append_right (by rw [slC_length]; omega), slC_length, show (i + 1) * 5 + j - 5 = i * 5 + j by omega, sls_at l i j (by simpa using hi) hj]
    rfl
theorem sls_set : ∀ (l : List Sl) (i : Nat) (s : Sl), i < l.length → sls (l.set i s) = (sls l).take (i * 5) ++ slC s ++ (sls l).drop (i * 5 + 5)
  | t :: l, 0, s, _ => by
    rw [List.set_cons_zero, sls_cons, sls_cons, Nat.zero_mul, List.take_zero, List.nil_append, Nat.zero_add, List.drop_append_of_le_length (by rw [slC_length]; omega)]
    simp [slC]
  | t :: l, i + 1, s, hi => by
    rw [List.set_cons_succ, sls_cons, sls_cons, sls_set l i s (by simpa using hi)]
    have h1 : (slC t ++ sls l).take ((i + 1) * 5) = slC t ++ (sls l).take (i * 5) := by
      rw [List.take_append, slC_length, List.take_of_length_le (by rw [slC_length]; omega), show (i + 1) * 5 - 5 = i * 5 by omega]
    have h2 : (slC t ++ sls l).drop ((i + 1) * 5 + 5) = (sls l).drop (i * 5 + 5) := by
      rw [List.drop_append, slC_length, List.drop_eq_nil_of_le (by rw [slC_length]; omega), List.nil_append, show (i + 1) * 5 + 5 - 5 = i * 5 + 5 by omega]
    rw [h1, h2]
    simp [List.append_assoc]

/-- The places of a chain, from one on to its end. -/
def Chain (l : List Sl) : Int → List Nat → Prop
  | a, [] => a = -1
  | a, p :: v => a = (p : Int) ∧ ∃ h : p < l.length, Chain l l[p].next v
/-- The places on the way from one to another. -/
def Path (l : List Sl) : Int → List Nat → Int → Prop
  | a, [], b => a = b
  | a, p :: v, b => a = (p : Int) ∧ ∃ h : p < l.length, Path l l[p].next v b
theorem Chain.det {l : List Sl} : ∀ {v v' : List Nat} {a : Int}, Chain l a v → Chain l a v' → v = v'
  | [], [], _, _, _ => rfl
  | [], p :: v', a, h, h' => by have h1 : a = -1 := h; have h2 : a = (p : Int) := h'.1; omega
  | p :: v, [], a, h, h' => by have h1 : a = -1 := h'; have h2 : a = (p : Int) := h.1; omega
  | p :: v, p' :: v', a, h, h' => by
    obtain ⟨e, hp, hc⟩ := h
    obtain ⟨e', hp', hc'⟩ := h'
    obtain rfl : p = p' := by omega
    rw [Chain.det hc hc']
theorem Chain.tail {l : List Sl} : ∀ {s t : List Nat} {p : Nat} {a : Int}, Chain l a (s ++ p :: t) → Chain l (p : Int) (p :: t)
  | [], t, p, a, h => by have e := h.1; subst e; exact h
  | q :: s, t, p, a, h => by obtain ⟨_, _, hc⟩ := h; exact Chain.tail hc
theorem Chain.nodup {l : List Sl} : ∀ {v : List Nat} {a : Int}, Chain l a v → v.Nodup
  | [], _, _ => List.nodup_nil
  | p :: v, a, h => by
    have h0 := h
    obtain ⟨e, hp, hc⟩ := h
    refine List.nodup_cons.2 ⟨fun hm => ?_, Chain.nodup hc⟩
    obtain ⟨s, t, rfl⟩ := List.append_of_mem hm
    subst e
    have := congrArg List.length (Chain.det h0 (Chain.tail hc))
    simp at this
    omega
theorem Chain.lt {l : List Sl} : ∀ {v : List Nat} {a : Int}, Chain l a v → ∀ p ∈ v, p < l.length
  | [], _, _, p, hp => by cases hp
  | q :: v, a, h, p, hp => by
    obtain ⟨_, hq, hc⟩ := h
    rcases List.mem_cons.1 hp with rfl | h2
    · exact hq
    · exact Chain.lt hc p h2
theorem Path.chain {l : List Sl} : ∀ {u V : List Nat} {a b : Int}, Path l a u b → (Chain l a V ↔ ∃ V', V = u ++ V' ∧ Chain l b V')
  | [], V, a, b, h => by
    have e : a = b := h
    subst e
    exact ⟨fun h => ⟨V, rfl, h⟩, fun ⟨V', e, h⟩ => by rw [e]; exact h⟩
  | p :: u, V, a, b, h => by
    obtain ⟨e, hp, hc⟩ := h
    constructor
    · intro hV
      match V, hV with
      | [], hV => have : a = -1 := hV; omega
      | q :: V, hV =>
        obtain ⟨e', hq, hV'⟩ := hV
        obtain rfl : p = q := by omega
        obtain ⟨V', rfl, h'⟩ := (Path.chain hc).1 hV'
        exact ⟨V', rfl, h'⟩
    · rintro ⟨V', rfl, h'⟩
      exact ⟨e, hp, (Path.chain hc).2 ⟨V', rfl, h'⟩⟩
theorem Path.snoc {l : List Sl} : ∀ {u : List Nat} {a : Int} {p : Nat} (hp : p < l.length), Path l a u (p : Int) → Path l a (u ++ [p]) l[p].next
  | [], a, p, hp, h => ⟨h, hp, rfl⟩
  | q :: u, a, p, hp, h => by obtain ⟨e, hq, hc⟩ := h; exact ⟨e, hq, Path.snoc hp hc⟩

/-- What is asked of one slot. -/
def slotOk (s : Sl) : Prop := 0 ≤ s.gen ∧ s.gen ≤ 41666665 ∧ (s.used = true → 1 ≤ s.key.size ∧ s.key.size ≤ 12 ∧ s.val.size ≤ 20 ∧ s.next = 0) ∧ (s.used = false → s.key.size = 0 ∧ s.val.size = 0)
/-- A place is right. -/
structure OkA (l : List Sl) (free : Int) : Prop where
  least : 1 ≤ l.length
  most : l.length ≤ 24
  chain : ∃ V, Chain l free V ∧ ∀ i (h : i < l.length), l[i].used = false ↔ i ∈ V
  slots : ∀ i (h : i < l.length), slotOk l[i]
theorem OkA.free {l : List Sl} {free : Int} (h : OkA l free) : free = -1 ∨ ∃ k : Nat, free = (k : Int) ∧ ∃ hk : k < l.length, l[k].used = false := by
  obtain ⟨V, hV, hu⟩ := h.chain
  match V, hV, hu with
  | [], hV, _ => exact .inl hV
  | p :: V, hV, hu => exact .inr ⟨p, hV.1, hV.2.1, (hu p hV.2.1).2 (by simp)⟩
end Go.Proofs.Ytcbfceefhoeooaa
