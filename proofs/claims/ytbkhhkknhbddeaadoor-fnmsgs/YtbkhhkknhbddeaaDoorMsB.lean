/- The bytes of a message, and the model's reader of them, as plain functions: what is written is read back. -/
import Derived.Test.YtbkhhkknhbddeaaDoorVarP
import Derived.Test.YtbkhhkknhbddeaaDoorMsS
namespace Go.Proofs.YtbkhhkknhbddeaaDoor
open Go.RowKit
set_option linter.unusedVariables false
def imB (x : Im) : List UInt8 := varB x.k.size ++ (x.k.data.toList ++ (varB x.v.size ++ (x.v.data.toList ++ varB x.n.toNat)))
def imsB : List Im → List UInt8
  | [] => []
  | x :: l => imB x ++ imsB l
def oneB (z : Int) : List UInt8 := [UInt8.ofNat z.toNat]
def msB (m : Ms) : List UInt8 := oneB m.k ++ (oneB m.f ++ (oneB m.o ++ (oneB m.e ++ (varB m.n.toNat ++ (varB m.is.length ++ imsB m.is)))))
/-- A reader: its place, and whether it is bad. -/
def cVar (s : ByteArray) (c : Nat × Bool) : Nat × Nat × Bool :=
  if c.2 = true then (0, c.1, true) else match rdF (byt s) s.size 5 c.1 0 1 with | some (n, j) => (n, j, false) | none => (0, c.1, true)
def cTake (s : ByteArray) (c : Nat × Bool) (n : Nat) : ByteArray × Nat × Bool :=
  if c.2 = true ∨ s.size - c.1 < n then (⟨#[]⟩, c.1, true) else (s.extract c.1 (c.1 + n), c.1 + n, false)
def cOne (s : ByteArray) (c : Nat × Bool) : Nat × Nat × Bool :=
  if c.2 = true ∨ s.size - c.1 < 1 then (0, c.1, true) else (byt s c.1, c.1 + 1, false)
def cItem (s : ByteArray) (c : Nat × Bool) : Im × Nat × Bool :=
  let a := cVar s c
  let k := cTake s a.2 a.1
  let b := cVar s k.2
  let v := cTake s b.2 b.1
  let n := cVar s v.2
  (⟨k.1, v.1, (n.1 : Int)⟩, n.2)
def cItems (s : ByteArray) : Nat → Nat × Bool → List Im × Nat × Bool
  | 0, c => ([], c)
  | k + 1, c => if c.2 = true then ([], c) else
    let x := cItem s c
    let r := cItems s k x.2
    (x.1 :: r.1, r.2)
def readM (s : ByteArray) (bad : Bool) : Ms × Nat × Nat × Bool :=
  let a := cOne s (0, bad)
  let b := cOne s a.2
  let c := cOne s b.2
  let d := cOne s c.2
  let e := cVar s d.2
  let n := cVar s e.2
  let l := cItems s (min n.1 50) n.2
  (⟨(a.1 : Int), (b.1 : Int), (c.1 : Int), (d.1 : Int), (e.1 : Int), l.1⟩, n.1, l.2)
/-- The bytes l stand in s from p on. -/
def At13 (s : ByteArray) (p : Nat) (l : List UInt8) : Prop := (∀ j b, l[j]? = some b → s.data.toList[p + j]? = some b) ∧ p + l.length ≤ s.size
theorem At13.left {s : ByteArray} {p : Nat} {a b : List UInt8} (h : At13 s p (a ++ b)) : At13 s p a :=
  ⟨fun j x hj => h.1 j x (by rw [List.getElem?_append_left (List.getElem?_eq_some_iff.1 hj).1]; exact hj), by have := h.2; rw [List.length_append] at this; omega⟩
theorem At13.right {s : ByteArray} {p : Nat} {a b : List UInt8} (h : At13 s p (a ++ b)) : At13 s (p + a.length) b :=
  ⟨fun j x hj => by
    have := h.1 (a.length + j) x (by rw [List.getElem?_append_right (by omega), show a.length + j - a.length = j by omega]; exact hj)
    rw [show p + a.length + j = p + (a.length + j) by omega]; exact this, by have := h.2; rw [List.length_append] at this; omega⟩
theorem cVar_at {s : ByteArray} {p n : Nat} (hn : n ≤ 1000000000) (h : At13 s p (varB n)) : cVar s (p, false) = (n, p + (varB n).length, false) := by
  unfold cVar
  rw [if_neg (by simp)]
  have e := rd_var (byt s) s.size 9 5 n p 0 1 (varB_len5 n hn) (fun j b hj => by
    have h1 := h.1 j b hj
    refine ⟨?_, ?_⟩
    · have := (List.getElem?_eq_some_iff.1 hj).1
      have hv : (varF 9 n).length = (varB n).length := rfl
      have := h.2
      omega
    · unfold byt; rw [h1]; rfl) (by omega) (by omega) (.inl rfl)
  show (match rdF (byt s) s.size 5 p 0 1 with | some (n, j) => (n, j, false) | none => (0, p, true)) = _
  rw [e]
  show (0 + n * 1, p + (varF 9 n).length, false) = _
  rw [Nat.zero_add, Nat.mul_one]; rfl
theorem cTake_at {s t : ByteArray} {p : Nat} (h : At13 s p t.data.toList) : cTake s (p, false) t.size = (t, p + t.size, false) := by
  have hl : t.data.toList.length = t.size := by simp
  have h2 := h.2
  rw [hl] at h2
  unfold cTake
  rw [if_neg (by simp; omega)]
  have e : s.extract p (p + t.size) = t := by
    apply ByteArray.ext
    apply Array.toList_inj.1
    have e1 : (s.extract p (p + t.size)).data.toList = (s.data.toList.drop p).take t.size := by
      rw [ByteArray.data_extract, Array.toList_extract, List.extract_eq_take_drop, Nat.add_sub_cancel_left]
    rw [e1]
    refine List.ext_getElem? fun j => ?_
    rw [List.getElem?_take]
    by_cases c : j < t.size
    · rw [if_pos c, List.getElem?_drop]
      have hj : t.data.toList[j]? = some (t.data.toList[j]'(by omega)) := List.getElem?_eq_getElem _
      rw [hj]
      exact h.1 j _ hj
    · rw [if_neg c, List.getElem?_eq_none (by omega)]
  rw [e]
theorem cOne_at {s : ByteArray} {p : Nat} {z : Int} (hz : 0 ≤ z ∧ z ≤ 255) (h : At13 s p (oneB z)) : cOne s (p, false) = (z.toNat, p + (oneB z).length, false) := by
  have h2 := h.2
  have h1 := h.1 0 _ rfl
  unfold oneB at h2
  simp at h2
  unfold cOne
  rw [if_neg (by simp; omega)]
  have e : byt s p = z.toNat := by
    unfold byt
    rw [Nat.add_zero] at h1
    rw [h1]
    exact ofNat_lt _ (by omega)
  show (byt s p, p + 1, false) = _
  rw [e]; rfl
theorem cItem_at {s : ByteArray} {p : Nat} {x : Im} (hx : okIm x) (h : At13 s p (imB x)) : cItem s (p, false) = (x, p + (imB x).length, false) := by
  obtain ⟨k, v, n⟩ := x
  obtain ⟨⟨_, h1⟩, h2, h3, h4⟩ := hx
  dsimp only at h1 h2 h3 h4
  have e1 := cVar_at (n := k.size) (by omega) h.left
  have e2 := cTake_at (t := k) h.right.left
  have e3 := cVar_at (n := v.size) (by omega) h.right.right.left
  have e4 := cTake_at (t := v) h.right.right.right.left
  have e5 := cVar_at (n := n.toNat) (by omega) h.right.right.right.right
  have hk : k.data.toList.length = k.size := by simp
  have hv : v.data.toList.length = v.size := by simp
  rw [hk] at e3 e4 e5
  rw [hv] at e5
  unfold cItem
  simp only [e1, e2, e3, e4, e5]
  have hn : ((n.toNat : Nat) : Int) = n := by omega
  rw [hn]
  unfold imB
  simp only [List.length_append, hk, hv, Nat.add_assoc]
theorem cItems_at {s : ByteArray} : ∀ (l : List Im) (p : Nat), (∀ x ∈ l, okIm x) → At13 s p (imsB l) → cItems s l.length (p, false) = (l, p + (imsB l).length, false)
  | [], p, _, _ => rfl
  | x :: l, p, hx, h => by
    have e1 := cItem_at (hx x (List.mem_cons_self ..)) h.left
    have e2 := cItems_at l _ (fun y hy => hx y (List.mem_cons_of_mem _ hy)) h.right
    show cItems s (l.length + 1) (p, false) = _
    unfold cItems
    rw [if_neg (by simp)]
    simp only [e1, e2]
    show _ = (x :: l, p + (imB x ++ imsB l).length, false)
    simp only [List.length_append, Nat.add_assoc]
/-- A right message is read back from its bytes, to their end. -/
theorem read_ms {m : Ms} (hm : okMs m) : readM ⟨(msB m).toArray⟩ false = (m, m.is.length, (msB m).length, false) := by
  obtain ⟨k, f, o, e, n, l⟩ := m
  obtain ⟨h1, h2, h3, h4, h5, h6, h7⟩ := hm
  dsimp only at h1 h2 h3 h4 h5 h6 h7
  obtain ⟨hi, _, hl⟩ := h6
  have h : At13 ⟨(msB ⟨k, f, o, e, n, l⟩).toArray⟩ 0 (msB ⟨k, f, o, e, n, l⟩) := ⟨fun j b hj => by rw [Nat.zero_add]; exact hj, by rw [Nat.zero_add]; exact Nat.le_of_eq rfl⟩
  generalize hs : (⟨(msB ⟨k, f, o, e, n, l⟩).toArray⟩ : ByteArray) = s at h
  unfold msB at h
  have e1 := cOne_at (z := k) (by omega) h.left
  have e2 := cOne_at (z := f) (by omega) h.right.left
  have e3 := cOne_at (z := o) (by omega) h.right.right.left
  have e4 := cOne_at (z := e) (by omega) h.right.right.right.left
  have e5 := cVar_at (n := n.toNat) (by omega) h.right.right.right.right.left
  have e6 := cVar_at (n := l.length) (by omega) h.right.right.right.right.right.left
  have e7 := cItems_at l _ hi h.right.right.right.right.right.right
  unfold readM
  simp only [e1, e2, e3, e4, e5, e6, Nat.min_eq_left (show l.length ≤ 50 by omega), e7]
  have q1 : ((k.toNat : Nat) : Int) = k := by omega
  have q2 : ((f.toNat : Nat) : Int) = f := by omega
  have q3 : ((o.toNat : Nat) : Int) = o := by omega
  have q4 : ((e.toNat : Nat) : Int) = e := by omega
  have q5 : ((n.toNat : Nat) : Int) = n := by omega
  rw [q1, q2, q3, q4, q5]
  unfold msB
  simp only [List.length_append, Nat.add_assoc, Nat.zero_add]
theorem imB_size {x : Im} (h : okIm x) : (imB x).length ≤ 47 := by
  obtain ⟨⟨_, h1⟩, h2, h3, h4⟩ := h
  have a := varB_len5 x.k.size (by omega)
  have b := varB_len5 x.v.size (by omega)
  have c := varB_len5 x.n.toNat (by omega)
  have hk : x.k.data.toList.length = x.k.size := by simp
  have hv : x.v.data.toList.length = x.v.size := by simp
  unfold imB
  simp only [List.length_append, hk, hv]
  omega
theorem imsB_size : ∀ (l : List Im), (∀ x ∈ l, okIm x) → (imsB l).length ≤ 47 * l.length
  | [], _ => Nat.le_refl _
  | x :: l, h => by
    have a := imB_size (h x (List.mem_cons_self ..))
    have b := imsB_size l (fun y hy => h y (List.mem_cons_of_mem _ hy))
    show (imB x ++ imsB l).length ≤ 47 * (l.length + 1)
    rw [List.length_append]
    omega
/-- A right message has some 578 bytes at most: Sealed takes it. -/
theorem msB_size {m : Ms} (hm : okMs m) : (msB m).length ≤ 578 := by
  obtain ⟨h1, h2, h3, h4, h5, ⟨hi, _, hl⟩, h7⟩ := hm
  have a := varB_len5 m.n.toNat (by omega)
  have b := varB_len5 m.is.length (by omega)
  have c := imsB_size m.is hi
  unfold msB oneB
  simp only [List.length_append, List.length_cons, List.length_nil]
  omega
end Go.Proofs.YtbkhhkknhbddeaaDoor
