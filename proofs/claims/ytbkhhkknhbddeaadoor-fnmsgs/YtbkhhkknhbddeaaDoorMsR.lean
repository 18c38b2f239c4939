/- The bytes of a message, read by steps that may stop: what is read to the end are the bytes of a right message, and they alone. -/
import Derived.Test.YtbkhhkknhbddeaaDoorMsB
namespace Go.Proofs.YtbkhhkknhbddeaaDoor
open Go.RowKit
set_option linter.unusedVariables false

theorem rd_back (t : Nat → Nat) (len : Nat) (ht : ∀ k, t k ≤ 255) : ∀ (g f i acc wt n j : Nat), g ≤ f + 1 → 0 < wt → rdF t len g i acc wt = some (n, j) →
    ∃ m, n = acc + m * wt ∧ j = i + (varF f m).length ∧ (∀ q b, (varF f m)[q]? = some b → i + q < len ∧ t (i + q) = b.toNat) ∧ (1 < wt → 0 < m) ∧ n ≤ 1000000000
  | 0, f, i, acc, wt, n, j, hg, hw, h => by simp [rdF] at h
  | g + 1, f, i, acc, wt, n, j, hg, hw, h => by
    rw [rdF] at h
    by_cases c1 : i < len
    · rw [if_pos c1] at h
      by_cases c2 : 127 < t i
      · rw [if_pos c2] at h
        cases g with
        | zero => simp [rdF] at h
        | succ g =>
          obtain ⟨f', rfl⟩ : ∃ f', f = f' + 1 := ⟨f - 1, by omega⟩
          obtain ⟨m, h1, h2, h3, h4, h5⟩ := rd_back t len ht (g + 1) f' (i + 1) _ (wt * 128) n j (by omega) (by omega) h
          have hm := h4 (by omega)
          have hti := ht i
          have e1 : (t i % 128 + 128 * m) % 128 = t i % 128 := by omega
          have e2 : (t i % 128 + 128 * m) / 128 = m := by omega
          refine ⟨t i % 128 + 128 * m, ?_, ?_, ?_, fun _ => by omega, h5⟩
          · rw [h1, Nat.add_mul, Nat.add_assoc, show m * (wt * 128) = 128 * m * wt by rw [Nat.mul_comm wt 128, ← Nat.mul_assoc, Nat.mul_comm m 128]]
          · rw [varF_big f' _ (by omega), e1, e2, h2, List.length_cons]; omega
          · rw [varF_big f' _ (by omega), e1, e2]
            intro q b hq
            cases q with
            | zero =>
              injection hq with hq
              rw [← hq, ofNat_lt _ (by omega)]
              exact ⟨by omega, by rw [Nat.add_zero]; omega⟩
            | succ q =>
              have := h3 q b (by simpa using hq)
              rw [show i + (q + 1) = i + 1 + q by omega]; exact this
      · rw [if_neg c2] at h
        by_cases c3 : (t i = 0 ∧ 1 < wt) ∨ 1000000000 < acc + t i % 128 * wt
        · rw [if_pos c3] at h; cases h
        · rw [if_neg c3] at h
          injection h with h
          injection h with ha hb
          have e : t i % 128 = t i := by omega
          rw [e] at ha c3
          refine ⟨t i, ha.symm, ?_, ?_, fun h => by omega, by omega⟩
          · rw [varF_small f _ (by omega), ← hb]; rfl
          · rw [varF_small f _ (by omega)]
            intro q b hq
            cases q with
            | zero =>
              injection hq with hq
              rw [← hq, ofNat_lt _ (by omega)]
              exact ⟨by omega, rfl⟩
            | succ q => simp at hq
    · rw [if_neg c1] at h; cases h
theorem byt_at {s : ByteArray} {k : Nat} {b : UInt8} (hk : k < s.size) (h : byt s k = b.toNat) : s.data.toList[k]? = some b := by
  have hl : s.data.toList.length = s.size := by simp
  unfold byt at h
  rw [List.getElem?_eq_getElem (show k < s.data.toList.length by omega)] at h ⊢
  exact congrArg some (UInt8.toNat_inj.1 h)
theorem At13.join {s : ByteArray} {p : Nat} {a b : List UInt8} (h1 : At13 s p a) (h2 : At13 s (p + a.length) b) : At13 s p (a ++ b) :=
  ⟨fun j x hj => by
    by_cases c : j < a.length
    · rw [List.getElem?_append_left c] at hj
      exact h1.1 j x hj
    · rw [List.getElem?_append_right (by omega)] at hj
      have := h2.1 _ x hj
      rw [show p + a.length + (j - a.length) = p + j by omega] at this
      exact this, by have := h2.2; rw [List.length_append]; omega⟩
def pOne (s : ByteArray) (p : Nat) : Option (Nat × Nat) := if p < s.size then some (byt s p, p + 1) else none
def pVar (s : ByteArray) (p : Nat) : Option (Nat × Nat) := rdF (byt s) s.size 5 p 0 1
def shortO (s : ByteArray) : Option (Nat × Nat) → Option (ByteArray × Nat)
  | some (n, j) => if n ≤ 20000 ∧ j + n ≤ s.size then some (s.extract j (j + n), j + n) else none
  | none => none
def pShort (s : ByteArray) (p : Nat) : Option (ByteArray × Nat) := shortO s (pVar s p)
def pItem (s : ByteArray) (p : Nat) : Option (Im × Nat) := (pShort s p).bind fun k => (pShort s k.2).bind fun v => (pVar s v.2).bind fun n => some (⟨k.1, v.1, (n.1 : Int)⟩, n.2)
def pItems (s : ByteArray) : Nat → Nat → Option (List Im × Nat)
  | 0, p => some ([], p)
  | c + 1, p => (pItem s p).bind fun x => (pItems s c x.2).bind fun r => some (x.1 :: r.1, r.2)
def pList (s : ByteArray) (p : Nat) : Option (List Im × Nat) := (pVar s p).bind fun n => if 12 < n.1 then none else pItems s n.1 n.2
def pHead (s : ByteArray) : Option (Ms × Nat) := (pOne s 0).bind fun a => (pOne s a.2).bind fun b => (pOne s b.2).bind fun c => (pOne s c.2).bind fun d => (pVar s d.2).bind fun e => (pList s e.2).bind fun l => some (⟨(a.1 : Int), (b.1 : Int), (c.1 : Int), (d.1 : Int), (e.1 : Int), l.1⟩, l.2)
def readP (s : ByteArray) : Option Ms := (pHead s).bind fun r => if r.2 = s.size ∧ okMs r.1 then some r.1 else none
theorem pOne_back {s : ByteArray} {p n q : Nat} (h : pOne s p = some (n, q)) : At13 s p (oneB (n : Int)) ∧ q = p + (oneB (n : Int)).length := by
  unfold pOne at h
  by_cases c : p < s.size
  · rw [if_pos c] at h
    injection h with h
    injection h with h1 h2
    have hle := byt_le s p
    refine ⟨⟨fun j b hj => ?_, by show p + 1 ≤ s.size; omega⟩, h2.symm⟩
    cases j with
    | zero =>
      injection hj with hj
      refine byt_at c ?_
      rw [Nat.add_zero, ← hj, Int.toNat_natCast, ofNat_lt _ (by omega), h1]
    | succ j => simp [oneB] at hj
  · rw [if_neg c] at h; cases h
theorem pVar_back {s : ByteArray} {p n q : Nat} (h : pVar s p = some (n, q)) : At13 s p (varB n) ∧ q = p + (varB n).length ∧ n ≤ 1000000000 := by
  obtain ⟨m, h1, h2, h3, _, h5⟩ := rd_back (byt s) s.size (byt_le s) 5 9 p 0 1 n q (by omega) (by omega) h
  rw [Nat.zero_add, Nat.mul_one] at h1
  subst h1
  refine ⟨⟨fun j b hj => byt_at (h3 j b hj).1 (h3 j b hj).2, ?_⟩, h2, h5⟩
  have hp : 0 < (varB n).length := by
    unfold varB
    rw [varF]
    split <;> simp
  have hj : (varB n)[(varB n).length - 1]? = some ((varB n)[(varB n).length - 1]'(by omega)) := List.getElem?_eq_getElem _
  have := (h3 _ _ hj).1
  omega
theorem pShort_back {s t : ByteArray} {p q : Nat} (h : pShort s p = some (t, q)) : At13 s p (varB t.size ++ t.data.toList) ∧ q = p + (varB t.size).length + t.data.toList.length := by
  unfold pShort at h
  cases e : pVar s p with
  | none => rw [e] at h; cases h
  | some r =>
    obtain ⟨n, j⟩ := r
    rw [e] at h
    obtain ⟨h1, h2, _⟩ := pVar_back e
    unfold shortO at h
    by_cases c : n ≤ 20000 ∧ j + n ≤ s.size
    · simp only [if_pos c] at h
      injection h with h
      injection h with ht hq
      have hsz : t.size = n := by rw [← ht, ByteArray.size_extract]; omega
      have hl : t.data.toList.length = t.size := by simp
      have e1 : t.data.toList = (s.data.toList.drop j).take n := by
        rw [← ht, ByteArray.data_extract, Array.toList_extract, List.extract_eq_take_drop, Nat.add_sub_cancel_left]
      refine ⟨At13.join (by rw [hsz]; exact h1) ⟨fun i b hi => ?_, ?_⟩, by rw [hl, hsz]; omega⟩
      · have hil := (List.getElem?_eq_some_iff.1 hi).1
        rw [e1, List.getElem?_take, if_pos (by omega), List.getElem?_drop] at hi
        rw [hsz, ← h2]
        exact hi
      · rw [hl, hsz]; omega
    · simp only [if_neg c] at h; cases h
theorem pItem_back {s : ByteArray} {p q : Nat} {x : Im} (h : pItem s p = some (x, q)) : At13 s p (imB x) ∧ q = p + (imB x).length := by
  unfold pItem at h
  rw [Option.bind_eq_some_iff] at h
  obtain ⟨⟨k, p1⟩, a1, h⟩ := h
  rw [Option.bind_eq_some_iff] at h
  obtain ⟨⟨v, p2⟩, a2, h⟩ := h
  rw [Option.bind_eq_some_iff] at h
  obtain ⟨⟨n, p3⟩, a3, h⟩ := h
  injection h with h
  injection h with hx hq
  subst hx
  have b1 := pShort_back a1
  have b2 := pShort_back a2
  have b3 := pVar_back a3
  dsimp only at b1 b2 b3 hq
  have e : imB ⟨k, v, (n : Int)⟩ = (varB k.size ++ k.data.toList) ++ ((varB v.size ++ v.data.toList) ++ varB n) := by
    unfold imB
    dsimp only
    rw [Int.toNat_natCast]
    simp only [List.append_assoc]
  rw [e]
  have q1 : p1 = p + (varB k.size ++ k.data.toList).length := by rw [b1.2, List.length_append]; omega
  have q2 : p2 = p1 + (varB v.size ++ v.data.toList).length := by rw [b2.2, List.length_append]; omega
  refine ⟨At13.join b1.1 (by rw [← q1]; exact At13.join b2.1 (by rw [← q2]; exact b3.1)), ?_⟩
  rw [← hq, b3.2.1, q2, q1]
  simp only [List.length_append]
  omega
theorem pItems_back {s : ByteArray} : ∀ (c p : Nat) (l : List Im) (q : Nat), p ≤ s.size → pItems s c p = some (l, q) → l.length = c ∧ At13 s p (imsB l) ∧ q = p + (imsB l).length
  | 0, p, l, q, hp, h => by
    injection h with h
    injection h with hx hq
    subst hx
    refine ⟨rfl, ⟨fun j b hj => by simp [imsB] at hj, ?_⟩, hq.symm⟩
    show p + 0 ≤ s.size
    omega
  | c + 1, p, l, q, hp, h => by
    unfold pItems at h
    rw [Option.bind_eq_some_iff] at h
    obtain ⟨⟨x, p1⟩, a1, h⟩ := h
    rw [Option.bind_eq_some_iff] at h
    obtain ⟨⟨r, p2⟩, a2, h⟩ := h
    injection h with h
    injection h with hx hq
    subst hx
    have b1 := pItem_back a1
    have b2 := pItems_back c p1 r p2 (by have := b1.1.2; have := b1.2; dsimp only at *; omega) a2
    dsimp only at b1 b2 hq
    refine ⟨by rw [List.length_cons, b2.1], ?_, ?_⟩
    · exact At13.join b1.1 (by rw [← b1.2]; exact b2.2.1)
    · rw [← hq, b2.2.2, b1.2]
      show _ = p + (imB x ++ imsB r).length
      rw [List.length_append]; omega
/-- What is read to its end are the bytes of a right message. -/
theorem readP_back {s : ByteArray} {m : Ms} (h : readP s = some m) : okMs m ∧ s = ⟨(msB m).toArray⟩ := by
  unfold readP at h
  rw [Option.bind_eq_some_iff] at h
  obtain ⟨⟨m', q⟩, h, h9⟩ := h
  by_cases c : q = s.size ∧ okMs m'
  · simp only [if_pos c] at h9
    injection h9 with h9
    subst h9
    refine ⟨c.2, ?_⟩
    unfold pHead at h
    simp only [Option.bind_eq_some_iff] at h
    obtain ⟨⟨k, p1⟩, a1, ⟨f, p2⟩, a2, ⟨o, p3⟩, a3, ⟨e, p4⟩, a4, ⟨n, p5⟩, a5, ⟨l, p6⟩, a6, h⟩ := h
    injection h with h
    injection h with hm hq
    subst hm
    dsimp only at a2 a3 a4 a5 a6 hq
    unfold pList at a6
    rw [Option.bind_eq_some_iff] at a6
    obtain ⟨⟨ct, p7⟩, a7, a6⟩ := a6
    by_cases c12 : 12 < ct
    · simp only [if_pos c12] at a6; cases a6
    simp only [if_neg c12] at a6
    have b1 := pOne_back a1
    have b2 := pOne_back a2
    have b3 := pOne_back a3
    have b4 := pOne_back a4
    have b5 := pVar_back a5
    have b7 := pVar_back a7
    have b6 := pItems_back ct p7 l p6 (by have := b7.1.2; have := b7.2.1; omega) a6
    have hat : At13 s 0 (msB ⟨(k : Int), (f : Int), (o : Int), (e : Int), (n : Int), l⟩) := by
      unfold msB
      dsimp only
      rw [Int.toNat_natCast, b6.1]
      refine At13.join b1.1 (by rw [← b1.2]; refine At13.join b2.1 (by rw [← b2.2]; refine At13.join b3.1 (by rw [← b3.2]; refine At13.join b4.1 (by rw [← b4.2]; refine At13.join b5.1 (by rw [← b5.2.1]; refine At13.join b7.1 (by rw [← b7.2.1]; exact b6.2.1))))))
    have hlen : (msB ⟨(k : Int), (f : Int), (o : Int), (e : Int), (n : Int), l⟩).length = s.size := by
      unfold msB
      dsimp only
      rw [Int.toNat_natCast, b6.1]
      simp only [List.length_append]
      have := c.1
      have := b1.2
      have := b2.2
      have := b3.2
      have := b4.2
      have := b5.2.1
      have := b7.2.1
      have := b6.2.2
      omega
    have hl : s.data.toList.length = s.size := by simp
    apply ByteArray.ext
    apply Array.toList_inj.1
    refine List.ext_getElem? fun j => ?_
    by_cases cj : j < s.size
    · have hj : (msB ⟨(k : Int), (f : Int), (o : Int), (e : Int), (n : Int), l⟩)[j]? = some ((msB ⟨(k : Int), (f : Int), (o : Int), (e : Int), (n : Int), l⟩)[j]'(by omega)) := List.getElem?_eq_getElem _
      have := hat.1 j _ hj
      rw [Nat.zero_add] at this
      rw [this]
      exact hj.symm
    · rw [List.getElem?_eq_none (by omega)]
      show none = (msB ⟨(k : Int), (f : Int), (o : Int), (e : Int), (n : Int), l⟩)[j]?
      rw [List.getElem?_eq_none (by omega)]
  · simp only [if_neg c] at h9; cases h9
theorem pVar_at {s : ByteArray} {p n : Nat} (hn : n ≤ 1000000000) (h : At13 s p (varB n)) : pVar s p = some (n, p + (varB n).length) := by
  have := cVar_at hn h
  unfold cVar at this
  rw [if_neg (by simp)] at this
  unfold pVar
  cases e : rdF (byt s) s.size 5 p 0 1 with
  | none =>
    have h2 : (0, p, true) = (n, p + (varB n).length, false) := by
      rw [← this]
      show _ = (match rdF (byt s) s.size 5 p 0 1 with | some (n, j) => (n, j, false) | none => (0, p, true))
      rw [e]
    injection h2 with _ h2
    injection h2 with _ h2
    cases h2
  | some r =>
    obtain ⟨a, b⟩ := r
    have h2 : (a, b, false) = (n, p + (varB n).length, false) := by
      rw [← this]
      show _ = (match rdF (byt s) s.size 5 p 0 1 with | some (n, j) => (n, j, false) | none => (0, p, true))
      rw [e]
    injection h2 with h3 h2
    injection h2 with h4 _
    rw [h3, h4]
theorem pShort_at {s t : ByteArray} {p : Nat} (ht : t.size ≤ 20000) (h : At13 s p (varB t.size ++ t.data.toList)) : pShort s p = some (t, p + (varB t.size).length + t.size) := by
  have e1 := pVar_at (n := t.size) (by omega) h.left
  have e2 := cTake_at (t := t) h.right
  have hl : t.data.toList.length = t.size := by simp
  have h2 := h.right.2
  rw [hl] at h2
  unfold cTake at e2
  rw [if_neg (by simp; omega)] at e2
  injection e2 with e2 _
  unfold pShort
  rw [e1]
  unfold shortO
  simp only
  rw [if_pos ⟨ht, by omega⟩, e2]
theorem pOne_at {s : ByteArray} {p : Nat} {z : Int} (hz : 0 ≤ z ∧ z ≤ 255) (h : At13 s p (oneB z)) : pOne s p = some (z.toNat, p + (oneB z).length) := by
  have e := cOne_at hz h
  have h2 := h.2
  unfold oneB at h2
  simp at h2
  unfold cOne at e
  rw [if_neg (by simp; omega)] at e
  injection e with e1 e2
  unfold pOne
  rw [if_pos (by omega), e1]
  rfl
theorem pItem_at {s : ByteArray} {p : Nat} {x : Im} (hx : okIm x) (h : At13 s p (imB x)) : pItem s p = some (x, p + (imB x).length) := by
  obtain ⟨k, v, n⟩ := x
  obtain ⟨⟨_, h1⟩, h2, h3, h4⟩ := hx
  dsimp only at h1 h2 h3 h4
  have hk : k.data.toList.length = k.size := by simp
  have hv : v.data.toList.length = v.size := by simp
  have e : imB ⟨k, v, n⟩ = (varB k.size ++ k.data.toList) ++ ((varB v.size ++ v.data.toList) ++ varB n.toNat) := by
    unfold imB
    simp only [List.append_assoc]
  rw [e] at h ⊢
  have e1 := pShort_at (t := k) (by omega) h.left
  have e2 := pShort_at (t := v) (by omega) h.right.left
  have e3 := pVar_at (n := n.toNat) (by omega) h.right.right
  simp only [List.length_append, hk, hv] at e1 e2 e3
  unfold pItem
  rw [e1]
  show ((pShort s (p + (varB k.size).length + k.size)).bind _) = _
  rw [Nat.add_assoc, e2]
  show ((pVar s (p + ((varB k.size).length + k.size) + (varB v.size).length + v.size)).bind _) = _
  rw [show p + ((varB k.size).length + k.size) + (varB v.size).length + v.size = p + ((varB k.size).length + k.size) + ((varB v.size).length + v.size) by omega, e3]
  show some ((⟨k, v, ((n.toNat : Nat) : Int)⟩ : Im), _) = _
  have hn : ((n.toNat : Nat) : Int) = n := by omega
  rw [hn]
  simp only [List.length_append, hk, hv, Nat.add_assoc]
theorem pItems_at {s : ByteArray} : ∀ (l : List Im) (p : Nat), (∀ x ∈ l, okIm x) → At13 s p (imsB l) → pItems s l.length p = some (l, p + (imsB l).length)
  | [], p, _, _ => rfl
  | x :: l, p, hx, h => by
    have e1 := pItem_at (hx x (List.mem_cons_self ..)) h.left
    have e2 := pItems_at l _ (fun y hy => hx y (List.mem_cons_of_mem _ hy)) h.right
    show pItems s (l.length + 1) p = _
    unfold pItems
    rw [e1]
    show ((pItems s l.length (p + (imB x).length)).bind _) = _
    rw [e2]
    show some (x :: l, _) = some (x :: l, p + (imB x ++ imsB l).length)
    simp only [List.length_append, Nat.add_assoc]
/-- A right message is read from its bytes. -/
theorem readP_ms {m : Ms} (hm : okMs m) : readP ⟨(msB m).toArray⟩ = some m := by
  obtain ⟨k, f, o, e, n, l⟩ := m
  have hm0 := hm
  obtain ⟨h1, h2, h3, h4, h5, h6, h7⟩ := hm
  dsimp only at h1 h2 h3 h4 h5 h6 h7
  obtain ⟨hi, _, hl⟩ := h6
  have h : At13 ⟨(msB ⟨k, f, o, e, n, l⟩).toArray⟩ 0 (msB ⟨k, f, o, e, n, l⟩) := ⟨fun j b hj => by rw [Nat.zero_add]; exact hj, by rw [Nat.zero_add]; exact Nat.le_of_eq rfl⟩
  have hsz : (⟨(msB ⟨k, f, o, e, n, l⟩).toArray⟩ : ByteArray).size = (msB ⟨k, f, o, e, n, l⟩).length := rfl
  generalize hs : (⟨(msB ⟨k, f, o, e, n, l⟩).toArray⟩ : ByteArray) = s at h hsz
  unfold msB at h hsz
  have e1 := pOne_at (z := k) (by omega) h.left
  have e2 := pOne_at (z := f) (by omega) h.right.left
  have e3 := pOne_at (z := o) (by omega) h.right.right.left
  have e4 := pOne_at (z := e) (by omega) h.right.right.right.left
  have e5 := pVar_at (n := n.toNat) (by omega) h.right.right.right.right.left
  have e6 := pVar_at (n := l.length) (by omega) h.right.right.right.right.right.left
  have e7 := pItems_at l _ hi h.right.right.right.right.right.right
  have el : pList s (0 + (oneB k).length + (oneB f).length + (oneB o).length + (oneB e).length + (varB n.toNat).length) = some (l, 0 + (oneB k).length + (oneB f).length + (oneB o).length + (oneB e).length + (varB n.toNat).length + (varB l.length).length + (imsB l).length) := by
    unfold pList
    rw [e6]
    show (if 12 < l.length then none else pItems s l.length _) = _
    rw [if_neg (by omega), e7]
  have q1 : ((k.toNat : Nat) : Int) = k := by omega
  have q2 : ((f.toNat : Nat) : Int) = f := by omega
  have q3 : ((o.toNat : Nat) : Int) = o := by omega
  have q4 : ((e.toNat : Nat) : Int) = e := by omega
  have q5 : ((n.toNat : Nat) : Int) = n := by omega
  have hh : pHead s = some (⟨k, f, o, e, n, l⟩, s.size) := by
    unfold pHead
    simp only [e1, e2, e3, e4, e5, el, Option.bind_some, q1, q2, q3, q4, q5]
    rw [hsz]
    simp only [List.length_append, Nat.zero_add, Nat.add_assoc]
  unfold readP
  rw [hh]
  show (if s.size = s.size ∧ okMs ⟨k, f, o, e, n, l⟩ then some (⟨k, f, o, e, n, l⟩ : Ms) else none) = _
  rw [if_pos ⟨rfl, hm0⟩]
end Go.Proofs.YtbkhhkknhbddeaaDoor
