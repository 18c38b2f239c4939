/- Sketches, plain: what is guessed behind a count, and when all are halved. -/
import Derived.Test.YthigmdocfjhdlaaSkP
namespace Go.Proofs.Ythigmdocfjhdlaa

theorem gK_half (l : List Int) (k : Nat) : gK (halfK l) k = gK l k / 2 := by
  unfold gK halfK
  rw [List.getD_eq_getElem?_getD, List.getD_eq_getElem?_getD, List.getElem?_map]
  cases l[k]? <;> simp
theorem leastK_in {l : List Int} (h : InK15 l) (key : ByteArray) : ∀ r, 0 ≤ leastK l key r ∧ leastK l key r ≤ 15
  | 0 => by simp [leastK]
  | r + 1 => by have := leastK_in h key r; have := h.g (atK key r); rw [leastK]; omega
theorem least_half {l : List Int} (h : InK15 l) (key : ByteArray) : leastK (halfK l) key 3 = leastK l key 3 / 2 := by
  have h0 := h.g (atK key 0)
  have h1 := h.g (atK key 1)
  have h2 := h.g (atK key 2)
  simp only [leastK, gK_half]
  omega
theorem gK_bump (l : List Int) (k j : Nat) (hk : k < l.length) : gK (bump l k) j = if k = j then min (gK l k + 1) 15 else gK l j := gK_set l k j _ hk
theorem gK_bump_ge {l : List Int} (h : InK15 l) (k j : Nat) (hk : k < l.length) : gK l j ≤ gK (bump l k) j := by
  rw [gK_bump l k j hk]
  split
  · rename_i e; subst e; have := h.g k; omega
  · exact Int.le_refl _
theorem gK_add_ge {l : List Int} (h : InK15 l) (hl : l.length = 48) (key : ByteArray) (j : Nat) : ∀ r, r ≤ 3 → gK l j ≤ gK (addK l key r) j
  | 0, _ => Int.le_refl _
  | r + 1, hr => Int.le_trans (gK_add_ge h hl key j r (by omega)) (gK_bump_ge (h.add key r) _ _ (by rw [addK_length, hl]; exact atK_lt key r (by omega)))
theorem gK_add_own {l : List Int} (hl : l.length = 48) (key : ByteArray) (r : Nat) (hr : r < 3) : gK (addK l key 3) (atK key r) = min (gK l (atK key r) + 1) 15 := by
  have l0 : atK key 0 < l.length := by rw [hl]; exact atK_lt key 0 (by omega)
  have l1 : atK key 1 < (bump l (atK key 0)).length := by rw [bump_length, hl]; exact atK_lt key 1 (by omega)
  have l2 : atK key 2 < (bump (bump l (atK key 0)) (atK key 1)).length := by rw [bump_length, bump_length, hl]; exact atK_lt key 2 (by omega)
  have e0 : atK key 0 < 16 := by unfold atK; omega
  have e1 : 16 ≤ atK key 1 ∧ atK key 1 < 32 := by unfold atK; omega
  have e2 : 32 ≤ atK key 2 := by unfold atK; omega
  show gK (bump (bump (bump l (atK key 0)) (atK key 1)) (atK key 2)) (atK key r) = _
  rw [gK_bump _ _ _ l2, gK_bump _ _ _ l1, gK_bump _ _ _ l1, gK_bump _ _ _ l0, gK_bump _ _ _ l0, gK_bump _ _ _ l0]
  match r, hr with
  | 0, _ => rw [if_neg (by omega), if_neg (by omega), if_pos rfl]
  | 1, _ => rw [if_neg (by omega), if_pos rfl, if_neg (by omega)]
  | 2, _ => rw [if_pos rfl, if_neg (by omega), if_neg (by omega)]
theorem least_own {l : List Int} (h : InK15 l) (hl : l.length = 48) (key : ByteArray) : leastK (addK l key 3) key 3 = min 15 (leastK l key 3 + 1) := by
  have h0 := h.g (atK key 0)
  have h1 := h.g (atK key 1)
  have h2 := h.g (atK key 2)
  have e0 := gK_add_own hl key 0 (by omega)
  have e1 := gK_add_own hl key 1 (by omega)
  have e2 := gK_add_own hl key 2 (by omega)
  show min (min (min 15 (gK (addK l key 3) (atK key 0))) (gK (addK l key 3) (atK key 1))) (gK (addK l key 3) (atK key 2)) = min 15 (min (min (min 15 (gK l (atK key 0))) (gK l (atK key 1))) (gK l (atK key 2)) + 1)
  rw [e0, e1, e2]
  omega
theorem least_ge {l : List Int} (h : InK15 l) (hl : l.length = 48) (key k' : ByteArray) : ∀ r, leastK l k' r ≤ leastK (addK l key 3) k' r
  | 0 => Int.le_refl _
  | r + 1 => by
    have := least_ge h hl key k' r
    have := gK_add_ge h hl key (atK k' r) 3 (by omega)
    simp only [leastK]
    omega
theorem cntK_99 {l : List Int} (key : ByteArray) : cntK l 99 key = (halfK (addK l key 3), 0) := if_pos (by omega)
theorem cntK_else {l : List Int} {ad : Int} (key : ByteArray) (h : ad ≠ 99) : cntK l ad key = (addK l key 3, ad + 1) := if_neg (by omega)

/-- How often a text is among the first ones. -/
def cntF (f : Nat → ByteArray) (z : ByteArray) : Nat → Nat
  | 0 => 0
  | k + 1 => cntF f z k + if (f k).toList = z.toList then 1 else 0
theorem cntF_le (f : Nat → ByteArray) (z : ByteArray) : ∀ k, cntF f z k ≤ k
  | 0 => Nat.le_refl _
  | k + 1 => by have := cntF_le f z k; rw [cntF]; split <;> omega
/-- Each text was counted as often as it was told, 15 at most. -/
def Told (f : Nat → ByteArray) (k : Nat) (l : List Int) : Prop := ∀ (z : ByteArray) (r : Nat), r < 3 → (min (cntF f z k) 15 : Nat) ≤ gK l (atK z r)
theorem told_new (f : Nat → ByteArray) : Told f 0 (List.replicate 48 0) := by
  intro z r hr
  rw [← gK_get _ _ (by rw [List.length_replicate]; exact atK_lt z r hr), List.getElem_replicate]
  simp [cntF]
theorem bytes_same {a b : ByteArray} (h : a.toList = b.toList) : a = b := by
  rw [ByteArray.toList_eq, ByteArray.toList_eq] at h
  cases a; cases b; simp at h; simp [h]
theorem Told.next {f : Nat → ByteArray} {k : Nat} {l : List Int} (h : Told f k l) (h15 : InK15 l) (hl : l.length = 48) : Told f (k + 1) (addK l (f k) 3) := by
  intro z r hr
  have h1 := h z r hr
  rw [cntF]
  by_cases e : (f k).toList = z.toList
  · have ez : f k = z := bytes_same e
    rw [if_pos e, ez, gK_add_own hl z r hr]
    omega
  · rw [if_neg e]
    have := gK_add_ge h15 hl (f k) (atK z r) 3 (by omega)
    omega
theorem Told.least {f : Nat → ByteArray} {k : Nat} {l : List Int} (h : Told f k l) (z : ByteArray) : ∀ r, r ≤ 3 → (min (cntF f z k) 15 : Nat) ≤ leastK l z r
  | 0, _ => by simp only [leastK]; omega
  | r + 1, hr => by
    have := h.least z r (by omega)
    have := h z r (by omega)
    simp only [leastK]
    omega
end Go.Proofs.Ythigmdocfjhdlaa
