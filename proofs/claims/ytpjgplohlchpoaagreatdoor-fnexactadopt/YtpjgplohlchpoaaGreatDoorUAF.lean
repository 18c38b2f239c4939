/- Rows of elements of several cells: others put behind them, and where the row lies then. -/
import Derived.Test.YtpjgplohlchpoaaGreatDoorUAD
import Derived.Maps.AppendAt
import Derived.Test.YtpjgplohlchpoaaGreatDoorUAA
import Derived.Test.YtpjgplohlchpoaaGreatDoorUAE
import Derived.Test.YtpjgplohlchpoaaGreatDoorProg
import Derived.Test.YtpjgplohlchpoaaGreatDoorUAB
import Derived.Deep.RegionHeld3
import Derived.Deep.QuietTactic
import Derived.BigQuiet
namespace Go.Proofs.YtpjgplohlchpoaaGreatDoor
open Go.RowKit
set_option linter.unusedVariables false

section
variable {P : Program} {α : Type} {enc : α → List Value} {k : Nat} {t e : TypeId}
theorem appA_run (E : EncK enc k) (R : RowK P t e k) (w : World) (ty : TypeId) (base : Nat) (v : Value) (n : Nat) (l1 : List α) (hown : w.ownsRow base e k v n (rowG enc l1)) (ao : Option Addr) (m c : Nat) (l2 : List α) (hm : l2.length = m) (hA : RdG enc k w ao l2) (hlen : n + m ≤ 4194304) (hbase : base ≤ w.heap.size) :
    ∃ b' c' w', (Builtin.append_ #[t, t] ty #[v, .slice ao m c]).run P w = .ok (.slice b' (n + m) c') w' ∧ w'.ownsRow base e k (.slice b' (n + m) c') (n + m) (rowG enc (l1 ++ l2)) ∧ w.grownBy w' v.ownBlock ∧ ∀ x, b' = some x → v.ownBlock = some x.block ∨ w.heap.size ≤ x.block := by
  obtain ⟨i0, z, b, hi, hz0, hz1, hz2, hz3, hb⟩ := R.inf
  by_cases h0 : m = 0
  · subst h0
    have e0 : l2 = [] := List.eq_nil_of_length_eq_zero hm
    subst e0
    obtain ⟨b', c', rfl⟩ := form_of hown
    refine ⟨b', c', w, ?_, by simpa using hown, gnew (Below.refl _ _), fun x hx => .inl (by subst hx; rfl)⟩
    rcases hown.2 with ⟨hv, rfl⟩ | ⟨g, cap, cur, hv, _, _, hnc, _⟩
    · rw [hv]
      cases ao <;> simp [Builtin.append_, run_underlying R.sl, sizeOf, typeInfo, hi, Builtin.lenOf, Builtin.firstCells, loadCells, loadCellsFrom] at hv ⊢
      all_goals exact hv.symm
    · rw [hv]
      cases ao <;> simp [Builtin.append_, run_underlying R.sl, sizeOf, typeInfo, hi, Builtin.lenOf, Builtin.firstCells, loadCells, loadCellsFrom, hnc, storeCells] at hv ⊢
      all_goals exact ⟨hv.1.symm, hv.2.symm⟩
  · obtain ⟨g, o, rfl, hg, _⟩ := hA 0 (by omega)
    have hl : (rowG enc l2).length = m * k := by rw [rowG_length enc k E.len, hm]
    have hAt : ∀ j v, (rowG enc l2)[j]? = some v → w.cell? ((⟨g, o, none⟩ : Addr).add j) = some v := fun j v hj => by
      have hj' : j < m * k := by have := (List.getElem?_eq_some_iff.1 hj).1; omega
      have hk0 := R.pos
      have hd : j / k < l2.length := by rw [hm]; exact Nat.div_lt_of_lt_mul (by rw [Nat.mul_comm]; exact hj')
      have hr : j % k < k := Nat.mod_lt _ hk0
      have hjk : j = j / k * k + j % k := by rw [Nat.mul_comm]; exact (Nat.div_add_mod j k).symm
      obtain ⟨b', o', e', _, h⟩ := hA (j / k) hd
      simp only [Option.some.injEq, Addr.mk.injEq, and_true] at e'
      obtain ⟨rfl, rfl⟩ := e'
      have h1 := h (j % k) hr
      have h2 := rowG_at enc k E.len l2 (j / k) (j % k) hd hr
      rw [← hjk] at h2
      rw [Addr.add_lit, show o + j = o + j / k * k + j % k by omega, h1, ← h2]
      exact hj
    have hbl : (n + m) * b ≤ (n + m) * 256 := Nat.mul_le_mul_left _ hb
    obtain ⟨v', w', h1, h2, h3, _, h5⟩ := run_append_own_at (P := P) w base t ty e i0 z k b R.sl hi hz0 hz1 hz2 hz3 R.pos v n (rowG enc l1) hown ⟨g, o, none⟩ m c (rowG enc l2) hl hAt (rowG_one E l2) (by unfold maxLen; omega) (by omega) hbase
    obtain ⟨b', c', rfl⟩ := form_of h2
    refine ⟨b', c', w', h1, by rw [rowG_join]; exact h2, h3, fun x hx => ?_⟩
    subst hx
    rcases h5 with h5 | h5
    · exact .inl h5.symm
    · have h5 : some x.block = some w.heap.size := h5
      injection h5 with h5
      exact .inr (by omega)
theorem wpList_appA {ops : Array Oper} {rest : List Oper} {o : Oper} {a : Act} {w : World} {Q : Exit → Act → World → Prop} (E : EncK enc k) (R : RowK P t e k) (hgd : o.guard = none) (s x : Operand)
    (ho : o.op = .call { callee := .builtin .append, args := #[s, x], argTypes := #[t, t] }) (base : Nat) (v : Value) (n : Nat) (l1 : List α) (hs : a.eval s = v) (hown : w.ownsRow base e k v n (rowG enc l1)) (ao : Option Addr) (m c : Nat) (l2 : List α) (hx : a.eval x = .slice ao m c) (hm : l2.length = m) (hA : RdG enc k w ao l2) (hlen : n + m ≤ 4194304) (hbase : base ≤ w.heap.size)
    (h : ∀ b' c' w', w'.ownsRow base e k (.slice b' (n + m) c') (n + m) (rowG enc (l1 ++ l2)) → w.grownBy w' v.ownBlock → (∀ x, b' = some x → v.ownBlock = some x.block ∨ w.heap.size ≤ x.block) → wpList P ops Q rest (a.put o.dst (.slice b' (n + m) c')) w') : wpList P ops Q (o :: rest) a w := by
  refine wpList_plain hgd fun K hK => ?_
  obtain ⟨b', c', w', hrun, h1, h2, h3⟩ := appA_run E R w o.type base v n l1 hown ao m c l2 hm hA hlen hbase
  unfold Oper.wp
  simp only [execOp, ho, resolve, invoke, builtin, Sem.run_bind, Sem.run_pure, Result.andThen_ok, List.map_toArray, List.map_cons, List.map_nil, hs, hx, hrun]
  exact hK _ _ (h b' c' w' h1 h2 h3)
theorem step_appA {ops : Array Oper} {o : Oper} {a : Act} {w : World} {K : Act → World → Prop} {Q : Exit → Act → World → Prop} {D : Prop} (E : EncK enc k) (R : RowK P t e k) (hgd : o.guard = none) (s x : Operand)
    (ho : o.op = .call { callee := .builtin .append, args := #[s, x], argTypes := #[t, t] }) (base : Nat) (v : Value) (n : Nat) (l1 : List α) (hs : a.eval s = v) (hown : w.ownsRow base e k v n (rowG enc l1)) (ao : Option Addr) (m c : Nat) (l2 : List α) (hx : a.eval x = .slice ao m c) (hm : l2.length = m) (hA : RdG enc k w ao l2) (hlen : n + m ≤ 4194304) (hbase : base ≤ w.heap.size)
    (h : ∀ b' c' w', w'.ownsRow base e k (.slice b' (n + m) c') (n + m) (rowG enc (l1 ++ l2)) → w.grownBy w' v.ownBlock → (∀ x, b' = some x → v.ownBlock = some x.block ∨ w.heap.size ≤ x.block) → K (a.put o.dst (.slice b' (n + m) c')) w') :
    if Region.wanted o (yielded ops a.tmps) = true then Oper.wp P o a w K Q else D := by
  have hw : Region.wanted o (yielded ops a.tmps) = true := by simp [Region.wanted, hgd]
  rw [if_pos hw]
  obtain ⟨b', c', w', hrun, h1, h2, h3⟩ := appA_run E R w o.type base v n l1 hown ao m c l2 hm hA hlen hbase
  unfold Oper.wp
  simp only [execOp, ho, resolve, invoke, builtin, Sem.run_bind, Sem.run_pure, Result.andThen_ok, List.map_toArray, List.map_cons, List.map_nil, hs, hx, hrun]
  exact h b' c' w' h1 h2 h3
end
end Go.Proofs.YtpjgplohlchpoaaGreatDoor
namespace Go.Proofs.YtpjgplohlchpoaaGreatDoor
open Go.RowKit
set_option linter.unusedVariables false

theorem bl_irr : ∀ a : List UInt8, Op.bytesLess a a = false
  | [] => rfl
  | a :: x => by simp [Op.bytesLess, bl_irr x]
theorem bl_trans : ∀ a b c : List UInt8, Op.bytesLess a b = true → Op.bytesLess b c = true → Op.bytesLess a c = true
  | _, [], _, h, _ => by cases h' : (‹List UInt8›) <;> simp_all [Op.bytesLess]
  | _, _ :: _, [], _, h => by simp [Op.bytesLess] at h
  | [], _ :: _, _ :: _, _, _ => rfl
  | a :: x, b :: y, c :: z, h1, h2 => by
    simp only [Op.bytesLess, Bool.or_eq_true, decide_eq_true_eq, Bool.and_eq_true, beq_iff_eq] at h1 h2 ⊢
    rcases h1 with h1 | ⟨rfl, h1⟩
    · rcases h2 with h2 | ⟨rfl, h2⟩
      · exact .inl (UInt8.lt_trans h1 h2)
      · exact .inl h1
    · rcases h2 with h2 | ⟨rfl, h2⟩
      · exact .inl h2
      · exact .inr ⟨rfl, bl_trans x y z h1 h2⟩
theorem bl_tri : ∀ a b : List UInt8, Op.bytesLess a b = false → Op.bytesLess b a = false → a = b
  | [], [], _, _ => rfl
  | [], _ :: _, h, _ => by simp [Op.bytesLess] at h
  | _ :: _, [], _, h => by simp [Op.bytesLess] at h
  | a :: x, b :: y, h1, h2 => by
    simp only [Op.bytesLess, Bool.or_eq_false_iff, decide_eq_false_iff_not, Bool.and_eq_false_iff, beq_eq_false_iff_ne] at h1 h2
    have e : a = b := by
      have h3 := h1.1
      have h4 := h2.1
      rw [UInt8.lt_iff_toNat_lt] at h3 h4
      exact UInt8.toNat_inj.1 (by omega)
    subst e
    rw [bl_tri x y (by rcases h1.2 with h | h <;> simp_all) (by rcases h2.2 with h | h <;> simp_all)]
/-- Is a text less than another one? -/
def tLt (a b : ByteArray) : Bool := Op.bytesLess a.toList b.toList
theorem tLt_irr (a : ByteArray) : tLt a a = false := bl_irr _
theorem tLt_trans {a b c : ByteArray} (h1 : tLt a b = true) (h2 : tLt b c = true) : tLt a c = true := bl_trans _ _ _ h1 h2
theorem tx_inj {a b : ByteArray} (h : a.toList = b.toList) : a = b := by
  have e1 : a.toList = a.data.toList := ByteArray.toList_eq a
  have e2 : b.toList = b.data.toList := ByteArray.toList_eq b
  rw [e1, e2] at h
  obtain ⟨x⟩ := a
  obtain ⟨y⟩ := b
  congr
  exact Array.toList_inj.1 h
theorem tLt_tri {a b : ByteArray} (h1 : tLt a b = false) (h2 : tLt b a = false) : a = b := tx_inj (bl_tri _ _ h1 h2)
theorem tLt_asym {a b : ByteArray} (h : tLt a b = true) : tLt b a = false := by
  cases e : tLt b a with
  | false => rfl
  | true => have := tLt_trans h e; rw [tLt_irr] at this; cases this
theorem tLt_ne {a b : ByteArray} (h : tLt a b = true) : a ≠ b := fun e => by rw [e, tLt_irr] at h; cases h
end Go.Proofs.YtpjgplohlchpoaaGreatDoor
namespace Go.Proofs.YtpjgplohlchpoaaGreatDoor
open Go.RowKit
set_option linter.unusedVariables false

structure Im where
  k : ByteArray
  v : ByteArray
  n : Int
def zeroIm : Im := ⟨⟨#[]⟩, ⟨#[]⟩, 0⟩
def okIm (x : Im) : Prop := (1 ≤ x.k.size ∧ x.k.size ≤ 12) ∧ x.v.size ≤ 20 ∧ (1 ≤ x.n ∧ x.n ≤ 1000000000)
instance (x : Im) : Decidable (okIm x) := by unfold okIm; infer_instance
/-- Each key is less than the next one. -/
def ascI (l : List Im) : Prop := l.Pairwise (fun a b => tLt a.k b.k = true)
instance (l : List Im) : Decidable (ascI l) := by unfold ascI; infer_instance
def okIms (l : List Im) : Prop := (∀ x ∈ l, okIm x) ∧ ascI l ∧ l.length ≤ 12
instance (l : List Im) : Decidable (okIms l) := by unfold okIms; infer_instance
/-- Right up to i, one by one. -/
def stepI (l : List Im) (i : Nat) : Prop := ∀ j (h : j < l.length), j < i → okIm l[j] ∧ ∀ m (hm : m < l.length), m + 1 = j → tLt l[m].k l[j].k = true
theorem stepI_asc {l : List Im} (h : stepI l l.length) : ascI l := by
  have key : ∀ d i j (hi : i < l.length) (hj : j < l.length), i + d + 1 = j → tLt l[i].k l[j].k = true := by
    intro d
    induction d with
    | zero => intro i j hi hj e; exact (h j hj hj).2 i hi (by omega)
    | succ d ih =>
      intro i j hi hj e
      have h1 := ih i (j - 1) hi (by omega) (by omega)
      have h2 := (h j hj hj).2 (j - 1) (by omega) (by omega)
      exact tLt_trans h1 h2
  unfold ascI
  rw [List.pairwise_iff_getElem]
  intro i j hi hj hij
  exact key (j - i - 1) i j hi hj (by omega)
theorem stepI_of {l : List Im} (h1 : ∀ x ∈ l, okIm x) (h2 : ascI l) (i : Nat) : stepI l i := by
  intro j hj _
  refine ⟨h1 _ (List.getElem_mem hj), fun m hm e => ?_⟩
  unfold ascI at h2
  rw [List.pairwise_iff_getElem] at h2
  exact h2 m j hm hj (by omega)
theorem stepI_all {l : List Im} (h : stepI l l.length) : ∀ x ∈ l, okIm x := fun x hx => by
  obtain ⟨j, hj, rfl⟩ := List.getElem_of_mem hx
  exact (h j hj hj).1
theorem stepI_next {l : List Im} {i : Nat} (h : stepI l i) (hi : i < l.length) (h1 : okIm l[i]) (h2 : ∀ m (hm : m < l.length), m + 1 = i → tLt l[m].k l[i].k = true) : stepI l (i + 1) := by
  intro j hj hlt
  by_cases c : j < i
  · exact h j hj c
  · have : j = i := by omega
    subst this
    exact ⟨h1, h2⟩
/-- It in its place. -/
def insI (l : List Im) (x : Im) : List Im := l.filter (fun y => tLt y.k x.k) ++ x :: l.filter (fun y => tLt x.k y.k)
/-- One of its key is as new or newer. -/
def newI (l : List Im) (x : Im) : Bool := l.any (fun y => decide (y.k = x.k) && decide (x.n ≤ y.n))
def putI (l : List Im) (x : Im) : List Im := if newI l x = true then l else if okIms l ∧ okIms (insI l x) then insI l x else l
def imOf (l : List Im) (k : ByteArray) : Im := (l.find? (fun y => decide (y.k = k))).getD zeroIm
theorem imOf_of {l : List Im} (h : ascI l) {y : Im} (hy : y ∈ l) : imOf l y.k = y := by
  unfold imOf
  cases e : l.find? (fun z => decide (z.k = y.k)) with
  | none => exact absurd (List.find?_eq_none.1 e y hy) (by simp)
  | some z =>
    have h1 := List.find?_some e
    have h2 := List.mem_of_find?_eq_some e
    simp only [decide_eq_true_eq] at h1
    show z = y
    obtain ⟨i, hi, rfl⟩ := List.getElem_of_mem h2
    obtain ⟨j, hj, rfl⟩ := List.getElem_of_mem hy
    unfold ascI at h
    rw [List.pairwise_iff_getElem] at h
    by_cases c : i = j
    · subst c; rfl
    · rcases Nat.lt_or_gt_of_ne c with c | c
      · exact absurd h1 (tLt_ne (h i j hi hj c))
      · exact absurd h1.symm (tLt_ne (h j i hj hi c))
theorem imOf_none {l : List Im} {k : ByteArray} (h : ∀ y ∈ l, y.k ≠ k) : imOf l k = zeroIm := by
  unfold imOf
  rw [List.find?_eq_none.2 (fun y hy => by simpa using h y hy)]
  rfl
theorem ins_mem {l : List Im} {x y : Im} : y ∈ insI l x ↔ y = x ∨ (y ∈ l ∧ y.k ≠ x.k) := by
  unfold insI
  rw [List.mem_append, List.mem_cons, List.mem_filter, List.mem_filter]
  constructor
  · rintro (⟨h1, h2⟩ | h | ⟨h1, h2⟩)
    · exact .inr ⟨h1, tLt_ne h2⟩
    · exact .inl h
    · exact .inr ⟨h1, (tLt_ne h2).symm⟩
  · rintro (h | ⟨h1, h2⟩)
    · exact .inr (.inl h)
    · cases e : tLt y.k x.k with
      | true => exact .inl ⟨h1, rfl⟩
      | false =>
        cases e2 : tLt x.k y.k with
        | true => exact .inr (.inr ⟨h1, rfl⟩)
        | false => exact absurd (tLt_tri e e2) h2
theorem ins_asc {l : List Im} {x : Im} (h : ascI l) : ascI (insI l x) := by
  unfold insI ascI
  rw [List.pairwise_append, List.pairwise_cons]
  refine ⟨List.Pairwise.filter _ h, ⟨fun y hy => ?_, List.Pairwise.filter _ h⟩, fun a ha b hb => ?_⟩
  · exact (List.mem_filter.1 hy).2
  · have h1 := (List.mem_filter.1 ha).2
    rcases List.mem_cons.1 hb with rfl | hb
    · exact h1
    · exact tLt_trans h1 (List.mem_filter.1 hb).2
theorem ins_len {l : List Im} {x : Im} : (insI l x).length ≤ l.length + 1 := by
  unfold insI
  have key : ∀ l : List Im, (l.filter (fun y => tLt y.k x.k)).length + (l.filter (fun y => tLt x.k y.k)).length ≤ l.length := by
    intro l
    induction l with
    | nil => exact Nat.le_refl _
    | cons a l ih =>
      rw [List.filter_cons, List.filter_cons]
      by_cases h1 : tLt a.k x.k = true
      · rw [if_pos h1, if_neg (by rw [tLt_asym h1]; simp)]
        simp only [List.length_cons]
        omega
      · rw [if_neg h1]
        split <;> simp only [List.length_cons] <;> omega
  have := key l
  rw [List.length_append, List.length_cons]
  omega
/-- What is put into a right list that has room. -/
theorem put_right {l : List Im} {x : Im} (hl : okIms l) (hx : okIm x) (h11 : l.length ≤ 11) : okIms (putI l x) ∧ (newI l x = false → putI l x = insI l x) := by
  have hi : okIms (insI l x) := ⟨fun y hy => by
    rcases ins_mem.1 hy with rfl | ⟨h, _⟩
    · exact hx
    · exact hl.1 y h, ins_asc hl.2.1, by have := @ins_len l x; omega⟩
  unfold putI
  constructor
  · split
    · exact hl
    · rw [if_pos ⟨hl, hi⟩]
      exact hi
  · intro e
    rw [if_neg (by rw [e]; simp), if_pos ⟨hl, hi⟩]
theorem newI_of {l : List Im} {x : Im} (h : newI l x = true) : ∃ y ∈ l, y.k = x.k ∧ x.n ≤ y.n := by
  unfold newI at h
  rw [List.any_eq_true] at h
  obtain ⟨y, hy, h⟩ := h
  rw [Bool.and_eq_true, decide_eq_true_eq, decide_eq_true_eq] at h
  exact ⟨y, hy, h⟩
theorem newI_no {l : List Im} {x : Im} (h : newI l x = false) : ∀ y ∈ l, y.k = x.k → y.n < x.n := fun y hy e => by
  by_cases c : y.n < x.n
  · exact c
  · have : newI l x = true := by
      unfold newI
      rw [List.any_eq_true]
      exact ⟨y, hy, by rw [decide_eq_true e, decide_eq_true (by omega)]; rfl⟩
    rw [h] at this
    cases this
/-- What a right list has of a key, and what the list has behind a put. -/
structure PutF (l : List Im) (x : Im) (n : List Im) : Prop where
  ok : okIms n
  yes : x.n ≤ (imOf l x.k).n → imOf n x.k = imOf l x.k
  no : (imOf l x.k).n < x.n → imOf n x.k = x
  el : ∀ y ∈ l, y.k ≠ x.k → imOf n y.k = y
  ag : putI n x = n
theorem put_facts {l : List Im} {x : Im} (hl : okIms l) (hx : okIm x) (h11 : l.length ≤ 11) : PutF l x (putI l x) := by
  obtain ⟨h1, h2⟩ := put_right hl hx h11
  cases e : newI l x with
  | true =>
    have ep : putI l x = l := by unfold putI; rw [if_pos e]
    obtain ⟨y, hy, hk, hn⟩ := newI_of e
    have ho : imOf l x.k = y := by rw [← hk]; exact imOf_of hl.2.1 hy
    rw [ep]
    exact ⟨hl, fun _ => rfl, fun h => by rw [ho] at h; omega, fun z hz _ => imOf_of hl.2.1 hz, ep⟩
  | false =>
    have ep := h2 e
    rw [ep] at h1 ⊢
    have hxm : x ∈ insI l x := ins_mem.2 (.inl rfl)
    have hxo : imOf (insI l x) x.k = x := imOf_of h1.2.1 hxm
    have hno := newI_no e
    refine ⟨h1, fun h => ?_, fun _ => hxo, fun z hz hne => imOf_of h1.2.1 (ins_mem.2 (.inr ⟨hz, hne⟩)), ?_⟩
    · by_cases c : ∃ y ∈ l, y.k = x.k
      · obtain ⟨y, hy, hk⟩ := c
        have := hno y hy hk
        rw [← hk, imOf_of hl.2.1 hy] at h
        omega
      · rw [imOf_none (fun y hy e => c ⟨y, hy, e⟩)] at h
        have := hx.2.2.1
        have h : x.n ≤ 0 := h
        omega
    · unfold putI
      rw [if_pos]
      unfold newI
      rw [List.any_eq_true]
      exact ⟨x, hxm, by rw [decide_eq_true rfl, decide_eq_true (Int.le_refl _)]; rfl⟩
end Go.Proofs.YtpjgplohlchpoaaGreatDoor
namespace Go.Proofs.YtpjgplohlchpoaaGreatDoor
open Go.RowKit
set_option linter.unusedVariables false

def imC (x : Im) : List Value := [.string x.k, .string x.v, .int .i64 x.n]
theorem encIm : EncK imC 3 := ⟨fun _ => rfl, fun x u hu => by simp only [imC, List.mem_cons, List.not_mem_nil, or_false] at hu; rcases hu with rfl | rfl | rfl <;> rfl⟩
theorem Tryz.infoIm : (Tryz.prog.info? 34).map (fun i => (i.zero, i.size, i.bytes)) = some (some (.agg #[.string ⟨#[]⟩, .string ⟨#[]⟩, .int .i64 0]), 3, 40) := by kernel_rfl
theorem rowK_mk {P : Program} {t e : TypeId} {k b : Nat} {z : Value} (hs : P.underlying t = some (.slice e)) (h : (P.info? e).map (fun i => (i.zero, i.size, i.bytes)) = some (some z, k, b)) (hz : z.cells.size = k) (hb : b ≤ 256) (hk : 0 < k) : RowK P t e k := by
  refine ⟨hs, ?_, hk⟩
  cases hi : P.info? e with
  | none => rw [hi] at h; cases h
  | some i =>
    rw [hi] at h
    simp only [Option.map_some, Option.some.injEq, Prod.mk.injEq] at h
    exact ⟨i, z, b, rfl, h.1, h.2.1, h.2.2, hz, hb⟩
theorem rowIm : RowK Tryz.prog 33 34 3 := rowK_mk Tryz.underlying33 Tryz.infoIm rfl (by decide) (by decide)
theorem tx_eq (s : ByteArray) : (s.toList != s.toList) = false ∧ (s.toList == s.toList) = true := by simp
end Go.Proofs.YtpjgplohlchpoaaGreatDoor
namespace Go.Proofs.YtpjgplohlchpoaaGreatDoor
open Go.RowKit

/-- The decimal figures of a number, the highest first. -/
def decF : Nat → Nat → List UInt8 → List UInt8
  | 0, _, acc => acc
  | f + 1, n, acc => if 0 < n then decF f (n / 10) (UInt8.ofNat (48 + n % 10) :: acc) else acc
/-- The text of a mark. -/
def mkT (k : Nat) : ByteArray := ⟨#[109]⟩ ++ ⟨(decF 20 k []).toArray⟩

structure MkAt (n f m : Nat) (acc : List UInt8) : Prop where
  bd : m < 10 ^ f
  eq : decF f m acc = decF 20 n []
  len : acc.length + f = 20
theorem MkAt.start (n : Nat) (h : n ≤ 9223372036854775807) : MkAt n 20 n [] := ⟨by omega, rfl, rfl⟩
theorem MkAt.step {n f m : Nat} {acc : List UInt8} (h : MkAt n f m acc) (hm : 0 < m) : ∃ g, MkAt n g (m / 10) (UInt8.ofNat (48 + m % 10) :: acc) := by
  cases f with
  | zero => have := h.bd; omega
  | succ f =>
    refine ⟨f, ?_, ?_, ?_⟩
    · have := h.bd; rw [Nat.pow_succ] at this; omega
    · rw [← h.eq, decF, if_pos hm]
    · have := h.len; simp; omega
theorem MkAt.stop {n f m : Nat} {acc : List UInt8} (h : MkAt n f m acc) (hm : ¬ 0 < m) : acc = decF 20 n [] := by
  rw [← h.eq]
  cases f with
  | zero => rfl
  | succ f => rw [decF, if_neg hm]

set_option maxHeartbeats 400000 in
theorem markText_any (n : Nat) (w : World) (hn : n ≤ 9223372036854775807) (h0 : 0 < n) :
    Calls Tryz.prog 63 #[.int .i64 n] w fun e w' => e = .returned (.string (mkT n)) ∧ Below w.heap.size w w' := by
  have q1 : decide ((n : Int) ≤ 0) = false := by simp; omega
  go_enter Tryz.func63, Tryz.ntmps63
  go_wp2
  go_loopw [0, 3] (fun nv zv wr => ∃ (f m : Nat) (acc : List UInt8) (z : ByteArray), nv = .int .i64 (m : Int) ∧ m ≤ 9223372036854775807 ∧ Hid (MkAt n f m acc) ∧ zv = .string z ∧ Hid (z = ⟨acc.toArray⟩) ∧ z.size ≤ 20 ∧ Below w.heap.size w wr) (fun nv _ _ => (intOf nv).toNat)
  case atStart => exact ⟨20, n, [], ⟨#[]⟩, rfl, hn, MkAt.start n hn, rfl, rfl, by decide, Below.refl _ _⟩
  case round =>
    obtain ⟨f, m, acc, z, rfl, hm, hd, rfl, hz, hzs, hbel⟩ := hrel
    have hbs := hbel.size
    by_cases hlt : 0 < m
    · obtain ⟨b, hbe, hbn⟩ := byte_of (48 + m % 10) (by omega)
      have hcv := conv_one (P := Tryz.prog) wr 126 9 5 Tryz.underlying126 Tryz.underlying5 Tryz.underlying9 b (48 + (m : Int) % 10) (by omega)
      have hb1 : ({ data := #[b] } : ByteArray).size = 1 := rfl
      obtain ⟨y, hy⟩ : ∃ y : ByteArray, y = { data := #[b] } := ⟨_, rfl⟩
      rw [← hy] at hcv hb1
      have Y : Hid _ := hy
      clear hy hbn
      go_wp2
      go_roundw
      case rel =>
        obtain ⟨g, hg⟩ := hd.out.step hlt
        have e : y ++ z = ⟨(b :: acc).toArray⟩ := by
          rw [Y.out, hz.out]
          apply ByteArray.ext
          simp [ByteArray.data_append]
        refine ⟨g, m / 10, b :: acc, y ++ z, by go_num, by omega, by rw [hbe.out]; exact hg, rfl, e, ?_, hbel.alloc hbs _⟩
        rw [e]
        have := hg.len
        show (b :: acc).toArray.size ≤ 20
        simp at this ⊢
        omega
      case measure => simp [intOf]; omega
    · go_wp2
      go_ret
      refine ⟨?_, hbel⟩
      show Ending.returned (.string (⟨#[109]⟩ ++ z)) = _
      unfold mkT
      rw [hz.out, hd.out.stop hlt]
end Go.Proofs.YtpjgplohlchpoaaGreatDoor
