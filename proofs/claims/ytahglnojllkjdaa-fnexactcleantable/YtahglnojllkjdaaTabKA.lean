/- Keys in their order, plain: put into place one by one, or sorted: the same list. -/
import Derived.Test.YtahglnojllkjdaaTabV
import Derived.Lib.Bytealg
namespace Go.Proofs.Ytahglnojllkjdaa
open Go.RowKit

theorem bless_irr : ∀ a : List UInt8, Op.bytesLess a a = false
  | [] => rfl
  | a :: x => by simp [Op.bytesLess, bless_irr x]
theorem bless_trans : ∀ a b c : List UInt8, Op.bytesLess a b = true → Op.bytesLess b c = true → Op.bytesLess a c = true
  | _, [], _, h, _ => by cases h' : (‹List UInt8›) <;> simp_all [Op.bytesLess]
  | _, _ :: _, [], _, h => by simp [Op.bytesLess] at h
  | [], _ :: _, _ :: _, _, _ => rfl
  | a :: x, b :: y, c :: z, h1, h2 => by
    simp only [Op.bytesLess, Bool.or_eq_true, decide_eq_true_eq, Bool.and_eq_true, beq_iff_eq] at h1 h2 ⊢
    rcases h1 with h1 | ⟨rfl, h1⟩
    · rcases h2 with h2 | ⟨rfl, h2⟩
      · exact .inl (UInt8.lt_trans h1 h2)
      · exact .inl h1
    · rcases h2 with h2 | ⟨rfl, h2⟩
      · exact .inl h2
      · exact .inr ⟨rfl, bless_trans x y z h1 h2⟩
theorem bless_tri : ∀ a b : List UInt8, Op.bytesLess a b = false → Op.bytesLess b a = false → a = b
  | [], [], _, _ => rfl
  | [], _ :: _, h, _ => by simp [Op.bytesLess] at h
  | _ :: _, [], _, h => by simp [Op.bytesLess] at h
  | a :: x, b :: y, h1, h2 => by
    simp only [Op.bytesLess, Bool.or_eq_false_iff, decide_eq_false_iff_not, Bool.and_eq_false_iff, beq_eq_false_iff_ne] at h1 h2
    have e : a = b := by
      have h3 := h1.1
      have h4 := h2.1
      rw [UInt8.lt_iff_toNat_lt] at h3 h4
      exact UInt8.toNat_inj.1 (by omega)
    subst e
    rw [bless_tri x y (by rcases h1.2 with h | h <;> simp_all) (by rcases h2.2 with h | h <;> simp_all)]
theorem cmp_less : ∀ a b : List UInt8, (Lib.compareBytes a b < 0) ↔ Op.bytesLess a b = true
  | [], [] => by simp [Lib.compareBytes, Op.bytesLess]
  | [], _ :: _ => by simp [Lib.compareBytes, Op.bytesLess]
  | _ :: _, [] => by simp [Lib.compareBytes, Op.bytesLess]
  | a :: x, b :: y => by
    have ih := cmp_less x y
    simp only [Lib.compareBytes, Op.bytesLess, Bool.or_eq_true, decide_eq_true_eq, Bool.and_eq_true, beq_iff_eq]
    by_cases h1 : a < b
    · simp [h1]
    · by_cases h2 : b < a
      · rw [if_neg h1, if_pos h2]
        constructor
        · intro h; omega
        · rintro (h | ⟨rfl, _⟩)
          · exact absurd h h1
          · exact absurd h2 h1
      · rw [if_neg h1, if_neg h2, ih]
        have e : a = b := by
          rw [UInt8.lt_iff_toNat_lt] at h1 h2
          exact UInt8.toNat_inj.1 (by omega)
        simp [e]
/-- Is a key less than another one? -/
def kLt (a b : ByteArray) : Bool := Op.bytesLess a.toList b.toList
theorem kLt_irr (a : ByteArray) : kLt a a = false := bless_irr _
theorem kLt_trans {a b c : ByteArray} (h1 : kLt a b = true) (h2 : kLt b c = true) : kLt a c = true := bless_trans _ _ _ h1 h2
theorem kLt_tri {a b : ByteArray} (h1 : kLt a b = false) (h2 : kLt b a = false) : a = b := bytes_eq (bless_tri _ _ h1 h2)
theorem kLt_asymm {a b : ByteArray} (h : kLt a b = true) : kLt b a = false := by
  cases e : kLt b a with
  | false => rfl
  | true => have := kLt_trans h e; rw [kLt_irr] at this; cases this
/-- A cell put into its place among others. -/
def insE (L : List Ce) (x : Ce) : List Ce := L.filter (fun y => kLt y.key x.key) ++ (x :: L.filter (fun y => !kLt y.key x.key))
def sortE (es : List Ce) : List Ce := es.foldl insE []
/-- Ascending, no two alike. -/
def Asc (L : List Ce) : Prop := L.Pairwise (fun a b => kLt a.key b.key = true)
theorem insE_perm (L : List Ce) (x : Ce) : (insE L x).Perm (x :: L) := by
  unfold insE
  refine (List.perm_middle).trans ?_
  refine List.Perm.cons x ?_
  have := List.filter_append_perm (fun y : Ce => kLt y.key x.key) L
  exact this
theorem insE_asc {L : List Ce} {x : Ce} (h : Asc L) (hx : ∀ y ∈ L, y.key ≠ x.key) : Asc (insE L x) := by
  unfold insE Asc
  rw [List.pairwise_append, List.pairwise_cons]
  refine ⟨h.filter _, ⟨?_, h.filter _⟩, ?_⟩
  · intro y hy
    rw [List.mem_filter] at hy
    have h1 : kLt y.key x.key = false := by simpa using hy.2
    cases e : kLt x.key y.key with
    | true => rfl
    | false => exact absurd (kLt_tri h1 e) (hx y hy.1)
  · intro y hy z hz
    rw [List.mem_filter] at hy
    rcases List.mem_cons.1 hz with rfl | hz
    · exact hy.2
    · rw [List.mem_filter] at hz
      have h1 : kLt z.key x.key = false := by simpa using hz.2
      have h2 : kLt x.key z.key = true := by
        cases e : kLt x.key z.key with
        | true => rfl
        | false => exact absurd (kLt_tri h1 e) (hx z hz.1)
      exact kLt_trans hy.2 h2
/-- No two keys alike. -/
def Dis (es : List Ce) : Prop := es.Pairwise (fun a b => a.key ≠ b.key)
theorem sortE_go : ∀ (es L : List Ce), Asc L → Dis es → (∀ x ∈ es, ∀ y ∈ L, y.key ≠ x.key) → Asc (es.foldl insE L) ∧ (es.foldl insE L).Perm (es ++ L)
  | [], L, h, _, _ => ⟨h, List.Perm.refl _⟩
  | e :: es, L, h, hd, hx => by
    rw [Dis, List.pairwise_cons] at hd
    have h1 := insE_asc h (fun y hy => hx e (List.mem_cons_self ..) y hy)
    obtain ⟨h2, h3⟩ := sortE_go es (insE L e) h1 hd.2 (fun x hx' y hy => by
      rcases List.mem_cons.1 ((insE_perm L e).mem_iff.1 hy) with rfl | hy
      · exact hd.1 x hx'
      · exact hx x (List.mem_cons_of_mem _ hx') y hy)
    refine ⟨h2, h3.trans ?_⟩
    refine ((List.Perm.append_left es (insE_perm L e))).trans ?_
    exact List.perm_middle
theorem sortE_asc {es : List Ce} (hd : Dis es) : Asc (sortE es) ∧ (sortE es).Perm es := by
  have := sortE_go es [] List.Pairwise.nil hd (fun x _ y hy => by cases hy)
  rw [List.append_nil] at this
  exact this
/-- Two ascending lists of the same are one. -/
theorem asc_one : ∀ {L M : List Ce}, Asc L → Asc M → L.Perm M → L = M
  | [], M, _, _, h => (List.nil_perm.1 h).symm
  | a :: L, M, hL, hM, h => by
    cases M with
    | nil => exact absurd h.length_eq (by simp)
    | cons b M =>
      rw [Asc, List.pairwise_cons] at hL hM
      have e : a = b := by
        have ha : a ∈ b :: M := h.mem_iff.1 (List.mem_cons_self ..)
        have hb : b ∈ a :: L := h.mem_iff.2 (List.mem_cons_self ..)
        rcases List.mem_cons.1 ha with ha | ha
        · exact ha
        · rcases List.mem_cons.1 hb with hb | hb
          · exact hb.symm
          · have h1 := hM.1 a ha
            have h2 := hL.1 b hb
            rw [kLt_asymm h1] at h2
            cases h2
      subst e
      rw [asc_one hL.2 hM.2 (List.Perm.cons_inv h)]
/-- The cells that have a key. -/
def keyed (l : List Ce) : List Ce := l.filter (fun x => !x.key.toList.isEmpty)
theorem keyed_append (l m : List Ce) : keyed (l ++ m) = keyed l ++ keyed m := by simp [keyed]
theorem keyed_take {l : List Ce} {i : Nat} (h : i < l.length) : keyed (l.take (i + 1)) = keyed (l.take i) ++ (if l[i].key.toList.isEmpty then [] else [l[i]]) := by
  rw [List.take_succ_eq_append_getElem h, keyed_append]
  congr 1
  unfold keyed
  cases e : l[i].key.toList.isEmpty <;> simp [e]
theorem keyed_mem {l : List Ce} {x : Ce} (h : x ∈ keyed l) : ∃ i, ∃ hi : i < l.length, l[i] = x ∧ x.key.toList ≠ [] := by
  rw [keyed, List.mem_filter] at h
  obtain ⟨i, hi, e⟩ := List.mem_iff_getElem.1 h.1
  exact ⟨i, hi, e, by intro e2; rw [e2] at h; simp at h⟩
theorem dis_keyed {l : List Ce} (hF : Found l) : Dis (keyed l) := by
  unfold Dis keyed
  rw [List.pairwise_filter]
  rw [List.pairwise_iff_getElem]
  intro i j hi hj hij h1 h2 e
  have n1 : l[i].key.toList ≠ [] := by intro e; rw [e] at h1; simp at h1
  have n2 : l[j].key.toList ≠ [] := by intro e; rw [e] at h2; simp at h2
  have f1 := hF i hi n1
  have f2 := hF j hj n2
  rw [e, f2] at f1
  injection f1 with f1
  omega
/-- All that a table has, in the order of its cells. -/
def entT (l o : List Ce) : List Ce := keyed l ++ keyed o
theorem dis_ent {l o : List Ce} {mv : Int} (h : OkT l o mv) : Dis (entT l o) := by
  obtain ⟨f1, s1⟩ := ok_iff.1 h.cells.1
  obtain ⟨f2, s2⟩ := ok_iff.1 h.olds.1
  unfold Dis entT
  rw [List.pairwise_append]
  refine ⟨dis_keyed s1, dis_keyed s2, ?_⟩
  intro x hx y hy e
  obtain ⟨i, hi, ei, ni⟩ := keyed_mem hx
  obtain ⟨j, hj, ej, nj⟩ := keyed_mem hy
  have h1 := s1 i hi (by rw [ei]; exact ni)
  have h2 := (h.old j hj).2 (by rw [ej]; exact nj)
  rw [ej, ← e, ← ei, ← srchC_seek f1 (by rw [ei]; exact ni), h1] at h2
  cases h2
theorem ent_length {l o : List Ce} : (entT l o).length ≤ l.length + o.length := by
  unfold entT keyed
  rw [List.length_append]
  have := List.length_filter_le (fun x : Ce => !x.key.toList.isEmpty) l
  have := List.length_filter_le (fun x : Ce => !x.key.toList.isEmpty) o
  omega
/-- The handle of each is found by its key. -/
theorem ent_seek {l o : List Ce} {mv : Int} (h : OkT l o mv) {x : Ce} (hx : x ∈ entT l o) : seekT l o x.key = some x.h ∧ x.key.toList ≠ [] ∧ x.key.size ≤ 12 := by
  obtain ⟨f1, s1⟩ := ok_iff.1 h.cells.1
  obtain ⟨f2, s2⟩ := ok_iff.1 h.olds.1
  rcases List.mem_append.1 hx with hx | hx
  · obtain ⟨i, hi, ei, ni⟩ := keyed_mem hx
    have h1 := s1 i hi (by rw [ei]; exact ni)
    rw [ei, srchC_seek f1 ni] at h1
    refine ⟨?_, ni, by rw [← ei]; exact fit_small f1 i hi⟩
    rw [seekT, h1]
    simp only []
    rw [List.getElem?_eq_getElem hi, ei]
    rfl
  · obtain ⟨i, hi, ei, ni⟩ := keyed_mem hx
    have h1 := s2 i hi (by rw [ei]; exact ni)
    rw [ei, srchC_seek f2 ni] at h1
    have h2 := (h.old i hi).2 (by rw [ei]; exact ni)
    rw [ei] at h2
    refine ⟨?_, ni, by rw [← ei]; exact fit_small f2 i hi⟩
    rw [seekT, h2]
    simp only []
    rw [h1]
    simp only []
    rw [List.getElem?_eq_getElem hi, ei]
    rfl
end Go.Proofs.Ytahglnojllkjdaa
