import Derived.Lib.Bytealg
import Derived.Test.YtigpjmmfelndkaaGreatDoorKXK
import Derived.Test.YtigpjmmfelndkaaGreatDoorKSort
namespace Go.Proofs.YtigpjmmfelndkaaGreatDoor
open Go.RowKit
theorem bless_irr : ∀ a : List UInt8, Op.bytesLess a a = false
 | [] => rfl
 | a :: x => by simp [Op.bytesLess, bless_irr x]
theorem bless_trans : ∀ a b c : List UInt8, Op.bytesLess a b = true -> Op.bytesLess b c = true -> Op.bytesLess a c = true
 | _, [], _, h, _ => by cases h' : (‹List UInt8›) <;> simp_all [Op.bytesLess]
 | _, _ :: _, [], _, h => by simp [Op.bytesLess] at h
 | [], _ :: _, _ :: _, _, _ => rfl
 | a :: x, b :: y, c :: z, h1, h2 => by
  simp only [Op.bytesLess, Bool.or_eq_true, decide_eq_true_eq, Bool.and_eq_true, beq_iff_eq] at h1 h2 ⊢
  rcases h1 with h1 | ⟨rfl, h1⟩
  ·rcases h2 with h2 | ⟨rfl, h2⟩
   ·exact .inl (UInt8.lt_trans h1 h2)
   ·exact .inl h1
  ·rcases h2 with h2 | ⟨rfl, h2⟩
   ·exact .inl h2
   ·exact .inr ⟨rfl, bless_trans x y z h1 h2⟩
theorem bless_tri : ∀ a b : List UInt8, Op.bytesLess a b = false -> Op.bytesLess b a = false -> a = b
 | [], [], _, _ => rfl
 | [], _ :: _, h, _ => by simp [Op.bytesLess] at h
 | _ :: _, [], _, h => by simp [Op.bytesLess] at h
 | a :: x, b :: y, h1, h2 => by
  simp only [Op.bytesLess, Bool.or_eq_false_iff, decide_eq_false_iff_not, Bool.and_eq_false_iff, beq_eq_false_iff_ne] at h1 h2
  have e : a = b := by
   have h3 := h1.1
   have h4 := h2.1
   rw [UInt8.lt_iff_toNat_lt] at h3 h4
   exact UInt8.toNat_inj.1 (by omega)
  subst e
  rw [bless_tri x y (by rcases h1.2 with h | h <;> simp_all) (by rcases h2.2 with h | h <;> simp_all)]
theorem cmp_less : ∀ a b : List UInt8, (Lib.compareBytes a b < 0) ↔ Op.bytesLess a b = true
 | [], [] => by simp [Lib.compareBytes, Op.bytesLess]
 | [], _ :: _ => by simp [Lib.compareBytes, Op.bytesLess]
 | _ :: _, [] => by simp [Lib.compareBytes, Op.bytesLess]
 | a :: x, b :: y => by
  have ih := cmp_less x y
  simp only [Lib.compareBytes, Op.bytesLess, Bool.or_eq_true, decide_eq_true_eq, Bool.and_eq_true, beq_iff_eq]
  by_cases h1 : a < b
  ·simp [h1]
  ·by_cases h2 : b < a
   ·rw [if_neg h1, if_pos h2]
    constructor
    ·intro h; omega
    ·rintro (h | ⟨rfl, _⟩)
     ·exact absurd h h1
     ·exact absurd h2 h1
   ·rw [if_neg h1, if_neg h2, ih]
    have e : a = b := by
     rw [UInt8.lt_iff_toNat_lt] at h1 h2
     exact UInt8.toNat_inj.1 (by omega)
    simp [e]
def kLt (a b : ByteArray) : Bool := Op.bytesLess a.toList b.toList
theorem kLt_irr (a : ByteArray) : kLt a a = false := bless_irr _
theorem kLt_trans {a b c : ByteArray} (h1 : kLt a b = true) (h2 : kLt b c = true) : kLt a c = true := bless_trans _ _ _ h1 h2
theorem kLt_tri {a b : ByteArray} (h1 : kLt a b = false) (h2 : kLt b a = false) : a = b := bytes_eq (bless_tri _ _ h1 h2)
theorem kLt_asymm {a b : ByteArray} (h : kLt a b = true) : kLt b a = false := by
 cases e : kLt b a with
 | false => rfl
 | true => have := kLt_trans h e; rw [kLt_irr] at this; cases this
def insE (L : List Ce) (x : Ce) : List Ce := L.filter (fun y => kLt y.key x.key) ++ (x :: L.filter (fun y => !kLt y.key x.key))
def qbA (es : List Ce) : List Ce := es.foldl insE []
def Asc (L : List Ce) : Prop := L.Pairwise (fun a b => kLt a.key b.key = true)
theorem insE_perm (L : List Ce) (x : Ce) : (insE L x).Perm (x :: L) := by
 unfold insE
 refine (List.perm_middle).trans ?_
 refine List.Perm.cons x ?_
 have := List.filter_append_perm (fun y : Ce => kLt y.key x.key) L
 exact this
theorem insE_asc {L : List Ce} {x : Ce} (h : Asc L) (hx : ∀ y ∈ L, y.key ≠ x.key) : Asc (insE L x) := by
 unfold insE Asc
 rw [List.pairwise_append, List.pairwise_cons]
 refine ⟨h.filter _, ⟨?_, h.filter _⟩, ?_⟩
 ·intro y hy
  rw [List.mem_filter] at hy
  have h1 : kLt y.key x.key = false := by simpa using hy.2
  cases e : kLt x.key y.key with
  | true => rfl
  | false => exact absurd (kLt_tri h1 e) (hx y hy.1)
 ·intro y hy z hz
  rw [List.mem_filter] at hy
  rcases List.mem_cons.1 hz with rfl | hz
  ·exact hy.2
  ·rw [List.mem_filter] at hz
   have h1 : kLt z.key x.key = false := by simpa using hz.2
   have h2 : kLt x.key z.key = true := by
    cases e : kLt x.key z.key with
    | true => rfl
    | false => exact absurd (kLt_tri h1 e) (hx z hz.1)
   exact kLt_trans hy.2 h2
def Dis (es : List Ce) : Prop := es.Pairwise (fun a b => a.key ≠ b.key)
theorem sortE_go : ∀ (es L : List Ce), Asc L -> Dis es -> (∀ x ∈ es, ∀ y ∈ L, y.key ≠ x.key) -> Asc (es.foldl insE L) /\ (es.foldl insE L).Perm (es ++ L)
 | [], L, h, _, _ => ⟨h, List.Perm.refl _⟩
 | e :: es, L, h, hd, hx => by
  rw [Dis, List.pairwise_cons] at hd
  have h1 := insE_asc h (fun y hy => hx e (List.mem_cons_self ..) y hy)
  obtain ⟨h2, h3⟩ := sortE_go es (insE L e) h1 hd.2 (fun x hx' y hy => by
   rcases List.mem_cons.1 ((insE_perm L e).mem_iff.1 hy) with rfl | hy
   ·exact hd.1 x hx'
   ·exact hx x (List.mem_cons_of_mem _ hx') y hy)
  refine ⟨h2, h3.trans ?_⟩
  refine ((List.Perm.append_left es (insE_perm L e))).trans ?_
  exact List.perm_middle
theorem qcL {es : List Ce} (hd : Dis es) : Asc (qbA es) /\ (qbA es).Perm es := by
 have := sortE_go es [] List.Pairwise.nil hd (fun x _ y hy => by cases hy)
 rw [List.append_nil] at this
 exact this
theorem asc_one : ∀ {L M : List Ce}, Asc L -> Asc M -> L.Perm M -> L = M
 | [], M, _, _, h => (List.nil_perm.1 h).symm
 | a :: L, M, hL, hM, h => by
  cases M with
  | nil => exact absurd h.length_eq (by simp)
  | cons b M =>
   rw [Asc, List.pairwise_cons] at hL hM
   have e : a = b := by
    have ha : a ∈ b :: M := h.mem_iff.1 (List.mem_cons_self ..)
    have hb : b ∈ a :: L := h.mem_iff.2 (List.mem_cons_self ..)
    rcases List.mem_cons.1 ha with ha | ha
    ·exact ha
    ·rcases List.mem_cons.1 hb with hb | hb
     ·exact hb.symm
     ·have h1 := hM.1 a ha
      have h2 := hL.1 b hb
      rw [kLt_asymm h1] at h2
      cases h2
   subst e
   rw [asc_one hL.2 hM.2 (List.Perm.cons_inv h)]
def qaP (l : List Ce) : List Ce := l.filter (fun x => !x.key.toList.isEmpty)
theorem keyed_append (l m : List Ce) : qaP (l ++ m) = qaP l ++ qaP m := by simp [qaP]
theorem keyed_take {l : List Ce} {i : Nat} (h : i < l.length) : qaP (l.take (i + 1)) = qaP (l.take i) ++ (if l[i].key.toList.isEmpty then [] else [l[i]]) := by
 rw [List.take_succ_eq_append_getElem h, keyed_append]
 congr 1
 unfold qaP
 cases e : l[i].key.toList.isEmpty <;> simp [e]
theorem qfB {l : List Ce} {x : Ce} (h : x ∈ qaP l) : ∃ i, ∃ hi : i < l.length, l[i] = x /\ x.key.toList ≠ [] := by
 rw [qaP, List.mem_filter] at h
 obtain ⟨i, hi, e⟩ := List.mem_iff_getElem.1 h.1
 exact ⟨i, hi, e, by intro e2; rw [e2] at h; simp at h⟩
theorem dis_keyed {l : List Ce} (hF : Found l) : Dis (qaP l) := by
 unfold Dis qaP
 rw [List.pairwise_filter]
 rw [List.pairwise_iff_getElem]
 intro i j hi hj hij h1 h2 e
 have n1 : l[i].key.toList ≠ [] := by intro e; rw [e] at h1; simp at h1
 have n2 : l[j].key.toList ≠ [] := by intro e; rw [e] at h2; simp at h2
 have f1 := hF i hi n1
 have f2 := hF j hj n2
 rw [e, f2] at f1
 injection f1 with f1
 omega
def qdO (l o : List Ce) : List Ce := qaP l ++ qaP o
theorem qcR {l o : List Ce} {mv : Int} (h : OkT l o mv) : Dis (qdO l o) := by
 obtain ⟨f1, s1⟩ := qeZ.1 h.cells.1
 obtain ⟨f2, s2⟩ := qeZ.1 h.olds.1
 unfold Dis qdO
 rw [List.pairwise_append]
 refine ⟨dis_keyed s1, dis_keyed s2, ?_⟩
 intro x hx y hy e
 obtain ⟨i, hi, ei, ni⟩ := qfB hx
 obtain ⟨j, hj, ej, nj⟩ := qfB hy
 have h1 := s1 i hi (by rw [ei]; exact ni)
 have h2 := (h.old j hj).2 (by rw [ej]; exact nj)
 rw [ej, <- e, <- ei, <- qaI f1 (by rw [ei]; exact ni), h1] at h2
 cases h2
theorem qfC {l o : List Ce} : (qdO l o).length <= l.length + o.length := by
 unfold qdO qaP
 rw [List.length_append]
 have := List.length_filter_le (fun x : Ce => !x.key.toList.isEmpty) l
 have := List.length_filter_le (fun x : Ce => !x.key.toList.isEmpty) o
 omega
theorem ent_seek {l o : List Ce} {mv : Int} (h : OkT l o mv) {x : Ce} (hx : x ∈ qdO l o) : qcV l o x.key = some x.h /\ x.key.toList ≠ [] /\ x.key.size <= 12 := by
 obtain ⟨f1, s1⟩ := qeZ.1 h.cells.1
 obtain ⟨f2, s2⟩ := qeZ.1 h.olds.1
 rcases List.mem_append.1 hx with hx | hx
 ·obtain ⟨i, hi, ei, ni⟩ := qfB hx
  have h1 := s1 i hi (by rw [ei]; exact ni)
  rw [ei, qaI f1 ni] at h1
  refine ⟨?_, ni, by rw [<- ei]; exact fit_small f1 i hi⟩
  rw [qcV, h1]
  simp only []
  rw [List.getElem?_eq_getElem hi, ei]
  rfl
 ·obtain ⟨i, hi, ei, ni⟩ := qfB hx
  have h1 := s2 i hi (by rw [ei]; exact ni)
  rw [ei, qaI f2 ni] at h1
  have h2 := (h.old i hi).2 (by rw [ei]; exact ni)
  rw [ei] at h2
  refine ⟨?_, ni, by rw [<- ei]; exact fit_small f2 i hi⟩
  rw [qcV, h2]
  simp only []
  rw [h1]
  simp only []
  rw [List.getElem?_eq_getElem hi, ei]
  rfl
end Go.Proofs.YtigpjmmfelndkaaGreatDoor
namespace Go.Proofs.YtigpjmmfelndkaaGreatDoor
open Go.RowKit Go.Shelf
open Go.Sort (HoldsK flatK size_flatK get_flatK putRowK)
set_option maxRecDepth 100000
set_option maxHeartbeats 1000000
def cfC (x y : Ce) : Int := Lib.compareBytes x.key.data.toList y.key.data.toList
theorem cfC_lt (x y : Ce) : ltOf cfC x y = kLt x.key y.key := by
 unfold ltOf cfC kLt
 have h := cmp_less x.key.toList y.key.toList
 rw [ByteArray.toList_eq, ByteArray.toList_eq] at h ⊢
 cases e : Op.bytesLess x.key.data.toList y.key.data.toList with
 | true => exact decide_eq_true (h.2 e)
 | false => exact decide_eq_false (fun h' => by rw [h.1 h'] at e; cases e)
theorem swoC : Go.Sort.SWO (ltOf cfC) where
 irrefl x := by rw [cfC_lt]; exact kLt_irr _
 trans x y z h1 h2 := by rw [cfC_lt] at *; exact kLt_trans h1 h2
 ntrans x y z h1 h2 := by
  rw [cfC_lt] at *
  cases e : kLt x.key z.key with
  | false => rfl
  | true =>
   by_cases e1 : kLt y.key x.key = true
   ·have := kLt_trans e1 e
    rw [h2] at this
    cases this
   ·have e1 : kLt y.key x.key = false := by simpa using e1
    have := kLt_tri h1 e1
    rw [this, h2] at e
    cases e
theorem closureC (x y : Ce) (W : World) : Calls Tryz.prog 189 #[.agg #[.string x.key, .int .i64 x.h], .agg #[.string y.key, .int .i64 y.h]] W fun e w' => e = .returned (.int .i64 (cfC x y)) /\ ∃ q os', w' = Go.Sort.grow (W.drewN q) os' := by
 have hcon := fun W' => Any.strings_Compare strCmp x.key y.key W'
 change ∀ W', Calls Tryz.prog 190 _ _ _ at hcon
 have hc : Lib.compareBytes x.key.data.toList y.key.data.toList = cfC x y := rfl
 rw [hc] at hcon
 generalize cfC x y = r at hcon ⊢
 clear hc
 go_enter Tryz.func189, Tryz.ntmps189
 go_wp2_with (go_at_call 190; refine (hcon _).mono ?_; rintro e w' ⟨rfl, rfl⟩)
 go_ret
 exact ⟨rfl, 0, _, by rw [Go.Sort.alloc_eq_grow, Go.Sort.alloc_eq_grow, Go.Sort.grow_grow]; rfl⟩
theorem cmpLaysC (blk off size : Nat) (w : World) : CmpLays Tryz.prog 189 #[] ceC 2 cfC blk off size w :=
 fun _ _ _ _ x y => closureC x y _
theorem Tryz.aggCell : ∀ w, (isAgg 132).run Tryz.prog w = .ok true w := Tryz.isAgg132
theorem Tryz.sizeCell : ∀ w, (Go.sizeOf 132).run Tryz.prog w = .ok 2 w := Tryz.sizeOf132
theorem holds_of_own {w : World} {base n cap blk : Nat} {L : List Ce} (h : w.ownsRow base 132 2 (.slice (some ⟨blk, 0, none⟩) n cap) n (ces L)) (hn : L.length = n) : HoldsK ceC 2 w blk 0 L.toArray := by
 intro j hj
 rw [size_flatK] at hj
 have hj' : j < L.length * 2 := by simpa using hj
 have hi : j / 2 < L.length := by omega
 have h5 : j % 2 < 2 := Nat.mod_lt _ (by decide)
 refine ⟨?_, ?_⟩
 ·rw [Nat.zero_add, h.cellAt j (by omega), get_flatK _ _ _ _ hj]
  have e := ces_at L (j / 2) (j % 2) hi h5
  rw [show j / 2 * 2 + j % 2 = j by omega] at e
  rw [e, getElem!_pos L.toArray (j / 2) (by simpa using hi)]
  simp only [List.getElem_toArray, id]
  rw [List.getElem?_eq_getElem (by rw [qbE]; exact h5), getElem!_pos (ceC L[j / 2]) (j % 2) (by rw [qbE]; exact h5)]
 ·exact h.frozenAt _
theorem rd_of_holds {w : World} {blk : Nat} {L : List Ce} (h : HoldsK ceC 2 w blk 0 L.toArray) (hb : blk < w.heap.size) : RdJ w (some ⟨blk, 0, none⟩) L := by
 intro i hi
 have k : ∀ j, j < 2 -> w.cell? ⟨blk, 0 + i * 2 + j, none⟩ = (ceC L[i])[j]? := by
  intro j hj
  have hs : i * 2 + j < (flatK ceC 2 L.toArray).size := by rw [size_flatK]; simp; omega
  have := (h (i * 2 + j) hs).1
  rw [show 0 + i * 2 + j = 0 + (i * 2 + j) by omega, this, get_flatK _ _ _ _ (by simp; omega), show (i * 2 + j) / 2 = i by omega, show (i * 2 + j) % 2 = j by omega, getElem!_pos L.toArray i (by simpa using hi)]
  simp only [List.getElem_toArray, id]
  rw [getElem!_pos (ceC L[i]) j (by rw [qbE]; exact hj), List.getElem?_eq_getElem (by rw [qbE]; exact hj)]
 exact ⟨blk, 0, rfl, hb, k 0 (by decide), k 1 (by decide)⟩
theorem sorted_below {w : World} {blk n B : Nat} {d : Array Ce} {os : Array Obj} (hB : B <= blk) (hs : blk < w.heap.size) : Below B w (sortWorldK ceC 2 w blk 0 n d os) := by
 refine ⟨rfl, rfl, rfl, size_sortWorldK_c ceC 2 w blk 0 n d os, fun k hk => ?_⟩
 unfold sortWorldK putRowK Go.Sort.putRow Go.Sort.mapBlock Go.Sort.grow Go.Sort.ahead
 simp only []
 rw [Array.getElem?_append_left (by simp; omega), Array.getElem?_modify, if_neg (by omega)]
theorem sort_any (E : List Ce) (base blk cap : Nat) (w : World) (hd : Dis E) (h : w.ownsRow base 132 2 (.slice (some ⟨blk, 0, none⟩) E.length cap) E.length (ces E)) (hl : E.length <= 1048576) :
  Calls Tryz.prog 188 #[.slice (some ⟨blk, 0, none⟩) E.length cap, .func (.func 189) #[] #[]] w fun e w' => e = .returned (.tuple #[]) /\ RdJ w' (some ⟨blk, 0, none⟩) (qbA E) /\ Below base w w' := by
 have hb := h.lt blk rfl
 have hH := holds_of_own h rfl
 have eg : ∀ args w, (callFunc 189 args).run Tryz.prog w = .ok (.enter 189 args) w := enters_of Tryz.func189 (by kernel_rfl) rfl
 have hcon := AnyQ.slices_SortFunc sortC 2 Tryz.aggCell Tryz.sizeCell ceC (fun _ => rfl) (fun x v hv => by simp [ceC] at hv; rcases hv with rfl | rfl <;> rfl) cfC swoC 189 #[] blk 0 cap E.toArray w eg (cmpLaysC blk 0 _ w) hH hb.2 (by simp; omega)
 change Calls Tryz.prog 188 _ _ _ at hcon
 have es : E.toArray.size = E.length := by simp
 rw [es] at hcon
 refine hcon.mono ?_
 rintro e w' ⟨rfl, d', n, os, hp, hs, rfl⟩
 have hsz : d'.size = E.length := by rw [hp.1]; simp
 have hperm : d'.toList.Perm E := by
  have := hp.2.2
  rw [<- es] at this
  rw [show E.toArray.size = d'.size from hp.1.symm, Array.extract_size] at this
  rw [show d'.size = E.toArray.size from hp.1, Array.extract_size] at this
  simpa using this
 have hdis : Dis d'.toList := by
  unfold Dis at hd ⊢
  exact hd.perm hperm.symm (fun {x y} h e => h e.symm)
 have hasc : Asc d'.toList := by
  unfold Asc
  unfold Dis at hdis
  rw [List.pairwise_iff_getElem] at hdis ⊢
  intro i j hi hj hij
  have hi' : i < d'.size := by simpa using hi
  have hj' : j < d'.size := by simpa using hj
  have h1 := hs i j (Nat.zero_le _) hij (by omega)
  rw [cfC_lt, getElem!_pos d' i hi', getElem!_pos d' j hj'] at h1
  have h2 := hdis i j hi hj hij
  simp only [Array.getElem_toList] at h2 ⊢
  cases e : kLt d'[i].key d'[j].key with
  | true => rfl
  | false => exact absurd (kLt_tri e h1) h2
 have he : d' = (qbA E).toArray := by
  obtain ⟨h1, h2⟩ := qcL hd
  have := asc_one hasc h1 (hperm.trans h2.symm)
  rw [<- this]
 refine ⟨rfl, ?_, sorted_below hb.1 hb.2⟩
 have hH' := holdsK_sortWorldK_c ceC 2 w blk 0 E.toArray d' n os hH hb.2 hp.1
 rw [he] at hH' ⊢
 exact rd_of_holds hH' (Nat.lt_of_lt_of_le hb.2 (size_sortWorldK_c ceC 2 w blk 0 n _ os))
end Go.Proofs.YtigpjmmfelndkaaGreatDoor
namespace Go.Proofs.YtigpjmmfelndkaaGreatDoor
open Go.RowKit
set_option maxRecDepth 100000
set_option maxHeartbeats 4000000
theorem qeN {es : List Ce} (hd : Dis es) : (qbA es).length = es.length := (qcL hd).2.length_eq
theorem own_at2 {w : World} {base n : Nat} {e : TypeId} {v : Value} {xs : List Value} (h : w.ownsRow base e 2 v n xs) (hn : 0 < n) : ∃ g cap, v = .slice (some ⟨g, 0, none⟩) n cap /\ base <= g := by
 rcases h.2 with ⟨_, h0⟩ | ⟨g, cap, cur, hv, hb, _⟩
 ·omega
 ·exact ⟨g, cap, hv, hb⟩
theorem sort_noneX (p : Option Addr) (cap : Nat) (w : World) : Calls Tryz.prog 188 #[.slice p 0 cap, .func (.func 189) #[] #[]] w fun e w' => e = .returned (.tuple #[]) /\ w' = w := by
 have hcon := AnyF.slices_SortFunc_none sortC p cap (.func (.func 189) #[] #[]) w
 change Calls Tryz.prog 188 _ _ _ at hcon
 exact hcon
def gath (l o : List Ce) : Nat -> List Ce
 | 0 => []
 | 1 => qaP l
 | _ => qdO l o
theorem entries2_any {B b g mv : Nat} {w : World} {l o : List Ce} (h : Brd B w b g l o mv) (hl : l.length <= 64) (hl' : o.length <= 64) (hd : Dis (qdO l o)) :
  Calls Tryz.prog 159 #[.pointer (some ⟨b, 0, none⟩)] w fun e w' => ∃ ao ca, e = .returned (.slice ao (qdO l o).length ca) /\ RdJ w' ao (qbA (qdO l o)) /\ Below w.heap.size w w' /\ (∀ bb of, ao = some ⟨bb, of, none⟩ -> 0 < (qdO l o).length -> w.heap.size <= bb) := by
 obtain ⟨i0, hi0, hz0, hz1, hz2⟩ := info_parts Tryz.infoCell
 have x0 : w.cell? ⟨b, 0, none⟩ = some (.slice (some ⟨g, 0, none⟩) l.length l.length) := h.hd.cell 0
 have x1 : w.cell? ⟨b, 1, none⟩ = _ := cRn (h.hd.cell 1) rfl
 have HJ := hI h.cells
 have HK := hI h.olds
 have HD := hI hd
 generalize oldP g l.length o.length = op at *
 clear h hd
 go_enter Tryz.func159, Tryz.ntmps159
 go_wp2
 go_region
 go_wp2
 have F1 : Hid (Blk (w.alloc (.cells #[.slice (some ⟨g, 0, none⟩) l.length l.length, .slice op o.length o.length] 27)).drew w.heap.size 27 [.slice (some ⟨g, 0, none⟩) l.length l.length, .slice op o.length o.length] /\ Below w.heap.size w (w.alloc (.cells #[.slice (some ⟨g, 0, none⟩) l.length l.length, .slice op o.length o.length] 27)).drew) := ⟨Blk.new w _ _, ((Below.refl _ _).alloc (Nat.le_refl _) _).drew⟩
 generalize (w.alloc (.cells #[.slice (some ⟨g, 0, none⟩) l.length l.length, .slice op o.length o.length] 27)).drew = W at F1 ⊢
 have K1 := hI F1.out.1
 have B1 := hI F1.out.2
 clear F1 x0 x1
 have J1 := hI (HJ.out.later B1.out)
 have J2 := hI (HK.out.later B1.out)
 go_loopw [3, 18] (fun lv iv wr => ∃ (i : Nat) (E : List Ce) (lo : Option Addr) (lc : Nat), i <= 2 /\ iv = .int .i64 (i : Int) /\ lv = .slice lo E.length lc /\ Hid (E = gath l o i) /\ Hid (wr.ownsRow W.heap.size 132 2 (.slice lo E.length lc) E.length (ces E)) /\ Hid (Below W.heap.size W wr)) (fun _ iv _ => 2 - (intOf iv).toNat)
 case atStart => exact ⟨0, [], none, 0, by omega, rfl, rfl, rfl, World.ownsRow_nil _ _ _ _, Below.refl _ _⟩
 case round =>
  obtain ⟨i, E, lo, lc, hi, rfl, rfl, hE, hown, hbel⟩ := hrel
  by_cases h2 : i < 2
  ·by_cases h0 : i = 0
   ·have H0 := hI h0
    clear h0
    obtain rfl : E = [] := by rw [hE.out, H0.out]; rfl
    have EL := hI (show ([] : List Ce).length <= 64 by simp)
    have y : wr.cell? ⟨w.heap.size, i, none⟩ = some (.slice (some ⟨g, 0, none⟩) l.length l.length) := by rw [H0.out]; exact (K1.out.below hbel.out K1.out.lt).cell 0
    have k2 : (i : Int) < 2 := by omega
    have RJ := hI (J1.out)
    have HOW := hI hown.out
    clear hown
    go_wp2
    go_loopw [3, 24] (fun lv jv wq => ∃ (j : Nat) (lo : Option Addr) (lc : Nat), j <= l.length /\ jv = .int .i64 (j : Int) /\ lv = .slice lo (([] : List Ce) ++ qaP (l.take j)).length lc /\ Hid (wq.ownsRow W.heap.size 132 2 (.slice lo (([] : List Ce) ++ qaP (l.take j)).length lc) (([] : List Ce) ++ qaP (l.take j)).length (ces (([] : List Ce) ++ qaP (l.take j)))) /\ Hid (Below W.heap.size W wq)) (fun _ jv _ => l.length - (intOf jv).toNat)
    case atStart => exact ⟨0, lo, lc, by omega, rfl, by first | rfl | simp [qaP], by show World.ownsRow _ _ _ _ _ _ _; simpa [qaP] using HOW.out, hbel⟩
    case round =>
     obtain ⟨j, lo', lc', hj, rfl, rfl, hown, hbel'⟩ := hrel
     by_cases hlt : j < l.length
     ·have k1 : (j : Int) < (l.length : Int) := by omega
      obtain ⟨bb, of, hao, hb, h1⟩ := RJ.out j hlt
      obtain ⟨x0, x1⟩ := h1.below hbel'.out hb
      have hkt := hI (keyed_take hlt)
      have hll : (([] : List Ce) ++ qaP (l.take j)).length <= 128 := by
       have := List.length_filter_le (fun x : Ce => !x.key.toList.isEmpty) (l.take j)
       have := List.length_take_le j l
       simp only [qaP, List.length_append]
       have := EL.out
       omega
      generalize l[j] = s at *
      obtain ⟨ky, hh⟩ := s
      simp only at x0 x1 hkt
      have BX : Hid (Below W.heap.size W (wr.alloc (.cells #[.string ky, .int .i64 hh] 132))) := hbel'.out.alloc hbel'.out.size _
      have OX := hI (hown.out.alloc (.cells #[.string ky, .int .i64 hh] 132))
      have NN : Hid ((wr.alloc (.cells #[.string ky, .int .i64 hh] 132)).cell? ⟨wr.heap.size, 0, none⟩ = some (.string ky) /\ (wr.alloc (.cells #[.string ky, .int .i64 hh] 132)).cell? ⟨wr.heap.size, 1, none⟩ = some (.int .i64 hh)) := ⟨World.cell?_alloc_at _ _ _ _ rfl, World.cell?_alloc_at _ _ _ _ rfl⟩
      rw [hao]
      clear h1 hao hown hbel'
      go_upto_region 8 with fail
      generalize (wr.alloc (.cells #[.string ky, .int .i64 hh] 132)) = wv at NN BX OX ⊢
      obtain ⟨n0, n1⟩ := NN.out
      clear NN x0 x1
      by_cases d1 : ky.toList = []
      ·have b1 : ky.toList.isEmpty = true := by rw [d1]; rfl
       have HE := hI (show ([] : List Ce) ++ qaP (l.take (j + 1)) = ([] : List Ce) ++ qaP (l.take j) by rw [hkt.out, if_pos b1, List.append_nil])
       clear hkt d1
       go_wp2
       go_roundw
       case rel => exact ⟨j + 1, lo', lc', by omega, by go_num, by rw [HE.out], by show World.ownsRow _ _ _ _ _ _ _; rw [HE.out]; exact OX.out, BX⟩
       case measure => simp [intOf]; omega
      ·have b1 : ky.toList.isEmpty = false := by cases h : ky.toList with | nil => exact absurd h d1 | cons a b => rfl
       have HE := hI (show ([] : List Ce) ++ qaP (l.take (j + 1)) = (([] : List Ce) ++ qaP (l.take j)) ++ [⟨ky, hh⟩] by rw [hkt.out, if_neg (by rw [b1]; simp), List.append_assoc])
       have hbs := BX.out.size
       generalize ([] : List Ce) ++ qaP (l.take j) = acc at *
       clear hkt d1
       go_wp2_with (at_builtin; (refine wpList_push2 rfl _ _ 27 rfl W.heap.size 132 i0 Tryz.underlying27 hi0 hz0 hz1 hz2 _ acc acc.length rfl OX.out ⟨ky, hh⟩ rfl (by omega) hbs ?_; intro v' w6 hown6 hb6))
       have O6 := hI hown6
       obtain ⟨lo2, lc2, rfl⟩ := own_slice2 O6.out
       have B6 := hI (BX.out.trans hb6)
       have hla : (acc ++ [(⟨ky, hh⟩ : Ce)]).length = acc.length + 1 := by simp
       clear hown6 hb6
       go_wp2
       go_roundw
       case rel => exact ⟨j + 1, lo2, lc2, by omega, by go_num, by rw [HE.out, hla], by show World.ownsRow _ _ _ _ _ _ _; rw [HE.out, hla]; exact O6.out, B6⟩
       case measure => simp [intOf]; omega
     ·obtain rfl : j = l.length := by omega
      have HE := hI (show ([] : List Ce) ++ qaP (l.take l.length) = qaP l by rw [List.take_length, List.nil_append])
      have O7 := hI hown.out
      rw [HE.out] at O7
      rw [HE.out]
      clear hown HE
      go_wp2
      go_roundw
      case rel => exact ⟨i + 1, qaP l, lo', lc', by omega, by go_num, rfl, (by show _ = gath l o (i + 1); rw [H0.out]; rfl), O7, hbel'⟩
      case measure => simp [intOf]; omega
   ·have H0 := hI (show i = 1 by omega)
    clear h0
    have hE1 : E = qaP l := by rw [hE.out, H0.out]; rfl
    have EL := hI (show E.length <= 64 by rw [hE1]; have := List.length_filter_le (fun x : Ce => !x.key.toList.isEmpty) l; unfold qaP; omega)
    have y : wr.cell? ⟨w.heap.size, i, none⟩ = some (.slice op o.length o.length) := by rw [H0.out]; exact (K1.out.below hbel.out K1.out.lt).cell 1
    have k2 : (i : Int) < 2 := by omega
    have RJ := hI (J2.out)
    have HOW := hI hown.out
    clear hown
    go_wp2
    go_loopw [3, 24] (fun lv jv wq => ∃ (j : Nat) (lo : Option Addr) (lc : Nat), j <= o.length /\ jv = .int .i64 (j : Int) /\ lv = .slice lo (E ++ qaP (o.take j)).length lc /\ Hid (wq.ownsRow W.heap.size 132 2 (.slice lo (E ++ qaP (o.take j)).length lc) (E ++ qaP (o.take j)).length (ces (E ++ qaP (o.take j)))) /\ Hid (Below W.heap.size W wq)) (fun _ jv _ => o.length - (intOf jv).toNat)
    case atStart => exact ⟨0, lo, lc, by omega, rfl, by first | rfl | simp [qaP], by show World.ownsRow _ _ _ _ _ _ _; simpa [qaP] using HOW.out, hbel⟩
    case round =>
     obtain ⟨j, lo', lc', hj, rfl, rfl, hown, hbel'⟩ := hrel
     by_cases hlt : j < o.length
     ·have k1 : (j : Int) < (o.length : Int) := by omega
      obtain ⟨bb, of, hao, hb, h1⟩ := RJ.out j hlt
      obtain ⟨x0, x1⟩ := h1.below hbel'.out hb
      have hkt := hI (keyed_take hlt)
      have hll : (E ++ qaP (o.take j)).length <= 128 := by
       have := List.length_filter_le (fun x : Ce => !x.key.toList.isEmpty) (o.take j)
       have := List.length_take_le j o
       simp only [qaP, List.length_append]
       have := EL.out
       omega
      generalize o[j] = s at *
      obtain ⟨ky, hh⟩ := s
      simp only at x0 x1 hkt
      have BX : Hid (Below W.heap.size W (wr.alloc (.cells #[.string ky, .int .i64 hh] 132))) := hbel'.out.alloc hbel'.out.size _
      have OX := hI (hown.out.alloc (.cells #[.string ky, .int .i64 hh] 132))
      have NN : Hid ((wr.alloc (.cells #[.string ky, .int .i64 hh] 132)).cell? ⟨wr.heap.size, 0, none⟩ = some (.string ky) /\ (wr.alloc (.cells #[.string ky, .int .i64 hh] 132)).cell? ⟨wr.heap.size, 1, none⟩ = some (.int .i64 hh)) := ⟨World.cell?_alloc_at _ _ _ _ rfl, World.cell?_alloc_at _ _ _ _ rfl⟩
      rw [hao]
      clear h1 hao hown hbel'
      go_upto_region 8 with fail
      generalize (wr.alloc (.cells #[.string ky, .int .i64 hh] 132)) = wv at NN BX OX ⊢
      obtain ⟨n0, n1⟩ := NN.out
      clear NN x0 x1
      by_cases d1 : ky.toList = []
      ·have b1 : ky.toList.isEmpty = true := by rw [d1]; rfl
       have HE := hI (show E ++ qaP (o.take (j + 1)) = E ++ qaP (o.take j) by rw [hkt.out, if_pos b1, List.append_nil])
       clear hkt d1
       go_wp2
       go_roundw
       case rel => exact ⟨j + 1, lo', lc', by omega, by go_num, by rw [HE.out], by show World.ownsRow _ _ _ _ _ _ _; rw [HE.out]; exact OX.out, BX⟩
       case measure => simp [intOf]; omega
      ·have b1 : ky.toList.isEmpty = false := by cases h : ky.toList with | nil => exact absurd h d1 | cons a b => rfl
       have HE := hI (show E ++ qaP (o.take (j + 1)) = (E ++ qaP (o.take j)) ++ [⟨ky, hh⟩] by rw [hkt.out, if_neg (by rw [b1]; simp), List.append_assoc])
       have hbs := BX.out.size
       generalize E ++ qaP (o.take j) = acc at *
       clear hkt d1
       go_wp2_with (at_builtin; (refine wpList_push2 rfl _ _ 27 rfl W.heap.size 132 i0 Tryz.underlying27 hi0 hz0 hz1 hz2 _ acc acc.length rfl OX.out ⟨ky, hh⟩ rfl (by omega) hbs ?_; intro v' w6 hown6 hb6))
       have O6 := hI hown6
       obtain ⟨lo2, lc2, rfl⟩ := own_slice2 O6.out
       have B6 := hI (BX.out.trans hb6)
       have hla : (acc ++ [(⟨ky, hh⟩ : Ce)]).length = acc.length + 1 := by simp
       clear hown6 hb6
       go_wp2
       go_roundw
       case rel => exact ⟨j + 1, lo2, lc2, by omega, by go_num, by rw [HE.out, hla], by show World.ownsRow _ _ _ _ _ _ _; rw [HE.out, hla]; exact O6.out, B6⟩
       case measure => simp [intOf]; omega
     ·obtain rfl : j = o.length := by omega
      have HE := hI (show E ++ qaP (o.take o.length) = qdO l o by rw [List.take_length, hE1]; rfl)
      have O7 := hI hown.out
      rw [HE.out] at O7
      rw [HE.out]
      clear hown HE
      go_wp2
      go_roundw
      case rel => exact ⟨i + 1, qdO l o, lo', lc', by omega, by go_num, rfl, (by show _ = gath l o (i + 1); rw [H0.out]; rfl), O7, hbel'⟩
      case measure => simp [intOf]; omega
  ·obtain rfl : i = 2 := by omega
   have hE2 : E = qdO l o := hE.out
   subst hE2
   by_cases hz : (qdO l o).length = 0
   ·have hnil : qdO l o = [] := List.eq_nil_of_length_eq_zero hz
    have hsn : qbA (qdO l o) = [] := by rw [hnil]; rfl
    have HSN := hI hsn
    have CN := hI (fun lo lc => sort_noneX lo lc wr)
    rw [hz]
    clear hown
    have B9 := hI (B1.out.trans (hbel.out.mono B1.out.size))
    have HZ := hI hz
    clear hz hsn hnil
    go_wp2_with fail
    refine (CN.out _ _).mono ?_
    rintro e w9 ⟨rfl, rfl⟩
    go_wp2
    go_ret
    exact ⟨lo, lc, by rw [HZ.out]; rfl, by rw [HSN.out]; intro i hi; simp at hi, B9.out, by rw [HZ.out]; intro _ _ _ h; omega⟩
   ·obtain ⟨gb, cap, hgv, hgb⟩ := own_at2 hown.out (by omega)
    have HGB := hI hgb
    clear hgb
    injection hgv with e1 e2 e3
    subst e1 e3
    have CS := hI (sort_any (qdO l o) W.heap.size gb lc wr HD.out hown.out (by have := qfC (l := l) (o := o); omega))
    clear hown hz
    have B9 := hI (B1.out.trans (hbel.out.mono B1.out.size))
    go_wp2_with fail
    refine CS.out.mono ?_
    rintro e w9 ⟨rfl, hrd, hb9⟩
    have RD := hI hrd
    have BD := hI (B9.out.trans (hb9.mono B1.out.size))
    clear hrd hb9
    go_wp2
    go_ret
    exact ⟨_, _, rfl, RD.out, BD.out, fun bb of e _ => by injection e with e; injection e with e; rw [<- e]; exact Nat.le_trans B1.out.size HGB.out⟩
theorem entries_any {B b g mv : Nat} {w : World} {l o : List Ce} (h : Brd B w b g l o mv) (hl : l.length <= 64) (hl' : o.length <= 64) (hd : Dis (qdO l o)) :
  Calls Tryz.prog 159 #[.pointer (some ⟨b, 0, none⟩)] w fun e w' => ∃ ao ca, e = .returned (.slice ao (qdO l o).length ca) /\ RdJ w' ao (qbA (qdO l o)) /\ Below w.heap.size w w' :=
 (entries2_any h hl hl' hd).mono (fun _ _ ⟨a, b, c, d, e, _⟩ => ⟨a, b, c, d, e⟩)
end Go.Proofs.YtigpjmmfelndkaaGreatDoor
