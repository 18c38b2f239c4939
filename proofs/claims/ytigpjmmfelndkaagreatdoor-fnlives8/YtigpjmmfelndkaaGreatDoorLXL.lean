import Derived.Lib.Bytealg
import Derived.Test.YtigpjmmfelndkaaGreatDoorLXK
import Derived.Test.YtigpjmmfelndkaaGreatDoorLSort
namespace Go.Proofs.YtigpjmmfelndkaaGreatDoor
open Go.RowKit
theorem qsI : ∀ a : List UInt8, Op.bytesLess a a = false
 | [] => rfl
 | a :: x => by simp [Op.bytesLess, qsI x]
theorem qmF : ∀ a b c : List UInt8, Op.bytesLess a b = true -> Op.bytesLess b c = true -> Op.bytesLess a c = true
 | _, [], _, h, _ => by cases h' : (‹List UInt8›) <;> simp_all [Op.bytesLess]
 | _, _ :: _, [], _, h => by simp [Op.bytesLess] at h
 | [], _ :: _, _ :: _, _, _ => rfl
 | a :: x, b :: y, c :: z, h1, h2 => by
  simp only [Op.bytesLess, Bool.or_eq_true, decide_eq_true_eq, Bool.and_eq_true, beq_iff_eq] at h1 h2 ⊢
  rcases h1 with h1 | ⟨rfl, h1⟩
  ·rcases h2 with h2 | ⟨rfl, h2⟩
   ·exact .inl (UInt8.lt_trans h1 h2)
   ·exact .inl h1
  ·rcases h2 with h2 | ⟨rfl, h2⟩
   ·exact .inl h2
   ·exact .inr ⟨rfl, qmF x y z h1 h2⟩
theorem qsH : ∀ a b : List UInt8, Op.bytesLess a b = false -> Op.bytesLess b a = false -> a = b
 | [], [], _, _ => rfl
 | [], _ :: _, h, _ => by simp [Op.bytesLess] at h
 | _ :: _, [], _, h => by simp [Op.bytesLess] at h
 | a :: x, b :: y, h1, h2 => by
  simp only [Op.bytesLess, Bool.or_eq_false_iff, decide_eq_false_iff_not, Bool.and_eq_false_iff, beq_eq_false_iff_ne] at h1 h2
  have e : a = b := by
   have h3 := h1.1
   have h4 := h2.1
   rw [UInt8.lt_iff_toNat_lt] at h3 h4
   exact UInt8.toNat_inj.1 (by omega)
  subst e
  rw [qsH x y (by rcases h1.2 with h | h <;> simp_all) (by rcases h2.2 with h | h <;> simp_all)]
theorem qvA : ∀ a b : List UInt8, (Lib.compareBytes a b < 0) ↔ Op.bytesLess a b = true
 | [], [] => by simp [Lib.compareBytes, Op.bytesLess]
 | [], _ :: _ => by simp [Lib.compareBytes, Op.bytesLess]
 | _ :: _, [] => by simp [Lib.compareBytes, Op.bytesLess]
 | a :: x, b :: y => by
  have ih := qvA x y
  simp only [Lib.compareBytes, Op.bytesLess, Bool.or_eq_true, decide_eq_true_eq, Bool.and_eq_true, beq_iff_eq]
  by_cases h1 : a < b
  ·simp [h1]
  ·by_cases h2 : b < a
   ·rw [if_neg h1, if_pos h2]
    constructor
    ·intro h; omega
    ·rintro (h | ⟨rfl, _⟩)
     ·exact absurd h h1
     ·exact absurd h2 h1
   ·rw [if_neg h1, if_neg h2, ih]
    have e : a = b := by
     rw [UInt8.lt_iff_toNat_lt] at h1 h2
     exact UInt8.toNat_inj.1 (by omega)
    simp [e]
def kLt (a b : ByteArray) : Bool := Op.bytesLess a.toList b.toList
theorem qiU (a : ByteArray) : kLt a a = false := qsI _
theorem qfW {a b c : ByteArray} (h1 : kLt a b = true) (h2 : kLt b c = true) : kLt a c = true := qmF _ _ _ h1 h2
theorem qhF {a b : ByteArray} (h1 : kLt a b = false) (h2 : kLt b a = false) : a = b := qgO (qsH _ _ h1 h2)
theorem qrC {a b : ByteArray} (h : kLt a b = true) : kLt b a = false := by
 cases e : kLt b a with
 | false => rfl
 | true => have := qfW h e; rw [qiU] at this; cases this
def qkO (L : List Ce) (x : Ce) : List Ce := L.filter (fun y => kLt y.key x.key) ++ (x :: L.filter (fun y => !kLt y.key x.key))
def qaY (es : List Ce) : List Ce := es.foldl qkO []
def Asc (L : List Ce) : Prop := L.Pairwise (fun a b => kLt a.key b.key = true)
theorem qiA (L : List Ce) (x : Ce) : (qkO L x).Perm (x :: L) := by
 unfold qkO
 refine (List.perm_middle).trans ?_
 refine List.Perm.cons x ?_
 have := List.filter_append_perm (fun y : Ce => kLt y.key x.key) L
 exact this
theorem qzY {L : List Ce} {x : Ce} (h : Asc L) (hx : ∀ y ∈ L, y.key ≠ x.key) : Asc (qkO L x) := by
 unfold qkO Asc
 rw [List.pairwise_append, List.pairwise_cons]
 refine ⟨h.filter _, ⟨?_, h.filter _⟩, ?_⟩
 ·intro y hy
  rw [List.mem_filter] at hy
  have h1 : kLt y.key x.key = false := by simpa using hy.2
  cases e : kLt x.key y.key with
  | true => rfl
  | false => exact absurd (qhF h1 e) (hx y hy.1)
 ·intro y hy z hz
  rw [List.mem_filter] at hy
  rcases List.mem_cons.1 hz with rfl | hz
  ·exact hy.2
  ·rw [List.mem_filter] at hz
   have h1 : kLt z.key x.key = false := by simpa using hz.2
   have h2 : kLt x.key z.key = true := by
    cases e : kLt x.key z.key with
    | true => rfl
    | false => exact absurd (qhF h1 e) (hx z hz.1)
   exact qfW hy.2 h2
def Dis (es : List Ce) : Prop := es.Pairwise (fun a b => a.key ≠ b.key)
theorem quB : ∀ (es L : List Ce), Asc L -> Dis es -> (∀ x ∈ es, ∀ y ∈ L, y.key ≠ x.key) -> Asc (es.foldl qkO L) /\ (es.foldl qkO L).Perm (es ++ L)
 | [], L, h, _, _ => ⟨h, List.Perm.refl _⟩
 | e :: es, L, h, hd, hx => by
  rw [Dis, List.pairwise_cons] at hd
  have h1 := qzY h (fun y hy => hx e (List.mem_cons_self ..) y hy)
  obtain ⟨h2, h3⟩ := quB es (qkO L e) h1 hd.2 (fun x hx' y hy => by
   rcases List.mem_cons.1 ((qiA L e).mem_iff.1 hy) with rfl | hy
   ·exact hd.1 x hx'
   ·exact hx x (List.mem_cons_of_mem _ hx') y hy)
  refine ⟨h2, h3.trans ?_⟩
  refine ((List.Perm.append_left es (qiA L e))).trans ?_
  exact List.perm_middle
theorem qcI {es : List Ce} (hd : Dis es) : Asc (qaY es) /\ (qaY es).Perm es := by
 have := quB es [] List.Pairwise.nil hd (fun x _ y hy => by cases hy)
 rw [List.append_nil] at this
 exact this
theorem qyQ : ∀ {L M : List Ce}, Asc L -> Asc M -> L.Perm M -> L = M
 | [], M, _, _, h => (List.nil_perm.1 h).symm
 | a :: L, M, hL, hM, h => by
  cases M with
  | nil => exact absurd h.length_eq (by simp)
  | cons b M =>
   rw [Asc, List.pairwise_cons] at hL hM
   have e : a = b := by
    have ha : a ∈ b :: M := h.mem_iff.1 (List.mem_cons_self ..)
    have hb : b ∈ a :: L := h.mem_iff.2 (List.mem_cons_self ..)
    rcases List.mem_cons.1 ha with ha | ha
    ·exact ha
    ·rcases List.mem_cons.1 hb with hb | hb
     ·exact hb.symm
     ·have h1 := hM.1 a ha
      have h2 := hL.1 b hb
      rw [qrC h1] at h2
      cases h2
   subst e
   rw [qyQ hL.2 hM.2 (List.Perm.cons_inv h)]
def qaO (l : List Ce) : List Ce := l.filter (fun x => !x.key.toList.isEmpty)
theorem qrB (l m : List Ce) : qaO (l ++ m) = qaO l ++ qaO m := by simp [qaO]
theorem qgJ {l : List Ce} {i : Nat} (h : i < l.length) : qaO (l.take (i + 1)) = qaO (l.take i) ++ (if l[i].key.toList.isEmpty then [] else [l[i]]) := by
 rw [List.take_succ_eq_append_getElem h, qrB]
 congr 1
 unfold qaO
 cases e : l[i].key.toList.isEmpty <;> simp [e]
theorem qeY {l : List Ce} {x : Ce} (h : x ∈ qaO l) : ∃ i, ∃ hi : i < l.length, l[i] = x /\ x.key.toList ≠ [] := by
 rw [qaO, List.mem_filter] at h
 obtain ⟨i, hi, e⟩ := List.mem_iff_getElem.1 h.1
 exact ⟨i, hi, e, by intro e2; rw [e2] at h; simp at h⟩
theorem qsB {l : List Ce} (hF : qtT l) : Dis (qaO l) := by
 unfold Dis qaO
 rw [List.pairwise_filter]
 rw [List.pairwise_iff_getElem]
 intro i j hi hj hij h1 h2 e
 have n1 : l[i].key.toList ≠ [] := by intro e; rw [e] at h1; simp at h1
 have n2 : l[j].key.toList ≠ [] := by intro e; rw [e] at h2; simp at h2
 have f1 := hF i hi n1
 have f2 := hF j hj n2
 rw [e, f2] at f1
 injection f1 with f1
 omega
def qdL (l o : List Ce) : List Ce := qaO l ++ qaO o
theorem qcT {l o : List Ce} {mv : Int} (h : OkT l o mv) : Dis (qdL l o) := by
 obtain ⟨f1, s1⟩ := qeX.1 h.cells.1
 obtain ⟨f2, s2⟩ := qeX.1 h.olds.1
 unfold Dis qdL
 rw [List.pairwise_append]
 refine ⟨qsB s1, qsB s2, ?_⟩
 intro x hx y hy e
 obtain ⟨i, hi, ei, ni⟩ := qeY hx
 obtain ⟨j, hj, ej, nj⟩ := qeY hy
 have h1 := s1 i hi (by rw [ei]; exact ni)
 have h2 := (h.old j hj).2 (by rw [ej]; exact nj)
 rw [ej, <- e, <- ei, <- qaJ f1 (by rw [ei]; exact ni), h1] at h2
 cases h2
theorem qgL {l o : List Ce} : (qdL l o).length <= l.length + o.length := by
 unfold qdL qaO
 rw [List.length_append]
 have := List.length_filter_le (fun x : Ce => !x.key.toList.isEmpty) l
 have := List.length_filter_le (fun x : Ce => !x.key.toList.isEmpty) o
 omega
theorem quU {l o : List Ce} {mv : Int} (h : OkT l o mv) {x : Ce} (hx : x ∈ qdL l o) : qcP l o x.key = some x.h /\ x.key.toList ≠ [] /\ x.key.size <= 12 := by
 obtain ⟨f1, s1⟩ := qeX.1 h.cells.1
 obtain ⟨f2, s2⟩ := qeX.1 h.olds.1
 rcases List.mem_append.1 hx with hx | hx
 ·obtain ⟨i, hi, ei, ni⟩ := qeY hx
  have h1 := s1 i hi (by rw [ei]; exact ni)
  rw [ei, qaJ f1 ni] at h1
  refine ⟨?_, ni, by rw [<- ei]; exact qiD f1 i hi⟩
  rw [qcP, h1]
  simp only []
  rw [List.getElem?_eq_getElem hi, ei]
  rfl
 ·obtain ⟨i, hi, ei, ni⟩ := qeY hx
  have h1 := s2 i hi (by rw [ei]; exact ni)
  rw [ei, qaJ f2 ni] at h1
  have h2 := (h.old i hi).2 (by rw [ei]; exact ni)
  rw [ei] at h2
  refine ⟨?_, ni, by rw [<- ei]; exact qiD f2 i hi⟩
  rw [qcP, h2]
  simp only []
  rw [h1]
  simp only []
  rw [List.getElem?_eq_getElem hi, ei]
  rfl
end Go.Proofs.YtigpjmmfelndkaaGreatDoor
namespace Go.Proofs.YtigpjmmfelndkaaGreatDoor
open Go.RowKit Go.Shelf
open Go.Sort (HoldsK flatK size_flatK get_flatK putRowK)
set_option maxRecDepth 100000
set_option maxHeartbeats 1000000
def cfC (x y : Ce) : Int := Lib.compareBytes x.key.data.toList y.key.data.toList
theorem qvC (x y : Ce) : ltOf cfC x y = kLt x.key y.key := by
 unfold ltOf cfC kLt
 have h := qvA x.key.toList y.key.toList
 rw [ByteArray.toList_eq, ByteArray.toList_eq] at h ⊢
 cases e : Op.bytesLess x.key.data.toList y.key.data.toList with
 | true => exact decide_eq_true (h.2 e)
 | false => exact decide_eq_false (fun h' => by rw [h.1 h'] at e; cases e)
theorem swoC : Go.Sort.SWO (ltOf cfC) where
 irrefl x := by rw [qvC]; exact qiU _
 trans x y z h1 h2 := by rw [qvC] at *; exact qfW h1 h2
 ntrans x y z h1 h2 := by
  rw [qvC] at *
  cases e : kLt x.key z.key with
  | false => rfl
  | true =>
   by_cases e1 : kLt y.key x.key = true
   ·have := qfW e1 e
    rw [h2] at this
    cases this
   ·have e1 : kLt y.key x.key = false := by simpa using e1
    have := qhF h1 e1
    rw [this, h2] at e
    cases e
theorem zaM (x y : Ce) (W : World) : Calls Tryz.prog 189 #[.agg #[.string x.key, .int .i64 x.h], .agg #[.string y.key, .int .i64 y.h]] W fun e w' => e = .returned (.int .i64 (cfC x y)) /\ ∃ q os', w' = Go.Sort.grow (W.drewN q) os' := by
 have hcon := fun W' => Any.strings_Compare zdI x.key y.key W'
 change ∀ W', Calls Tryz.prog 190 _ _ _ at hcon
 have hc : Lib.compareBytes x.key.data.toList y.key.data.toList = cfC x y := rfl
 rw [hc] at hcon
 generalize cfC x y = r at hcon ⊢
 clear hc
 go_enter Tryz.func189, Tryz.ntmps189
 go_wp2_with (go_at_call 190; refine (hcon _).mono ?_; rintro e w' ⟨rfl, rfl⟩)
 go_ret
 exact ⟨rfl, 0, _, by rw [Go.Sort.alloc_eq_grow, Go.Sort.alloc_eq_grow, Go.Sort.grow_grow]; rfl⟩
theorem zaL (blk off size : Nat) (w : World) : CmpLays Tryz.prog 189 #[] ceC 2 cfC blk off size w :=
 fun _ _ _ _ x y => zaM x y _
theorem Tryz.aggCell : ∀ w, (isAgg 132).run Tryz.prog w = .ok true w := Tryz.isAgg132
theorem Tryz.sizeCell : ∀ w, (Go.sizeOf 132).run Tryz.prog w = .ok 2 w := Tryz.sizeOf132
theorem qrT {w : World} {base n cap blk : Nat} {L : List Ce} (h : w.ownsRow base 132 2 (.slice (some ⟨blk, 0, none⟩) n cap) n (ces L)) (hn : L.length = n) : HoldsK ceC 2 w blk 0 L.toArray := by
 intro j hj
 rw [size_flatK] at hj
 have hj' : j < L.length * 2 := by simpa using hj
 have hi : j / 2 < L.length := by omega
 have h5 : j % 2 < 2 := Nat.mod_lt _ (by decide)
 refine ⟨?_, ?_⟩
 ·rw [Nat.zero_add, h.cellAt j (by omega), get_flatK _ _ _ _ hj]
  have e := qiH L (j / 2) (j % 2) hi h5
  rw [show j / 2 * 2 + j % 2 = j by omega] at e
  rw [e, getElem!_pos L.toArray (j / 2) (by simpa using hi)]
  simp only [List.getElem_toArray, id]
  rw [List.getElem?_eq_getElem (by rw [qbC]; exact h5), getElem!_pos (ceC L[j / 2]) (j % 2) (by rw [qbC]; exact h5)]
 ·exact h.frozenAt _
theorem qsT {w : World} {blk : Nat} {L : List Ce} (h : HoldsK ceC 2 w blk 0 L.toArray) (hb : blk < w.heap.size) : RdJ w (some ⟨blk, 0, none⟩) L := by
 intro i hi
 have k : ∀ j, j < 2 -> w.cell? ⟨blk, 0 + i * 2 + j, none⟩ = (ceC L[i])[j]? := by
  intro j hj
  have hs : i * 2 + j < (flatK ceC 2 L.toArray).size := by rw [size_flatK]; simp; omega
  have := (h (i * 2 + j) hs).1
  rw [show 0 + i * 2 + j = 0 + (i * 2 + j) by omega, this, get_flatK _ _ _ _ (by simp; omega), show (i * 2 + j) / 2 = i by omega, show (i * 2 + j) % 2 = j by omega, getElem!_pos L.toArray i (by simpa using hi)]
  simp only [List.getElem_toArray, id]
  rw [getElem!_pos (ceC L[i]) j (by rw [qbC]; exact hj), List.getElem?_eq_getElem (by rw [qbC]; exact hj)]
 exact ⟨blk, 0, rfl, hb, k 0 (by decide), k 1 (by decide)⟩
theorem qqE {w : World} {blk n B : Nat} {d : Array Ce} {os : Array Obj} (hB : B <= blk) (hs : blk < w.heap.size) : Below B w (sortWorldK ceC 2 w blk 0 n d os) := by
 refine ⟨rfl, rfl, rfl, size_sortWorldK_c ceC 2 w blk 0 n d os, fun k hk => ?_⟩
 unfold sortWorldK putRowK Go.Sort.putRow Go.Sort.mapBlock Go.Sort.grow Go.Sort.ahead
 simp only []
 rw [Array.getElem?_append_left (by simp; omega), Array.getElem?_modify, if_neg (by omega)]
theorem qyZ (E : List Ce) (base blk cap : Nat) (w : World) (hd : Dis E) (h : w.ownsRow base 132 2 (.slice (some ⟨blk, 0, none⟩) E.length cap) E.length (ces E)) (hl : E.length <= 1048576) :
  Calls Tryz.prog 188 #[.slice (some ⟨blk, 0, none⟩) E.length cap, .func (.func 189) #[] #[]] w fun e w' => e = .returned (.tuple #[]) /\ RdJ w' (some ⟨blk, 0, none⟩) (qaY E) /\ Below base w w' := by
 have hb := h.lt blk rfl
 have hH := qrT h rfl
 have eg : ∀ args w, (callFunc 189 args).run Tryz.prog w = .ok (.enter 189 args) w := enters_of Tryz.func189 (by kernel_rfl) rfl
 have hcon := AnyQ.slices_SortFunc zdK 2 Tryz.aggCell Tryz.sizeCell ceC (fun _ => rfl) (fun x v hv => by simp [ceC] at hv; rcases hv with rfl | rfl <;> rfl) cfC swoC 189 #[] blk 0 cap E.toArray w eg (zaL blk 0 _ w) hH hb.2 (by simp; omega)
 change Calls Tryz.prog 188 _ _ _ at hcon
 have es : E.toArray.size = E.length := by simp
 rw [es] at hcon
 refine hcon.mono ?_
 rintro e w' ⟨rfl, d', n, os, hp, hs, rfl⟩
 have hsz : d'.size = E.length := by rw [hp.1]; simp
 have hperm : d'.toList.Perm E := by
  have := hp.2.2
  rw [<- es] at this
  rw [show E.toArray.size = d'.size from hp.1.symm, Array.extract_size] at this
  rw [show d'.size = E.toArray.size from hp.1, Array.extract_size] at this
  simpa using this
 have hdis : Dis d'.toList := by
  unfold Dis at hd ⊢
  exact hd.perm hperm.symm (fun {x y} h e => h e.symm)
 have hasc : Asc d'.toList := by
  unfold Asc
  unfold Dis at hdis
  rw [List.pairwise_iff_getElem] at hdis ⊢
  intro i j hi hj hij
  have hi' : i < d'.size := by simpa using hi
  have hj' : j < d'.size := by simpa using hj
  have h1 := hs i j (Nat.zero_le _) hij (by omega)
  rw [qvC, getElem!_pos d' i hi', getElem!_pos d' j hj'] at h1
  have h2 := hdis i j hi hj hij
  simp only [Array.getElem_toList] at h2 ⊢
  cases e : kLt d'[i].key d'[j].key with
  | true => rfl
  | false => exact absurd (qhF e h1) h2
 have he : d' = (qaY E).toArray := by
  obtain ⟨h1, h2⟩ := qcI hd
  have := qyQ hasc h1 (hperm.trans h2.symm)
  rw [<- this]
 refine ⟨rfl, ?_, qqE hb.1 hb.2⟩
 have hH' := holdsK_sortWorldK_c ceC 2 w blk 0 E.toArray d' n os hH hb.2 hp.1
 rw [he] at hH' ⊢
 exact qsT hH' (Nat.lt_of_lt_of_le hb.2 (size_sortWorldK_c ceC 2 w blk 0 n _ os))
end Go.Proofs.YtigpjmmfelndkaaGreatDoor
namespace Go.Proofs.YtigpjmmfelndkaaGreatDoor
open Go.RowKit
set_option maxRecDepth 100000
set_option maxHeartbeats 4000000
theorem qfQ {es : List Ce} (hd : Dis es) : (qaY es).length = es.length := (qcI hd).2.length_eq
theorem qxQ {w : World} {base n : Nat} {e : TypeId} {v : Value} {xs : List Value} (h : w.ownsRow base e 2 v n xs) (hn : 0 < n) : ∃ g cap, v = .slice (some ⟨g, 0, none⟩) n cap /\ base <= g := by
 rcases h.2 with ⟨_, h0⟩ | ⟨g, cap, cur, hv, hb, _⟩
 ·omega
 ·exact ⟨g, cap, hv, hb⟩
theorem qvM (p : Option Addr) (cap : Nat) (w : World) : Calls Tryz.prog 188 #[.slice p 0 cap, .func (.func 189) #[] #[]] w fun e w' => e = .returned (.tuple #[]) /\ w' = w := by
 have hcon := AnyF.slices_SortFunc_none zdK p cap (.func (.func 189) #[] #[]) w
 change Calls Tryz.prog 188 _ _ _ at hcon
 exact hcon
def gath (l o : List Ce) : Nat -> List Ce
 | 0 => []
 | 1 => qaO l
 | _ => qdL l o
theorem qkB {B b g mv : Nat} {w : World} {l o : List Ce} (h : Brd B w b g l o mv) (hl : l.length <= 64) (hl' : o.length <= 64) (hd : Dis (qdL l o)) :
  Calls Tryz.prog 159 #[.pointer (some ⟨b, 0, none⟩)] w fun e w' => ∃ ao ca, e = .returned (.slice ao (qdL l o).length ca) /\ RdJ w' ao (qaY (qdL l o)) /\ Below w.heap.size w w' /\ (∀ bb of, ao = some ⟨bb, of, none⟩ -> 0 < (qdL l o).length -> w.heap.size <= bb) := by
 obtain ⟨i0, hi0, hz0, hz1, hz2⟩ := info_parts Tryz.infoCell
 have x0 : w.cell? ⟨b, 0, none⟩ = some (.slice (some ⟨g, 0, none⟩) l.length l.length) := h.hd.cell 0
 have x1 : w.cell? ⟨b, 1, none⟩ = _ := cRn (h.hd.cell 1) rfl
 have HJ := hI h.cells
 have HK := hI h.olds
 have HD := hI hd
 generalize qmY g l.length o.length = op at *
 clear h hd
 go_enter Tryz.func159, Tryz.ntmps159
 go_wp2
 go_region
 go_wp2
 have F1 : Hid (Blk (w.alloc (.cells #[.slice (some ⟨g, 0, none⟩) l.length l.length, .slice op o.length o.length] 27)).drew w.heap.size 27 [.slice (some ⟨g, 0, none⟩) l.length l.length, .slice op o.length o.length] /\ Below w.heap.size w (w.alloc (.cells #[.slice (some ⟨g, 0, none⟩) l.length l.length, .slice op o.length o.length] 27)).drew) := ⟨Blk.new w _ _, (bAl _ _).drew⟩
 generalize (w.alloc (.cells #[.slice (some ⟨g, 0, none⟩) l.length l.length, .slice op o.length o.length] 27)).drew = W at F1 ⊢
 have K1 := hI F1.out.1
 have B1 := hI F1.out.2
 clear F1 x0 x1
 have J1 := hI (HJ.out.later B1.out)
 have J2 := hI (HK.out.later B1.out)
 go_loopw [3, 18] (fun lv iv wr => ∃ (i : Nat) (E : List Ce) (lo : Option Addr) (lc : Nat), i <= 2 /\ iv = .int .i64 (i : Int) /\ lv = .slice lo E.length lc /\ Hid (E = gath l o i) /\ Hid (wr.ownsRow W.heap.size 132 2 (.slice lo E.length lc) E.length (ces E)) /\ Hid (Below W.heap.size W wr)) (fun _ iv _ => 2 - (intOf iv).toNat)
 case atStart => exact ⟨0, [], none, 0, by omega, rfl, rfl, rfl, World.ownsRow_nil _ _ _ _, Below.refl _ _⟩
 case round =>
  obtain ⟨i, E, lo, lc, hi, rfl, rfl, hE, hown, hbel⟩ := hrel
  by_cases h2 : i < 2
  ·by_cases h0 : i = 0
   ·have H0 := hI h0
    clear h0
    obtain rfl : E = [] := by rw [hE.out, H0.out]; rfl
    have EL := hI (show ([] : List Ce).length <= 64 by simp)
    have y : wr.cell? ⟨w.heap.size, i, none⟩ = some (.slice (some ⟨g, 0, none⟩) l.length l.length) := by rw [H0.out]; exact (K1.out.below hbel.out K1.out.lt).cell 0
    have k2 : (i : Int) < 2 := by omega
    have RJ := hI (J1.out)
    have HOW := hI hown.out
    clear hown
    go_wp2
    go_loopw [3, 24] (fun lv jv wq => ∃ (j : Nat) (lo : Option Addr) (lc : Nat), j <= l.length /\ jv = .int .i64 (j : Int) /\ lv = .slice lo (([] : List Ce) ++ qaO (l.take j)).length lc /\ Hid (wq.ownsRow W.heap.size 132 2 (.slice lo (([] : List Ce) ++ qaO (l.take j)).length lc) (([] : List Ce) ++ qaO (l.take j)).length (ces (([] : List Ce) ++ qaO (l.take j)))) /\ Hid (Below W.heap.size W wq)) (fun _ jv _ => l.length - (intOf jv).toNat)
    case atStart => exact ⟨0, lo, lc, by omega, rfl, by first | rfl | simp [qaO], by show World.ownsRow _ _ _ _ _ _ _; simpa [qaO] using HOW.out, hbel⟩
    case round =>
     obtain ⟨j, lo', lc', hj, rfl, rfl, hown, hbel'⟩ := hrel
     by_cases hlt : j < l.length
     ·have k1 : (j : Int) < (l.length : Int) := by omega
      obtain ⟨bb, of, hao, hb, h1⟩ := RJ.out j hlt
      obtain ⟨x0, x1⟩ := h1.below hbel'.out hb
      have hkt := hI (qgJ hlt)
      have hll : (([] : List Ce) ++ qaO (l.take j)).length <= 128 := by
       have := List.length_filter_le (fun x : Ce => !x.key.toList.isEmpty) (l.take j)
       have := List.length_take_le j l
       simp only [qaO, List.length_append]
       have := EL.out
       omega
      generalize l[j] = s at *
      obtain ⟨ky, hh⟩ := s
      simp only at x0 x1 hkt
      have BX : Hid (Below W.heap.size W (wr.alloc (.cells #[.string ky, .int .i64 hh] 132))) := hbel'.out.alloc hbel'.out.size _
      have OX := hI (hown.out.alloc (.cells #[.string ky, .int .i64 hh] 132))
      have NN : Hid ((wr.alloc (.cells #[.string ky, .int .i64 hh] 132)).cell? ⟨wr.heap.size, 0, none⟩ = some (.string ky) /\ (wr.alloc (.cells #[.string ky, .int .i64 hh] 132)).cell? ⟨wr.heap.size, 1, none⟩ = some (.int .i64 hh)) := ⟨World.cell?_alloc_at _ _ _ _ rfl, World.cell?_alloc_at _ _ _ _ rfl⟩
      rw [hao]
      clear h1 hao hown hbel'
      go_upto_region 8 with fail
      generalize (wr.alloc (.cells #[.string ky, .int .i64 hh] 132)) = wv at NN BX OX ⊢
      obtain ⟨n0, n1⟩ := NN.out
      clear NN x0 x1
      by_cases d1 : ky.toList = []
      ·have b1 : ky.toList.isEmpty = true := by rw [d1]; rfl
       have HE := hI (show ([] : List Ce) ++ qaO (l.take (j + 1)) = ([] : List Ce) ++ qaO (l.take j) by rw [hkt.out, if_pos b1, List.append_nil])
       clear hkt d1
       go_wp2
       go_roundw
       case rel => exact ⟨j + 1, lo', lc', by omega, by go_num, by rw [HE.out], by show World.ownsRow _ _ _ _ _ _ _; rw [HE.out]; exact OX.out, BX⟩
       case measure => simp [intOf]; omega
      ·have b1 : ky.toList.isEmpty = false := by cases h : ky.toList with | nil => exact absurd h d1 | cons a b => rfl
       have HE := hI (show ([] : List Ce) ++ qaO (l.take (j + 1)) = (([] : List Ce) ++ qaO (l.take j)) ++ [⟨ky, hh⟩] by rw [hkt.out, if_neg (by rw [b1]; simp), List.append_assoc])
       have hbs := BX.out.size
       generalize ([] : List Ce) ++ qaO (l.take j) = acc at *
       clear hkt d1
       go_wp2_with (at_builtin; (refine qfN rfl _ _ 27 rfl W.heap.size 132 i0 Tryz.underlying27 hi0 hz0 hz1 hz2 _ acc acc.length rfl OX.out ⟨ky, hh⟩ rfl (by omega) hbs ?_; intro v' w6 hown6 hb6))
       have O6 := hI hown6
       obtain ⟨lo2, lc2, rfl⟩ := qiN O6.out
       have B6 := hI (BX.out.trans hb6)
       have hla : (acc ++ [(⟨ky, hh⟩ : Ce)]).length = acc.length + 1 := by simp
       clear hown6 hb6
       go_wp2
       go_roundw
       case rel => exact ⟨j + 1, lo2, lc2, by omega, by go_num, by rw [HE.out, hla], by show World.ownsRow _ _ _ _ _ _ _; rw [HE.out, hla]; exact O6.out, B6⟩
       case measure => simp [intOf]; omega
     ·obtain rfl : j = l.length := by omega
      have HE := hI (show ([] : List Ce) ++ qaO (l.take l.length) = qaO l by rw [List.take_length, List.nil_append])
      have O7 := hI hown.out
      rw [HE.out] at O7
      rw [HE.out]
      clear hown HE
      go_wp2
      go_roundw
      case rel => exact ⟨i + 1, qaO l, lo', lc', by omega, by go_num, rfl, (by show _ = gath l o (i + 1); rw [H0.out]; rfl), O7, hbel'⟩
      case measure => simp [intOf]; omega
   ·have H0 := hI (show i = 1 by omega)
    clear h0
    have hE1 : E = qaO l := by rw [hE.out, H0.out]; rfl
    have EL := hI (show E.length <= 64 by rw [hE1]; have := List.length_filter_le (fun x : Ce => !x.key.toList.isEmpty) l; unfold qaO; omega)
    have y : wr.cell? ⟨w.heap.size, i, none⟩ = some (.slice op o.length o.length) := by rw [H0.out]; exact (K1.out.below hbel.out K1.out.lt).cell 1
    have k2 : (i : Int) < 2 := by omega
    have RJ := hI (J2.out)
    have HOW := hI hown.out
    clear hown
    go_wp2
    go_loopw [3, 24] (fun lv jv wq => ∃ (j : Nat) (lo : Option Addr) (lc : Nat), j <= o.length /\ jv = .int .i64 (j : Int) /\ lv = .slice lo (E ++ qaO (o.take j)).length lc /\ Hid (wq.ownsRow W.heap.size 132 2 (.slice lo (E ++ qaO (o.take j)).length lc) (E ++ qaO (o.take j)).length (ces (E ++ qaO (o.take j)))) /\ Hid (Below W.heap.size W wq)) (fun _ jv _ => o.length - (intOf jv).toNat)
    case atStart => exact ⟨0, lo, lc, by omega, rfl, by first | rfl | simp [qaO], by show World.ownsRow _ _ _ _ _ _ _; simpa [qaO] using HOW.out, hbel⟩
    case round =>
     obtain ⟨j, lo', lc', hj, rfl, rfl, hown, hbel'⟩ := hrel
     by_cases hlt : j < o.length
     ·have k1 : (j : Int) < (o.length : Int) := by omega
      obtain ⟨bb, of, hao, hb, h1⟩ := RJ.out j hlt
      obtain ⟨x0, x1⟩ := h1.below hbel'.out hb
      have hkt := hI (qgJ hlt)
      have hll : (E ++ qaO (o.take j)).length <= 128 := by
       have := List.length_filter_le (fun x : Ce => !x.key.toList.isEmpty) (o.take j)
       have := List.length_take_le j o
       simp only [qaO, List.length_append]
       have := EL.out
       omega
      generalize o[j] = s at *
      obtain ⟨ky, hh⟩ := s
      simp only at x0 x1 hkt
      have BX : Hid (Below W.heap.size W (wr.alloc (.cells #[.string ky, .int .i64 hh] 132))) := hbel'.out.alloc hbel'.out.size _
      have OX := hI (hown.out.alloc (.cells #[.string ky, .int .i64 hh] 132))
      have NN : Hid ((wr.alloc (.cells #[.string ky, .int .i64 hh] 132)).cell? ⟨wr.heap.size, 0, none⟩ = some (.string ky) /\ (wr.alloc (.cells #[.string ky, .int .i64 hh] 132)).cell? ⟨wr.heap.size, 1, none⟩ = some (.int .i64 hh)) := ⟨World.cell?_alloc_at _ _ _ _ rfl, World.cell?_alloc_at _ _ _ _ rfl⟩
      rw [hao]
      clear h1 hao hown hbel'
      go_upto_region 8 with fail
      generalize (wr.alloc (.cells #[.string ky, .int .i64 hh] 132)) = wv at NN BX OX ⊢
      obtain ⟨n0, n1⟩ := NN.out
      clear NN x0 x1
      by_cases d1 : ky.toList = []
      ·have b1 : ky.toList.isEmpty = true := by rw [d1]; rfl
       have HE := hI (show E ++ qaO (o.take (j + 1)) = E ++ qaO (o.take j) by rw [hkt.out, if_pos b1, List.append_nil])
       clear hkt d1
       go_wp2
       go_roundw
       case rel => exact ⟨j + 1, lo', lc', by omega, by go_num, by rw [HE.out], by show World.ownsRow _ _ _ _ _ _ _; rw [HE.out]; exact OX.out, BX⟩
       case measure => simp [intOf]; omega
      ·have b1 : ky.toList.isEmpty = false := by cases h : ky.toList with | nil => exact absurd h d1 | cons a b => rfl
       have HE := hI (show E ++ qaO (o.take (j + 1)) = (E ++ qaO (o.take j)) ++ [⟨ky, hh⟩] by rw [hkt.out, if_neg (by rw [b1]; simp), List.append_assoc])
       have hbs := BX.out.size
       generalize E ++ qaO (o.take j) = acc at *
       clear hkt d1
       go_wp2_with (at_builtin; (refine qfN rfl _ _ 27 rfl W.heap.size 132 i0 Tryz.underlying27 hi0 hz0 hz1 hz2 _ acc acc.length rfl OX.out ⟨ky, hh⟩ rfl (by omega) hbs ?_; intro v' w6 hown6 hb6))
       have O6 := hI hown6
       obtain ⟨lo2, lc2, rfl⟩ := qiN O6.out
       have B6 := hI (BX.out.trans hb6)
       have hla : (acc ++ [(⟨ky, hh⟩ : Ce)]).length = acc.length + 1 := by simp
       clear hown6 hb6
       go_wp2
       go_roundw
       case rel => exact ⟨j + 1, lo2, lc2, by omega, by go_num, by rw [HE.out, hla], by show World.ownsRow _ _ _ _ _ _ _; rw [HE.out, hla]; exact O6.out, B6⟩
       case measure => simp [intOf]; omega
     ·obtain rfl : j = o.length := by omega
      have HE := hI (show E ++ qaO (o.take o.length) = qdL l o by rw [List.take_length, hE1]; rfl)
      have O7 := hI hown.out
      rw [HE.out] at O7
      rw [HE.out]
      clear hown HE
      go_wp2
      go_roundw
      case rel => exact ⟨i + 1, qdL l o, lo', lc', by omega, by go_num, rfl, (by show _ = gath l o (i + 1); rw [H0.out]; rfl), O7, hbel'⟩
      case measure => simp [intOf]; omega
  ·obtain rfl : i = 2 := by omega
   have hE2 : E = qdL l o := hE.out
   subst hE2
   by_cases hz : (qdL l o).length = 0
   ·have hnil : qdL l o = [] := List.eq_nil_of_length_eq_zero hz
    have hsn : qaY (qdL l o) = [] := by rw [hnil]; rfl
    have HSN := hI hsn
    have CN := hI (fun lo lc => qvM lo lc wr)
    rw [hz]
    clear hown
    have B9 := hI (B1.out.trans (hbel.out.mono B1.out.size))
    have HZ := hI hz
    clear hz hsn hnil
    go_wp2_with fail
    refine (CN.out _ _).mono ?_
    rintro e w9 ⟨rfl, rfl⟩
    go_wp2
    go_ret
    exact ⟨lo, lc, by rw [HZ.out]; rfl, by rw [HSN.out]; intro i hi; simp at hi, B9.out, by rw [HZ.out]; intro _ _ _ h; omega⟩
   ·obtain ⟨gb, cap, hgv, hgb⟩ := qxQ hown.out (by omega)
    have HGB := hI hgb
    clear hgb
    injection hgv with e1 e2 e3
    subst e1 e3
    have CS := hI (qyZ (qdL l o) W.heap.size gb lc wr HD.out hown.out (by have := qgL (l := l) (o := o); omega))
    clear hown hz
    have B9 := hI (B1.out.trans (hbel.out.mono B1.out.size))
    go_wp2_with fail
    refine CS.out.mono ?_
    rintro e w9 ⟨rfl, hrd, hb9⟩
    have RD := hI hrd
    have BD := hI (B9.out.trans (hb9.mono B1.out.size))
    clear hrd hb9
    go_wp2
    go_ret
    exact ⟨_, _, rfl, RD.out, BD.out, fun bb of e _ => by injection e with e; injection e with e; rw [<- e]; exact Nat.le_trans B1.out.size HGB.out⟩
theorem qtM {B b g mv : Nat} {w : World} {l o : List Ce} (h : Brd B w b g l o mv) (hl : l.length <= 64) (hl' : o.length <= 64) (hd : Dis (qdL l o)) :
  Calls Tryz.prog 159 #[.pointer (some ⟨b, 0, none⟩)] w fun e w' => ∃ ao ca, e = .returned (.slice ao (qdL l o).length ca) /\ RdJ w' ao (qaY (qdL l o)) /\ Below w.heap.size w w' :=
 (qkB h hl hl' hd).mono (fun _ _ ⟨a, b, c, d, e, _⟩ => ⟨a, b, c, d, e⟩)
end Go.Proofs.YtigpjmmfelndkaaGreatDoor
