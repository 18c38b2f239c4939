/- Rings, by the model: whether a number is in a row. -/
import Derived.Test.YtpjgplohlchpoaaGreatDoorUAC
import Derived.Test.YtpjgplohlchpoaaGreatDoorUAB
namespace Go.Proofs.YtpjgplohlchpoaaGreatDoor
open Go.RowKit
set_option linter.unusedVariables false

set_option maxRecDepth 100000 in
set_option maxHeartbeats 1000000 in
theorem specIn_any (ao : Option Addr) (L : List Int) (ca : Nat) (x : Int) (w : World) (hl : L.length ≤ 1048576) (hA : RdZ w ao L) :
    Calls Tryz.prog 24 #[.slice ao L.length ca, .int .i64 x] w fun e w' => e = .returned (.bool (decide (x ∈ L))) ∧ w = w' := by
  have HA := hide1 hA
  clear hA
  go_enter Tryz.func24, Tryz.ntmps24
  go_wp2
  go_loop [5] (fun iv => ∃ i : Nat, i ≤ L.length ∧ iv = .int .i64 (i : Int) ∧ Hid (∀ j (hj : j < i) (hl : j < L.length), L[j] ≠ x)) (fun iv => L.length - (intOf iv).toNat)
  case atStart => exact ⟨0, by omega, rfl, fun j hj _ => by omega⟩
  case round =>
    obtain ⟨i, hi, rfl, hn⟩ := hrel
    by_cases hlt : i < L.length
    · have k1 : (i : Int) < (L.length : Int) := by omega
      obtain ⟨b, o, rfl, hb, x1⟩ := HA.out i hlt
      by_cases c : L[i] = x
      · have HM := hide1 (show decide (x ∈ L) = true from decide_eq_true (c ▸ List.getElem_mem hlt))
        obtain ⟨z, hz, y1⟩ : ∃ z, (z == x) = true ∧ w.cell? ⟨b, o + i, none⟩ = some (.int .i64 z) := ⟨_, by simpa using c, x1⟩
        clear x1 c
        go_wp2
        go_ret
        exact ⟨by rw [HM.out]; rfl, rfl⟩
      · have HC := hide1 c
        obtain ⟨z, hz, y1⟩ : ∃ z, (z == x) = false ∧ w.cell? ⟨b, o + i, none⟩ = some (.int .i64 z) := ⟨_, by simpa using c, x1⟩
        clear x1 c
        go_wp2
        go_round
        case rel =>
          refine ⟨i + 1, by omega, by go_num, fun j hj hjl => ?_⟩
          by_cases e : j < i
          · exact hn.out j e hjl
          · obtain rfl : j = i := by omega
            exact HC.out
        case measure => simp [intOf]; omega
    · have HM := hide1 (show decide (x ∈ L) = false from decide_eq_false (fun h => by
        obtain ⟨j, hj, e⟩ := List.getElem_of_mem h
        exact hn.out j (by omega) hj e))
      go_wp2
      go_ret
      exact ⟨by rw [HM.out]; rfl, rfl⟩
end Go.Proofs.YtpjgplohlchpoaaGreatDoor
namespace Go.Proofs.YtpjgplohlchpoaaGreatDoor
open Go.RowKit
set_option linter.unusedVariables false

/-- Values laid one behind another. -/
def setL (xs : List Value) (m : Nat) : List Value → List Value
  | [] => xs
  | v :: vs => setL (xs.set m v) (m + 1) vs
theorem setL_length : ∀ (vs xs : List Value) (m : Nat), (setL xs m vs).length = xs.length
  | [], _, _ => rfl
  | v :: vs, xs, m => by rw [setL, setL_length vs]; simp
theorem setL_eq : ∀ (vs xs : List Value) (m : Nat), m + vs.length ≤ xs.length → setL xs m vs = xs.take m ++ vs ++ xs.drop (m + vs.length)
  | [], xs, m, _ => by simp [setL]
  | v :: vs, xs, m, h => by
    have hl : m < xs.length := by simp at h; omega
    rw [setL, setL_eq vs _ _ (by simp at h ⊢; omega)]
    have e1 : (xs.set m v).take (m + 1) = xs.take m ++ [v] := by
      rw [List.take_succ_eq_append_getElem (by simpa using hl), List.getElem_set_self, List.take_set_of_le (Nat.le_refl _)]
    have e2 : (xs.set m v).drop (m + 1 + vs.length) = xs.drop (m + (v :: vs).length) := by
      rw [List.drop_set_of_lt (by omega), List.length_cons]
      congr 1
      omega
    rw [e1, e2]
    simp [List.append_assoc]
section
variable {α : Type} (enc : α → List Value) (k : Nat)
/-- The cells of a row. -/
def rowG (l : List α) : List Value := l.flatMap enc
variable (hk : ∀ x, (enc x).length = k)
include hk
theorem rowG_length (l : List α) : (rowG enc l).length = l.length * k := by
  induction l with
  | nil => simp [rowG]
  | cons s l ih => rw [rowG, List.flatMap_cons, List.length_append, hk, ← rowG, ih, List.length_cons, Nat.add_mul]; omega
theorem rowG_at : ∀ (l : List α) (i j : Nat) (hi : i < l.length), j < k → (rowG enc l)[i * k + j]? = (enc l[i])[j]?
  | s :: l, 0, j, _, hj => by
    rw [rowG, List.flatMap_cons, Nat.zero_mul, Nat.zero_add, List.getElem?_append_left (by rw [hk]; exact hj)]
    rfl
  | s :: l, i + 1, j, hi, hj => by
    have e : (i + 1) * k + j = k + (i * k + j) := by rw [Nat.add_mul]; omega
    rw [rowG, List.flatMap_cons, e, List.getElem?_append_right (by rw [hk]; omega), hk, Nat.add_sub_cancel_left, ← rowG, rowG_at l i j (by simpa using hi) hj]
    rfl
theorem rowG_set : ∀ (l : List α) (i : Nat) (s : α), i < l.length → rowG enc (l.set i s) = setL (rowG enc l) (i * k) (enc s)
  | t :: l, 0, s, _ => by
    rw [setL_eq _ _ _ (by rw [rowG_length enc k hk, hk, List.length_cons, Nat.add_mul]; omega), Nat.zero_mul, hk]
    simp only [List.set_cons_zero, rowG, List.flatMap_cons, List.take_zero, List.nil_append, Nat.zero_add]
    rw [List.drop_append_of_le_length (by rw [hk]; omega), List.drop_eq_nil_of_le (by rw [hk]; omega), List.nil_append]
  | t :: l, i + 1, s, hi => by
    have hi' : i < l.length := by simpa using hi
    have hb : (i + 1) * k ≤ l.length * k := Nat.mul_le_mul_right k hi'
    have e0 : (i + 1) * k = k + i * k := by rw [Nat.add_mul]; omega
    have ih := rowG_set l i s hi'
    rw [setL_eq _ _ _ (by rw [rowG_length enc k hk, hk]; omega), hk] at ih
    rw [setL_eq _ _ _ (by rw [rowG_length enc k hk, hk, List.length_cons, Nat.add_mul l.length]; omega), hk, List.set_cons_succ]
    have u : ∀ l : List α, rowG enc (t :: l) = enc t ++ rowG enc l := fun l => rfl
    have t1 : (enc t).take (k + i * k) = enc t := List.take_of_length_le (by rw [hk]; omega)
    have d1 : (enc t).drop (k + i * k + k) = [] := List.drop_eq_nil_of_le (by rw [hk]; omega)
    have k1 : k + i * k - k = i * k := by omega
    have k2 : k + i * k + k - k = i * k + k := by omega
    rw [u, u, ih, e0, List.take_append, List.drop_append, hk, t1, d1, k1, k2, List.nil_append]
    simp [List.append_assoc]
omit hk in
theorem fillG (l : List α) (z s : α) (i : Nat) (hi : i < l.length) (hs : l[i] = s) : (l.take i ++ List.replicate (l.length - i) z).set i s = l.take (i + 1) ++ List.replicate (l.length - (i + 1)) z := by
  have hl : (l.take i).length = i := by simp; omega
  rw [List.set_append_right _ _ (by omega), hl, Nat.sub_self, show l.length - i = (l.length - (i + 1)) + 1 by omega, List.replicate_succ, List.set_cons_zero, List.take_succ_eq_append_getElem hi, hs, List.append_assoc]
  rfl
/-- Cells stored one behind another. -/
def _root_.Go.Proofs.YtpjgplohlchpoaaGreatDoor.putG (w : World) (g m : Nat) : List Value → World
  | [] => w
  | v :: vs => putG (w.setCell ⟨g, m, none⟩ v) g (m + 1) vs
end
theorem own_putG : ∀ (vs : List Value) {w : World} {base n g cap size : Nat} {e : TypeId} {xs : List Value} (m : Nat), w.ownsRow base e size (.slice (some ⟨g, 0, none⟩) n cap) n xs → (putG w g m vs).ownsRow base e size (.slice (some ⟨g, 0, none⟩) n cap) n (setL xs m vs)
  | [], _, _, _, _, _, _, _, _, _, h => h
  | v :: vs, w, base, n, g, cap, size, e, xs, m, h => own_putG vs (m + 1) (World.ownsRow.stored h m v).1
theorem below_putG : ∀ (vs : List Value) {B g : Nat} {w w' : World} (m : Nat), Below B w w' → B ≤ g → Below B w (putG w' g m vs)
  | [], _, _, _, _, _, h, _ => h
  | v :: vs, B, g, w, w', m, h, hg => below_putG vs (m + 1) (h.setCell (p := ⟨g, m, none⟩) hg v) hg
section
variable {α : Type} (enc : α → List Value) (k : Nat)
/-- A row that reads as these elements, from any place on. -/
def RdG (w : World) (a : Option Addr) (l : List α) : Prop := ∀ i (h : i < l.length), ∃ b o, a = some ⟨b, o, none⟩ ∧ b < w.heap.size ∧ ∀ j, j < k → w.cell? ⟨b, o + i * k + j, none⟩ = (enc l[i])[j]?
variable {enc k}
theorem RdG.later {w w' : World} {a : Option Addr} {l : List α} (h : RdG enc k w a l) (hb : Below w.heap.size w w') : RdG enc k w' a l := by
  intro i hi
  obtain ⟨b, o, ha, hg, hc⟩ := h i hi
  exact ⟨b, o, ha, Nat.lt_of_lt_of_le hg hb.size, fun j hj => (hb.cell (p := ⟨b, o + i * k + j, none⟩) hg).trans (hc j hj)⟩
theorem RdG.below {w w' : World} {a : Option Addr} {l : List α} {B : Nat} (h : RdG enc k w a l) (hb : Below B w w') (hB : ∀ b f, a = some ⟨b, f, none⟩ → l ≠ [] → b < B) : RdG enc k w' a l := by
  intro i hi
  obtain ⟨b, o, ha, hg, hc⟩ := h i hi
  exact ⟨b, o, ha, Nat.lt_of_lt_of_le hg hb.size, fun j hj => (hb.cell (p := ⟨b, o + i * k + j, none⟩) (hB b o ha (fun e => by subst e; simp at hi))).trans (hc j hj)⟩
theorem RdG.nil (w : World) (a : Option Addr) : RdG enc k w a [] := fun i hi => by simp at hi
theorem rdG_of_own (hk : ∀ x, (enc x).length = k) {w : World} {base ca n : Nat} {e : TypeId} {ao : Option Addr} {l : List α} (h : w.ownsRow base e k (.slice ao n ca) n (rowG enc l)) (hn : l.length = n) : RdG enc k w ao l := by
  intro i hi
  rcases h.2 with ⟨hv, h0⟩ | ⟨g, cap, cur, hv, _, hh, _⟩
  · omega
  · injection hv with h1 h2 h3
    subst h1
    refine ⟨g, 0, rfl, (Array.getElem?_eq_some_iff.1 hh).1, fun j hj => ?_⟩
    have hb : i * k + j < l.length * k := by
      have := Nat.mul_le_mul_right k (Nat.succ_le_of_lt hi)
      rw [Nat.succ_mul] at this
      omega
    rw [Nat.zero_add, h.cellAt (i * k + j) (by rw [← hn]; exact hb)]
    exact rowG_at enc k hk l i j hi hj
end
end Go.Proofs.YtpjgplohlchpoaaGreatDoor
namespace Go.Proofs.YtpjgplohlchpoaaGreatDoor
open Go.RowKit
set_option linter.unusedVariables false

/-- What a type's elements are, for rows of them. -/
structure RowK (P : Program) (t e : TypeId) (k : Nat) : Prop where
  sl : P.underlying t = some (.slice e)
  inf : ∃ i z b, P.info? e = some i ∧ i.zero = some z ∧ i.size = k ∧ i.bytes = b ∧ z.cells.size = k ∧ b ≤ 256
  pos : 0 < k
structure EncK {α : Type} (enc : α → List Value) (k : Nat) : Prop where
  len : ∀ x, (enc x).length = k
  one : ∀ x, ∀ u ∈ enc x, u.oneCell' = true
theorem rowG_join {α : Type} (enc : α → List Value) (a b : List α) : rowG enc (a ++ b) = rowG enc a ++ rowG enc b := by simp [rowG]
theorem rowG_one {α : Type} {enc : α → List Value} {k : Nat} (E : EncK enc k) (l : List α) : ∀ u ∈ rowG enc l, u.oneCell' = true := by
  intro u hu
  obtain ⟨x, _, hx⟩ := List.mem_flatMap.1 hu
  exact E.one x u hx
section
variable {P : Program} {α : Type} {enc : α → List Value} {k : Nat} {t e : TypeId}
theorem appG_run (E : EncK enc k) (R : RowK P t e k) (w : World) (ty : TypeId) (base : Nat) (v : Value) (n : Nat) (l1 : List α) (hown : w.ownsRow base e k v n (rowG enc l1)) (ao : Option Addr) (m c : Nat) (l2 : List α) (hm : l2.length = m) (hA : RdG enc k w ao l2) (hlen : n + m ≤ 1048576) (hbase : base ≤ w.heap.size) :
    ∃ v' w', (Builtin.append_ #[t, t] ty #[v, .slice ao m c]).run P w = .ok v' w' ∧ w'.ownsRow base e k v' (n + m) (rowG enc (l1 ++ l2)) ∧ w.grownBy w' v.ownBlock := by
  obtain ⟨i0, z, b, hi, hz0, hz1, hz2, hz3, hb⟩ := R.inf
  by_cases h0 : m = 0
  · subst h0
    have e0 : l2 = [] := List.eq_nil_of_length_eq_zero hm
    subst e0
    refine ⟨v, w, ?_, by simpa using hown, gnew (Below.refl _ _)⟩
    rcases hown.2 with ⟨rfl, rfl⟩ | ⟨g, cap, cur, rfl, _, _, hnc, _⟩
    · cases ao <;> simp [Builtin.append_, run_underlying R.sl, sizeOf, typeInfo, hi, Builtin.lenOf, Builtin.firstCells, loadCells, loadCellsFrom]
    · cases ao <;> simp [Builtin.append_, run_underlying R.sl, sizeOf, typeInfo, hi, Builtin.lenOf, Builtin.firstCells, loadCells, loadCellsFrom, hnc, storeCells]
  · obtain ⟨g, o, rfl, hg, _⟩ := hA 0 (by omega)
    have hl : (rowG enc l2).length = m * k := by rw [rowG_length enc k E.len, hm]
    have hAt : ∀ j v, (rowG enc l2)[j]? = some v → w.cell? ((⟨g, o, none⟩ : Addr).add j) = some v := fun j v hj => by
      have hj' : j < m * k := by have := (List.getElem?_eq_some_iff.1 hj).1; omega
      have hk0 := R.pos
      have hd : j / k < l2.length := by rw [hm]; exact Nat.div_lt_of_lt_mul (by rw [Nat.mul_comm]; exact hj')
      have hr : j % k < k := Nat.mod_lt _ hk0
      have hjk : j = j / k * k + j % k := by rw [Nat.mul_comm]; exact (Nat.div_add_mod j k).symm
      obtain ⟨b', o', e', _, h⟩ := hA (j / k) hd
      simp only [Option.some.injEq, Addr.mk.injEq, and_true] at e'
      obtain ⟨rfl, rfl⟩ := e'
      have h1 := h (j % k) hr
      have h2 := rowG_at enc k E.len l2 (j / k) (j % k) hd hr
      rw [← hjk] at h2
      rw [Addr.add_lit, show o + j = o + j / k * k + j % k by omega, h1, ← h2]
      exact hj
    have hbl : (n + m) * b ≤ (n + m) * 256 := Nat.mul_le_mul_left _ hb
    obtain ⟨v', w', h1, h2, h3, _⟩ := run_append_own (P := P) w base t ty e i0 z k b R.sl hi hz0 hz1 hz2 hz3 R.pos v n (rowG enc l1) hown ⟨g, o, none⟩ m c (rowG enc l2) hl hAt (rowG_one E l2) (by unfold maxLen; omega) (by omega) hbase
    exact ⟨v', w', h1, by rw [rowG_join]; exact h2, h3⟩
theorem wpList_appG {ops : Array Oper} {rest : List Oper} {o : Oper} {a : Act} {w : World} {Q : Exit → Act → World → Prop} (E : EncK enc k) (R : RowK P t e k) (hgd : o.guard = none) (s x : Operand)
    (ho : o.op = .call { callee := .builtin .append, args := #[s, x], argTypes := #[t, t] }) (base : Nat) (v : Value) (n : Nat) (l1 : List α) (hs : a.eval s = v) (hown : w.ownsRow base e k v n (rowG enc l1)) (ao : Option Addr) (m c : Nat) (l2 : List α) (hx : a.eval x = .slice ao m c) (hm : l2.length = m) (hA : RdG enc k w ao l2) (hlen : n + m ≤ 1048576) (hbase : base ≤ w.heap.size)
    (h : ∀ v' w', w'.ownsRow base e k v' (n + m) (rowG enc (l1 ++ l2)) → w.grownBy w' v.ownBlock → wpList P ops Q rest (a.put o.dst v') w') : wpList P ops Q (o :: rest) a w := by
  refine wpList_plain hgd fun K hK => ?_
  obtain ⟨v', w', hrun, h1, h2⟩ := appG_run E R w o.type base v n l1 hown ao m c l2 hm hA hlen hbase
  unfold Oper.wp
  simp only [execOp, ho, resolve, invoke, builtin, Sem.run_bind, Sem.run_pure, Result.andThen_ok, List.map_toArray, List.map_cons, List.map_nil, hs, hx, hrun]
  exact hK _ _ (h v' w' h1 h2)
theorem step_appG {ops : Array Oper} {o : Oper} {a : Act} {w : World} {K : Act → World → Prop} {Q : Exit → Act → World → Prop} {D : Prop} (E : EncK enc k) (R : RowK P t e k) (hgd : o.guard = none) (s x : Operand)
    (ho : o.op = .call { callee := .builtin .append, args := #[s, x], argTypes := #[t, t] }) (base : Nat) (v : Value) (n : Nat) (l1 : List α) (hs : a.eval s = v) (hown : w.ownsRow base e k v n (rowG enc l1)) (ao : Option Addr) (m c : Nat) (l2 : List α) (hx : a.eval x = .slice ao m c) (hm : l2.length = m) (hA : RdG enc k w ao l2) (hlen : n + m ≤ 1048576) (hbase : base ≤ w.heap.size)
    (h : ∀ v' w', w'.ownsRow base e k v' (n + m) (rowG enc (l1 ++ l2)) → w.grownBy w' v.ownBlock → K (a.put o.dst v') w') :
    if Region.wanted o (yielded ops a.tmps) = true then Oper.wp P o a w K Q else D := by
  have hw : Region.wanted o (yielded ops a.tmps) = true := by simp [Region.wanted, hgd]
  rw [if_pos hw]
  obtain ⟨v', w', hrun, h1, h2⟩ := appG_run E R w o.type base v n l1 hown ao m c l2 hm hA hlen hbase
  unfold Oper.wp
  simp only [execOp, ho, resolve, invoke, builtin, Sem.run_bind, Sem.run_pure, Result.andThen_ok, List.map_toArray, List.map_cons, List.map_nil, hs, hx, hrun]
  exact h v' w' h1 h2
end
end Go.Proofs.YtpjgplohlchpoaaGreatDoor
namespace Go.Proofs.YtpjgplohlchpoaaGreatDoor
open Go.RowKit
set_option linter.unusedVariables false

/-- Blocks that were made, wherever the order is drawn. -/
theorem blkE1 (u : World) (t : TypeId) {cs : Array Value} : Blk (u.alloc (.cells cs t)).drew u.heap.size t cs.toList := Blk.new u t cs
theorem blkE2 (u : World) (t : TypeId) (o : Obj) {cs : Array Value} : Blk ((u.alloc (.cells cs t)).alloc o).drew u.heap.size t cs.toList := Blk.more (Blk.new u t cs) o
theorem blkE3 (u : World) (t : TypeId) (o : Obj) {cs : Array Value} : Blk ((u.alloc o).alloc (.cells cs t)).drew (u.heap.size + 1) t cs.toList := by
  have := Blk.new (u.alloc o) t cs
  rw [World.size_alloc] at this
  exact this
theorem zM1 {u w7 : World} {c d : Array Value} {t s : TypeId} (hb : ((u.alloc (.cells c t)).alloc (.cells d s)).grownBy w7 (some u.heap.size)) : Blk w7 (u.heap.size + 1) s d.toList := gblk hb (blkN2 u c d t s).2.1 (by intro e; injection e; omega)
theorem zM2 {u w7 : World} {c d : Array Value} {t s : TypeId} (hb : ((u.alloc (.cells c t)).alloc (.cells d s)).grownBy w7 (some (u.heap.size + 1))) : Blk w7 u.heap.size t c.toList := gblk hb (blkN2 u c d t s).1 (by intro e; injection e; omega)
theorem zM1D {u w7 : World} {c d : Array Value} {t s : TypeId} (hb : ((u.alloc (.cells c t)).alloc (.cells d s)).drew.grownBy w7 (some u.heap.size)) : Blk w7 (u.heap.size + 1) s d.toList := gblk (w := ((u.alloc (.cells c t)).alloc (.cells d s)).drew) hb (blkN2 u c d t s).2.1 (by intro e; injection e; omega)
theorem zM2D {u w7 : World} {c d : Array Value} {t s : TypeId} (hb : ((u.alloc (.cells c t)).alloc (.cells d s)).drew.grownBy w7 (some (u.heap.size + 1))) : Blk w7 u.heap.size t c.toList := gblk (w := ((u.alloc (.cells c t)).alloc (.cells d s)).drew) hb (blkN2 u c d t s).1 (by intro e; injection e; omega)
section
variable {P : Program} {α : Type} {enc : α → List Value} {k : Nat} {t e : TypeId}
theorem own_none {w : World} {base g : Nat} (hE : Blk w g e []) (hg : base ≤ g) : w.ownsRow base e k (.slice (some ⟨g, 0, none⟩) 0 0) 0 (rowG enc ([] : List α)) :=
  ⟨by simp [rowG], .inr ⟨g, 0, #[], rfl, hg, hE, Nat.le_refl _, Nat.zero_le _, by simp, by simp [rowG]⟩⟩
theorem own_len {w : World} {base n : Nat} {v : Value} {l : List α} (E : EncK enc k) (hk : 0 < k) (h : w.ownsRow base e k v n (rowG enc l)) : l.length = n := by
  have := h.1
  rw [rowG_length enc k E.len] at this
  exact Nat.eq_of_mul_eq_mul_right hk this
theorem rd_one {w : World} {q : Nat} {y : α} (E : EncK enc k) (hM : Blk w q e (enc y)) : RdG enc k w (some ⟨q, 0, none⟩) [y] := by
  intro i hi
  have hi : i = 0 := by simp at hi; omega
  subst hi
  refine ⟨q, 0, rfl, hM.lt, fun j hj => ?_⟩
  rw [Nat.zero_mul, Nat.zero_add, hM.cell j]
  rfl
theorem form_of {w : World} {base n : Nat} {v : Value} {xs : List Value} (h : w.ownsRow base e k v n xs) : ∃ a ca, v = .slice a n ca := by
  rcases h.2 with ⟨rfl, h0⟩ | ⟨g, cap, cur, rfl, _⟩
  · exact ⟨none, 0, by rw [h0]⟩
  · exact ⟨_, _, rfl⟩
theorem step_copyG {ops : Array Oper} {o : Oper} {a : Act} {w : World} {K : Act → World → Prop} {Q : Exit → Act → World → Prop} {D : Prop} (E : EncK enc k) (R : RowK P t e k) (hgd : o.guard = none) (s x : Operand)
    (ho : o.op = .call { callee := .builtin .append, args := #[s, x], argTypes := #[t, t] }) (base g : Nat) (hs : a.eval s = .slice (some ⟨g, 0, none⟩) 0 0) (hE : Blk w g e []) (hg : base ≤ g) (ao : Option Addr) (m c : Nat) (l2 : List α) (hx : a.eval x = .slice ao m c) (hm : l2.length = m) (hA : RdG enc k w ao l2) (hlen : m ≤ 1048576)
    (h : ∀ b' c' w', w'.ownsRow base e k (.slice b' m c') m (rowG enc l2) → Below base w w' → w.grownBy w' (some g) → K (a.put o.dst (.slice b' m c')) w') :
    if Region.wanted o (yielded ops a.tmps) = true then Oper.wp P o a w K Q else D := by
  have hb : base ≤ w.heap.size := Nat.le_trans hg (Nat.le_of_lt hE.lt)
  refine step_appG E R hgd s x ho base _ 0 [] hs (own_none hE hg) ao m c l2 hx hm hA (by omega) hb ?_
  intro v' w' h1 h2
  rw [Nat.zero_add, List.nil_append] at h1
  obtain ⟨b', c', rfl⟩ := form_of h1
  exact h b' c' w' h1 (gbelow h2 (fun q hq => by
    have : (some g : Option Nat) = some q := hq
    injection this with this
    omega) hb) h2
theorem step_pushG {ops : Array Oper} {o : Oper} {a : Act} {w : World} {K : Act → World → Prop} {Q : Exit → Act → World → Prop} {D : Prop} (E : EncK enc k) (R : RowK P t e k) (hgd : o.guard = none) (s x : Operand)
    (ho : o.op = .call { callee := .builtin .append, args := #[s, x], argTypes := #[t, t] }) (base : Nat) (b : Option Addr) (n c : Nat) (l1 : List α) (hs : a.eval s = .slice b n c) (hown : w.ownsRow base e k (.slice b n c) n (rowG enc l1)) (q : Nat) (y : α) (hx : a.eval x = .slice (some ⟨q, 0, none⟩) 1 1) (hM : Blk w q e (enc y)) (hlen : n ≤ 1000000) (hbase : base ≤ w.heap.size)
    (h : ∀ b' c' w', w'.ownsRow base e k (.slice b' (n + 1) c') (n + 1) (rowG enc (l1 ++ [y])) → Below base w w' → K (a.put o.dst (.slice b' (n + 1) c')) w') :
    if Region.wanted o (yielded ops a.tmps) = true then Oper.wp P o a w K Q else D := by
  refine step_appG E R hgd s x ho base _ n l1 hs hown (some ⟨q, 0, none⟩) 1 1 [y] hx rfl (rd_one E hM) (by omega) hbase ?_
  intro v' w' h1 h2
  obtain ⟨b', c', rfl⟩ := form_of h1
  exact h b' c' w' h1 (gbelow h2 (fun g hg => (hown.lt g hg).1) hbase)
theorem wpList_copyG {ops : Array Oper} {rest : List Oper} {o : Oper} {a : Act} {w : World} {Q : Exit → Act → World → Prop} (E : EncK enc k) (R : RowK P t e k) (hgd : o.guard = none) (s x : Operand)
    (ho : o.op = .call { callee := .builtin .append, args := #[s, x], argTypes := #[t, t] }) (base g : Nat) (hs : a.eval s = .slice (some ⟨g, 0, none⟩) 0 0) (hE : Blk w g e []) (hg : base ≤ g) (ao : Option Addr) (m c : Nat) (l2 : List α) (hx : a.eval x = .slice ao m c) (hm : l2.length = m) (hA : RdG enc k w ao l2) (hlen : m ≤ 1048576)
    (h : ∀ b' c' w', w'.ownsRow base e k (.slice b' m c') m (rowG enc l2) → Below base w w' → w.grownBy w' (some g) → wpList P ops Q rest (a.put o.dst (.slice b' m c')) w') : wpList P ops Q (o :: rest) a w := by
  have hb : base ≤ w.heap.size := Nat.le_trans hg (Nat.le_of_lt hE.lt)
  refine wpList_appG E R hgd s x ho base _ 0 [] hs (own_none hE hg) ao m c l2 hx hm hA (by omega) hb ?_
  intro v' w' h1 h2
  rw [Nat.zero_add, List.nil_append] at h1
  obtain ⟨b', c', rfl⟩ := form_of h1
  exact h b' c' w' h1 (gbelow h2 (fun q hq => by
    have : (some g : Option Nat) = some q := hq
    injection this with this
    omega) hb) h2
theorem wpList_push1G {ops : Array Oper} {rest : List Oper} {o : Oper} {a : Act} {w : World} {Q : Exit → Act → World → Prop} (E : EncK enc k) (R : RowK P t e k) (hgd : o.guard = none) (s x : Operand)
    (ho : o.op = .call { callee := .builtin .append, args := #[s, x], argTypes := #[t, t] }) (base : Nat) (b : Option Addr) (n c : Nat) (l1 : List α) (hs : a.eval s = .slice b n c) (hown : w.ownsRow base e k (.slice b n c) n (rowG enc l1)) (q : Nat) (y : α) (hx : a.eval x = .slice (some ⟨q, 0, none⟩) 1 1) (hM : Blk w q e (enc y)) (hlen : n ≤ 1000000) (hbase : base ≤ w.heap.size)
    (h : ∀ b' c' w', w'.ownsRow base e k (.slice b' (n + 1) c') (n + 1) (rowG enc (l1 ++ [y])) → Below base w w' → wpList P ops Q rest (a.put o.dst (.slice b' (n + 1) c')) w') : wpList P ops Q (o :: rest) a w := by
  refine wpList_appG E R hgd s x ho base _ n l1 hs hown (some ⟨q, 0, none⟩) 1 1 [y] hx rfl (rd_one E hM) (by omega) hbase ?_
  intro v' w' h1 h2
  obtain ⟨b', c', rfl⟩ := form_of h1
  exact h b' c' w' h1 (gbelow h2 (fun g hg => (hown.lt g hg).1) hbase)
end
end Go.Proofs.YtpjgplohlchpoaaGreatDoor
