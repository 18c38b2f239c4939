/- Items, plain: where an item is put, found by going along. -/
import Derived.Test.YtelmchifpgaibaaDoorSAI
import Derived.Test.YtelmchifpgaibaaDoorSAH
import Derived.ArgAppend
import Derived.Test.YtelmchifpgaibaaDoorSAQ
import Derived.Test.YtelmchifpgaibaaDoorSAM
import Derived.Deep.DeepCutAuto
namespace Go.Proofs.YtelmchifpgaibaaDoor
open Go.RowKit
set_option linter.unusedVariables false

/-- All ahead of i have lesser keys. -/
def lessTo (l : List Im) (k : ByteArray) (i : Nat) : Prop := ∀ j (h : j < l.length), j < i → tLt l[j].k k = true
theorem lessTo_next {l : List Im} {k : ByteArray} {i : Nat} (h : lessTo l k i) (hi : i < l.length) (h2 : tLt l[i].k k = true) : lessTo l k (i + 1) := fun j hj hlt => by
  by_cases c : j < i
  · exact h j hj c
  · have : j = i := by omega
    subst this
    exact h2
theorem asc_lt {l : List Im} (ha : ascI l) {i j : Nat} (hi : i < l.length) (hj : j < l.length) (h : i < j) : tLt l[i].k l[j].k = true := by
  unfold ascI at ha
  rw [List.pairwise_iff_getElem] at ha
  exact ha i j hi hj h
theorem fil_take {l : List Im} {p : Im → Bool} {i : Nat} (h : ∀ j (hj : j < l.length), j < i → p l[j] = true) : (l.take i).filter p = l.take i := List.filter_eq_self.2 (fun y hy => by
  obtain ⟨j, hj, rfl⟩ := List.getElem_of_mem hy
  rw [List.length_take] at hj
  rw [List.getElem_take]
  exact h j (by omega) (by omega))
theorem fil_takeN {l : List Im} {p : Im → Bool} {i : Nat} (h : ∀ j (hj : j < l.length), j < i → p l[j] = false) : (l.take i).filter p = [] := List.filter_eq_nil_iff.2 (fun y hy => by
  obtain ⟨j, hj, rfl⟩ := List.getElem_of_mem hy
  rw [List.length_take] at hj
  rw [List.getElem_take, h j (by omega) (by omega)]
  simp)
theorem fil_drop {l : List Im} {p : Im → Bool} {i : Nat} (h : ∀ j (hj : j < l.length), i ≤ j → p l[j] = true) : (l.drop i).filter p = l.drop i := List.filter_eq_self.2 (fun y hy => by
  obtain ⟨j, hj, rfl⟩ := List.getElem_of_mem hy
  rw [List.length_drop] at hj
  rw [List.getElem_drop]
  exact h (i + j) (by omega) (by omega))
theorem fil_dropN {l : List Im} {p : Im → Bool} {i : Nat} (h : ∀ j (hj : j < l.length), i ≤ j → p l[j] = false) : (l.drop i).filter p = [] := List.filter_eq_nil_iff.2 (fun y hy => by
  obtain ⟨j, hj, rfl⟩ := List.getElem_of_mem hy
  rw [List.length_drop] at hj
  rw [List.getElem_drop, h (i + j) (by omega) (by omega)]
  simp)
theorem fil_part {l : List Im} (p : Im → Bool) (i : Nat) : l.filter p = (l.take i).filter p ++ (l.drop i).filter p := by
  rw [← List.filter_append, List.take_append_drop]
/-- A key that is not there: it goes ahead of the first one that is greater. -/
theorem ins_new {l : List Im} {x : Im} {i : Nat} (ha : ascI l) (hi : i ≤ l.length) (h1 : lessTo l x.k i) (h2 : ∀ (h : i < l.length), tLt x.k l[i].k = true) : insI l x = l.take i ++ x :: l.drop i ∧ newI l x = false := by
  have hg : ∀ j (hj : j < l.length), i ≤ j → tLt x.k l[j].k = true := fun j hj hij => by
    by_cases c : i = j
    · subst c; exact h2 hj
    · exact tLt_trans (h2 (by omega)) (asc_lt ha (by omega) hj (by omega))
  constructor
  · unfold insI
    rw [fil_part (fun y => tLt y.k x.k) i, fil_part (fun y => tLt x.k y.k) i, fil_take (fun j hj hji => h1 j hj hji), fil_dropN (fun j hj hij => tLt_asym (hg j hj hij)), fil_takeN (fun j hj hji => tLt_asym (h1 j hj hji)), fil_drop hg, List.append_nil, List.nil_append]
  · refine oldTo_all (fun j hj _ => fun e => ?_)
    by_cases c : j < i
    · exact tLt_ne (h1 j hj c) e.1
    · exact tLt_ne (hg j hj (by omega)) e.1.symm
/-- A key that is there: its item is the new one. -/
theorem ins_old {l : List Im} {x : Im} {i : Nat} (ha : ascI l) (hi : i < l.length) (h1 : lessTo l x.k i) (h2 : l[i].k = x.k) : insI l x = l.set i x ∧ newI l x = decide (x.n ≤ l[i].n) := by
  have hg : ∀ j (hj : j < l.length), i + 1 ≤ j → tLt x.k l[j].k = true := fun j hj hij => by
    rw [← h2]; exact asc_lt ha hi hj (by omega)
  constructor
  · unfold insI
    have e1 : (l.drop i).filter (fun y => tLt y.k x.k) = [] := fil_dropN (fun j hj hij => by
      by_cases c : i = j
      · subst c; show tLt l[i].k x.k = false; rw [h2]; exact tLt_irr _
      · exact tLt_asym (hg j hj (by omega)))
    have e2 : (l.take (i + 1)).filter (fun y => tLt x.k y.k) = [] := fil_takeN (fun j hj hji => by
      by_cases c : i = j
      · subst c; show tLt x.k l[i].k = false; rw [h2]; exact tLt_irr _
      · exact tLt_asym (h1 j hj (by omega)))
    rw [fil_part (fun y => tLt y.k x.k) i, fil_part (fun y => tLt x.k y.k) (i + 1), fil_take (fun j hj hji => h1 j hj hji), e1, e2, fil_drop hg, List.append_nil, List.nil_append, List.set_eq_take_append_cons_drop, if_pos hi]
  · by_cases c : x.n ≤ l[i].n
    · rw [decide_eq_true c]
      exact newI_at hi ⟨h2, c⟩
    · rw [decide_eq_false c]
      refine oldTo_all (fun j hj _ => fun e => ?_)
      by_cases d : j = i
      · subst d; exact c e.2
      · by_cases d2 : j < i
        · exact tLt_ne (h1 j hj d2) e.1
        · exact tLt_ne (hg j hj (by omega)) e.1.symm
end Go.Proofs.YtelmchifpgaibaaDoor
namespace Go.Proofs.YtelmchifpgaibaaDoor
open Go.RowKit
set_option linter.unusedVariables false

theorem setCells_putC (g : Nat) : ∀ (vs : List Value) (w : World) (m : Nat), w.setCells g m vs = putG w g m vs
  | [], _, _ => rfl
  | v :: vs, w, m => setCells_putC g vs (w.setCell ⟨g, m, none⟩ v) (m + 1)
theorem putC_grown : ∀ (vs : List Value) (w : World) (g m : Nat), w.grownBy (putG w g m vs) (some g)
  | [], w, g, m => World.grownBy.refl _ _
  | v :: vs, w, g, m => (gset (World.grownBy.refl w (some g)) m v).trans (putC_grown vs _ g (m + 1))
section
variable {P : Program} {α : Type} {enc : α → List Value} {k : Nat} {t e : TypeId}
theorem rdG_cells (E : EncK enc k) (hk0 : 0 < k) {w : World} {g o : Nat} {l : List α} (hA : RdG enc k w (some ⟨g, o, none⟩) l) (j : Nat) (v : Value) (hj : (rowG enc l)[j]? = some v) : w.cell? ((⟨g, o, none⟩ : Addr).add j) = some v := by
  have hj' : j < l.length * k := by have := (List.getElem?_eq_some_iff.1 hj).1; rw [rowG_length enc k E.len] at this; omega
  have hd : j / k < l.length := Nat.div_lt_of_lt_mul (by rw [Nat.mul_comm]; exact hj')
  have hr : j % k < k := Nat.mod_lt _ hk0
  have hjk : j = j / k * k + j % k := by rw [Nat.mul_comm]; exact (Nat.div_add_mod j k).symm
  obtain ⟨b', o', e', _, h⟩ := hA (j / k) hd
  simp only [Option.some.injEq, Addr.mk.injEq, and_true] at e'
  obtain ⟨rfl, rfl⟩ := e'
  have h1 := h (j % k) hr
  have h2 := rowG_at enc k E.len l (j / k) (j % k) hd hr
  rw [← hjk] at h2
  rw [Addr.add_lit, show o + j = o + j / k * k + j % k by omega, h1, ← h2]
  exact hj
theorem copyK_run (E : EncK enc k) (R : RowK P t e k) (w : World) (ty : TypeId) (base n g cap off dl dc : Nat) (xs : List Value) (hown : w.ownsRow base e k (.slice (some ⟨g, 0, none⟩) n cap) n xs) (l : List α) (m : Nat) (hm : l.length = m) (ao : Option Addr) (sc : Nat) (hA : RdG enc k w ao l) (hd : m ≤ dl) (hoff : off + m ≤ n) (dp : Option Addr) (hdp : m ≠ 0 → dp = some ⟨g, off * k, none⟩) :
    (Builtin.copy_ #[t, t] ty #[.slice dp dl dc, .slice ao m sc]).run P w = .ok (.int .i64 (m : Int)) (putG w g (off * k) (rowG enc l)) := by
  obtain ⟨i0, z, b, hi, hz0, hz1, hz2, hz3, hb⟩ := R.inf
  have hmin : Nat.min m dl = m := Nat.min_eq_left hd
  have hl : (rowG enc l).length = m * k := by rw [rowG_length enc k E.len, hm]
  by_cases h0 : m = 0
  · subst h0
    have e0 : l = [] := List.eq_nil_of_length_eq_zero hm
    subst e0
    have hll := fun a => run_loadCells_list (P := P) w a [] (fun j v h => by cases h)
    simp only [List.length_nil] at hll
    cases dp <;> cases ao <;> simp [Builtin.copy_, run_underlying R.sl, Builtin.lenOf, Builtin.firstCells, sizeOf, typeInfo, hi, hll, storeCells, rowG, putG, goInt]
  · rw [hdp h0]
    obtain ⟨b', o, rfl, hbb, _⟩ := hA 0 (by omega)
    have hll := run_loadCells_list (P := P) w ⟨b', o, none⟩ (rowG enc l) (rdG_cells E R.pos hA)
    have hmk : off * k + m * k ≤ n * k := by rw [← Nat.add_mul]; exact Nat.mul_le_mul_right _ hoff
    have hst := run_storeCells_cells (P := P) g (off * k) (rowG enc l) 0 w (fun j hj => by
      obtain ⟨u, hu⟩ := own_some hown (off * k + j) (by omega)
      rw [Nat.add_zero, hu]; rfl) (fun j hj => hown.frozenAt _) (rowG_one E l)
    simp only [Nat.add_zero] at hst
    rw [hl] at hll
    rw [← setCells_putC]
    have hq : i0.size = k := hz1
    simp [Builtin.copy_, run_underlying R.sl, Builtin.lenOf, Builtin.firstCells, sizeOf, typeInfo, hi, hq, hmin, hll, hst, goInt]
theorem wpList_copyK {ops : Array Oper} {rest : List Oper} {o : Oper} {a : Act} {w : World} {Q : Exit → Act → World → Prop} (E : EncK enc k) (R : RowK P t e k) (hgd : o.guard = none) (d s : Operand)
    (ho : o.op = .call { callee := .builtin .copy, args := #[d, s], argTypes := #[t, t] }) (base n g cap off dl dc : Nat) (xs : List Value) (hown : w.ownsRow base e k (.slice (some ⟨g, 0, none⟩) n cap) n xs) (l : List α) (m : Nat) (hm : l.length = m) (ao : Option Addr) (sc : Nat) (hA : RdG enc k w ao l) (hd : m ≤ dl) (hoff : off + m ≤ n) (dp : Option Addr) (hdp : m ≠ 0 → dp = some ⟨g, off * k, none⟩)
    (e1 : a.eval d = .slice dp dl dc) (e2 : a.eval s = .slice ao m sc)
    (h : (putG w g (off * k) (rowG enc l)).ownsRow base e k (.slice (some ⟨g, 0, none⟩) n cap) n (setL xs (off * k) (rowG enc l)) → w.grownBy (putG w g (off * k) (rowG enc l)) (some g) → wpList P ops Q rest (a.put o.dst (.int .i64 (m : Int))) (putG w g (off * k) (rowG enc l))) : wpList P ops Q (o :: rest) a w := by
  refine wpList_plain hgd fun K hK => ?_
  have hrun := copyK_run E R w o.type base n g cap off dl dc xs hown l m hm ao sc hA hd hoff dp hdp
  unfold Oper.wp
  simp only [execOp, ho, resolve, invoke, builtin, Sem.run_bind, Sem.run_pure, Result.andThen_ok, List.map_toArray, List.map_cons, List.map_nil, e1, e2, hrun]
  exact hK _ _ (h (own_putG _ _ hown) (putC_grown _ _ _ _))
theorem step_copyK {ops : Array Oper} {o : Oper} {a : Act} {w : World} {K : Act → World → Prop} {Q : Exit → Act → World → Prop} {D : Prop} (E : EncK enc k) (R : RowK P t e k) (hgd : o.guard = none) (d s : Operand)
    (ho : o.op = .call { callee := .builtin .copy, args := #[d, s], argTypes := #[t, t] }) (base n g cap off dl dc : Nat) (xs : List Value) (hown : w.ownsRow base e k (.slice (some ⟨g, 0, none⟩) n cap) n xs) (l : List α) (m : Nat) (hm : l.length = m) (ao : Option Addr) (sc : Nat) (hA : RdG enc k w ao l) (hd : m ≤ dl) (hoff : off + m ≤ n) (dp : Option Addr) (hdp : m ≠ 0 → dp = some ⟨g, off * k, none⟩)
    (e1 : a.eval d = .slice dp dl dc) (e2 : a.eval s = .slice ao m sc)
    (h : (putG w g (off * k) (rowG enc l)).ownsRow base e k (.slice (some ⟨g, 0, none⟩) n cap) n (setL xs (off * k) (rowG enc l)) → w.grownBy (putG w g (off * k) (rowG enc l)) (some g) → K (a.put o.dst (.int .i64 (m : Int))) (putG w g (off * k) (rowG enc l))) :
    if Region.wanted o (yielded ops a.tmps) = true then Oper.wp P o a w K Q else D := by
  have hw : Region.wanted o (yielded ops a.tmps) = true := by simp [Region.wanted, hgd]
  rw [if_pos hw]
  have hrun := copyK_run E R w o.type base n g cap off dl dc xs hown l m hm ao sc hA hd hoff dp hdp
  unfold Oper.wp
  simp only [execOp, ho, resolve, invoke, builtin, Sem.run_bind, Sem.run_pure, Result.andThen_ok, List.map_toArray, List.map_cons, List.map_nil, e1, e2, hrun]
  exact h (own_putG _ _ hown) (putC_grown _ _ _ _)
theorem appN_run (E : EncK enc k) (R : RowK P t e k) (w : World) (ty : TypeId) (g o n cap : Nat) (l1 : List α) (h1 : l1.length = n) (hold : RdG enc k w (some ⟨g, o, none⟩) l1) (ao : Option Addr) (m c : Nat) (l2 : List α) (hm : l2.length = m) (hA : RdG enc k w ao l2) (hg : cap < n + m) (hm0 : 0 < m) (hlen : n + m ≤ 4194304) :
    ∃ q c' w', (Builtin.append_ #[t, t] ty #[.slice (some ⟨g, o, none⟩) n cap, .slice ao m c]).run P w = .ok (.slice (some ⟨q, 0, none⟩) (n + m) c') w' ∧ w'.ownsRow w.heap.size e k (.slice (some ⟨q, 0, none⟩) (n + m) c') (n + m) (rowG enc (l1 ++ l2)) ∧ Below w.heap.size w w' ∧ w.heap.size ≤ q := by
  obtain ⟨i0, z, b, hi, hz0, hz1, hz2, hz3, hb⟩ := R.inf
  obtain ⟨b', o', rfl, hbb, _⟩ := hA 0 (by omega)
  have hbl : (n + m) * b ≤ (n + m) * 256 := Nat.mul_le_mul_left _ hb
  obtain ⟨v', w', r1, r2, r3⟩ := run_append_arg_grows (P := P) w t ty e i0 z k b R.sl hi hz0 hz1 hz2 hz3 R.pos ⟨g, o, none⟩ n cap (rowG enc l1) (by rw [rowG_length enc k E.len, h1]) (rdG_cells E R.pos hold) ⟨b', o', none⟩ m c (rowG enc l2) (by rw [rowG_length enc k E.len, hm]) (rdG_cells E R.pos hA) hg (by unfold maxLen; omega) (by omega)
  rw [← rowG_join] at r2
  have hB : Below w.heap.size w w' := Below.grown (Below.refl _ _) r3 (Nat.le_refl _) (by intro k hk; cases hk)
  rcases r2.2 with ⟨hv, hn⟩ | ⟨q, cap', cur, hv, hbq, rest⟩
  · exfalso; omega
  · subst hv
    exact ⟨q, cap', w', r1, r2, hB, hbq⟩
theorem wpList_appN {ops : Array Oper} {rest : List Oper} {o : Oper} {a : Act} {w : World} {Q : Exit → Act → World → Prop} (E : EncK enc k) (R : RowK P t e k) (hgd : o.guard = none) (s x : Operand)
    (ho : o.op = .call { callee := .builtin .append, args := #[s, x], argTypes := #[t, t] }) (g of n cap : Nat) (l1 : List α) (h1 : l1.length = n) (hold : RdG enc k w (some ⟨g, of, none⟩) l1) (ao : Option Addr) (m c : Nat) (l2 : List α) (hm : l2.length = m) (hA : RdG enc k w ao l2) (hg : cap < n + m) (hm0 : 0 < m) (hlen : n + m ≤ 4194304) (e1 : a.eval s = .slice (some ⟨g, of, none⟩) n cap) (e2 : a.eval x = .slice ao m c)
    (h : ∀ q c' w', w'.ownsRow w.heap.size e k (.slice (some ⟨q, 0, none⟩) (n + m) c') (n + m) (rowG enc (l1 ++ l2)) → Below w.heap.size w w' → w.heap.size ≤ q → wpList P ops Q rest (a.put o.dst (.slice (some ⟨q, 0, none⟩) (n + m) c')) w') : wpList P ops Q (o :: rest) a w := by
  refine wpList_plain hgd fun K hK => ?_
  obtain ⟨q, c', w', hrun, r1, r2, r3⟩ := appN_run E R w o.type g of n cap l1 h1 hold ao m c l2 hm hA hg hm0 hlen
  unfold Oper.wp
  simp only [execOp, ho, resolve, invoke, builtin, Sem.run_bind, Sem.run_pure, Result.andThen_ok, List.map_toArray, List.map_cons, List.map_nil, e1, e2, hrun]
  exact hK _ _ (h q c' w' r1 r2 r3)
end
end Go.Proofs.YtelmchifpgaibaaDoor
namespace Go.Proofs.YtelmchifpgaibaaDoor
open Go.RowKit
set_option linter.unusedVariables false

end Go.Proofs.YtelmchifpgaibaaDoor
namespace Go.Proofs.YtelmchifpgaibaaDoor
open Go.RowKit
set_option linter.unusedVariables false

theorem implCall_any (n : Int) (w : World) : Calls Tryd.prog 64 #[.int .i64 n] w fun e w' => e = .returned (.bool (decide (0 ≤ n ∧ n ≤ 1000))) ∧ w' = w := by
  by_cases h1 : 0 ≤ n
  · by_cases h2 : n ≤ 1000
    · have RES := hide1 (show decide (0 ≤ n ∧ n ≤ 1000) = true by simp [h1, h2])
      have q2 : decide (n ≤ 1000) = true := by simp [h2]
      go_enter Tryd.func64, Tryd.ntmps64
      go_wp2
      go_ret
      exact ⟨by first | rfl | (rw [RES.out]; rfl) | (rw [RES.out]; simp_all; done) | (show Ending.returned (.bool false) = Ending.returned (.bool (decide (0 ≤ n) && decide (n ≤ 1000))); rw [decide_eq_false (show ¬ 0 ≤ n by omega)]; rfl), rfl⟩
    · have RES := hide1 (show decide (0 ≤ n ∧ n ≤ 1000) = false by simp [h2])
      have q2 : decide (n ≤ 1000) = false := by simp [h2]
      go_enter Tryd.func64, Tryd.ntmps64
      go_wp2
      go_ret
      exact ⟨by first | rfl | (rw [RES.out]; rfl) | (rw [RES.out]; simp_all; done) | (show Ending.returned (.bool false) = Ending.returned (.bool (decide (0 ≤ n) && decide (n ≤ 1000))); rw [decide_eq_false (show ¬ 0 ≤ n by omega)]; rfl), rfl⟩
  · have RES := hide1 (show decide (0 ≤ n ∧ n ≤ 1000) = false by simp [h1])
    go_enter Tryd.func64, Tryd.ntmps64
    go_wp2
    go_ret
    exact ⟨by first | rfl | (rw [RES.out]; rfl) | (rw [RES.out]; simp_all; done) | (show Ending.returned (.bool false) = Ending.returned (.bool (decide (0 ≤ n) && decide (n ≤ 1000))); rw [decide_eq_false (show ¬ 0 ≤ n by omega)]; rfl), rfl⟩
def stood (fe ba le se : Bool) (wa : List Int) : Prop := (se = true → ba = true ∧ le = true ∧ wa = []) ∧ (fe = true → ba = false ∧ le = false)
instance (fe ba le se : Bool) (wa : List Int) : Decidable (stood fe ba le se wa) := by unfold stood; infer_instance
def tasked (tk : Tk) (se : Bool) : Prop := noTk tk ∨ ((tk.op = 1 ∨ tk.op = 2) ∧ se = true ∧ (0 ≤ tk.cl ∧ tk.cl ≤ 1000) ∧ (1 ≤ tk.nu ∧ tk.nu ≤ 900) ∧ okIds tk.lf)
instance (tk : Tk) (se : Bool) : Decidable (tasked tk se) := by unfold tasked; infer_instance
theorem ok_mb {id ep cn : Int} {fe ba le se : Bool} {wa : List Int} {is : List Im} {tk : Tk} : okMb ⟨id, ep, fe, ba, le, se, wa, is, cn, tk⟩ ↔ ((1 ≤ id ∧ id ≤ 6) ∧ (1 ≤ ep ∧ ep ≤ 9) ∧ (0 ≤ cn ∧ cn ≤ 900)) ∧ stood fe ba le se wa ∧ okIds wa ∧ okIms is ∧ tasked tk se := by
  constructor
  · rintro ⟨h1, h2, h3, h4, h5, h6, h7, h8, h9⟩
    refine ⟨⟨h1, h2, h8⟩, ⟨h3, h4⟩, h5, h7, ?_⟩
    rcases h9 with h | ⟨a, b, c, d⟩
    · exact .inl h
    · exact .inr ⟨a, b, c, d, h6⟩
  · rintro ⟨⟨h1, h2, h8⟩, ⟨h3, h4⟩, h5, h7, h9⟩
    rcases h9 with h | ⟨a, b, c, d, e⟩
    · exact ⟨h1, h2, h3, h4, h5, by dsimp only; rw [h.2.2.2.2]; exact ⟨fun x hx => by simp at hx, List.Pairwise.nil⟩, h7, h8, .inl h⟩
    · exact ⟨h1, h2, h3, h4, h5, e, h7, h8, .inr ⟨a, b, c, d⟩⟩
end Go.Proofs.YtelmchifpgaibaaDoor
