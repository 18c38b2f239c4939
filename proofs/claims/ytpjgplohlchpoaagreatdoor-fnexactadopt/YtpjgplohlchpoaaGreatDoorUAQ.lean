/- Rows of elements of several cells: copied into a row of the call's own; others put behind a row that is full. -/
import Derived.Test.YtpjgplohlchpoaaGreatDoorUAF
import Derived.ArgAppend
import Derived.Test.YtpjgplohlchpoaaGreatDoorUAB
import Derived.BigQuiet
import Derived.Test.YtpjgplohlchpoaaGreatDoorUAP
namespace Go.Proofs.YtpjgplohlchpoaaGreatDoor
open Go.RowKit
set_option linter.unusedVariables false

theorem setCells_putC (g : Nat) : ∀ (vs : List Value) (w : World) (m : Nat), w.setCells g m vs = putG w g m vs
  | [], _, _ => rfl
  | v :: vs, w, m => setCells_putC g vs (w.setCell ⟨g, m, none⟩ v) (m + 1)
theorem putC_grown : ∀ (vs : List Value) (w : World) (g m : Nat), w.grownBy (putG w g m vs) (some g)
  | [], w, g, m => World.grownBy.refl _ _
  | v :: vs, w, g, m => (gset (World.grownBy.refl w (some g)) m v).trans (putC_grown vs _ g (m + 1))
section
variable {P : Program} {α : Type} {enc : α → List Value} {k : Nat} {t e : TypeId}
theorem rdG_cells (E : EncK enc k) (hk0 : 0 < k) {w : World} {g o : Nat} {l : List α} (hA : RdG enc k w (some ⟨g, o, none⟩) l) (j : Nat) (v : Value) (hj : (rowG enc l)[j]? = some v) : w.cell? ((⟨g, o, none⟩ : Addr).add j) = some v := by
  have hj' : j < l.length * k := by have := (List.getElem?_eq_some_iff.1 hj).1; rw [rowG_length enc k E.len] at this; omega
  have hd : j / k < l.length := Nat.div_lt_of_lt_mul (by rw [Nat.mul_comm]; exact hj')
  have hr : j % k < k := Nat.mod_lt _ hk0
  have hjk : j = j / k * k + j % k := by rw [Nat.mul_comm]; exact (Nat.div_add_mod j k).symm
  obtain ⟨b', o', e', _, h⟩ := hA (j / k) hd
  simp only [Option.some.injEq, Addr.mk.injEq, and_true] at e'
  obtain ⟨rfl, rfl⟩ := e'
  have h1 := h (j % k) hr
  have h2 := rowG_at enc k E.len l (j / k) (j % k) hd hr
  rw [← hjk] at h2
  rw [Addr.add_lit, show o + j = o + j / k * k + j % k by omega, h1, ← h2]
  exact hj
theorem copyK_run (E : EncK enc k) (R : RowK P t e k) (w : World) (ty : TypeId) (base n g cap off dl dc : Nat) (xs : List Value) (hown : w.ownsRow base e k (.slice (some ⟨g, 0, none⟩) n cap) n xs) (l : List α) (m : Nat) (hm : l.length = m) (ao : Option Addr) (sc : Nat) (hA : RdG enc k w ao l) (hd : m ≤ dl) (hoff : off + m ≤ n) (dp : Option Addr) (hdp : m ≠ 0 → dp = some ⟨g, off * k, none⟩) :
    (Builtin.copy_ #[t, t] ty #[.slice dp dl dc, .slice ao m sc]).run P w = .ok (.int .i64 (m : Int)) (putG w g (off * k) (rowG enc l)) := by
  obtain ⟨i0, z, b, hi, hz0, hz1, hz2, hz3, hb⟩ := R.inf
  have hmin : Nat.min m dl = m := Nat.min_eq_left hd
  have hl : (rowG enc l).length = m * k := by rw [rowG_length enc k E.len, hm]
  by_cases h0 : m = 0
  · subst h0
    have e0 : l = [] := List.eq_nil_of_length_eq_zero hm
    subst e0
    have hll := fun a => run_loadCells_list (P := P) w a [] (fun j v h => by cases h)
    simp only [List.length_nil] at hll
    cases dp <;> cases ao <;> simp [Builtin.copy_, run_underlying R.sl, Builtin.lenOf, Builtin.firstCells, sizeOf, typeInfo, hi, hll, storeCells, rowG, putG, goInt]
  · rw [hdp h0]
    obtain ⟨b', o, rfl, hbb, _⟩ := hA 0 (by omega)
    have hll := run_loadCells_list (P := P) w ⟨b', o, none⟩ (rowG enc l) (rdG_cells E R.pos hA)
    have hmk : off * k + m * k ≤ n * k := by rw [← Nat.add_mul]; exact Nat.mul_le_mul_right _ hoff
    have hst := run_storeCells_cells (P := P) g (off * k) (rowG enc l) 0 w (fun j hj => by
      obtain ⟨u, hu⟩ := own_some hown (off * k + j) (by omega)
      rw [Nat.add_zero, hu]; rfl) (fun j hj => hown.frozenAt _) (rowG_one E l)
    simp only [Nat.add_zero] at hst
    rw [hl] at hll
    rw [← setCells_putC]
    have hq : i0.size = k := hz1
    simp [Builtin.copy_, run_underlying R.sl, Builtin.lenOf, Builtin.firstCells, sizeOf, typeInfo, hi, hq, hmin, hll, hst, goInt]
theorem wpList_copyK {ops : Array Oper} {rest : List Oper} {o : Oper} {a : Act} {w : World} {Q : Exit → Act → World → Prop} (E : EncK enc k) (R : RowK P t e k) (hgd : o.guard = none) (d s : Operand)
    (ho : o.op = .call { callee := .builtin .copy, args := #[d, s], argTypes := #[t, t] }) (base n g cap off dl dc : Nat) (xs : List Value) (hown : w.ownsRow base e k (.slice (some ⟨g, 0, none⟩) n cap) n xs) (l : List α) (m : Nat) (hm : l.length = m) (ao : Option Addr) (sc : Nat) (hA : RdG enc k w ao l) (hd : m ≤ dl) (hoff : off + m ≤ n) (dp : Option Addr) (hdp : m ≠ 0 → dp = some ⟨g, off * k, none⟩)
    (e1 : a.eval d = .slice dp dl dc) (e2 : a.eval s = .slice ao m sc)
    (h : (putG w g (off * k) (rowG enc l)).ownsRow base e k (.slice (some ⟨g, 0, none⟩) n cap) n (setL xs (off * k) (rowG enc l)) → w.grownBy (putG w g (off * k) (rowG enc l)) (some g) → wpList P ops Q rest (a.put o.dst (.int .i64 (m : Int))) (putG w g (off * k) (rowG enc l))) : wpList P ops Q (o :: rest) a w := by
  refine wpList_plain hgd fun K hK => ?_
  have hrun := copyK_run E R w o.type base n g cap off dl dc xs hown l m hm ao sc hA hd hoff dp hdp
  unfold Oper.wp
  simp only [execOp, ho, resolve, invoke, builtin, Sem.run_bind, Sem.run_pure, Result.andThen_ok, List.map_toArray, List.map_cons, List.map_nil, e1, e2, hrun]
  exact hK _ _ (h (own_putG _ _ hown) (putC_grown _ _ _ _))
theorem step_copyK {ops : Array Oper} {o : Oper} {a : Act} {w : World} {K : Act → World → Prop} {Q : Exit → Act → World → Prop} {D : Prop} (E : EncK enc k) (R : RowK P t e k) (hgd : o.guard = none) (d s : Operand)
    (ho : o.op = .call { callee := .builtin .copy, args := #[d, s], argTypes := #[t, t] }) (base n g cap off dl dc : Nat) (xs : List Value) (hown : w.ownsRow base e k (.slice (some ⟨g, 0, none⟩) n cap) n xs) (l : List α) (m : Nat) (hm : l.length = m) (ao : Option Addr) (sc : Nat) (hA : RdG enc k w ao l) (hd : m ≤ dl) (hoff : off + m ≤ n) (dp : Option Addr) (hdp : m ≠ 0 → dp = some ⟨g, off * k, none⟩)
    (e1 : a.eval d = .slice dp dl dc) (e2 : a.eval s = .slice ao m sc)
    (h : (putG w g (off * k) (rowG enc l)).ownsRow base e k (.slice (some ⟨g, 0, none⟩) n cap) n (setL xs (off * k) (rowG enc l)) → w.grownBy (putG w g (off * k) (rowG enc l)) (some g) → K (a.put o.dst (.int .i64 (m : Int))) (putG w g (off * k) (rowG enc l))) :
    if Region.wanted o (yielded ops a.tmps) = true then Oper.wp P o a w K Q else D := by
  have hw : Region.wanted o (yielded ops a.tmps) = true := by simp [Region.wanted, hgd]
  rw [if_pos hw]
  have hrun := copyK_run E R w o.type base n g cap off dl dc xs hown l m hm ao sc hA hd hoff dp hdp
  unfold Oper.wp
  simp only [execOp, ho, resolve, invoke, builtin, Sem.run_bind, Sem.run_pure, Result.andThen_ok, List.map_toArray, List.map_cons, List.map_nil, e1, e2, hrun]
  exact h (own_putG _ _ hown) (putC_grown _ _ _ _)
theorem appN_run (E : EncK enc k) (R : RowK P t e k) (w : World) (ty : TypeId) (g o n cap : Nat) (l1 : List α) (h1 : l1.length = n) (hold : RdG enc k w (some ⟨g, o, none⟩) l1) (ao : Option Addr) (m c : Nat) (l2 : List α) (hm : l2.length = m) (hA : RdG enc k w ao l2) (hg : cap < n + m) (hm0 : 0 < m) (hlen : n + m ≤ 4194304) :
    ∃ q c' w', (Builtin.append_ #[t, t] ty #[.slice (some ⟨g, o, none⟩) n cap, .slice ao m c]).run P w = .ok (.slice (some ⟨q, 0, none⟩) (n + m) c') w' ∧ w'.ownsRow w.heap.size e k (.slice (some ⟨q, 0, none⟩) (n + m) c') (n + m) (rowG enc (l1 ++ l2)) ∧ Below w.heap.size w w' ∧ w.heap.size ≤ q := by
  obtain ⟨i0, z, b, hi, hz0, hz1, hz2, hz3, hb⟩ := R.inf
  obtain ⟨b', o', rfl, hbb, _⟩ := hA 0 (by omega)
  have hbl : (n + m) * b ≤ (n + m) * 256 := Nat.mul_le_mul_left _ hb
  obtain ⟨v', w', r1, r2, r3⟩ := run_append_arg_grows (P := P) w t ty e i0 z k b R.sl hi hz0 hz1 hz2 hz3 R.pos ⟨g, o, none⟩ n cap (rowG enc l1) (by rw [rowG_length enc k E.len, h1]) (rdG_cells E R.pos hold) ⟨b', o', none⟩ m c (rowG enc l2) (by rw [rowG_length enc k E.len, hm]) (rdG_cells E R.pos hA) hg (by unfold maxLen; omega) (by omega)
  rw [← rowG_join] at r2
  have hB : Below w.heap.size w w' := Below.grown (Below.refl _ _) r3 (Nat.le_refl _) (by intro k hk; cases hk)
  rcases r2.2 with ⟨hv, hn⟩ | ⟨q, cap', cur, hv, hbq, rest⟩
  · exfalso; omega
  · subst hv
    exact ⟨q, cap', w', r1, r2, hB, hbq⟩
theorem wpList_appN {ops : Array Oper} {rest : List Oper} {o : Oper} {a : Act} {w : World} {Q : Exit → Act → World → Prop} (E : EncK enc k) (R : RowK P t e k) (hgd : o.guard = none) (s x : Operand)
    (ho : o.op = .call { callee := .builtin .append, args := #[s, x], argTypes := #[t, t] }) (g of n cap : Nat) (l1 : List α) (h1 : l1.length = n) (hold : RdG enc k w (some ⟨g, of, none⟩) l1) (ao : Option Addr) (m c : Nat) (l2 : List α) (hm : l2.length = m) (hA : RdG enc k w ao l2) (hg : cap < n + m) (hm0 : 0 < m) (hlen : n + m ≤ 4194304) (e1 : a.eval s = .slice (some ⟨g, of, none⟩) n cap) (e2 : a.eval x = .slice ao m c)
    (h : ∀ q c' w', w'.ownsRow w.heap.size e k (.slice (some ⟨q, 0, none⟩) (n + m) c') (n + m) (rowG enc (l1 ++ l2)) → Below w.heap.size w w' → w.heap.size ≤ q → wpList P ops Q rest (a.put o.dst (.slice (some ⟨q, 0, none⟩) (n + m) c')) w') : wpList P ops Q (o :: rest) a w := by
  refine wpList_plain hgd fun K hK => ?_
  obtain ⟨q, c', w', hrun, r1, r2, r3⟩ := appN_run E R w o.type g of n cap l1 h1 hold ao m c l2 hm hA hg hm0 hlen
  unfold Oper.wp
  simp only [execOp, ho, resolve, invoke, builtin, Sem.run_bind, Sem.run_pure, Result.andThen_ok, List.map_toArray, List.map_cons, List.map_nil, e1, e2, hrun]
  exact hK _ _ (h q c' w' r1 r2 r3)
end
end Go.Proofs.YtpjgplohlchpoaaGreatDoor
namespace Go.Proofs.YtpjgplohlchpoaaGreatDoor
open Go.RowKit
set_option linter.unusedVariables false

/-- The worlds that have grown out of u. -/
def Gr (u : World) : Type := {w' : World // Below u.heap.size u w'}
def Gr.w {u : World} (n : Gr u) : World := n.1
theorem Gr.b {u : World} (n : Gr u) : Below u.heap.size u n.w := n.2
instance (u : World) : Nonempty (Gr u) := ⟨⟨u, Below.refl _ _⟩⟩
theorem Gr.cell {u : World} (n : Gr u) {p : Addr} {v : Value} (h : u.cell? p = some v) : n.w.cell? p = some v := (n.2.cell (World.block_lt_of_cell? u _ h)).trans h
theorem wp_region_grown {P : Program} {id : Nat} {Q : Exit → Act → World → Prop} {a : Act} {u : World} {l : List Oper} (hm : P.follows .mixedOrders = true) (hB : Region.lexB .any l.toArray = true)
    (h : wpQuiet P l.toArray (fun w' => ∃ n : Gr u, w' = n.w) (fun a' => ∀ w', (∃ n : Gr u, w' = n.w) → Q .normal a' w') l a) : (Code.region id l.toArray true).wp P Q a u :=
  wp_region_quiet (C := fun w' => ∃ n : Gr u, w' = n.w) hm hB ⟨⟨{ u with drawn := u.drawn + 1 }, (Below.refl u.heap.size u).drew⟩, rfl⟩ (by simpa using h)
theorem quiet_grown {P : Program} {f : FuncId} {args : Array Value} {u : World} {n : Gr u} {v : Value} (h : Calls P f args n.w fun e w' => e = .returned v ∧ Below n.w.heap.size n.w w') : Calls P f args n.w fun e w'' => e = .returned v ∧ ∃ m : Gr u, w'' = m.w :=
  h.mono fun e w' he => ⟨he.1, ⟨w', n.2.trans (he.2.mono n.2.size)⟩, rfl⟩
theorem quiet_grownS {P : Program} {f : FuncId} {args : Array Value} {u : World} {n : Gr u} {v : Value} (h : Calls P f args n.w fun e w' => e = .returned v ∧ w' = n.w) : Calls P f args n.w fun e w'' => e = .returned v ∧ ∃ m : Gr u, w'' = m.w :=
  h.mono fun e w' he => ⟨he.1, n, he.2⟩
end Go.Proofs.YtpjgplohlchpoaaGreatDoor
namespace Go.Proofs.YtpjgplohlchpoaaGreatDoor
open Go.RowKit
set_option linter.unusedVariables false

set_option maxRecDepth 100000 in
set_option maxHeartbeats 1000000 in
theorem newItems_any (ao : Option Addr) (l : List Im) (ca : Nat) (w : World) (hl : l.length ≤ 1048576) (hA : RdG imC 3 w ao l) :
    Calls Tryz.prog 65 #[.slice ao l.length ca] w fun e w' => e = .returned (.slice (some ⟨w.heap.size, 0, none⟩) l.length l.length) ∧ w'.ownsRow w.heap.size 34 3 (.slice (some ⟨w.heap.size, 0, none⟩) l.length l.length) l.length (rowG imC l) ∧ Below w.heap.size w w' := by
  obtain ⟨i0, hi, hz0, hz1, hz2⟩ := info_parts Tryz.infoIm
  have HA := hide1 hA
  clear hA
  go_enter Tryz.func65, Tryz.ntmps65
  go_wp2_with (at_make; (refine wpList_make_full _ rfl _ _ 33 rfl w.heap.size 34 i0 (.agg #[.string ⟨#[]⟩, .string ⟨#[]⟩, .int .i64 0]) 3 Tryz.underlying33 hi hz0 hz1 _ _ _ _ l.length rfl rfl rfl rfl (by rw [hz2]; omega) (by unfold maxLen; omega) (Nat.le_refl _) ?_; intro w0 hown0 hg0))
  rw [show (madeCells (.agg #[.string ⟨#[]⟩, .string ⟨#[]⟩, .int .i64 0] : Value).cells (l.length * 3)).toList = rowG imC (List.replicate l.length (⟨⟨#[]⟩, ⟨#[]⟩, 0⟩ : Im)) from madeG encIm (by decide) (⟨⟨#[]⟩, ⟨#[]⟩, 0⟩ : Im) l.length] at hown0
  have HO := hide1 hown0
  clear hown0
  go_loopw [11] (fun iv wr => ∃ i : Nat, i ≤ l.length ∧ iv = .int .i64 (i : Int) ∧ wr.ownsRow w.heap.size 34 3 (.slice (some ⟨w.heap.size, 0, none⟩) l.length l.length) l.length (rowG imC (l.take i ++ List.replicate (l.length - i) (⟨⟨#[]⟩, ⟨#[]⟩, 0⟩ : Im))) ∧ Below w.heap.size w wr) (fun iv _ => l.length - (intOf iv).toNat)
  case atStart => exact ⟨0, by omega, rfl, by simpa using HO.out, Below.grown (Below.refl _ _) hg0 (Nat.le_refl _) (by intro k hk; cases hk)⟩
  case round =>
    obtain ⟨i, hi, rfl, hown, hbel⟩ := hrel
    by_cases hlt : i < l.length
    · have k1 : (i : Int) < (l.length : Int) := by omega
      obtain ⟨b, o, rfl, hb, h1⟩ := HA.out i hlt
      have x0 : wr.cell? ⟨b, o + i * 3, none⟩ = some (.string l[i].k) := (hbel.cell (p := ⟨b, o + i * 3, none⟩) hb).trans (h1 0 (by omega))
      have x1 : wr.cell? ⟨b, o + i * 3 + 1, none⟩ = some (.string l[i].v) := (hbel.cell (p := ⟨b, o + i * 3 + 1, none⟩) hb).trans (h1 1 (by omega))
      have x2 : wr.cell? ⟨b, o + i * 3 + 2, none⟩ = some (.int .i64 l[i].n) := (hbel.cell (p := ⟨b, o + i * 3 + 2, none⟩) hb).trans (h1 2 (by omega))
      have cc := hide1 (fun w => newItem_any l[i] w)
      generalize hs : l[i] = s at *
      have HS := hide1 hs
      clear h1 hs
      have F1 := hide1 (And.intro (Blk.new wr 34 #[.string s.k, .string s.v, .int .i64 s.n]) ((Below.refl wr.heap.size wr).alloc (Nat.le_refl _) (.cells #[.string s.k, .string s.v, .int .i64 s.n] 34)))
      have HO1 := hide1 (own_kept hown F1.out.2)
      have HB1 := hide1 (hbel.trans (F1.out.2.mono hbel.size))
      clear hown hbel
      go_upto_region 5 with fail
      generalize (wr.alloc (.cells #[.string s.k, .string s.v, .int .i64 s.n] 34)) = u at F1 HO1 HB1 ⊢
      have y0 : u.cell? ⟨wr.heap.size, 0, none⟩ = some (.string s.k) := F1.out.1.cell 0
      have y1 : u.cell? ⟨wr.heap.size, 1, none⟩ = some (.string s.v) := F1.out.1.cell 1
      have y2 : u.cell? ⟨wr.heap.size, 2, none⟩ = some (.int .i64 s.n) := F1.out.1.cell 2
      clear x0 x1 x2
      go_wp2_with fail
      refine (cc.out _).mono ?_
      rintro e w2 ⟨rfl, hb2⟩
      have o2 := own_kept HO1.out hb2
      obtain ⟨u0, y0⟩ := own_some o2 (i * 3) (by omega)
      obtain ⟨u1, y1⟩ := own_some o2 (i * 3 + 1) (by omega)
      obtain ⟨u2, y2⟩ := own_some o2 (i * 3 + 2) (by omega)
      have f0 := o2.frozenAt (i * 3)
      have f1 := o2.frozenAt (i * 3 + 1)
      have f2 := o2.frozenAt (i * 3 + 2)
      have O2 := hide1 o2
      have HB2 := hide1 (HB1.out.trans (hb2.mono HB1.out.size))
      clear o2 hb2
      go_wp2
      go_roundw
      case rel =>
        refine ⟨i + 1, by omega, by go_num, ?_, below_putG (imC s) (i * 3) HB2.out (Nat.le_refl _)⟩
        rw [← fillG l (⟨⟨#[]⟩, ⟨#[]⟩, 0⟩ : Im) s i hlt HS.out, rowG_set imC 3 encIm.len _ _ _ (by simp; omega)]
        exact own_putG (imC s) (i * 3) O2.out
      case measure => simp [intOf]; omega
    · obtain rfl : i = l.length := by omega
      go_wp2
      go_ret
      exact ⟨rfl, by simpa using hown, hbel⟩

set_option maxRecDepth 100000 in
set_option maxHeartbeats 4000000 in
theorem implItemsOk_any (a : Option Addr) (l : List Im) (ca : Nat) (w : World) (hl : l.length ≤ 1048576) (hz : ∀ x ∈ l, x.k.size ≤ 1048576 ∧ x.v.size ≤ 1048576) (hA : RdG imC 3 w a l) :
    Calls Tryz.prog 94 #[.slice a l.length ca] w fun e w' => e = .returned (.bool (decide (okIms l))) ∧ Below w.heap.size w w' := by
  have HA := hide1 hA
  clear hA hz
  by_cases c12 : l.length ≤ 12
  · have k12 : ¬ ((12 : Int) < (l.length : Int)) := by omega
    go_enter Tryz.func94, Tryz.ntmps94
    go_wp2
    go_loopw [10] (fun iv wr => ∃ i : Nat, i ≤ l.length ∧ iv = .int .i64 (i : Int) ∧ Hid (stepI l i) ∧ Hid (Below w.heap.size w wr)) (fun iv _ => l.length - (intOf iv).toNat)
    case atStart => exact ⟨0, Nat.zero_le _, rfl, hide1 (fun j _ h => by omega), hide1 (Below.refl _ _)⟩
    case round =>
      obtain ⟨i, hi, rfl, HS, BB⟩ := hrel
      by_cases hlt : i < l.length
      · have k1 : (i : Int) < (l.length : Int) := by omega
        obtain ⟨b, o, hab, hb, hc⟩ := HA.out i hlt
        have x0 : wr.cell? ⟨b, o + i * 3, none⟩ = some (.string l[i].k) := (BB.out.cell (p := ⟨b, o + i * 3, none⟩) hb).trans (hc 0 (by omega))
        have x1 : wr.cell? ⟨b, o + i * 3 + 1, none⟩ = some (.string l[i].v) := (BB.out.cell (p := ⟨b, o + i * 3 + 1, none⟩) hb).trans (hc 1 (by omega))
        have x2 : wr.cell? ⟨b, o + i * 3 + 2, none⟩ = some (.int .i64 l[i].n) := (BB.out.cell (p := ⟨b, o + i * 3 + 2, none⟩) hb).trans (hc 2 (by omega))
        have NO := hide1 (fun h => okIms_no hlt h)
        have YES := hide1 (fun h1 h2 => stepI_next HS.out hlt h1 h2)
        have PR := hide1 (fun m (hm : m < l.length) (e : m + 1 = i) => And.intro (fun h => okIms_no2 hlt hm e h) (show w.cell? ⟨b, o + m * 3, none⟩ = some (.string l[m].k) by obtain ⟨b', o', e', _, hc'⟩ := HA.out m hm; rw [hab] at e'; injection e' with e'; injection e' with e1 e2; subst e1; subst e2; exact hc' 0 (by omega)))
        have CI := hide1 (fun w => itemFits_any l[i] w)
        generalize l[i] = s at *
        subst hab
        have lb : b < wr.heap.size := Nat.lt_of_lt_of_le hb BB.out.size
        clear hc
        have FB := hide1 (And.intro (Blk.new wr 34 #[.string s.k, .string s.v, .int .i64 s.n]) ((Below.refl wr.heap.size wr).alloc (Nat.le_refl _) (.cells #[.string s.k, .string s.v, .int .i64 s.n] 34)))
        go_upto_region 6 with fail
        generalize (wr.alloc (.cells #[.string s.k, .string s.v, .int .i64 s.n] 34)) = u at FB ⊢
        obtain ⟨X, hX⟩ : ∃ X, X = wr.heap.size := ⟨_, rfl⟩
        have KX := hide1 FB.out.1
        rw [← hX] at KX ⊢
        have BU := hide1 (BB.out.trans (FB.out.2.mono BB.out.size))
        have y0 : u.cell? ⟨X, 0, none⟩ = some (.string s.k) := KX.out.cell 0
        have y1 : u.cell? ⟨X, 1, none⟩ = some (.string s.v) := KX.out.cell 1
        have y2 : u.cell? ⟨X, 2, none⟩ = some (.int .i64 s.n) := KX.out.cell 2
        have lX : X < u.heap.size := KX.out.lt
        have lbu : b < u.heap.size := Nat.lt_of_lt_of_le lb FB.out.2.size
        clear x0 x1 x2 hX FB
        by_cases c1 : okIm s
        · rw [decide_eq_true c1] at CI
          by_cases c4 : 0 < i
          · have q4 : decide ((0 : Int) < (i : Int)) = true := decide_eq_true (by omega)
            have q5 : (0 : Int) < (i : Int) := by omega
            obtain ⟨m, hm⟩ : ∃ m, m + 1 = i := ⟨i - 1, by omega⟩
            have hml : m < l.length := by omega
            obtain ⟨P1, P2⟩ := PR.out m hml hm
            have p0 : u.cell? ⟨b, o + m * 3, none⟩ = some (.string l[m].k) := (BU.out.cell (p := ⟨b, o + m * 3, none⟩) hb).trans P2
            have YS := hide1 (fun (h : tLt l[m].k s.k = true) => YES.out c1 (fun m' hm' e' => by have : m' = m := (by omega); subst this; exact h))
            have P1h := hide1 P1
            have hsub : IntKind.i64.wrap ((i : Int) - 1) = (m : Int) := by rw [show (i : Int) - 1 = (m : Int) by omega]; exact IntWalk.i64_in _ ⟨by omega, by omega⟩
            have hsub2 : (i : Int) - 1 = (m : Int) := by omega
            have hm0 : (m : Int) < (l.length : Int) := by omega
            have hm00 : (0 : Int) ≤ (m : Int) := by omega
            have hm000 : m < l.length := by omega
            generalize l[m].k = pk at *
            clear P1 P2 PR NO YES c1
            obtain ⟨I, hI⟩ : ∃ I : Int, I = (i : Int) := ⟨_, rfl⟩
            rw [← hI] at hsub q5 ⊢
            have q6 : decide ((0 : Int) < I) = true := decide_eq_true q5
            have HI := hide1 hI
            clear hI hsub2 q4 k1
            have g0 : ∀ n : Gr u, n.w.cell? ⟨X, 0, none⟩ = some (.string s.k) := fun n => n.cell y0
            have g1 : ∀ n : Gr u, n.w.cell? ⟨X, 1, none⟩ = some (.string s.v) := fun n => n.cell y1
            have g2 : ∀ n : Gr u, n.w.cell? ⟨X, 2, none⟩ = some (.int .i64 s.n) := fun n => n.cell y2
            have g3 : ∀ n : Gr u, n.w.cell? ⟨b, o + m * 3, none⟩ = some (.string pk) := fun n => n.cell p0
            cases ct : tLt pk s.k with
            | true =>
              have qt : Op.bytesLess pk.toList s.k.toList = true := ct
              have CT := hide1 ct
              clear ct
              refine wp_region_grown (by kernel_rfl) (by kernel_rfl) ?_
              (repeat (first | go_big_quiet_skip | (go_big_quiet_want; go_big_quiet_op; first | go_big_quiet_on | go_big_quiet_call ((go_at_call 109; exact quiet_grown (CI.out _))))))
              refine wpQuiet_nil ?_
              rintro w7 ⟨n7, rfl⟩
              have D7 : Hid (Below u.heap.size u n7.w) := n7.b
              rw [HI.out]
              go_wp2
              go_roundw
              case rel => exact ⟨i + 1, by omega, by go_num, hide1 (YS.out CT.out), hide1 (by first | exact BU.out.trans (D7.out.mono BU.out.size) | exact below_drewN (BU.out.trans (D7.out.mono BU.out.size)) _)⟩
              case measure => simp [intOf]; omega
            | false =>
              have qt : Op.bytesLess pk.toList s.k.toList = false := ct
              have RES := hide1 (P1h.out ct)
              clear ct P1h YS
              refine wp_region_grown (by kernel_rfl) (by kernel_rfl) ?_
              (repeat (first | go_big_quiet_skip | (go_big_quiet_want; go_big_quiet_op; first | go_big_quiet_on | go_big_quiet_call ((go_at_call 109; exact quiet_grown (CI.out _))))))
              refine wpQuiet_nil ?_
              rintro w7 ⟨n7, rfl⟩
              have D7 : Hid (Below u.heap.size u n7.w) := n7.b
              go_wp2
              go_ret
              exact ⟨by rw [RES.out]; rfl, by first | exact BU.out.trans (D7.out.mono BU.out.size) | exact below_drewN (BU.out.trans (D7.out.mono BU.out.size)) _⟩
          · have YS := hide1 (YES.out c1 (fun m' hm' e' => by omega))
            have q5 : ¬ ((0 : Int) < (i : Int)) := by omega
            clear PR NO YES c1
            obtain ⟨I, hI⟩ : ∃ I : Int, I = (i : Int) := ⟨_, rfl⟩
            rw [← hI] at q5 ⊢
            have q6 : decide ((0 : Int) < I) = false := decide_eq_false q5
            have HI := hide1 hI
            clear hI k1
            have g0 : ∀ n : Gr u, n.w.cell? ⟨X, 0, none⟩ = some (.string s.k) := fun n => n.cell y0
            have g1 : ∀ n : Gr u, n.w.cell? ⟨X, 1, none⟩ = some (.string s.v) := fun n => n.cell y1
            have g2 : ∀ n : Gr u, n.w.cell? ⟨X, 2, none⟩ = some (.int .i64 s.n) := fun n => n.cell y2
            refine wp_region_grown (by kernel_rfl) (by kernel_rfl) ?_
            (repeat (first | go_big_quiet_skip | (go_big_quiet_want; go_big_quiet_op; first | go_big_quiet_on | go_big_quiet_call ((go_at_call 109; exact quiet_grown (CI.out _))))))
            refine wpQuiet_nil ?_
            rintro w7 ⟨n7, rfl⟩
            have D7 : Hid (Below u.heap.size u n7.w) := n7.b
            rw [HI.out]
            go_wp2
            go_roundw
            case rel => exact ⟨i + 1, by omega, by go_num, YS, hide1 (by first | exact BU.out.trans (D7.out.mono BU.out.size) | exact below_drewN (BU.out.trans (D7.out.mono BU.out.size)) _)⟩
            case measure => simp [intOf]; omega
        · rw [decide_eq_false c1] at CI
          have RES := hide1 (NO.out c1)
          clear PR NO YES c1
          have g0 : ∀ n : Gr u, n.w.cell? ⟨X, 0, none⟩ = some (.string s.k) := fun n => n.cell y0
          have g1 : ∀ n : Gr u, n.w.cell? ⟨X, 1, none⟩ = some (.string s.v) := fun n => n.cell y1
          have g2 : ∀ n : Gr u, n.w.cell? ⟨X, 2, none⟩ = some (.int .i64 s.n) := fun n => n.cell y2
          refine wp_region_grown (by kernel_rfl) (by kernel_rfl) ?_
          (repeat (first | go_big_quiet_skip | (go_big_quiet_want; go_big_quiet_op; first | go_big_quiet_on | go_big_quiet_call ((go_at_call 109; exact quiet_grown (CI.out _))))))
          refine wpQuiet_nil ?_
          rintro w7 ⟨n7, rfl⟩
          have D7 : Hid (Below u.heap.size u n7.w) := n7.b
          go_wp2
          go_ret
          exact ⟨by rw [RES.out]; rfl, by first | exact BU.out.trans (D7.out.mono BU.out.size) | exact below_drewN (BU.out.trans (D7.out.mono BU.out.size)) _⟩
      · obtain rfl : i = l.length := by omega
        have k1 : ¬ ((l.length : Int) < (l.length : Int)) := by omega
        have RES := hide1 (decide_eq_true (show okIms l from ⟨stepI_all HS.out, stepI_asc HS.out, c12⟩))
        go_wp2
        go_ret
        exact ⟨by rw [RES.out]; rfl, BB.out⟩
  · have k12 : (12 : Int) < (l.length : Int) := by omega
    have RES := hide1 (decide_eq_false (fun h : okIms l => c12 h.2.2))
    go_enter Tryz.func94, Tryz.ntmps94
    go_wp2
    go_ret
    exact ⟨by rw [RES.out]; rfl, Below.refl _ _⟩
end Go.Proofs.YtpjgplohlchpoaaGreatDoor
