/- Inside a fence: whole structs loaded and stored; what a round of a loop over an iterator keeps. -/
import Derived.RangeFuncNested
import Derived.RangeFuncBound
import Derived.RangeFuncCalls
import Derived.RangeFuncLeaves
import Derived.RangeFuncBox
import Derived.Shelf.Abstract
import Derived.Shelf.RegionOpen
import Derived.WalkKit
import Derived.OwnWalkIn
import Derived.TacticsInMore
import Derived.LoopNIn
import Derived.LoopIn
import Derived.Test.YtcahaimefgkmiaaTB
import Derived.Test.YtcahaimefgkmiaaGrR
import Derived.Test.YtcahaimefgkmiaaTE
namespace Go.Proofs.Ytcahaimefgkmiaa
open Go.RowKit Go.Shelf
set_option linter.unusedVariables false

section
variable {F : Fence} {n : Nat} {P : Program} {ops : Array Oper} {rest : List Oper} {op : Oper} {a : Act} {w : World} {Q : Exit → Act → World → Prop}
theorem wpListIn_load_at (hgd : Region.wanted op (yielded ops a.tmps) = true) (ty : TypeId) (x : Operand) (ho : op.op = .load ty x)
    (b o : Nat) (hx : a.eval x = .pointer (some ⟨b, o, none⟩)) (cs : Array Value) (d : TypeDesc) (hg : CsAt w b o cs)
    (hu : P.underlying ty = some d) (hd : (match d with | .struct _ | .array _ _ => true | _ => false) = true) (hi : (P.info? ty).map (·.size) = some cs.size)
    (h : wpListIn F n P ops Q rest (a.put op.dst (.agg cs)) w) : wpListIn F n P ops Q (op :: rest) a w :=
  wpListIn_step fun K hK => by
    rw [if_pos hgd]
    unfold Oper.wpIn
    refine ⟨by intro f hf; simp [Oper.about, ho] at hf, ?_⟩
    rw [Oper.semAt_plain F _ _ (by rw [ho]; intro c hc; cases hc)]
    unfold execOp
    simp only [ho, hx, Sem.run_bind, hg.load hu hd hi, Result.andThen_ok, Sem.run_pure]
    exact hK _ _ h
theorem wpListIn_load_A (hgd : Region.wanted op (yielded ops a.tmps) = true) (ty : TypeId) (x : Operand) (ho : op.op = .load ty x)
    (g : Nat) (hx : a.eval x = .pointer (some ⟨g, 0, none⟩)) (t : TypeId) (cs : Array Value) (d : TypeDesc) (hg : BlkA w g t cs)
    (hu : P.underlying ty = some d) (hd : (match d with | .struct _ | .array _ _ => true | _ => false) = true) (hi : (P.info? ty).map (·.size) = some cs.size)
    (h : wpListIn F n P ops Q rest (a.put op.dst (.agg cs)) w) : wpListIn F n P ops Q (op :: rest) a w :=
  wpListIn_load_at hgd ty x ho g 0 hx cs d hg.at hu hd hi h
theorem wpListIn_store_row (hgd : op.guard = none) (ty : TypeId) (x y : Operand) (ho : op.op = .store ty x y)
    (g : Nat) (cells : Array Value) (hx : a.eval x = .pointer (some ⟨g, 0, none⟩)) (hy : a.eval y = .agg cells)
    (t : TypeId) (old : Array Value) (hg : w.heap[g]? = some (.cells old t (0, 0))) (hi : (P.info? ty).map (·.size) = some cells.size)
    (hold : old.size = cells.size) (h1 : cells.all (·.oneCell') = true)
    (h : wpListIn F n P ops Q rest (a.put op.dst undef) (w.setRow g cells)) : wpListIn F n P ops Q (op :: rest) a w :=
  wpListIn_plain hgd fun K hK => by
    unfold Oper.wpIn
    refine ⟨by intro f hf; simp [Oper.about, ho] at hf, ?_⟩
    rw [Oper.semAt_plain F _ _ (by rw [ho]; intro c hc; cases hc)]
    unfold execOp
    simp only [ho, hx, hy, Instr.storeAt, Instr.sureAddr, Sem.run_bind, Sem.run_pure, Result.andThen_ok, run_storeVar_row w g t ty old cells hg hi hold h1]
    exact hK _ _ h
end
theorem wpListIn_lit1 {F : Fence} {n : Nat} {P : Program} {ops : Array Oper} {rest : List Oper} {op : Oper} {a : Act} {w : World} {Q : Exit → Act → World → Prop} (hgd : op.guard = none) (t e : TypeId) (x : Operand) (ho : op.op = .buildSlice t 1 #[(0, x)]) (cs : Array Value) (hx : a.eval x = .agg cs)
    {i : TypeInfo} {z : Value} (ht : P.underlying t = some (.slice e)) (hi : P.info? e = some i) (hz : i.zero = some z) (hzs : z.cells.size = cs.size) (hs : i.size = cs.size) (h0 : 0 < cs.size) (hm : cs.size ≤ 16777216)
    (h : wpListIn F n P ops Q rest (a.put op.dst (.slice (some ⟨w.heap.size, 0, none⟩) 1 1)) (w.alloc (.cells cs e))) : wpListIn F n P ops Q (op :: rest) a w :=
  wpListIn_plain hgd fun K hK => by
    unfold Oper.wpIn
    refine ⟨by intro f hf; simp [Oper.about, ho] at hf, ?_⟩
    rw [Oper.semAt_plain F _ _ (by rw [ho]; intro c hc; cases hc)]
    unfold execOp
    have hr := run_buildSlice1 (P := P) (w := w) ht hi hz hzs hs h0 hm
    have hm9 : (#[((0 : Nat), x)].map fun (i, x) => (i, a.eval x)) = #[(0, .agg cs)] := by simp [hx]
    simp only [ho, hm9, Sem.run_bind, hr, Result.andThen_ok, Sem.run_pure]
    exact hK _ _ h
theorem wpListIn_appA {F : Fence} {nF : Nat} {P : Program} {α : Type} {enc : α → List Value} {k : Nat} {t e : TypeId} {ops : Array Oper} {rest : List Oper} {o : Oper} {a : Act} {w : World} {Q : Exit → Act → World → Prop} (E : EncK enc k) (R : RowK P t e k) (hgd : o.guard = none) (s x : Operand)
    (ho : o.op = .call { callee := .builtin .append, args := #[s, x], argTypes := #[t, t] }) (base : Nat) (v : Value) (n : Nat) (l1 : List α) (hs : a.eval s = v) (hown : w.ownsRow base e k v n (rowG enc l1)) (ao : Option Addr) (m c : Nat) (l2 : List α) (hx : a.eval x = .slice ao m c) (hm : l2.length = m) (hA : RdG enc k w ao l2) (hlen : n + m ≤ 4194304) (hbase : base ≤ w.heap.size)
    (h : ∀ b' c' w', w'.ownsRow base e k (.slice b' (n + m) c') (n + m) (rowG enc (l1 ++ l2)) → w.grownBy w' v.ownBlock → (∀ x, b' = some x → v.ownBlock = some x.block ∨ w.heap.size ≤ x.block) → wpListIn F nF P ops Q rest (a.put o.dst (.slice b' (n + m) c')) w') : wpListIn F nF P ops Q (o :: rest) a w := by
  refine wpListIn_plain hgd fun K hK => ?_
  obtain ⟨b', c', w', hrun, h1, h2, h3⟩ := appA_run E R w o.type base v n l1 hown ao m c l2 hm hA hlen hbase
  unfold Oper.wpIn
  refine ⟨by simp [Oper.about, ho, resolve, Target.leads, Sem.run_pure], ?_⟩
  rw [Oper.semAt_plain F _ _ (by rw [ho]; intro c hc'; cases hc')]
  simp only [execOp, ho, resolve, invoke, builtin, Sem.run_bind, Sem.run_pure, Result.andThen_ok, List.map_toArray, List.map_cons, List.map_nil, hs, hx, hrun]
  exact hK _ _ (h b' c' w' h1 h2 h3)
/-- All blocks of cells stay. -/
def CK (A B : World) : Prop := A.heap.size ≤ B.heap.size ∧ ∀ (k : Nat) (o : Obj), A.heap[k]? = some o → o.isCells = true → B.heap[k]? = some o
theorem CK.refl (A : World) : CK A A := ⟨Nat.le_refl _, fun _ _ h _ => h⟩
theorem CK.t {A B C : World} (h : CK A B) (k : CK B C) : CK A C := ⟨Nat.le_trans h.1 k.1, fun i o hi ho => k.2 i o (h.2 i o hi ho) ho⟩
theorem CK.bel {A B : World} (h : Below A.heap.size A B) : CK A B := ⟨h.size, fun k o hk _ => by rw [h.block k (Array.getElem?_eq_some_iff.1 hk).1]; exact hk⟩
theorem CK.put (W : World) (l : Nat) (o o' : Obj) (h : W.heap[l]? = some o) (hc : o.isCells = false) : CK W (W.putObj l o') := by
  have hl : l < W.heap.size := (Array.getElem?_eq_some_iff.1 h).1
  refine ⟨?_, fun k p hk hp => ?_⟩
  · have := (grownBy_putObj' W l o').size; exact this
  · have hne : k ≠ l := fun e => by subst e; rw [h] at hk; injection hk with hk; subst hk; rw [hc] at hp; cases hp
    rw [World.putObj_heap_other (by omega)]
    exact hk
theorem CK.cell {A B : World} (h : CK A B) {p : Addr} {v : Value} (hc : A.cell? p = some v) : B.cell? p = some v := by
  unfold World.cell? at hc ⊢
  cases e : A.heap[p.block]? with
  | none => rw [e] at hc; simp at hc
  | some o =>
    cases o with
    | cells c t f => rw [h.2 p.block _ e rfl]; rw [e] at hc; exact hc
    | _ => rw [e] at hc; simp at hc
theorem CK.blk {A B : World} (h : CK A B) {g : Nat} {t : TypeId} {cs : Array Value} (hb : BlkA A g t cs) : BlkA B g t cs := h.2 g _ hb rfl
theorem RdG.ck {α : Type} {enc : α → List Value} {k : Nat} {A B : World} {a : Option Addr} {l : List α} (hk : ∀ x, (enc x).length = k) (hr : RdG enc k A a l) (h : CK A B) : RdG enc k B a l := fun i hi => by
  obtain ⟨b, o, ha, hb, hc⟩ := hr i hi
  refine ⟨b, o, ha, Nat.lt_of_lt_of_le hb h.1, fun j hj => ?_⟩
  have hl : j < (enc l[i]).length := by rw [hk]; exact hj
  have h1 := hc j hj
  rw [List.getElem?_eq_getElem hl] at h1 ⊢
  exact h.cell h1
theorem CsAt.ck {A B : World} {b o : Nat} {cs : Array Value} (hr : CsAt A b o cs) (h : CK A B) : CsAt B b o cs := fun j hj => h.cell (hr j hj)
theorem keepsFrom_bel {B : Nat} {A C : World} (h : Below A.heap.size A C) : KeepsFrom B A C := ⟨h.size, fun k o _ hk _ => by rw [h.block k (Array.getElem?_eq_some_iff.1 hk).1]; exact hk⟩
theorem boxed_set {W : World} {B : Nat} {t : TypeId} {v : Value} (h : Boxed W B t v) (u : Value) : Boxed (W.setCell ⟨B, 0, none⟩ u) B t u := Blk.set (cs := [v]) h 0 u
theorem boxed_bel {A C : World} {B : Nat} {t : TypeId} {v : Value} (hb : Boxed A B t v) (h : Below A.heap.size A C) : Boxed C B t v := (h.block B hb.lt).trans hb
end Go.Proofs.Ytcahaimefgkmiaa
