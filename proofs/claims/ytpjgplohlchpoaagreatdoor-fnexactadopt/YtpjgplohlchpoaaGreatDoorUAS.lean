/- A region that draws and whose calls make new memory: whole structs are loaded in it. -/
import Derived.Test.YtpjgplohlchpoaaGreatDoorUAQ
import Derived.Test.YtpjgplohlchpoaaGreatDoorUAK
import Derived.RangeFuncNested
import Derived.RangeFuncBound
import Derived.RangeFuncCalls
import Derived.RangeFuncLeaves
import Derived.RangeFuncBox
import Derived.Shelf.Abstract
import Derived.Shelf.RegionOpen
import Derived.WalkKit
import Derived.OwnWalkIn
import Derived.TacticsInMore
import Derived.LoopNIn
import Derived.LoopIn
import Derived.Test.YtpjgplohlchpoaaGreatDoorUAL
import Derived.Test.YtpjgplohlchpoaaGreatDoorUAF
import Derived.Test.YtpjgplohlchpoaaGreatDoorUAH
namespace Go.Proofs.YtpjgplohlchpoaaGreatDoor
open Go.RowKit
set_option linter.unusedVariables false

theorem quiet_loadA {P : Program} {C : World → Prop} {o : Oper} {a : Act} {K : Act → Prop} (ty : TypeId) (x : Operand) (ho : o.op = .load ty x)
    (b f : Nat) (hx : a.eval x = .pointer (some ⟨b, f, none⟩)) (cs : Array Value) (hS : ∀ w, C w → (Instr.loadAt ty (.pointer (some ⟨b, f, none⟩))).run P w = .ok (.agg cs) w) (h : K (a.put o.dst (.agg cs))) : o.quiet P a C K :=
  ⟨_, fun w hw => by
    unfold Oper.quietAt execOp
    simp only [ho, hx, Sem.run_bind, Sem.run_pure, Result.andThen_ok, hS w hw]
    exact ⟨rfl, rfl⟩, h⟩
theorem Gr.blk {u : World} (n : Gr u) {g : Nat} {t : TypeId} {cs : Array Value} (h : BlkA u g t cs) : BlkA n.w g t cs := h.below n.2 h.lt
theorem gr_load {P : Program} {u : World} {g : Nat} {t ty : TypeId} {cs : Array Value} {d : TypeDesc} (h : BlkA u g t cs) (hu : P.underlying ty = some d) (hd : (match d with | .struct _ | .array _ _ => true | _ => false) = true) (hi : (P.info? ty).map (·.size) = some cs.size) :
    ∀ w, (∃ n : Gr u, w = n.w) → (Instr.loadAt ty (.pointer (some ⟨g, 0, none⟩))).run P w = .ok (.agg cs) w := fun w ⟨n, e⟩ => by subst e; exact (n.blk h).load hu hd hi
end Go.Proofs.YtpjgplohlchpoaaGreatDoor
namespace Go.Proofs.YtpjgplohlchpoaaGreatDoor
open Go.RowKit Go.Shelf
set_option linter.unusedVariables false

section
variable {F : Fence} {n : Nat} {P : Program} {ops : Array Oper} {rest : List Oper} {op : Oper} {a : Act} {w : World} {Q : Exit → Act → World → Prop}
theorem wpListIn_load_at (hgd : Region.wanted op (yielded ops a.tmps) = true) (ty : TypeId) (x : Operand) (ho : op.op = .load ty x)
    (b o : Nat) (hx : a.eval x = .pointer (some ⟨b, o, none⟩)) (cs : Array Value) (d : TypeDesc) (hg : CsAt w b o cs)
    (hu : P.underlying ty = some d) (hd : (match d with | .struct _ | .array _ _ => true | _ => false) = true) (hi : (P.info? ty).map (·.size) = some cs.size)
    (h : wpListIn F n P ops Q rest (a.put op.dst (.agg cs)) w) : wpListIn F n P ops Q (op :: rest) a w :=
  wpListIn_step fun K hK => by
    rw [if_pos hgd]
    unfold Oper.wpIn
    refine ⟨by intro f hf; simp [Oper.about, ho] at hf, ?_⟩
    rw [Oper.semAt_plain F _ _ (by rw [ho]; intro c hc; cases hc)]
    unfold execOp
    simp only [ho, hx, Sem.run_bind, hg.load hu hd hi, Result.andThen_ok, Sem.run_pure]
    exact hK _ _ h
theorem wpListIn_load_A (hgd : Region.wanted op (yielded ops a.tmps) = true) (ty : TypeId) (x : Operand) (ho : op.op = .load ty x)
    (g : Nat) (hx : a.eval x = .pointer (some ⟨g, 0, none⟩)) (t : TypeId) (cs : Array Value) (d : TypeDesc) (hg : BlkA w g t cs)
    (hu : P.underlying ty = some d) (hd : (match d with | .struct _ | .array _ _ => true | _ => false) = true) (hi : (P.info? ty).map (·.size) = some cs.size)
    (h : wpListIn F n P ops Q rest (a.put op.dst (.agg cs)) w) : wpListIn F n P ops Q (op :: rest) a w :=
  wpListIn_load_at hgd ty x ho g 0 hx cs d hg.at hu hd hi h
theorem wpListIn_store_row (hgd : op.guard = none) (ty : TypeId) (x y : Operand) (ho : op.op = .store ty x y)
    (g : Nat) (cells : Array Value) (hx : a.eval x = .pointer (some ⟨g, 0, none⟩)) (hy : a.eval y = .agg cells)
    (t : TypeId) (old : Array Value) (hg : w.heap[g]? = some (.cells old t (0, 0))) (hi : (P.info? ty).map (·.size) = some cells.size)
    (hold : old.size = cells.size) (h1 : cells.all (·.oneCell') = true)
    (h : wpListIn F n P ops Q rest (a.put op.dst undef) (w.setRow g cells)) : wpListIn F n P ops Q (op :: rest) a w :=
  wpListIn_plain hgd fun K hK => by
    unfold Oper.wpIn
    refine ⟨by intro f hf; simp [Oper.about, ho] at hf, ?_⟩
    rw [Oper.semAt_plain F _ _ (by rw [ho]; intro c hc; cases hc)]
    unfold execOp
    simp only [ho, hx, hy, Instr.storeAt, Instr.sureAddr, Sem.run_bind, Sem.run_pure, Result.andThen_ok, run_storeVar_row w g t ty old cells hg hi hold h1]
    exact hK _ _ h
end
theorem wpListIn_lit1 {F : Fence} {n : Nat} {P : Program} {ops : Array Oper} {rest : List Oper} {op : Oper} {a : Act} {w : World} {Q : Exit → Act → World → Prop} (hgd : op.guard = none) (t e : TypeId) (x : Operand) (ho : op.op = .buildSlice t 1 #[(0, x)]) (cs : Array Value) (hx : a.eval x = .agg cs)
    {i : TypeInfo} {z : Value} (ht : P.underlying t = some (.slice e)) (hi : P.info? e = some i) (hz : i.zero = some z) (hzs : z.cells.size = cs.size) (hs : i.size = cs.size) (h0 : 0 < cs.size) (hm : cs.size ≤ 16777216)
    (h : wpListIn F n P ops Q rest (a.put op.dst (.slice (some ⟨w.heap.size, 0, none⟩) 1 1)) (w.alloc (.cells cs e))) : wpListIn F n P ops Q (op :: rest) a w :=
  wpListIn_plain hgd fun K hK => by
    unfold Oper.wpIn
    refine ⟨by intro f hf; simp [Oper.about, ho] at hf, ?_⟩
    rw [Oper.semAt_plain F _ _ (by rw [ho]; intro c hc; cases hc)]
    unfold execOp
    have hr := run_buildSlice1 (P := P) (w := w) ht hi hz hzs hs h0 hm
    have hm9 : (#[((0 : Nat), x)].map fun (i, x) => (i, a.eval x)) = #[(0, .agg cs)] := by simp [hx]
    simp only [ho, hm9, Sem.run_bind, hr, Result.andThen_ok, Sem.run_pure]
    exact hK _ _ h
theorem wpListIn_appA {F : Fence} {nF : Nat} {P : Program} {α : Type} {enc : α → List Value} {k : Nat} {t e : TypeId} {ops : Array Oper} {rest : List Oper} {o : Oper} {a : Act} {w : World} {Q : Exit → Act → World → Prop} (E : EncK enc k) (R : RowK P t e k) (hgd : o.guard = none) (s x : Operand)
    (ho : o.op = .call { callee := .builtin .append, args := #[s, x], argTypes := #[t, t] }) (base : Nat) (v : Value) (n : Nat) (l1 : List α) (hs : a.eval s = v) (hown : w.ownsRow base e k v n (rowG enc l1)) (ao : Option Addr) (m c : Nat) (l2 : List α) (hx : a.eval x = .slice ao m c) (hm : l2.length = m) (hA : RdG enc k w ao l2) (hlen : n + m ≤ 4194304) (hbase : base ≤ w.heap.size)
    (h : ∀ b' c' w', w'.ownsRow base e k (.slice b' (n + m) c') (n + m) (rowG enc (l1 ++ l2)) → w.grownBy w' v.ownBlock → (∀ x, b' = some x → v.ownBlock = some x.block ∨ w.heap.size ≤ x.block) → wpListIn F nF P ops Q rest (a.put o.dst (.slice b' (n + m) c')) w') : wpListIn F nF P ops Q (o :: rest) a w := by
  refine wpListIn_plain hgd fun K hK => ?_
  obtain ⟨b', c', w', hrun, h1, h2, h3⟩ := appA_run E R w o.type base v n l1 hown ao m c l2 hm hA hlen hbase
  unfold Oper.wpIn
  refine ⟨by simp [Oper.about, ho, resolve, Target.leads, Sem.run_pure], ?_⟩
  rw [Oper.semAt_plain F _ _ (by rw [ho]; intro c hc'; cases hc')]
  simp only [execOp, ho, resolve, invoke, builtin, Sem.run_bind, Sem.run_pure, Result.andThen_ok, List.map_toArray, List.map_cons, List.map_nil, hs, hx, hrun]
  exact hK _ _ (h b' c' w' h1 h2 h3)
/-- All blocks of cells stay. -/
def CK (A B : World) : Prop := A.heap.size ≤ B.heap.size ∧ ∀ (k : Nat) (o : Obj), A.heap[k]? = some o → o.isCells = true → B.heap[k]? = some o
theorem CK.refl (A : World) : CK A A := ⟨Nat.le_refl _, fun _ _ h _ => h⟩
theorem CK.t {A B C : World} (h : CK A B) (k : CK B C) : CK A C := ⟨Nat.le_trans h.1 k.1, fun i o hi ho => k.2 i o (h.2 i o hi ho) ho⟩
theorem CK.bel {A B : World} (h : Below A.heap.size A B) : CK A B := ⟨h.size, fun k o hk _ => by rw [h.block k (Array.getElem?_eq_some_iff.1 hk).1]; exact hk⟩
theorem CK.put (W : World) (l : Nat) (o o' : Obj) (h : W.heap[l]? = some o) (hc : o.isCells = false) : CK W (W.putObj l o') := by
  have hl : l < W.heap.size := (Array.getElem?_eq_some_iff.1 h).1
  refine ⟨?_, fun k p hk hp => ?_⟩
  · have := (grownBy_putObj' W l o').size; exact this
  · have hne : k ≠ l := fun e => by subst e; rw [h] at hk; injection hk with hk; subst hk; rw [hc] at hp; cases hp
    rw [World.putObj_heap_other (by omega)]
    exact hk
theorem CK.cell {A B : World} (h : CK A B) {p : Addr} {v : Value} (hc : A.cell? p = some v) : B.cell? p = some v := by
  unfold World.cell? at hc ⊢
  cases e : A.heap[p.block]? with
  | none => rw [e] at hc; simp at hc
  | some o =>
    cases o with
    | cells c t f => rw [h.2 p.block _ e rfl]; rw [e] at hc; exact hc
    | _ => rw [e] at hc; simp at hc
theorem CK.blk {A B : World} (h : CK A B) {g : Nat} {t : TypeId} {cs : Array Value} (hb : BlkA A g t cs) : BlkA B g t cs := h.2 g _ hb rfl
theorem RdG.ck {α : Type} {enc : α → List Value} {k : Nat} {A B : World} {a : Option Addr} {l : List α} (hk : ∀ x, (enc x).length = k) (hr : RdG enc k A a l) (h : CK A B) : RdG enc k B a l := fun i hi => by
  obtain ⟨b, o, ha, hb, hc⟩ := hr i hi
  refine ⟨b, o, ha, Nat.lt_of_lt_of_le hb h.1, fun j hj => ?_⟩
  have hl : j < (enc l[i]).length := by rw [hk]; exact hj
  have h1 := hc j hj
  rw [List.getElem?_eq_getElem hl] at h1 ⊢
  exact h.cell h1
theorem CsAt.ck {A B : World} {b o : Nat} {cs : Array Value} (hr : CsAt A b o cs) (h : CK A B) : CsAt B b o cs := fun j hj => h.cell (hr j hj)
theorem keepsFrom_bel {B : Nat} {A C : World} (h : Below A.heap.size A C) : KeepsFrom B A C := ⟨h.size, fun k o _ hk _ => by rw [h.block k (Array.getElem?_eq_some_iff.1 hk).1]; exact hk⟩
theorem boxed_set {W : World} {B : Nat} {t : TypeId} {v : Value} (h : Boxed W B t v) (u : Value) : Boxed (W.setCell ⟨B, 0, none⟩ u) B t u := Blk.set (cs := [v]) h 0 u
theorem boxed_bel {A C : World} {B : Nat} {t : TypeId} {v : Value} (hb : Boxed A B t v) (h : Below A.heap.size A C) : Boxed C B t v := (h.block B hb.lt).trans hb
end Go.Proofs.YtpjgplohlchpoaaGreatDoor
namespace Go.Proofs.YtpjgplohlchpoaaGreatDoor
open Go.RowKit Go.Shelf
set_option linter.unusedVariables false
attribute [local go_sem] Oper.semAt_some

set_option maxRecDepth 100000 in
set_option maxHeartbeats 4000000 in
theorem values1_in (l Bs n₀ : Nat) (ao : Option Addr) (ls : List Int) (ca : Nat) (hls : ls.length ≤ 1048576) (J Jx : List Int → World → Prop) (W : World) (hn₀ : n₀ ≤ W.heap.size)
    (hY : ∀ pre x W, J pre W → pre.length < ls.length → YieldAt Fence.wide 5 Tryz.prog l #[.int .i64 x] W fun e W' =>
      (e = .returned (.bool true) ∧ J (pre ++ [x]) W' ∧ Below n₀ W W') ∨ (e = .returned (.bool false) ∧ Jx (pre ++ [x]) W'))
    (hB : Bs < n₀) (hBs : W.cell? ⟨Bs, 0, none⟩ = some (.slice ao ls.length ca)) (hR : RdG zC 1 W ao ls) (hb0 : ∀ b o, ao = some ⟨b, o, none⟩ → 0 < ls.length → b < n₀) (h0 : J [] W) :
    CallsIn Fence.wide 6 Tryz.prog 100 #[.func (.yield l) #[] #[], .pointer (some ⟨Bs, 0, none⟩)] W fun e W' => (∃ v, e = .returned v) ∧
      ((∃ xs, xs = ls ∧ J xs W') ∨ (∃ pre, pre <+: ls ∧ Jx pre W')) := by
  have HR := hide1 hR
  clear hR
  refine callsIn_of_wp Tryz.func100 rfl trivial ?_ rfl
  simp only [Tryz.ntmps100, List.size_toArray, List.length_cons, List.length_nil, Nat.reduceAdd, Nat.reduceSub, Array.replicate_succ, Array.replicate_zero, List.push_toArray, List.append_toArray, List.nil_append, List.cons_append]
  gi_wp2
  gi_loopw [7] (fun iv wr => ∃ i : Nat, i ≤ ls.length ∧ iv = .int .i64 (i : Int) ∧ J (ls.take i) wr ∧ Below n₀ W wr) (fun iv _ => ls.length - (intOf iv).toNat)
  case atStart => exact ⟨0, by omega, rfl, by simpa using h0, Below.refl _ _⟩
  case round =>
    obtain ⟨i, hi, rfl, hJ, hbel⟩ := hrel
    by_cases hlt : i < ls.length
    · have k1 : (i : Int) < (ls.length : Int) := by omega
      obtain ⟨b1, o1, rfl, hb1, hc1⟩ := HR.out i hlt
      have hb1n := hb0 b1 o1 rfl (by omega)
      have hx : wr.cell? ⟨b1, o1 + i, none⟩ = some (.int .i64 ls[i]) := by
        have := (hbel.cell (p := ⟨b1, o1 + i * 1 + 0, none⟩) hb1n).trans (hc1 0 (by omega))
        simpa [zC] using this
      have hln : (ls.take i).length < ls.length := by simp; omega
      have nx : ls.take (i + 1) = ls.take i ++ [ls[i]] := List.take_succ_eq_append_getElem hlt
      obtain ⟨fn, tmps, assign, body, hy, hR⟩ := hY _ ls[i] wr hJ hln
      have HN := hide1 hbel
      clear hc1 hbel hln
      gi_wp2
      refine hR.mono ?_
      rintro e W3 (⟨rfl, hJ3, hk3⟩ | ⟨rfl, hJx3⟩)
      · gi_wp2
        go_roundw
        case rel => exact ⟨i + 1, by omega, by go_num, by rw [nx]; exact hJ3, HN.out.trans hk3⟩
        case measure => simp [intOf]; omega
      · gi_wp2
        refine bodyPost_ret (results_none rfl _ _ _) rfl ?_
        exact ⟨⟨_, rfl⟩, .inr ⟨_, by rw [← nx]; exact List.take_prefix _ _, hJx3⟩⟩
    · obtain rfl : i = ls.length := by omega
      gi_wp2
      go_end0
      exact ⟨⟨_, rfl⟩, .inl ⟨_, rfl, by simpa using hJ⟩⟩
set_option maxHeartbeats 1000000 in
theorem values_any (ao : Option Addr) (len ca : Nat) (w : World) :
    CallsIn Fence.wide 6 Tryz.prog 77 #[.slice ao len ca] w fun e w' => e = .returned (.func (.func 100) #[] #[.pointer (some ⟨w.heap.size, 0, none⟩)]) ∧ w' = w.alloc (.cells #[.slice ao len ca] 22) := by
  refine callsIn_of_wp Tryz.func77 rfl trivial ?_ rfl
  simp only [Tryz.ntmps77, List.size_toArray, List.length_cons, List.length_nil, Nat.reduceAdd, Nat.reduceSub, Array.replicate_succ, Array.replicate_zero, List.push_toArray, List.append_toArray, List.nil_append, List.cons_append]
  gi_wp2
  go_ret
  exact ⟨rfl, rfl⟩
theorem values_stops (Bs n₀ : Nat) (ao : Option Addr) (ls : List Int) (ca : Nat) (hls : ls.length ≤ 1048576) (w : World) (hn₀ : n₀ ≤ w.heap.size) (hB : Bs < n₀) (hc : w.cell? ⟨Bs, 0, none⟩ = some (.slice ao ls.length ca)) (hR : RdG zC 1 w ao ls) (hb0 : ∀ b o, ao = some ⟨b, o, none⟩ → 0 < ls.length → b < n₀) :
    SeqStopsK Fence.wide 6 Tryz.prog 100 #[.pointer (some ⟨Bs, 0, none⟩)] (fun x : Int => #[.int .i64 x]) (Below n₀) (fun xs => xs = ls) (fun pre => pre <+: ls) ls.length w := fun l J Jx W hW hJ _ hY h0 =>
  values1_in l Bs n₀ ao ls ca hls J Jx W (Nat.le_trans hn₀ hW.size) hY hB ((hW.cell (p := ⟨Bs, 0, none⟩) (Nat.lt_of_lt_of_le hB hn₀)).trans hc) (hR.later hW) hb0 h0
end Go.Proofs.YtpjgplohlchpoaaGreatDoor
namespace Go.Proofs.YtpjgplohlchpoaaGreatDoor
open Go.RowKit Go.Shelf
set_option linter.unusedVariables false
attribute [local go_sem] Oper.semAt_some

theorem own_nocells {w w' : World} {base n size : Nat} {e : TypeId} {v : Value} {xs : List Value} {row : Option Nat} (h : w.ownsRow base e size v n xs) (hg : w.grownBy w' row) (hr : ∀ r, row = some r → ∃ o : Obj, w.heap[r]? = some o ∧ o.isCells = false) : w'.ownsRow base e size v n xs := by
  refine ⟨h.1, ?_⟩
  rcases h.2 with h2 | ⟨g, cap, cur, hv, hg1, hh, r⟩
  · exact .inl h2
  · exact .inr ⟨g, cap, cur, hv, hg1, by rw [grownBy_keeps_cells hg hr hh rfl]; exact hh, r⟩
theorem own_isCells {w : World} {base n size : Nat} {e : TypeId} {v : Value} {xs : List Value} (h : w.ownsRow base e size v n xs) (j : Nat) (o : Obj) (hj : v.ownBlock = some j) (ho : w.heap[j]? = some o) : o.isCells = true := by
  rcases h.2 with ⟨rfl, _⟩ | ⟨g, cap, cur, rfl, _, hh, _⟩
  · cases hj
  · have e : g = j := by simpa [Value.ownBlock] using hj
    subst e
    rw [hh] at ho
    injection ho with ho
    subst ho
    rfl
theorem ob_ne {b : Option Addr} {n c X : Nat} (h : ∀ y, b = some y → y.block ≠ X) {k : Nat} (hk : (Value.slice b n c).ownBlock = some k) (e : k = X) : False := by
  cases b with
  | none => cases hk
  | some y => exact h y rfl (by have : y.block = k := by simpa [Value.ownBlock] using hk
                                rw [this]; exact e)
/-- The row that is collected: behind a box of its own. -/
def ColZ (w : World) (pre : List Int) (W : World) : Prop := (∃ b c, Boxed W w.heap.size 22 (.slice b pre.length c) ∧ W.ownsRow w.heap.size 3 1 (.slice b pre.length c) pre.length (rowG zC pre) ∧ (∀ x, b = some x → x.block ≠ w.heap.size))
theorem ColZ.kept {w : World} {pre : List Int} {A B : World} {row : Option Nat} (h : ColZ w pre A) (hg : A.grownBy B row) (hr : ∀ r, row = some r → ∃ o : Obj, A.heap[r]? = some o ∧ o.isCells = false) : ColZ w pre B := by
  obtain ⟨b, c, h1, h2, h3⟩ := h
  exact ⟨b, c, (grownBy_keeps_cells hg hr h1 rfl).trans h1, own_nocells h2 hg hr, h3⟩
theorem ColZ.bel {w : World} {pre : List Int} {A B : World} (h : ColZ w pre A) (hb : Below A.heap.size A B) : ColZ w pre B := by
  obtain ⟨b, c, h1, h2, h3⟩ := h
  exact ⟨b, c, boxed_bel h1 hb, own_kept h2 hb, h3⟩
set_option maxRecDepth 100000 in
set_option maxHeartbeats 4000000 in
theorem appendZ_any (Bs : Nat) (ao : Option Addr) (ls : List Int) (ca : Nat) (hls : ls.length ≤ 1048576) (w : World) (hc : w.cell? ⟨Bs, 0, none⟩ = some (.slice ao ls.length ca)) (hR : RdG zC 1 w ao ls) :
    Calls Tryz.prog 111 #[.slice none 0 0, .func (.func 100) #[] #[.pointer (some ⟨Bs, 0, none⟩)]] w fun e w' => ∃ b c, e = .returned (.slice b ls.length c) ∧ w'.ownsRow w.heap.size 3 1 (.slice b ls.length c) ls.length (rowG zC ls) ∧ Below w.heap.size w w' := by
  have hBs : Bs < w.heap.size := World.block_lt_of_cell? w _ hc
  obtain ⟨i0, hi, hz0, hz1, hz2⟩ := info_parts Tryz.infoZ
  refine (callsIn_wide (n := 7)).1 ?_
  refine callsIn_of_wp_marks Tryz.func111 rfl trivial ?_ rfl
  simp only [Tryz.ntmps111, List.size_toArray, List.length_cons, List.length_nil, Nat.reduceAdd, Nat.reduceSub, Array.replicate_succ, Array.replicate_zero, List.push_toArray, List.append_toArray, List.nil_append, List.cons_append]
  gi_wp2
  have bS := hide1 (Boxed.new w 22 (.slice none 0 0))
  have bB := hide1 ((Below.refl _ w).alloc (Nat.le_refl _) (.cells #[.slice none 0 0] 22))
  have hsz : (w.alloc (.cells #[.slice none 0 0] 22)).heap.size = w.heap.size + 1 := by simp
  obtain ⟨W0, hW0⟩ : ∃ W0, (w.alloc (.cells #[.slice none 0 0] 22)) = W0 := ⟨_, rfl⟩
  rw [hW0] at bS bB hsz ⊢
  clear hW0
  refine wpIn_rangeFunc_ownH rfl (by omega) (gf := 100) (lb := #[.pointer (some ⟨Bs, 0, none⟩)]) rfl trivial (enters_of Tryz.func100 (by kernel_rfl) rfl)
    (values_stops Bs w.heap.size ao ls ca hls W0 (by omega) hBs ((bB.out.cell (p := ⟨Bs, 0, none⟩) hBs).trans hc) (hR.later bB.out) (fun b o e h => by obtain ⟨b2, o2, e2, h2, _⟩ := hR 0 h; rw [e] at e2; injection e2 with e2; injection e2 with e2 _; omega)) belowK_t (belowK_b (by omega)) (Below.refl _ _) (fun _ => rfl)
    (fun pre W => ColZ w pre W ∧ Below w.heap.size w W)
    (fun _ _ _ => False)
    (OwnFrom.and (Own.from (fun s A B row hs hg hr => hs.kept hg hr) _) (ownFrom_below (Nat.le_refl _) (by omega)))
    (fun _ _ _ _ _ hs _ _ => hs)
    ⟨⟨none, 0, bS.out, World.ownsRow_nil _ _ _ _, fun x h => by cases h⟩, bB.out⟩
    (fun x a' W => a' = { tmps := #[.slice none 0 0, .func (.func 100) #[] #[.pointer (some ⟨Bs, 0, none⟩)], .pointer (some ⟨w.heap.size, 0, none⟩), undef, .slice none 0 0, .int .i64 x, .func (.func 100) #[] #[.pointer (some ⟨Bs, 0, none⟩)], .int .i64 x, undef, undef, undef, undef, undef], defers := [] })
    (fun x a' s A B row hs hg hr => hs) ?assign ?body ?done ?stop
  case assign =>
    rintro l pre x W K hi1 hK
    gi_wp2
    exact hK _ _ (keepsFrom_bel (Below.refl _ _)) (Below.refl _ _) ⟨hi1.1, hi1.2⟩ rfl
  case body =>
    rintro l pre x a' W hl ⟨r, hr⟩ ⟨⟨b, c, hb1, hb2, hb3⟩, hB⟩ rfl hlt
    have q1 := hb1.cell
    have HL := hide1 ((Below.refl W.heap.size W).alloc (Nat.le_refl _) (.cells #[.int .i64 x] 3))
    have O1 := hide1 (own_kept hb2 HL.out)
    have X1 := hide1 (boxed_bel hb1 HL.out)
    have A1 := hide1 (show RdG zC 1 (W.alloc (.cells #[.int .i64 x] 3)) (some ⟨W.heap.size, 0, none⟩) [x] from fun i hi => by
      obtain rfl : i = 0 := by simp at hi; omega
      refine ⟨W.heap.size, 0, rfl, by simp, fun j hj => ?_⟩
      have := (BlkA.new W 3 #[.int .i64 x]).blk
      rw [show 0 + 0 * 1 + j = j by omega, this.cell j]
      rfl)
    have HB := hide1 hB
    have N3 := hide1 hb3
    have hsW : w.heap.size ≤ W.heap.size := hB.size
    have hpl : pre.length + 1 ≤ 4194304 := by omega
    have hne : some w.heap.size ≠ (Value.slice b pre.length c).ownBlock := fun e => by
      cases b with
      | none => cases e
      | some y =>
        have e' : w.heap.size = y.block := by simpa [Value.ownBlock] using e
        exact hb3 y rfl e'.symm
    have NE := hide1 hne
    have OC := hide1 (own_isCells O1.out)
    have HS := hide1 HL.out.size
    clear hb1 hb2 hB hb3 bS bB hne
    generalize hU : W.alloc (.cells #[.int .i64 x] 3) = U at HL O1 X1 A1 OC HS
    gi_wp2_with (first | (refine wpListIn_appA encZ rowZ_k rfl _ _ rfl w.heap.size (.slice b pre.length c) pre.length pre rfl O1.out _ 1 1 [x] rfl rfl A1.out hpl (Nat.le_trans hsW HS.out) ?_; intro b' c' w1 hown' hgrow hat; have X2 := hide1 (show Boxed w1 w.heap.size 22 (.slice b pre.length c) from X1.out.kept hgrow NE.out); have r1 := X2.out.cell; have r2 := X2.out.frozen; have G1 := hide1 hgrow; have O2 := hide1 hown'; have T1 := hide1 hat; clear hown' hgrow hat))
    have N2 := hide1 (show ∀ y, b' = some y → y.block ≠ w.heap.size from fun y hy e => by
      rcases T1.out y hy with h | h
      · exact NE.out (by rw [h, e])
      · have := HS.out; rw [e] at h; have h2 : U.heap.size = W.heap.size + 1 := by rw [← hU]; simp
        omega)
    have B3 := hide1 (show Below w.heap.size W w1 from (HL.out.mono hsW).trans ((Below.refl w.heap.size U).grown G1.out (Nat.le_trans hsW HS.out) (fun k e => by have := O1.out.lt k e; omega)))
    have W1s : W.heap.size ≤ w1.heap.size := by have := G1.out.size; have := HS.out; omega
    have KF := hide1 (((keepsFrom_bel (B := W0.heap.size) HL.out).trans ((KeepsOthers.of_grownBy G1.out (fun j o e ho => OC.out j o e ho)).from _)).trans ((KeepsOthers.setCell w1 ⟨w.heap.size, 0, none⟩ (.slice b' (pre.length + 1) c')).from _))
    have FX := hide1 (boxed_set X2.out (.slice b' (pre.length + 1) c'))
    have FO := hide1 (own_far O2.out ⟨w.heap.size, 0, none⟩ (.slice b' (pre.length + 1) c') (fun k hk e => ob_ne N2.out hk e))
    have el : (pre ++ [x]).length = pre.length + 1 := by simp
    refine ⟨KF.out, B3.out.setCell (p := ⟨w.heap.size, 0, none⟩) (Nat.le_refl _) _, ⟨b', c', ?_, ?_, N2.out⟩, (HB.out.trans B3.out).setCell (p := ⟨w.heap.size, 0, none⟩) (Nat.le_refl _) _⟩
    · rw [el]; exact FX.out
    · rw [el]; exact FO.out
  case done =>
    rintro D xs W hD rfl ⟨⟨b, c, hb1, hb2, hb3⟩, hB⟩ hK
    have q1 := hb1.cell
    clear bS bB
    gi_wp2
    refine ⟨by simp, .inl ⟨_, _, rfl, run_takeDeferred hK, ?_⟩⟩
    have DB := hide1 (belowK_b (w := w) (Nat.le_refl _) W D _ (.deferred none) (by omega) hK rfl rfl)
    exact ⟨_, results_tmp rfl _ _ _, b, c, rfl, own_nocells hb2 (grownBy_putObj' W D (.deferred none)) (fun r e => by cases e; exact ⟨_, hK, rfl⟩), hB.trans DB.out⟩
  case stop =>
    rintro D c pre W hD _ h _
    exact h.elim
set_option maxRecDepth 100000 in
theorem collectZ_any (Bs : Nat) (ao : Option Addr) (ls : List Int) (ca : Nat) (hls : ls.length ≤ 1048576) (w : World) (hc : w.cell? ⟨Bs, 0, none⟩ = some (.slice ao ls.length ca)) (hR : RdG zC 1 w ao ls) :
    Calls Tryz.prog 98 #[.func (.func 100) #[] #[.pointer (some ⟨Bs, 0, none⟩)]] w fun e w' => ∃ b c, e = .returned (.slice b ls.length c) ∧ w'.ownsRow w.heap.size 3 1 (.slice b ls.length c) ls.length (rowG zC ls) ∧ Below w.heap.size w w' := by
  have C := hide1 (appendZ_any Bs ao ls ca hls w hc hR)
  clear hc hR
  go_enter Tryz.func98, Tryz.ntmps98
  go_wp2_with (go_at_call 111; refine C.out.mono ?_; rintro e w2 ⟨b, c, rfl, ho, hb⟩; have HO := hide1 ho; have HB := hide1 hb; clear ho hb)
  go_ret
  exact ⟨b, c, rfl, HO.out, HB.out⟩
end Go.Proofs.YtpjgplohlchpoaaGreatDoor
