/- Rows of views whose rows are their own: copied, marked; sized with their sum. -/
import Derived.Test.YtelmchifpgaibaaDoorSAN
import Derived.Test.YtelmchifpgaibaaDoorSAL
import Derived.Test.YtelmchifpgaibaaDoorSAM
import Derived.Test.YtelmchifpgaibaaDoorSAG
import Derived.Test.YtelmchifpgaibaaDoorSAI
import Derived.Deep.RegionHeld3
import Derived.Deep.SlicePairs
import Derived.Lib.SmallJoins
import Derived.ProofKit
import Derived.OpenShut
namespace Go.Proofs.YtelmchifpgaibaaDoor
open Go.ChangeShapes Go.WideShapes Go.ChangeAt Go.RowKit
set_option linter.unusedVariables false

def ApV (x y : Vw) : Prop := ∀ g, (Value.slice x.a x.l.length x.c).ownBlock = some g → (Value.slice y.a y.l.length y.c).ownBlock ≠ some g
/-- Views in memory of their own. -/
structure OwnVs (w : World) (B : Nat) (b : Option Addr) (c : Nat) (M : List Vw) : Prop where
  o : w.ownsRow B 35 1 (.slice b M.length c) M.length (rowG vwC M)
  r : ∀ x ∈ M, OwnK w B x.a x.c x.l
  d : M.Pairwise ApV
  n : ∀ x ∈ M, ∀ g, (Value.slice b M.length c).ownBlock = some g → (Value.slice x.a x.l.length x.c).ownBlock ≠ some g
theorem OwnVs.rd {w : World} {B c : Nat} {b : Option Addr} {M : List Vw} (h : OwnVs w B b c M) : RdVs w b M := ⟨rdG_of_own encVw.len h.o rfl, fun x hx => (h.r x hx).rd, fun x hx => own_leV (h.r x hx)⟩
theorem OwnVs.later {w w' : World} {B c : Nat} {b : Option Addr} {M : List Vw} (h : OwnVs w B b c M) (hb : Below w.heap.size w w') : OwnVs w' B b c M := ⟨own_kept h.o hb, fun x hx => (h.r x hx).later hb, h.d, h.n⟩
theorem OwnVs.base {w : World} {B B' c : Nat} {b : Option Addr} {M : List Vw} (h : OwnVs w B b c M) (hB : B' ≤ B) : OwnVs w B' b c M := ⟨own_base h.o hB, fun x hx => (h.r x hx).base hB, h.d, h.n⟩
def sumV (L : List Vw) (i : Nat) : Nat := ((L.take i).map (fun x => x.l.length)).sum
theorem sumV_next (L : List Vw) (i : Nat) (h : i < L.length) : sumV L (i + 1) = sumV L i + L[i].l.length := by
  unfold sumV
  rw [List.take_succ_eq_append_getElem h, List.map_append, List.sum_append]
  simp
set_option maxRecDepth 100000 in
set_option maxHeartbeats 1000000 in
/-- Views are marked; what is not theirs stays. -/
theorem markIntSS_own (a : Option Addr) (M : List Vw) (ca B : Nat) (w : World) (hl : M.length ≤ 1048576) (hs : ∀ x ∈ M, x.l.length ≤ 1048576) (hsum : sumV M M.length ≤ 1048576) (hB : B ≤ w.heap.size) (hO : OwnVs w B a ca M) :
    Calls Tryd.prog 8 #[.slice a M.length ca, .int .i64 1] w fun e w' => (∃ q : Nat, e = .returned (.int .i64 (q : Int))) ∧ Below B w w' ∧ (∀ g, (∀ x ∈ M, (Value.slice x.a x.l.length x.c).ownBlock ≠ some g) → g < w.heap.size → w'.heap[g]? = w.heap[g]?) := by
  have HS := hide1 hs
  have HD := hide1 (List.pairwise_iff_getElem.1 hO.d)
  have HN := hide1 hO.n
  have HO := hide1 hO
  have MN := hide1 (fun i (h : i < M.length) => (show sumV M i + M[i].l.length ≤ 1048576 by
    have h1 := sumV_next M i h
    have h2 : sumV M (i + 1) ≤ sumV M M.length := by
      unfold sumV
      have e : M.take M.length = M.take (i + 1) ++ M.drop (i + 1) := by rw [List.take_length, List.take_append_drop]
      rw [e, List.map_append, List.sum_append]
      omega
    omega))
  clear hs hO hsum
  go_enter Tryd.func8, Tryd.ntmps8
  go_wp2
  go_loopw [1, 5] (fun kv iv wr => ∃ i k : Nat, i ≤ M.length ∧ iv = .int .i64 (i : Int) ∧ kv = .int .i64 (k : Int) ∧ Hid (k = 1 + sumV M i) ∧ Hid (∀ j (h : j < M.length), ∃ l' : List Int, l'.length = M[j].l.length ∧ OwnK wr B M[j].a M[j].c l') ∧ Hid (RdG vwC 1 wr a M) ∧ Hid (Below B w wr) ∧ Hid (∀ g, (∀ x ∈ M, (Value.slice x.a x.l.length x.c).ownBlock ≠ some g) → g < w.heap.size → wr.heap[g]? = w.heap[g]?)) (fun _ iv _ => M.length - (intOf iv).toNat)
  case atStart => exact ⟨0, 1, Nat.zero_le _, rfl, rfl, hide1 rfl, hide1 (fun j h => ⟨M[j].l, rfl, HO.out.r _ (List.getElem_mem h)⟩), hide1 HO.out.rd.r, hide1 (Below.refl _ _), hide1 (fun g _ _ => rfl)⟩
  case round =>
    obtain ⟨i, k, hi, rfl, rfl, HK, HV, HR, BB, HG⟩ := hrel
    by_cases hlt : i < M.length
    · have k1 : (i : Int) < (M.length : Int) := by omega
      obtain ⟨b, o, hab, hb, hc⟩ := HR.out i hlt
      have x0 : wr.cell? ⟨b, o + i, none⟩ = some (.slice M[i].a M[i].l.length M[i].c) := by have := hc 0 (by omega); rwa [Nat.mul_one, Nat.add_zero] at this
      obtain ⟨l', hl', hO'⟩ := HV.out i hlt
      have CM := hide1 (markIntS_any M[i].a M[i].c k B l' wr (by rw [hl']; exact HS.out _ (List.getElem_mem hlt)) (by have := HK.out; have := MN.out i hlt; omega) hO')
      rw [hl'] at CM
      have hk2 : (k : Int) + (M[i].l.length : Int) = ((k + M[i].l.length : Nat) : Int) := by omega
      rw [hk2] at CM
      obtain ⟨k', hk'⟩ : ∃ z, z = k + M[i].l.length := ⟨_, rfl⟩
      rw [← hk'] at CM
      have HK' := hide1 (show k' = 1 + sumV M (i + 1) by rw [sumV_next M i hlt]; have := HK.out; omega)
      have NX := hide1 (show ∀ w2 : World, w2.ownsRow B 3 1 (.slice M[i].a M[i].l.length M[i].c) M[i].l.length (iz (patZ k M[i].l.length)) → wr.grownBy w2 (Value.slice M[i].a M[i].l.length M[i].c).ownBlock → (∀ j (h : j < M.length), ∃ l' : List Int, l'.length = M[j].l.length ∧ OwnK w2 B M[j].a M[j].c l') ∧ RdG vwC 1 w2 a M ∧ Below B w w2 ∧ (∀ g, (∀ x ∈ M, (Value.slice x.a x.l.length x.c).ownBlock ≠ some g) → g < w.heap.size → w2.heap[g]? = w.heap[g]?) from fun w2 h1 h2 => by
        have hbl : ∀ g, (Value.slice M[i].a M[i].l.length M[i].c).ownBlock = some g → B ≤ g := fun g hg => ((HO.out.r _ (List.getElem_mem hlt)).lt g hg).1
        refine ⟨fun j hj => ?_, fun j hj => ?_, BB.out.trans (gbelow h2 hbl (by have := BB.out.size; omega)), fun g hg hgs => ?_⟩
        · by_cases e : j = i
          · subst e
            refine ⟨patZ k M[j].l.length, patZ_length _ _, ?_⟩
            unfold OwnK
            rw [patZ_length]
            exact h1
          · obtain ⟨l2, e2, o2⟩ := HV.out j hj
            refine ⟨l2, e2, gown h2 o2 (fun g hg e3 => ?_)⟩
            rw [e2] at hg
            by_cases c : j < i
            · exact HD.out j i hj hlt c g hg e3
            · exact HD.out i j hlt hj (by omega) g e3 hg
        · obtain ⟨b', o', e', hb', hc'⟩ := HR.out j hj
          refine ⟨b', o', e', Nat.lt_of_lt_of_le hb' h2.size, fun q hq => ?_⟩
          rw [← hc' q hq]
          refine World.cell?_of_block (h2.block b' hb' (fun e3 => ?_))
          have h5 := HN.out M[i] (List.getElem_mem hlt) b'
          have h6 : (Value.slice a M.length ca).ownBlock = some b' := by
            have ho := HO.out.o
            rcases ho.2 with ⟨hv, h0⟩ | ⟨g, cap, cur, hv, _⟩
            · rw [show M.length = 0 from h0] at hj; omega
            · injection hv with v1 v2 v3
              rw [e'] at v1
              injection v1 with v1
              injection v1 with v1 v4
              rw [e', v1, v4]
              rfl
          exact h5 h6 e3.symm
        · exact (h2.block g (Nat.lt_of_lt_of_le hgs BB.out.size) (fun e3 => hg _ (List.getElem_mem hlt) e3.symm)).trans (HG.out g hg hgs))
      generalize M[i] = s at *
      subst hab
      clear hc hO' hl' hk2 hk'
      go_wp2_with fail
      refine CM.out.mono ?_
      rintro e w2 ⟨rfl, h1, h2⟩
      have N2 := hide1 (NX.out w2 h1 h2)
      clear h1 h2 NX CM x0
      go_wp2
      go_roundw
      case rel => exact ⟨i + 1, k', by omega, by go_num, rfl, HK', hide1 N2.out.1, hide1 N2.out.2.1, hide1 N2.out.2.2.1, hide1 N2.out.2.2.2⟩
      case measure => simp [intOf]; omega
    · go_wp2
      go_ret
      exact ⟨⟨k, rfl⟩, BB.out, HG.out⟩
end Go.Proofs.YtelmchifpgaibaaDoor
namespace Go.Proofs.YtelmchifpgaibaaDoor
open Go.RowKit
set_option linter.unusedVariables false

theorem add_at (b o j : Nat) : (⟨b, o, none⟩ : Addr).add j = ⟨b, o + j, none⟩ := by unfold Addr.add; split <;> simp_all
/-- These cells stand from a place on. -/
def CsAt (w : World) (b o : Nat) (cs : Array Value) : Prop := ∀ j (h : j < cs.size), w.cell? ⟨b, o + j, none⟩ = some cs[j]
theorem CsAt.later {w w' : World} {b o : Nat} {cs : Array Value} (h : CsAt w b o cs) (hb : Below w.heap.size w w') (hl : b < w.heap.size) : CsAt w' b o cs := fun j hj => (hb.cell (p := ⟨b, o + j, none⟩) hl).trans (h j hj)
theorem BlkA.at {w : World} {g : Nat} {t : TypeId} {cs : Array Value} (h : BlkA w g t cs) : CsAt w g 0 cs := fun j hj => by rw [Nat.zero_add]; exact h.cell j (by simp [hj])
theorem run_loadVar_at {P : Program} {w : World} {b o : Nat} {ty : TypeId} {cs : Array Value} {d : TypeDesc} (h : CsAt w b o cs)
    (hu : P.underlying ty = some d) (hd : (match d with | .struct _ | .array _ _ => true | _ => false) = true) (hi : (P.info? ty).map (·.size) = some cs.size) :
    (loadVar ty ⟨b, o, none⟩).run P w = .ok (.agg cs) w := by
  have hl : (loadCells ⟨b, o, none⟩ cs.toList.length).run P w = .ok cs.toList.toArray w :=
    run_loadCells_list (P := P) w ⟨b, o, none⟩ cs.toList (fun j v hv => by
      rw [add_at]
      have hj : j < cs.size := by
        by_cases c : j < cs.size
        · exact c
        · rw [List.getElem?_eq_none (by simpa using Nat.le_of_not_lt c)] at hv; simp at hv
      rw [h j hj]
      simpa [hj] using hv)
  cases hq : P.info? ty with
  | none => simp [hq] at hi
  | some i =>
    have hs : i.size = cs.size := by simpa [hq] using hi
    have hagg : (isAgg ty).run P w = .ok true w := by
      unfold isAgg
      rw [Sem.run_bind, run_underlying hu w]
      cases d <;> simp_all
    simp only [Array.length_toList, Array.toArray_toList] at hl
    simp [loadVar, Sem.run_bind, hagg, sizeOf, typeInfo, hq, hs, hl]
theorem CsAt.load {P : Program} {w : World} {b o : Nat} {ty : TypeId} {cs : Array Value} {d : TypeDesc} (h : CsAt w b o cs) (hu : P.underlying ty = some d) (hd : (match d with | .struct _ | .array _ _ => true | _ => false) = true) (hi : (P.info? ty).map (·.size) = some cs.size) :
    (Instr.loadAt ty (.pointer (some ⟨b, o, none⟩))).run P w = .ok (.agg cs) w := by
  simp only [Instr.loadAt, Instr.sureAddr, Sem.run_bind, Sem.run_pure, Result.andThen_ok, run_loadVar_at h hu hd hi]
theorem wp_load_at {P : Program} {op : Oper} {a : Act} {w : World} {K : Act → World → Prop} {Q : Exit → Act → World → Prop} (ty : TypeId) (x : Operand) (ho : op.op = .load ty x)
    (b o : Nat) (hx : a.eval x = .pointer (some ⟨b, o, none⟩)) (cs : Array Value) (d : TypeDesc) (hg : CsAt w b o cs)
    (hu : P.underlying ty = some d) (hd : (match d with | .struct _ | .array _ _ => true | _ => false) = true) (hi : (P.info? ty).map (·.size) = some cs.size)
    (h : K (a.put op.dst (.agg cs)) w) : op.wp P a w K Q := by
  unfold Oper.wp execOp
  simp only [ho, hx, Sem.run_bind, hg.load hu hd hi, Result.andThen_ok, Sem.run_pure]
  exact h
theorem wpList_load_at {P : Program} {ops : Array Oper} {rest : List Oper} {op : Oper} {a : Act} {w : World} {Q : Exit → Act → World → Prop} (hgd : Region.wanted op (yielded ops a.tmps) = true) (ty : TypeId) (x : Operand) (ho : op.op = .load ty x)
    (b o : Nat) (hx : a.eval x = .pointer (some ⟨b, o, none⟩)) (cs : Array Value) (d : TypeDesc) (hg : CsAt w b o cs)
    (hu : P.underlying ty = some d) (hd : (match d with | .struct _ | .array _ _ => true | _ => false) = true) (hi : (P.info? ty).map (·.size) = some cs.size)
    (h : wpList P ops Q rest (a.put op.dst (.agg cs)) w) : wpList P ops Q (op :: rest) a w :=
  wpList_step fun K hK => by rw [if_pos hgd]; exact wp_load_at ty x ho b o hx cs d hg hu hd hi (hK _ _ h)
theorem yieldsIf_loadX {P : Program} {ops : Array Oper} {S : World → Prop} {op : Oper} {a : Act} (hw : Region.wanted op (yielded ops a.tmps) = true) (ty : TypeId) (x : Operand) (ho : op.op = .load ty x)
    (b o : Nat) (hx : a.eval x = .pointer (some ⟨b, o, none⟩)) (cs : Array Value) (hS : ∀ w, S w → (Instr.loadAt ty (.pointer (some ⟨b, o, none⟩))).run P w = .ok (.agg cs) w) : YieldsIf P ops S op (.agg cs) a :=
  .inl ⟨hw, fun w h => by
    unfold execOp
    simp only [ho, hx, Sem.run_bind, Sem.run_pure, Result.andThen_ok, hS w h]⟩
/-- Cells are there to be written. -/
def WrAt (w : World) (b o n : Nat) : Prop := ∀ j, j < n → (∃ u, w.cell? ⟨b, o + j, none⟩ = some u) ∧ w.frozen? ⟨b, o + j, none⟩ = false
theorem cell_set_ne (w : World) (b i j : Nat) (v : Value) (h : i ≠ j) : (w.setCell ⟨b, j, none⟩ v).cell? ⟨b, i, none⟩ = w.cell? ⟨b, i, none⟩ := World.cell?_setCell_other w ⟨b, j, none⟩ ⟨b, i, none⟩ v (by intro e; injection e with _ e; exact h e.symm)
theorem run_storeCells_at {P : Program} (b o : Nat) : ∀ (vs : List Value) (i : Nat) (w : World), WrAt w b (o + i) vs.length → (∀ v ∈ vs, v.oneCell' = true) → (storeCells ⟨b, o, none⟩ vs i).run P w = .ok () (putG w b (o + i) vs)
  | [], i, w, _, _ => rfl
  | v :: rest, i, w, hw, h1 => by
    obtain ⟨⟨u, hc⟩, hf⟩ := hw 0 (by simp)
    rw [Nat.add_zero] at hc hf
    have hst : (store ((⟨b, o, none⟩ : Addr).add i) v).run P w = .ok () (w.setCell ⟨b, o + i, none⟩ v) := by
      rw [add_at, run_store P w _ v _ (h1 v (by simp)), hc]
      simp [hf]
    have ih := run_storeCells_at (P := P) b o rest (i + 1) (w.setCell ⟨b, o + i, none⟩ v) (fun j hj => by
      obtain ⟨⟨u2, hc2⟩, hf2⟩ := hw (j + 1) (by simp; omega)
      rw [show o + (i + 1) + j = o + i + (j + 1) by omega]
      exact ⟨⟨u2, (cell_set_ne w b _ _ v (by omega)).trans hc2⟩, by rw [World.frozen?_setCell]; exact hf2⟩) (fun x hx => h1 x (by simp [hx]))
    simp only [storeCells, Sem.run_bind, hst, Result.andThen_ok, ih]
    rfl
theorem run_storeVar_at {P : Program} {w : World} {b o : Nat} {ty : TypeId} {cs : Array Value} (h : WrAt w b o cs.size) (hi : (P.info? ty).map (·.size) = some cs.size) (h1 : cs.all (·.oneCell') = true) :
    (storeVar ty ⟨b, o, none⟩ (.agg cs)).run P w = .ok () (putG w b o cs.toList) := by
  have := run_storeCells_at (P := P) b o cs.toList 0 w (by simpa using h) (fun v hv => (Array.all_eq_true_iff_forall_mem.1 h1) v (by simpa using hv))
  cases hq : P.info? ty with
  | none => simp [hq] at hi
  | some i =>
    have hs : cs.size = i.size := by simp [hq] at hi; omega
    rw [Nat.add_zero] at this
    simp [storeVar, sizeOf, typeInfo, hq, Value.cells, hs, this]
theorem wp_store_at {P : Program} {op : Oper} {a : Act} {w : World} {K : Act → World → Prop} {Q : Exit → Act → World → Prop} (ty : TypeId) (x y : Operand) (ho : op.op = .store ty x y)
    (b o : Nat) (cs : Array Value) (hx : a.eval x = .pointer (some ⟨b, o, none⟩)) (hy : a.eval y = .agg cs) (hw : WrAt w b o cs.size) (hi : (P.info? ty).map (·.size) = some cs.size) (h1 : cs.all (·.oneCell') = true)
    (h : K (a.put op.dst undef) (putG w b o cs.toList)) : op.wp P a w K Q := by
  unfold Oper.wp execOp
  simp only [ho, hx, hy, Instr.storeAt, Instr.sureAddr, Sem.run_bind, Sem.run_pure, Result.andThen_ok, run_storeVar_at hw hi h1]
  exact h
theorem wpList_store_at {P : Program} {ops : Array Oper} {rest : List Oper} {op : Oper} {a : Act} {w : World} {Q : Exit → Act → World → Prop} (hgd : op.guard = none) (ty : TypeId) (x y : Operand) (ho : op.op = .store ty x y)
    (b o : Nat) (cs : Array Value) (hx : a.eval x = .pointer (some ⟨b, o, none⟩)) (hy : a.eval y = .agg cs) (hw : WrAt w b o cs.size) (hi : (P.info? ty).map (·.size) = some cs.size) (h1 : cs.all (·.oneCell') = true)
    (h : wpList P ops Q rest (a.put op.dst undef) (putG w b o cs.toList)) : wpList P ops Q (op :: rest) a w :=
  wpList_plain hgd fun _ hK => wp_store_at ty x y ho b o cs hx hy hw hi h1 (hK _ _ h)
theorem step_store_at {P : Program} {ops : Array Oper} {op : Oper} {a : Act} {w : World} {K : Act → World → Prop} {Q : Exit → Act → World → Prop} {D : Prop} (hgd : op.guard = none) (ty : TypeId) (x y : Operand) (ho : op.op = .store ty x y)
    (b o : Nat) (cs : Array Value) (hx : a.eval x = .pointer (some ⟨b, o, none⟩)) (hy : a.eval y = .agg cs) (hw : WrAt w b o cs.size) (hi : (P.info? ty).map (·.size) = some cs.size) (h1 : cs.all (·.oneCell') = true)
    (h : K (a.put op.dst undef) (putG w b o cs.toList)) : if Region.wanted op (yielded ops a.tmps) = true then Oper.wp P op a w K Q else D := by
  rw [if_pos (by unfold Region.wanted; rw [hgd])]
  exact wp_store_at ty x y ho b o cs hx hy hw hi h1 h
theorem grown_putG : ∀ (vs : List Value) {w w' : World} {g : Nat} (m : Nat), w.grownBy w' (some g) → w.grownBy (putG w' g m vs) (some g)
  | [], _, _, _, _, h => h
  | v :: vs, w, w', g, m, h => grown_putG vs (m + 1) (gset h m v)
theorem run_storeC {P : Program} {w : World} {b o : Nat} {cs : Array Value} (h : WrAt w b o cs.size) (h1 : cs.all (·.oneCell') = true) : (storeCells ⟨b, o, none⟩ cs.toList).run P w = .ok () (putG w b o cs.toList) := by
  have := run_storeCells_at (P := P) b o cs.toList 0 w (by simpa using h) (fun v hv => (Array.all_eq_true_iff_forall_mem.1 h1) v (by simpa using hv))
  rw [Nat.add_zero] at this
  exact this
/-- A row that is one's own can be written. -/
theorem wr_of_own {w : World} {B g n cap k : Nat} {e : TypeId} {xs : List Value} (h : w.ownsRow B e k (.slice (some ⟨g, 0, none⟩) n cap) n xs) (o m : Nat) (hm : o + m ≤ n * k) : WrAt w g o m := fun j hj => by
  have hl := h.1
  obtain ⟨u, hu⟩ := own_some h (o + j) (by omega)
  exact ⟨⟨u, hu⟩, h.frozenAt (o + j)⟩
/-- An element of a row that is read. -/
theorem RdG.at {α : Type} {enc : α → List Value} {k : Nat} {w : World} {a : Option Addr} {l : List α} (E : EncK enc k) (h : RdG enc k w a l) (i : Nat) (hi : i < l.length) : ∃ b o, a = some ⟨b, o, none⟩ ∧ b < w.heap.size ∧ CsAt w b (o + i * k) (enc l[i]).toArray := by
  obtain ⟨b, o, ha, hb, hc⟩ := h i hi
  refine ⟨b, o, ha, hb, fun j hj => ?_⟩
  have hj' : j < (enc l[i]).length := by simpa using hj
  rw [hc j (by rw [← E.len l[i]]; exact hj')]
  simp [hj']
theorem zipIdx_fill (cs base : List Value) (off : Nat) : (cs.zipIdx.foldl (fun acc (x : Value × Nat) => acc.setIfInBounds (off + x.2) x.1) base.toArray) = (setL base off cs).toArray := by
  have key : ∀ (cs : List Value) (s : Nat) (base : List Value), ((cs.zipIdx s).foldl (fun acc (x : Value × Nat) => acc.setIfInBounds (off + x.2) x.1) base.toArray) = (setL base (off + s) cs).toArray := by
    intro cs
    induction cs with
    | nil => intro s base; rfl
    | cons v cs ih =>
      intro s base
      rw [List.zipIdx_cons, List.foldl_cons]
      dsimp only
      rw [List.setIfInBounds_toArray, ih (s + 1), setL, Nat.add_assoc]
  exact key cs 0 base
/-- A slice of one struct, laid as a literal. -/
theorem run_buildSlice1 {P : Program} {w : World} {t e : TypeId} {cs : Array Value} {i : TypeInfo} {z : Value} (ht : P.underlying t = some (.slice e)) (hi : P.info? e = some i) (hz : i.zero = some z) (hzs : z.cells.size = cs.size) (hs : i.size = cs.size) (h0 : 0 < cs.size) (hm : cs.size ≤ 16777216) :
    (Instr.buildSlice t 1 #[(0, .agg cs)]).run P w = .ok (.slice (some ⟨w.heap.size, 0, none⟩) 1 1) (w.alloc (.cells cs e)) := by
  obtain ⟨cl⟩ := cs
  have hfill : ∀ ba : List Value, ba.length = cl.length → Instr.fill (fun i => some (i * cl.length, cl.length)) ba.toArray [(0, Value.agg ⟨cl⟩)] = some ⟨cl⟩ := by
    intro ba hb
    have e1 := zipIdx_fill cl ba 0
    rw [setL_eq cl ba 0 (by omega), List.take_zero, List.nil_append, Nat.zero_add, ← hb, List.drop_length, List.append_nil] at e1
    simp only [Instr.fill, Value.cells, Nat.zero_mul, List.size_toArray]
    rw [if_neg (by simp; omega)]
    congr 1
    refine Eq.trans ?_ e1
    rw [show ({ toList := cl } : Array Value).zipIdx = cl.zipIdx.toArray from by apply Array.toList_inj.1; simp]
    simp
  have hs' : i.size = cl.length := hs
  have h0' : 0 < cl.length := h0
  have hm' : cl.length ≤ 16777216 := hm
  have hb9 : ((Array.range cl.length).map (z.cells[· % z.cells.size]!)) = (((Array.range cl.length).map (z.cells[· % z.cells.size]!)).toList).toArray := (Array.toArray_toList).symm
  have hf := hfill (((Array.range cl.length).map (z.cells[· % z.cells.size]!)).toList) (by simp)
  rw [← hb9] at hf
  simp [Instr.buildSlice, Sem.run_bind, run_underlying ht, sizeOf, typeInfo, hi, hs', zeroValue, hz, show ¬ 2 ^ 24 < cl.length by omega, show ¬ cl.length = 0 by omega]
  rw [hf]
  simp [newRow, newObj]
  rfl
theorem wpList_lit1 {P : Program} {ops : Array Oper} {rest : List Oper} {op : Oper} {a : Act} {w : World} {Q : Exit → Act → World → Prop} (hgd : op.guard = none) (t e : TypeId) (x : Operand) (ho : op.op = .buildSlice t 1 #[(0, x)]) (cs : Array Value) (hx : a.eval x = .agg cs)
    {i : TypeInfo} {z : Value} (ht : P.underlying t = some (.slice e)) (hi : P.info? e = some i) (hz : i.zero = some z) (hzs : z.cells.size = cs.size) (hs : i.size = cs.size) (h0 : 0 < cs.size) (hm : cs.size ≤ 16777216)
    (h : wpList P ops Q rest (a.put op.dst (.slice (some ⟨w.heap.size, 0, none⟩) 1 1)) (w.alloc (.cells cs e))) : wpList P ops Q (op :: rest) a w :=
  wpList_plain hgd fun _ hK => by
    unfold Oper.wp execOp
    have hr := run_buildSlice1 (P := P) (w := w) ht hi hz hzs hs h0 hm
    have hm9 : (#[((0 : Nat), x)].map fun (i, x) => (i, a.eval x)) = #[(0, .agg cs)] := by simp [hx]
    simp only [ho, hm9, Sem.run_bind, hr, Result.andThen_ok, Sem.run_pure]
    exact hK _ _ h
end Go.Proofs.YtelmchifpgaibaaDoor
namespace Go.Proofs.YtelmchifpgaibaaDoor
open Go.ChangeShapes Go.WideShapes Go.ChangeAt Go.RowKit Go.Deep Go.Joins
set_option linter.unusedVariables false

def wfItem (s : Im) : Prop := s.k.size ≤ maxLen ∧ s.v.size ≤ maxLen ∧ (-9223372036854775808 ≤ s.n ∧ s.n ≤ 9223372036854775807)
instance : Inhabited Im := ⟨(⟨⟨#[]⟩, ⟨#[]⟩, 0⟩ : Im)⟩
end Go.Proofs.YtelmchifpgaibaaDoor
namespace Go.Proofs.YtelmchifpgaibaaDoor
open Go.ChangeShapes Go.WideShapes Go.ChangeAt Go.RowKit
end Go.Proofs.YtelmchifpgaibaaDoor
