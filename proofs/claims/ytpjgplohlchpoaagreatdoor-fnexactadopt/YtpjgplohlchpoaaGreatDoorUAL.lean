/- Structs of many cells, loaded and stored as a whole: their cells as one letter. -/
import Derived.Test.YtpjgplohlchpoaaGreatDoorUAK
import Derived.Laws.Rows
import Derived.Laws.Tables
import Derived.Deep.RegionHeld3
import Derived.Test.YtpjgplohlchpoaaGreatDoorUAI
import Derived.Test.YtpjgplohlchpoaaGreatDoorUAH
import Derived.Test.YtpjgplohlchpoaaGreatDoorUAD
namespace Go.Proofs.YtpjgplohlchpoaaGreatDoor
open Go.RowKit
set_option linter.unusedVariables false

/-- A member's cells. -/
def mbA (m : Mb) (A : MA) : Array Value := #[.int .i64 m.id, .int .i64 m.ep, .bool m.fe, .bool m.ba, .bool m.le, .bool m.se, .slice A.wa m.wa.length A.wc, .slice A.ia m.is.length A.ic, .int .i64 m.cn, .int .i64 m.tk.op, .int .i64 m.tk.cl, .int .i64 m.tk.nu, .string m.tk.it.k, .string m.tk.it.v, .int .i64 m.tk.it.n, .slice A.la m.tk.lf.length A.lc]
def zMb : Array Value := #[.int .i64 0, .int .i64 0, .bool false, .bool false, .bool false, .bool false, .slice none 0 0, .slice none 0 0, .int .i64 0, .int .i64 0, .int .i64 0, .int .i64 0, .string ⟨#[]⟩, .string ⟨#[]⟩, .int .i64 0, .slice none 0 0]
theorem mbV_A (m : Mb) (A : MA) : mbV m A = .agg (mbA m A) := rfl
theorem sizeMb : (Tryz.prog.info? 38).map (·.size) = some 16 := by kernel_rfl
theorem sizeMbL : (Tryz.prog.info? 29).map (·.size) = some 16 := by kernel_rfl
theorem oneMb (m : Mb) (A : MA) : (mbA m A).all (·.oneCell') = true := by simp [mbA, Value.oneCell']
theorem lenMb (m : Mb) (A : MA) : (mbA m A).size = 16 := rfl
theorem toMb_A (m : Mb) (A : MA) (w : World) (hl : SzMb m) (hA : RdMb w m A) :
    Calls Tryz.prog 7 #[.agg (mbA m A)] w fun r w' => ∃ B : MA, r = .returned (.agg (mbA m B)) ∧ OwnMb w' w.heap.size m B ∧ Below w.heap.size w w' := toMember_any m A w hl hA
theorem eqMb_A (m : Mb) (A B : MA) (w : World) (hl : SzMb m) (hA : RdMb w m A) (hB : RdMb w m B) :
    Calls Tryz.prog 10 #[.agg (mbA m A), .agg (mbA m B)] w fun r w' => r = .returned (.bool true) ∧ Below w.heap.size w w' := eqMember_same m A B w hl hA hB
theorem markMb_A (m : Mb) (A : MA) (q B : Nat) (w : World) (hl : SzMb m) (hq : q ≤ 16777216) (hq0 : 0 < q) (hB : B ≤ w.heap.size) (hown : OwnMb w B m A) :
    Calls Tryz.prog 13 #[.agg (mbA m A), .int .i64 (q : Int)] w fun r w' => r = .returned (.int .i64 (mkN m q : Int)) ∧ OwnMb w' B (mkMb m q) A ∧ Below B w w' ∧ (∀ g t cs, BlkA w g t cs → OffMb m A g → BlkA w' g t cs) := (markMember_own m A q B w hl hq hq0 hB hown).mono (fun r w' h => ⟨h.1, h.2.1, h.2.2.1, fun g t cs hb ho => by have := (h.2.2.2 g t cs.toList hb.blk ho).arr; simpa using this⟩)
theorem heldMb_A (m : Mb) (A : MA) (q : Nat) (w : World) (hl : SzMb m) (hq : q ≤ 16777216) (hq0 : 0 < q) (hA : RdMb w (mkMb m q) A) :
    Calls Tryz.prog 16 #[.agg (mbA m A), .int .i64 (q : Int)] w fun r w' => r = .returned (.int .i64 (mkN m q : Int)) ∧ Below w.heap.size w w' := heldMember_own m A q w hl hq hq0 hA
end Go.Proofs.YtpjgplohlchpoaaGreatDoor
namespace Go.Proofs.YtpjgplohlchpoaaGreatDoor
open Go.RowKit
set_option linter.unusedVariables false

/-- The cells of a seat: the guard's two, the views, the member's sixteen, what is told, what is said. -/
def seatA (q0 q1 v : Value) (m : Mb) (A : MA) (td sd : Value) : Array Value := #[q0, q1, v, .int .i64 m.id, .int .i64 m.ep, .bool m.fe, .bool m.ba, .bool m.le, .bool m.se, .slice A.wa m.wa.length A.wc, .slice A.ia m.is.length A.ic, .int .i64 m.cn, .int .i64 m.tk.op, .int .i64 m.tk.cl, .int .i64 m.tk.nu, .string m.tk.it.k, .string m.tk.it.v, .int .i64 m.tk.it.n, .slice A.la m.tk.lf.length A.lc, td, sd]
theorem sizeSeat : (Tryz.prog.info? 94).map (·.size) = some 21 := by kernel_rfl
set_option maxRecDepth 100000 in
theorem implOthers_any (X : Nat) (q0 q1 v td sd : Value) (m : Mb) (A : MA) (a : Option Addr) (l : List Int) (ca : Nat) (w : World) (hX : BlkA w X 94 (seatA q0 q1 v m A td sd)) (hl : l.length ≤ 1000000) (hA : RdZ w a l) :
    Calls Tryz.prog 59 #[.pointer (some ⟨X, 0, none⟩), .slice a l.length ca] w fun e w' => ∃ b c, e = .returned (.slice b (wthV l m.id).length c) ∧ OwnK w' w.heap.size b c (wthV l m.id) ∧ Below w.heap.size w w' := by
  have x3 : w.cell? ⟨X, 3, none⟩ = some (.int .i64 m.id) := hX.cell 3 rfl
  have C := hide1 (implWithout_any a l ca m.id w hl hA)
  clear hX hA
  go_enter Tryz.func59, Tryz.ntmps59
  go_wp2_with (go_at_call 78; refine C.out.mono ?_; rintro e w2 ⟨b, c, rfl, ho, hb⟩; have HO := hide1 ho; have HB := hide1 hb; clear ho hb)
  go_ret
  exact ⟨b, c, rfl, HO.out, HB.out⟩
set_option maxRecDepth 100000 in
theorem implViewOf_any (X : Nat) (q0 q1 td sd : Value) (m : Mb) (A : MA) (va : Option Addr) (L : List Vw) (vc : Nat) (k : Nat) (hk : k < L.length) (w : World) (hX : BlkA w X 94 (seatA q0 q1 (.slice va L.length vc) m A td sd)) (hL : L.length ≤ 1048576) (hV : RdVs w va L) :
    Calls Tryz.prog 60 #[.pointer (some ⟨X, 0, none⟩), .int .i64 ((k : Int) + 1)] w fun e w' => e = .returned (.slice L[k].a L[k].l.length L[k].c) ∧ w' = w := by
  have x2 : w.cell? ⟨X, 2, none⟩ = some (.slice va L.length vc) := hX.cell 2 rfl
  obtain ⟨ab, ao, rfl, hab, hac⟩ := hV.r k hk
  have y0 : w.cell? ⟨ab, ao + k, none⟩ = some (.slice L[k].a L[k].l.length L[k].c) := by have := hac 0 (by omega); rw [Nat.mul_one, Nat.add_zero] at this; exact this
  have wk : IntKind.i64.wrap ((k : Int) + 1 - 1) = (k : Int) := by rw [IntKind.wrap_i64]; omega
  have k1 : (k : Int) < (L.length : Int) := by omega
  clear hX hV hac
  go_enter Tryz.func60, Tryz.ntmps60
  go_wp2
  go_ret
  exact ⟨rfl, rfl⟩
end Go.Proofs.YtpjgplohlchpoaaGreatDoor
namespace Go.Proofs.YtpjgplohlchpoaaGreatDoor
open Go.RowKit
set_option linter.unusedVariables false

theorem add_at (b o j : Nat) : (⟨b, o, none⟩ : Addr).add j = ⟨b, o + j, none⟩ := by unfold Addr.add; split <;> simp_all
/-- These cells stand from a place on. -/
def CsAt (w : World) (b o : Nat) (cs : Array Value) : Prop := ∀ j (h : j < cs.size), w.cell? ⟨b, o + j, none⟩ = some cs[j]
theorem CsAt.later {w w' : World} {b o : Nat} {cs : Array Value} (h : CsAt w b o cs) (hb : Below w.heap.size w w') (hl : b < w.heap.size) : CsAt w' b o cs := fun j hj => (hb.cell (p := ⟨b, o + j, none⟩) hl).trans (h j hj)
theorem BlkA.at {w : World} {g : Nat} {t : TypeId} {cs : Array Value} (h : BlkA w g t cs) : CsAt w g 0 cs := fun j hj => by rw [Nat.zero_add]; exact h.cell j (by simp [hj])
theorem run_loadVar_at {P : Program} {w : World} {b o : Nat} {ty : TypeId} {cs : Array Value} {d : TypeDesc} (h : CsAt w b o cs)
    (hu : P.underlying ty = some d) (hd : (match d with | .struct _ | .array _ _ => true | _ => false) = true) (hi : (P.info? ty).map (·.size) = some cs.size) :
    (loadVar ty ⟨b, o, none⟩).run P w = .ok (.agg cs) w := by
  have hl : (loadCells ⟨b, o, none⟩ cs.toList.length).run P w = .ok cs.toList.toArray w :=
    run_loadCells_list (P := P) w ⟨b, o, none⟩ cs.toList (fun j v hv => by
      rw [add_at]
      have hj : j < cs.size := by
        by_cases c : j < cs.size
        · exact c
        · rw [List.getElem?_eq_none (by simpa using Nat.le_of_not_lt c)] at hv; simp at hv
      rw [h j hj]
      simpa [hj] using hv)
  cases hq : P.info? ty with
  | none => simp [hq] at hi
  | some i =>
    have hs : i.size = cs.size := by simpa [hq] using hi
    have hagg : (isAgg ty).run P w = .ok true w := by
      unfold isAgg
      rw [Sem.run_bind, run_underlying hu w]
      cases d <;> simp_all
    simp only [Array.length_toList, Array.toArray_toList] at hl
    simp [loadVar, Sem.run_bind, hagg, sizeOf, typeInfo, hq, hs, hl]
theorem CsAt.load {P : Program} {w : World} {b o : Nat} {ty : TypeId} {cs : Array Value} {d : TypeDesc} (h : CsAt w b o cs) (hu : P.underlying ty = some d) (hd : (match d with | .struct _ | .array _ _ => true | _ => false) = true) (hi : (P.info? ty).map (·.size) = some cs.size) :
    (Instr.loadAt ty (.pointer (some ⟨b, o, none⟩))).run P w = .ok (.agg cs) w := by
  simp only [Instr.loadAt, Instr.sureAddr, Sem.run_bind, Sem.run_pure, Result.andThen_ok, run_loadVar_at h hu hd hi]
theorem wp_load_at {P : Program} {op : Oper} {a : Act} {w : World} {K : Act → World → Prop} {Q : Exit → Act → World → Prop} (ty : TypeId) (x : Operand) (ho : op.op = .load ty x)
    (b o : Nat) (hx : a.eval x = .pointer (some ⟨b, o, none⟩)) (cs : Array Value) (d : TypeDesc) (hg : CsAt w b o cs)
    (hu : P.underlying ty = some d) (hd : (match d with | .struct _ | .array _ _ => true | _ => false) = true) (hi : (P.info? ty).map (·.size) = some cs.size)
    (h : K (a.put op.dst (.agg cs)) w) : op.wp P a w K Q := by
  unfold Oper.wp execOp
  simp only [ho, hx, Sem.run_bind, hg.load hu hd hi, Result.andThen_ok, Sem.run_pure]
  exact h
theorem wpList_load_at {P : Program} {ops : Array Oper} {rest : List Oper} {op : Oper} {a : Act} {w : World} {Q : Exit → Act → World → Prop} (hgd : Region.wanted op (yielded ops a.tmps) = true) (ty : TypeId) (x : Operand) (ho : op.op = .load ty x)
    (b o : Nat) (hx : a.eval x = .pointer (some ⟨b, o, none⟩)) (cs : Array Value) (d : TypeDesc) (hg : CsAt w b o cs)
    (hu : P.underlying ty = some d) (hd : (match d with | .struct _ | .array _ _ => true | _ => false) = true) (hi : (P.info? ty).map (·.size) = some cs.size)
    (h : wpList P ops Q rest (a.put op.dst (.agg cs)) w) : wpList P ops Q (op :: rest) a w :=
  wpList_step fun K hK => by rw [if_pos hgd]; exact wp_load_at ty x ho b o hx cs d hg hu hd hi (hK _ _ h)
theorem yieldsIf_loadX {P : Program} {ops : Array Oper} {S : World → Prop} {op : Oper} {a : Act} (hw : Region.wanted op (yielded ops a.tmps) = true) (ty : TypeId) (x : Operand) (ho : op.op = .load ty x)
    (b o : Nat) (hx : a.eval x = .pointer (some ⟨b, o, none⟩)) (cs : Array Value) (hS : ∀ w, S w → (Instr.loadAt ty (.pointer (some ⟨b, o, none⟩))).run P w = .ok (.agg cs) w) : YieldsIf P ops S op (.agg cs) a :=
  .inl ⟨hw, fun w h => by
    unfold execOp
    simp only [ho, hx, Sem.run_bind, Sem.run_pure, Result.andThen_ok, hS w h]⟩
/-- Cells are there to be written. -/
def WrAt (w : World) (b o n : Nat) : Prop := ∀ j, j < n → (∃ u, w.cell? ⟨b, o + j, none⟩ = some u) ∧ w.frozen? ⟨b, o + j, none⟩ = false
theorem cell_set_ne (w : World) (b i j : Nat) (v : Value) (h : i ≠ j) : (w.setCell ⟨b, j, none⟩ v).cell? ⟨b, i, none⟩ = w.cell? ⟨b, i, none⟩ := World.cell?_setCell_other w ⟨b, j, none⟩ ⟨b, i, none⟩ v (by intro e; injection e with _ e; exact h e.symm)
theorem run_storeCells_at {P : Program} (b o : Nat) : ∀ (vs : List Value) (i : Nat) (w : World), WrAt w b (o + i) vs.length → (∀ v ∈ vs, v.oneCell' = true) → (storeCells ⟨b, o, none⟩ vs i).run P w = .ok () (putG w b (o + i) vs)
  | [], i, w, _, _ => rfl
  | v :: rest, i, w, hw, h1 => by
    obtain ⟨⟨u, hc⟩, hf⟩ := hw 0 (by simp)
    rw [Nat.add_zero] at hc hf
    have hst : (store ((⟨b, o, none⟩ : Addr).add i) v).run P w = .ok () (w.setCell ⟨b, o + i, none⟩ v) := by
      rw [add_at, run_store P w _ v _ (h1 v (by simp)), hc]
      simp [hf]
    have ih := run_storeCells_at (P := P) b o rest (i + 1) (w.setCell ⟨b, o + i, none⟩ v) (fun j hj => by
      obtain ⟨⟨u2, hc2⟩, hf2⟩ := hw (j + 1) (by simp; omega)
      rw [show o + (i + 1) + j = o + i + (j + 1) by omega]
      exact ⟨⟨u2, (cell_set_ne w b _ _ v (by omega)).trans hc2⟩, by rw [World.frozen?_setCell]; exact hf2⟩) (fun x hx => h1 x (by simp [hx]))
    simp only [storeCells, Sem.run_bind, hst, Result.andThen_ok, ih]
    rfl
theorem run_storeVar_at {P : Program} {w : World} {b o : Nat} {ty : TypeId} {cs : Array Value} (h : WrAt w b o cs.size) (hi : (P.info? ty).map (·.size) = some cs.size) (h1 : cs.all (·.oneCell') = true) :
    (storeVar ty ⟨b, o, none⟩ (.agg cs)).run P w = .ok () (putG w b o cs.toList) := by
  have := run_storeCells_at (P := P) b o cs.toList 0 w (by simpa using h) (fun v hv => (Array.all_eq_true_iff_forall_mem.1 h1) v (by simpa using hv))
  cases hq : P.info? ty with
  | none => simp [hq] at hi
  | some i =>
    have hs : cs.size = i.size := by simp [hq] at hi; omega
    rw [Nat.add_zero] at this
    simp [storeVar, sizeOf, typeInfo, hq, Value.cells, hs, this]
theorem wp_store_at {P : Program} {op : Oper} {a : Act} {w : World} {K : Act → World → Prop} {Q : Exit → Act → World → Prop} (ty : TypeId) (x y : Operand) (ho : op.op = .store ty x y)
    (b o : Nat) (cs : Array Value) (hx : a.eval x = .pointer (some ⟨b, o, none⟩)) (hy : a.eval y = .agg cs) (hw : WrAt w b o cs.size) (hi : (P.info? ty).map (·.size) = some cs.size) (h1 : cs.all (·.oneCell') = true)
    (h : K (a.put op.dst undef) (putG w b o cs.toList)) : op.wp P a w K Q := by
  unfold Oper.wp execOp
  simp only [ho, hx, hy, Instr.storeAt, Instr.sureAddr, Sem.run_bind, Sem.run_pure, Result.andThen_ok, run_storeVar_at hw hi h1]
  exact h
theorem wpList_store_at {P : Program} {ops : Array Oper} {rest : List Oper} {op : Oper} {a : Act} {w : World} {Q : Exit → Act → World → Prop} (hgd : op.guard = none) (ty : TypeId) (x y : Operand) (ho : op.op = .store ty x y)
    (b o : Nat) (cs : Array Value) (hx : a.eval x = .pointer (some ⟨b, o, none⟩)) (hy : a.eval y = .agg cs) (hw : WrAt w b o cs.size) (hi : (P.info? ty).map (·.size) = some cs.size) (h1 : cs.all (·.oneCell') = true)
    (h : wpList P ops Q rest (a.put op.dst undef) (putG w b o cs.toList)) : wpList P ops Q (op :: rest) a w :=
  wpList_plain hgd fun _ hK => wp_store_at ty x y ho b o cs hx hy hw hi h1 (hK _ _ h)
theorem step_store_at {P : Program} {ops : Array Oper} {op : Oper} {a : Act} {w : World} {K : Act → World → Prop} {Q : Exit → Act → World → Prop} {D : Prop} (hgd : op.guard = none) (ty : TypeId) (x y : Operand) (ho : op.op = .store ty x y)
    (b o : Nat) (cs : Array Value) (hx : a.eval x = .pointer (some ⟨b, o, none⟩)) (hy : a.eval y = .agg cs) (hw : WrAt w b o cs.size) (hi : (P.info? ty).map (·.size) = some cs.size) (h1 : cs.all (·.oneCell') = true)
    (h : K (a.put op.dst undef) (putG w b o cs.toList)) : if Region.wanted op (yielded ops a.tmps) = true then Oper.wp P op a w K Q else D := by
  rw [if_pos (by unfold Region.wanted; rw [hgd])]
  exact wp_store_at ty x y ho b o cs hx hy hw hi h1 h
theorem grown_putG : ∀ (vs : List Value) {w w' : World} {g : Nat} (m : Nat), w.grownBy w' (some g) → w.grownBy (putG w' g m vs) (some g)
  | [], _, _, _, _, h => h
  | v :: vs, w, w', g, m, h => grown_putG vs (m + 1) (gset h m v)
theorem run_storeC {P : Program} {w : World} {b o : Nat} {cs : Array Value} (h : WrAt w b o cs.size) (h1 : cs.all (·.oneCell') = true) : (storeCells ⟨b, o, none⟩ cs.toList).run P w = .ok () (putG w b o cs.toList) := by
  have := run_storeCells_at (P := P) b o cs.toList 0 w (by simpa using h) (fun v hv => (Array.all_eq_true_iff_forall_mem.1 h1) v (by simpa using hv))
  rw [Nat.add_zero] at this
  exact this
/-- A row that is one's own can be written. -/
theorem wr_of_own {w : World} {B g n cap k : Nat} {e : TypeId} {xs : List Value} (h : w.ownsRow B e k (.slice (some ⟨g, 0, none⟩) n cap) n xs) (o m : Nat) (hm : o + m ≤ n * k) : WrAt w g o m := fun j hj => by
  have hl := h.1
  obtain ⟨u, hu⟩ := own_some h (o + j) (by omega)
  exact ⟨⟨u, hu⟩, h.frozenAt (o + j)⟩
/-- An element of a row that is read. -/
theorem RdG.at {α : Type} {enc : α → List Value} {k : Nat} {w : World} {a : Option Addr} {l : List α} (E : EncK enc k) (h : RdG enc k w a l) (i : Nat) (hi : i < l.length) : ∃ b o, a = some ⟨b, o, none⟩ ∧ b < w.heap.size ∧ CsAt w b (o + i * k) (enc l[i]).toArray := by
  obtain ⟨b, o, ha, hb, hc⟩ := h i hi
  refine ⟨b, o, ha, hb, fun j hj => ?_⟩
  have hj' : j < (enc l[i]).length := by simpa using hj
  rw [hc j (by rw [← E.len l[i]]; exact hj')]
  simp [hj']
theorem zipIdx_fill (cs base : List Value) (off : Nat) : (cs.zipIdx.foldl (fun acc (x : Value × Nat) => acc.setIfInBounds (off + x.2) x.1) base.toArray) = (setL base off cs).toArray := by
  have key : ∀ (cs : List Value) (s : Nat) (base : List Value), ((cs.zipIdx s).foldl (fun acc (x : Value × Nat) => acc.setIfInBounds (off + x.2) x.1) base.toArray) = (setL base (off + s) cs).toArray := by
    intro cs
    induction cs with
    | nil => intro s base; rfl
    | cons v cs ih =>
      intro s base
      rw [List.zipIdx_cons, List.foldl_cons]
      dsimp only
      rw [List.setIfInBounds_toArray, ih (s + 1), setL, Nat.add_assoc]
  exact key cs 0 base
/-- A slice of one struct, laid as a literal. -/
theorem run_buildSlice1 {P : Program} {w : World} {t e : TypeId} {cs : Array Value} {i : TypeInfo} {z : Value} (ht : P.underlying t = some (.slice e)) (hi : P.info? e = some i) (hz : i.zero = some z) (hzs : z.cells.size = cs.size) (hs : i.size = cs.size) (h0 : 0 < cs.size) (hm : cs.size ≤ 16777216) :
    (Instr.buildSlice t 1 #[(0, .agg cs)]).run P w = .ok (.slice (some ⟨w.heap.size, 0, none⟩) 1 1) (w.alloc (.cells cs e)) := by
  obtain ⟨cl⟩ := cs
  have hfill : ∀ ba : List Value, ba.length = cl.length → Instr.fill (fun i => some (i * cl.length, cl.length)) ba.toArray [(0, Value.agg ⟨cl⟩)] = some ⟨cl⟩ := by
    intro ba hb
    have e1 := zipIdx_fill cl ba 0
    rw [setL_eq cl ba 0 (by omega), List.take_zero, List.nil_append, Nat.zero_add, ← hb, List.drop_length, List.append_nil] at e1
    simp only [Instr.fill, Value.cells, Nat.zero_mul, List.size_toArray]
    rw [if_neg (by simp; omega)]
    congr 1
    refine Eq.trans ?_ e1
    rw [show ({ toList := cl } : Array Value).zipIdx = cl.zipIdx.toArray from by apply Array.toList_inj.1; simp]
    simp
  have hs' : i.size = cl.length := hs
  have h0' : 0 < cl.length := h0
  have hm' : cl.length ≤ 16777216 := hm
  have hb9 : ((Array.range cl.length).map (z.cells[· % z.cells.size]!)) = (((Array.range cl.length).map (z.cells[· % z.cells.size]!)).toList).toArray := (Array.toArray_toList).symm
  have hf := hfill (((Array.range cl.length).map (z.cells[· % z.cells.size]!)).toList) (by simp)
  rw [← hb9] at hf
  simp [Instr.buildSlice, Sem.run_bind, run_underlying ht, sizeOf, typeInfo, hi, hs', zeroValue, hz, show ¬ 2 ^ 24 < cl.length by omega, show ¬ cl.length = 0 by omega]
  rw [hf]
  simp [newRow, newObj]
  rfl
theorem wpList_lit1 {P : Program} {ops : Array Oper} {rest : List Oper} {op : Oper} {a : Act} {w : World} {Q : Exit → Act → World → Prop} (hgd : op.guard = none) (t e : TypeId) (x : Operand) (ho : op.op = .buildSlice t 1 #[(0, x)]) (cs : Array Value) (hx : a.eval x = .agg cs)
    {i : TypeInfo} {z : Value} (ht : P.underlying t = some (.slice e)) (hi : P.info? e = some i) (hz : i.zero = some z) (hzs : z.cells.size = cs.size) (hs : i.size = cs.size) (h0 : 0 < cs.size) (hm : cs.size ≤ 16777216)
    (h : wpList P ops Q rest (a.put op.dst (.slice (some ⟨w.heap.size, 0, none⟩) 1 1)) (w.alloc (.cells cs e))) : wpList P ops Q (op :: rest) a w :=
  wpList_plain hgd fun _ hK => by
    unfold Oper.wp execOp
    have hr := run_buildSlice1 (P := P) (w := w) ht hi hz hzs hs h0 hm
    have hm9 : (#[((0 : Nat), x)].map fun (i, x) => (i, a.eval x)) = #[(0, .agg cs)] := by simp [hx]
    simp only [ho, hm9, Sem.run_bind, hr, Result.andThen_ok, Sem.run_pure]
    exact hK _ _ h
end Go.Proofs.YtpjgplohlchpoaaGreatDoor
