/- What the program answers: a key put, a table that begins to grow. -/
import Derived.Test.YtenmpciimocggaaGreatXI
namespace Go.Proofs.YtenmpciimocggaaGreat
open Go.RowKit

theorem srchD_key {l : List Ce} {key : ByteArray} {p : Nat} : ∀ (d i : Nat) (f : Option Nat) (k : Nat), (srchD l key p i d f).1 = some k → ∃ x, l[k]? = some x ∧ x.key.toList = key.toList
  | 0, _, _, _, h => by cases h
  | d + 1, i, f, k, h => by
    rw [srchD] at h
    split at h
    · cases h
    · rename_i x hx
      split at h
      · rename_i hc
        injection h with h
        rw [← h]
        exact ⟨x, hx, hc.2⟩
      · split at h
        · cases h
        · exact srchD_key d (i + 1) _ k h
theorem srchC_key {l : List Ce} {key : ByteArray} {k : Nat} (h : (srchC l key).1 = some k) (hk : k < l.length) : l[k].key = key := by
  obtain ⟨x, hx, e⟩ := srchD_key _ _ _ _ h
  rw [List.getElem?_eq_getElem hk] at hx
  rw [Option.some.inj hx]
  exact bytes_eq e
/-- The old cells without a key. -/
def goneO (o : List Ce) (key : ByteArray) : List Ce :=
  match seekC o key with
  | some k => o.set k gC
  | none => o
theorem goneO_length (o : List Ce) (key : ByteArray) : (goneO o key).length = o.length := by
  unfold goneO
  split
  · rw [List.length_set]
  · rfl
/-- What is there when a key is put. -/
def putR (l o : List Ce) (mv : Int) (key : ByteArray) (h : Int) : Option (List Ce × List Ce × Int) :=
  match seekC l key with
  | some k => some (l.set k ⟨key, h⟩, o, mv)
  | none => match putC l key h with
    | some l' => some (l', goneO o key, mv)
    | none => none
def putOk (l o : List Ce) (mv : Int) (key : ByteArray) (h : Int) : Prop := OkT l o mv ∧ 1 ≤ key.size ∧ key.size ≤ 12 ∧ 0 ≤ h

end Go.Proofs.YtenmpciimocggaaGreat
namespace Go.Proofs.YtenmpciimocggaaGreat
open Go.RowKit

def growR (l : List Ce) : Option (List Ce × List Ce × Int) := some (List.replicate (2 * l.length) nC, l, 0)
def growOk (l o : List Ce) (mv : Int) : Prop := OkT l o mv ∧ o.length = 0 ∧ 2 * l.length ≤ 64

end Go.Proofs.YtenmpciimocggaaGreat
namespace Go.Proofs.YtenmpciimocggaaGreat
open Go.RowKit

/-- 'append([]Cell{}, row...)' of some cells: a new row. -/
theorem app_run (w : World) (ty : TypeId) (b : Addr) (ao : Option Addr) (m c : Nat) (nb : List Ce) (hm : nb.length = m) (h0 : 0 < m) (hA : RdJ w ao nb) (hlen : m ≤ 1048576) :
    ∃ c' w', (Builtin.append_ #[28, 28] ty #[.slice (some b) 0 0, .slice ao m c]).run Tryz.prog w = .ok (.slice (some ⟨w.heap.size, 0, none⟩) m c') w' ∧ w'.ownsRow w.heap.size 102 2 (.slice (some ⟨w.heap.size, 0, none⟩) m c') m (ces nb) ∧ Below w.heap.size w w' := by
  obtain ⟨i0, hi, hz0, hz1, hz2⟩ := info_parts Tryz.infoCell
  obtain ⟨g, o, rfl, hg, _⟩ := hA 0 (by omega)
  have hAt : ∀ i (h : i < nb.length), cellO w g o i nb[i] := fun i hi => by obtain ⟨b', o', e, _, h⟩ := hA i hi; simp at e; obtain ⟨rfl, rfl⟩ := e; exact h
  have hl : (ces nb).length = m * i0.size := by rw [ces_length, hz1, hm]
  have hr := run_append_grow (P := Tryz.prog) w 28 ty 102 i0 (ceV zC) Tryz.underlying28 hi hz0 b 0 0 [] (by simp) (fun j v h => by cases h) ⟨g, o, none⟩ m c (ces nb) hl (fun j v hv => by rw [Addr.add_lit]; exact rdJ_cells hAt j v hv) (by omega) (by omega) (by rw [Nat.zero_add, nextslicecap_zero h0, hz2]; omega)
  rw [Nat.zero_add] at hr
  have hge := grownCap_ge w m 0 102
  refine ⟨_, _, hr, ⟨by rw [ces_length, hm], .inr ⟨w.heap.size, _, _, rfl, Nat.le_refl _, heap_alloc_new w.drew _, hge, grownCap_le_maxLen w m 0 102 (by unfold maxLen; omega), ?_, ?_⟩⟩, (Below.refl _ _).drew.alloc (Nat.le_refl _) _⟩
  · have e : (ceV zC).cells.size = 2 := rfl
    simp only [Array.size_append, List.size_toArray, List.length_nil, size_zeroCells, hl, hz1, e, Nat.zero_add]
    generalize grownCap w m 0 102 = G at hge ⊢
    omega
  · simp only [Array.toList_append, List.nil_append]
    rw [List.take_left' (by rw [ces_length, hm])]
theorem app_run0 (w : World) (ty : TypeId) (b : Addr) (ao : Option Addr) (c : Nat) :
    (Builtin.append_ #[28, 28] ty #[.slice (some b) 0 0, .slice ao 0 c]).run Tryz.prog w = .ok (.slice (some b) 0 0) w := by
  obtain ⟨i0, hi, hz0, hz1, hz2⟩ := info_parts Tryz.infoCell
  cases ao <;> simp [Builtin.append_, run_underlying Tryz.underlying28, sizeOf, typeInfo, hi, Builtin.lenOf, Builtin.firstCells, loadCells, loadCellsFrom, storeCells]

theorem step_app {ops : Array Oper} {o : Oper} {a : Act} {w : World} {K : Act → World → Prop} {Q : Exit → Act → World → Prop} {E : Prop} (hgd : o.guard = none) (s x : Operand)
    (ho : o.op = .call { callee := .builtin .append, args := #[s, x], argTypes := #[28, 28] }) (b : Addr) (ao : Option Addr) (m c : Nat) (nb : List Ce)
    (hs : a.eval s = .slice (some b) 0 0) (hx : a.eval x = .slice ao m c) (hm : nb.length = m) (h0 : 0 < m) (hA : RdJ w ao nb) (hlen : m ≤ 1048576)
    (h : ∀ b' c' w', w.heap.size ≤ b' → w'.ownsRow w.heap.size 102 2 (.slice (some ⟨b', 0, none⟩) m c') m (ces nb) → Below w.heap.size w w' → K (a.put o.dst (.slice (some ⟨b', 0, none⟩) m c')) w') :
    if Region.wanted o (yielded ops a.tmps) = true then Oper.wp Tryz.prog o a w K Q else E := by
  have hw : Region.wanted o (yielded ops a.tmps) = true := by simp [Region.wanted, hgd]
  rw [if_pos hw]
  obtain ⟨c', w', hrun, h1, h2⟩ := app_run w o.type b ao m c nb hm h0 hA hlen
  unfold Oper.wp
  simp only [execOp, ho, resolve, invoke, builtin, Sem.run_bind, Sem.run_pure, Result.andThen_ok, List.map_toArray, List.map_cons, List.map_nil, hs, hx, hrun]
  exact h _ c' w' (Nat.le_refl _) h1 h2
theorem step_app0 {ops : Array Oper} {o : Oper} {a : Act} {w : World} {K : Act → World → Prop} {Q : Exit → Act → World → Prop} {E : Prop} (hgd : o.guard = none) (s x : Operand)
    (ho : o.op = .call { callee := .builtin .append, args := #[s, x], argTypes := #[28, 28] }) (b : Addr) (ao : Option Addr) (c : Nat)
    (hs : a.eval s = .slice (some b) 0 0) (hx : a.eval x = .slice ao 0 c)
    (h : K (a.put o.dst (.slice (some b) 0 0)) w) :
    if Region.wanted o (yielded ops a.tmps) = true then Oper.wp Tryz.prog o a w K Q else E := by
  have hw : Region.wanted o (yielded ops a.tmps) = true := by simp [Region.wanted, hgd]
  rw [if_pos hw]
  have hrun := app_run0 w o.type b ao c
  unfold Oper.wp
  simp only [execOp, ho, resolve, invoke, builtin, Sem.run_bind, Sem.run_pure, Result.andThen_ok, List.map_toArray, List.map_cons, List.map_nil, hs, hx, hrun]
  exact h
end Go.Proofs.YtenmpciimocggaaGreat
namespace Go.Proofs.YtenmpciimocggaaGreat
open Go.RowKit

theorem alloc2_snd (w : World) (o1 o2 : Obj) : ((w.alloc o1).alloc o2).heap[w.heap.size + 1]? = some o2 := by
  have := heap_alloc_new (w.alloc o1) o2
  rw [World.size_alloc] at this
  exact this
theorem own_none {w : World} {B base : Nat} (h : w.heap[B]? = some (.cells #[] 102 (0, 0))) (hb : base ≤ B) : w.ownsRow base 102 2 (.slice (some ⟨B, 0, none⟩) 0 0) 0 (ces []) :=
  ⟨rfl, .inr ⟨B, 0, #[], rfl, hb, h, Nat.le_refl _, Nat.zero_le _, rfl, rfl⟩⟩
theorem own_ne {w : World} {b1 c1 B2 base n : Nat} {xs : List Value} (O1 : w.ownsRow base 102 2 (.slice (some ⟨b1, 0, none⟩) n c1) n xs) (h0 : 0 < n) (hE : w.heap[B2]? = some (.cells #[] 102 (0, 0))) : b1 ≠ B2 := by
  rintro rfl
  rcases O1.2 with ⟨hv, _⟩ | ⟨g, cap, cur, hv, _, hh, h1, _, h3, _⟩
  · cases hv
  · injection hv with e1 e2 e3
    injection e1 with e1
    injection e1 with e1
    subst e1 e3
    rw [hE] at hh
    injection hh with hh
    injection hh with hh
    subst hh
    simp at h3
    omega
theorem madeV_none {w W : World} {b1 c1 B2 r : Nat} {l : List Ce} {mv : Int} (hB : Below w.heap.size w W) (hr : w.heap.size ≤ r) (O1 : W.ownsRow w.heap.size 102 2 (.slice (some ⟨b1, 0, none⟩) l.length c1) l.length (ces l)) (hE : W.heap[B2]? = some (.cells #[] 102 (0, 0))) (h1 : b1 ≠ B2) (r1 : b1 ≠ r) (r2 : B2 ≠ r) (hb : w.heap.size ≤ B2) (x y z : Value) :
    MadeV w (put3 W r x y z) (tbV (some ⟨b1, 0, none⟩) l.length c1 (some ⟨B2, 0, none⟩) 0 0 mv) l [] mv :=
  ⟨b1, c1, B2, 0, rfl, own_put3 O1 (fun k hk => by rw [← Option.some.inj hk]; exact r1) x y z, own_put3 (own_none hE hb) (fun k hk => by rw [← Option.some.inj hk]; exact r2) x y z, h1, put3_below hB hr x y z⟩

end Go.Proofs.YtenmpciimocggaaGreat
