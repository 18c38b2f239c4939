/- Cells copied by 'copy', by the program. -/
import Derived.Test.YtahglnojllkjdaaTabB
import Derived.Laws.CopyOwn
namespace Go.Proofs.Ytahglnojllkjdaa
open Go.RowKit

theorem run_copy2 {P : Program} (w : World) (dT sT ty elem : TypeId) (g o dLen dCap : Nat) (a : Addr) (sLen sCap : Nat) (cur : Array Value) (t : TypeId) (cs : List Value)
    (hu : P.underlying dT = some (.slice elem)) (hs : (P.info? elem).map (·.size) = some 2)
    (hg : w.heap[g]? = some (.cells cur t (0, 0))) (hn : cs.length = Nat.min sLen dLen * 2)
    (hsrc : ∀ j v, cs[j]? = some v → w.cell? (a.add j) = some v) (hfit : o + cs.length ≤ cur.size) (h1 : ∀ v ∈ cs, v.oneCell' = true) :
    (Builtin.copy_ #[dT, sT] ty #[.slice (some ⟨g, o, none⟩) dLen dCap, .slice (some a) sLen sCap]).run P w =
      .ok (goInt (Nat.min sLen dLen)) (w.setRow g (cur.toList.take o ++ cs ++ cur.toList.drop (o + cs.length)).toArray) := by
  have hl := run_loadCells_list (P := P) w a cs hsrc
  have hst := run_storeCells_at P g o t cs 0 cur w hg (by simpa using hfit) h1
  cases hq : P.info? elem with
  | none => simp [hq] at hs
  | some i =>
    have hi : i.size = 2 := by simpa [hq] using hs
    rw [hn] at hl
    simp [Builtin.copy_, run_underlying hu, Builtin.lenOf, Builtin.firstCells, sizeOf, typeInfo, hq, hi, hl, hst]
theorem run_copy0 {P : Program} (w : World) (dT sT ty elem : TypeId) (x ao : Option Addr) (dCap sCap : Nat) (hu : P.underlying dT = some (.slice elem)) (hs : (P.info? elem).map (·.size) = some 2) :
    (Builtin.copy_ #[dT, sT] ty #[.slice x 0 dCap, .slice ao 0 sCap]).run P w = .ok (goInt 0) w := by
  cases hq : P.info? elem with
  | none => simp [hq] at hs
  | some i =>
    have hl := fun a => run_loadCells_list (P := P) w a [] (fun j v h => by cases h)
    simp only [List.length_nil] at hl
    cases x <;> cases ao <;> simp [Builtin.copy_, run_underlying hu, Builtin.lenOf, Builtin.firstCells, sizeOf, typeInfo, hq, hl, storeCells]
theorem one_ces (l : List Ce) : ∀ v ∈ ces l, v.oneCell' = true := by
  intro v hv
  obtain ⟨s, _, hs⟩ := List.mem_flatMap.1 hv
  simp only [ceC, List.mem_cons, List.not_mem_nil, or_false] at hs
  rcases hs with rfl | rfl <;> rfl
theorem rdJ_cells {w : World} {g o : Nat} {l : List Ce} (h : ∀ i (h : i < l.length), cellO w g o i l[i]) (j : Nat) (v : Value) (hv : (ces l)[j]? = some v) : w.cell? ⟨g, o + j, none⟩ = some v := by
  have hj : j < l.length * 2 := by
    have := (List.getElem?_eq_some_iff.1 hv).1
    rw [ces_length] at this
    exact this
  have hi : j / 2 < l.length := by omega
  have h5 : j % 2 < 2 := Nat.mod_lt _ (by decide)
  have e := ces_at l (j / 2) (j % 2) hi h5
  rw [show j / 2 * 2 + j % 2 = j by omega, hv] at e
  obtain ⟨x0, x1⟩ := h (j / 2) hi
  rw [e, show (⟨g, o + j, none⟩ : Addr) = ⟨g, o + j / 2 * 2 + j % 2, none⟩ by rw [show o + j / 2 * 2 + j % 2 = o + j by omega]]
  generalize j % 2 = k at h5 e ⊢
  match k, h5 with
  | 0, _ => exact x0
  | 1, _ => exact x1

/-- 'copy' of as many cells as there are, into a stretch of one block. -/
theorem copyC_run (w : World) (ty : TypeId) (x ao : Option Addr) (n c ca g : Nat) (l A Z C : List Ce) (hn : l.length = n) (hZ : Z.length = n) (hx : n ≠ 0 → x = some ⟨g, A.length * 2, none⟩) (hB : Blk w g 65 (ces (A ++ Z ++ C))) (hA : RdJ w ao l) :
    ∃ w', (Builtin.copy_ #[24, 24] ty #[.slice x n c, .slice ao n ca]).run Try.prog w = .ok (.int .i64 (n : Int)) w' ∧ Blk w' g 65 (ces (A ++ l ++ C)) ∧ (∀ k, k ≠ g → w'.heap[k]? = w.heap[k]?) ∧ w'.heap.size = w.heap.size ∧ Below g w w' := by
  obtain ⟨i0, hi0, _, h2, _⟩ := info_parts Try.infoCell
  have hs : (Try.prog.info? 65).map (·.size) = some 2 := by rw [hi0]; simp [h2]
  by_cases h0 : n = 0
  · subst h0
    have el : l = [] := List.eq_nil_of_length_eq_zero hn
    have eZ : Z = [] := List.eq_nil_of_length_eq_zero hZ
    subst el eZ
    exact ⟨w, run_copy0 w 24 24 ty 65 x ao c ca Try.underlying24 hs, hB, fun _ _ => rfl, rfl, Below.refl _ _⟩
  · rw [hx h0]
    obtain ⟨b, o, rfl, hb, _⟩ := hA 0 (by omega)
    have hAt : ∀ i (h : i < l.length), cellO w b o i l[i] := fun i hi => by obtain ⟨b', o', e, _, h⟩ := hA i hi; simp at e; obtain ⟨rfl, rfl⟩ := e; exact h
    have hBb : w.heap[g]? = some (.cells (ces (A ++ Z ++ C)).toArray 65 (0, 0)) := hB
    have hl : (ces l).length = n * 2 := by rw [ces_length, hn]
    have hrun := run_copy2 (P := Try.prog) w 24 24 ty 65 g (A.length * 2) n c ⟨b, o, none⟩ n ca _ _ (ces l) Try.underlying24 hs hBb (by rw [hl, show Nat.min n n = n from Nat.min_self n])
      (fun j v hv => by rw [Addr.add_lit]; exact rdJ_cells hAt j v hv) (by rw [List.size_toArray, hl, ces_length]; simp only [List.length_append]; omega) (one_ces l)
    have e : (ces (A ++ Z ++ C)).toArray.toList.take (A.length * 2) ++ ces l ++ (ces (A ++ Z ++ C)).toArray.toList.drop (A.length * 2 + (ces l).length) = ces (A ++ l ++ C) := by
      have e0 : ces (A ++ Z ++ C) = ces A ++ (ces Z ++ ces C) := by rw [ces_append, ces_append, List.append_assoc]
      have e1 : ces (A ++ l ++ C) = ces A ++ ces l ++ ces C := by rw [ces_append, ces_append]
      have hd : (ces A ++ (ces Z ++ ces C)).drop (A.length * 2 + n * 2) = ces C := by
        rw [← List.append_assoc, List.drop_left' (by rw [List.length_append, ces_length, ces_length, hZ])]
      rw [List.toList_toArray, hl, e0, e1, List.take_left' (ces_length A), hd]
    rw [e, show Nat.min n n = n from Nat.min_self n] at hrun
    refine ⟨_, hrun, setRow_heap w g _ _ _ _ hBb, fun k hk => setRow_other _ _ _ _ hk, by simp, ⟨rfl, rfl, rfl, by simp, fun k hk => setRow_other _ _ _ _ (by omega)⟩⟩

/-- The same as one step of a region that draws its order. -/
theorem step_copyC {ops : Array Oper} {o : Oper} {a : Act} {w : World} {K : Act → World → Prop} {Q : Exit → Act → World → Prop} {E : Prop} (hgd : o.guard = none) (d s : Operand)
    (ho : o.op = .call { callee := .builtin .copy, args := #[d, s], argTypes := #[24, 24] }) (x ao : Option Addr) (n c ca g : Nat) (l A Z C : List Ce)
    (hd : a.eval d = .slice x n c) (hs : a.eval s = .slice ao n ca) (hn : l.length = n) (hZ : Z.length = n) (hx : n ≠ 0 → x = some ⟨g, A.length * 2, none⟩) (hB : Blk w g 65 (ces (A ++ Z ++ C))) (hA : RdJ w ao l)
    (h : ∀ w', Blk w' g 65 (ces (A ++ l ++ C)) → (∀ k, k ≠ g → w'.heap[k]? = w.heap[k]?) → w'.heap.size = w.heap.size → Below g w w' → K (a.put o.dst (.int .i64 (n : Int))) w') :
    if Region.wanted o (yielded ops a.tmps) = true then Oper.wp Try.prog o a w K Q else E := by
  have hw : Region.wanted o (yielded ops a.tmps) = true := by simp [Region.wanted, hgd]
  rw [if_pos hw]
  obtain ⟨w', hrun, h1, h2, h3, h4⟩ := copyC_run w o.type x ao n c ca g l A Z C hn hZ hx hB hA
  unfold Oper.wp
  simp only [execOp, ho, resolve, invoke, builtin, Sem.run_bind, Sem.run_pure, Result.andThen_ok, List.map_toArray, List.map_cons, List.map_nil, hd, hs, hrun]
  exact h w' h1 h2 h3 h4

theorem wpList_copyC {ops : Array Oper} {rest : List Oper} {o : Oper} {a : Act} {w : World} {Q : Exit → Act → World → Prop} (hgd : o.guard = none) (d s : Operand)
    (ho : o.op = .call { callee := .builtin .copy, args := #[d, s], argTypes := #[24, 24] }) (x ao : Option Addr) (n c ca g : Nat) (l A Z C : List Ce)
    (hd : a.eval d = .slice x n c) (hs : a.eval s = .slice ao n ca) (hn : l.length = n) (hZ : Z.length = n) (hx : n ≠ 0 → x = some ⟨g, A.length * 2, none⟩) (hB : Blk w g 65 (ces (A ++ Z ++ C))) (hA : RdJ w ao l)
    (h : ∀ w', Blk w' g 65 (ces (A ++ l ++ C)) → (∀ k, k ≠ g → w'.heap[k]? = w.heap[k]?) → w'.heap.size = w.heap.size → Below g w w' → wpList Try.prog ops Q rest (a.put o.dst (.int .i64 (n : Int))) w') :
    wpList Try.prog ops Q (o :: rest) a w := by
  refine wpList_plain hgd fun K hK => ?_
  obtain ⟨w', hrun, h1, h2, h3, h4⟩ := copyC_run w o.type x ao n c ca g l A Z C hn hZ hx hB hA
  unfold Oper.wp
  simp only [execOp, ho, resolve, invoke, builtin, Sem.run_bind, Sem.run_pure, Result.andThen_ok, List.map_toArray, List.map_cons, List.map_nil, hd, hs, hrun]
  exact hK _ _ (h w' h1 h2 h3 h4)
end Go.Proofs.Ytahglnojllkjdaa
