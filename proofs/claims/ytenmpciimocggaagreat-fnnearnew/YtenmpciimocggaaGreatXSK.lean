/- The program's five functions on sketches. -/
import Derived.Test.YtenmpciimocggaaGreatXSG
namespace Go.Proofs.YtenmpciimocggaaGreat
open Go.RowKit

def newK : List Int × Int := (List.replicate 48 0, 0)

set_option maxRecDepth 100000 in
set_option maxHeartbeats 2000000 in
theorem implSNew_any (w : World) : Calls Tryz.prog 15 #[] w fun e w' => MadeK w w' e newK := by
  have F0 := hide1 (blkN2 w #[.slice none 0 0, .int .i64 0] #[.int .i64 0, .int .i64 0, .int .i64 0, .int .i64 0, .int .i64 0, .int .i64 0, .int .i64 0, .int .i64 0, .int .i64 0, .int .i64 0, .int .i64 0, .int .i64 0, .int .i64 0, .int .i64 0, .int .i64 0, .int .i64 0, .int .i64 0, .int .i64 0, .int .i64 0, .int .i64 0, .int .i64 0, .int .i64 0, .int .i64 0, .int .i64 0, .int .i64 0, .int .i64 0, .int .i64 0, .int .i64 0, .int .i64 0, .int .i64 0, .int .i64 0, .int .i64 0, .int .i64 0, .int .i64 0, .int .i64 0, .int .i64 0, .int .i64 0, .int .i64 0, .int .i64 0, .int .i64 0, .int .i64 0, .int .i64 0, .int .i64 0, .int .i64 0, .int .i64 0, .int .i64 0, .int .i64 0, .int .i64 0, .int .i64 0] 36 84)
  have CS := hide1 (fun w' (h : Grd w' (w.heap.size + 1) (List.replicate 48 0) 0) => sketch_any (w.heap.size + 1) (List.replicate 48 0) 0 w' (by rw [List.length_replicate]) h)
  have HZ : Hid ((#[.int .i64 0, .int .i64 0, .int .i64 0, .int .i64 0, .int .i64 0, .int .i64 0, .int .i64 0, .int .i64 0, .int .i64 0, .int .i64 0, .int .i64 0, .int .i64 0, .int .i64 0, .int .i64 0, .int .i64 0, .int .i64 0, .int .i64 0, .int .i64 0, .int .i64 0, .int .i64 0, .int .i64 0, .int .i64 0, .int .i64 0, .int .i64 0, .int .i64 0, .int .i64 0, .int .i64 0, .int .i64 0, .int .i64 0, .int .i64 0, .int .i64 0, .int .i64 0, .int .i64 0, .int .i64 0, .int .i64 0, .int .i64 0, .int .i64 0, .int .i64 0, .int .i64 0, .int .i64 0, .int .i64 0, .int .i64 0, .int .i64 0, .int .i64 0, .int .i64 0, .int .i64 0, .int .i64 0, .int .i64 0, .int .i64 0] : Array Value).toList = grC (List.replicate 48 0) 0) := hide1 rfl
  rw [HZ.out] at F0
  clear HZ
  go_enter Tryz.func15, Tryz.ntmps15
  go_wp2_with fail
  generalize ((w.alloc (.cells #[.slice none 0 0, .int .i64 0] 36)).alloc (.cells #[.int .i64 0, .int .i64 0, .int .i64 0, .int .i64 0, .int .i64 0, .int .i64 0, .int .i64 0, .int .i64 0, .int .i64 0, .int .i64 0, .int .i64 0, .int .i64 0, .int .i64 0, .int .i64 0, .int .i64 0, .int .i64 0, .int .i64 0, .int .i64 0, .int .i64 0, .int .i64 0, .int .i64 0, .int .i64 0, .int .i64 0, .int .i64 0, .int .i64 0, .int .i64 0, .int .i64 0, .int .i64 0, .int .i64 0, .int .i64 0, .int .i64 0, .int .i64 0, .int .i64 0, .int .i64 0, .int .i64 0, .int .i64 0, .int .i64 0, .int .i64 0, .int .i64 0, .int .i64 0, .int .i64 0, .int .i64 0, .int .i64 0, .int .i64 0, .int .i64 0, .int .i64 0, .int .i64 0, .int .i64 0, .int .i64 0] 84)) = w0 at F0 ⊢
  obtain ⟨K0, K1, B0⟩ := F0.out
  refine (CS.out w0 K1).mono ?_
  rintro e w1 ⟨ao, c, rfl, ho, hb⟩
  dsimp only at ho ⊢
  rw [List.length_replicate] at ho ⊢
  have J0 := K0.below hb K0.lt
  have HM := hide1 (MadeK.put (r := w.heap.size) (ad := 0) B0 (Nat.le_refl _) K0.lt (List.length_replicate ..) ho hb)
  have hh := hide1 (Blk.set (Blk.set J0 0 (.slice ao 48 c)) 1 (.int .i64 0))
  have y0 : w1.cell? ⟨w.heap.size, 0, none⟩ = some (.slice none 0 0) := J0.cell 0
  have y1 : w1.cell? ⟨w.heap.size, 1, none⟩ = some (.int .i64 0) := J0.cell 1
  have yf : ∀ j, w1.frozen? ⟨w.heap.size, j, none⟩ = false := fun j => J0.froz j
  clear K0 K1 B0 F0 CS ho hb J0
  unfold skV
  go_wp2
  refine bodyPost_ret (results_cell_row Tryz.results15 _ _ w.heap.size 36 #[.slice ao 48 c, .int .i64 0] (0, 0) _ rfl hh.out Tryz.underlying36 rfl (by kernel_rfl)) rfl ?_
  exact HM.out

set_option maxRecDepth 100000 in
theorem implSOk_any (ao : Option Addr) (l : List Int) (ca : Nat) (ad : Int) (w : World) (hA : RdZ w ao l) :
    Calls Tryz.prog 40 #[skV ao l.length ca ad] w fun e w' => ∃ x : Bool, e = .returned (.bool x) ∧ (x = true ↔ OkK l ad) ∧ Below w.heap.size w w' := by
  have C1 := hide1 (fun o => gridOf_any ao l ca ad (w.alloc o) (hA.later ((Below.refl _ _).alloc (Nat.le_refl _) o)))
  have B0 := hide1 (fun o => (Below.refl w.heap.size w).alloc (Nat.le_refl _) o)
  unfold skV at C1 ⊢
  clear hA
  go_enter Tryz.func40, Tryz.ntmps40
  go_wp2_with fail
  refine (C1.out _).mono ?_
  rintro e w1 ⟨hr, hb⟩
  have B1 := hide1 ((B0.out _).trans (hb.mono (show w.heap.size ≤ _ by rw [World.size_alloc]; omega)))
  clear hb
  rcases hr with ⟨rfl, hn⟩ | ⟨g, rfl, hy, _, _⟩
  · have HN := hide1 hn
    clear hn
    go_wp2
    go_ret
    exact ⟨false, rfl, ⟨(fun h => by cases h), fun h => absurd h HN.out⟩, B1.out⟩
  · have HY := hide1 hy
    clear hy
    go_wp2
    go_ret
    exact ⟨true, rfl, ⟨fun _ => HY.out, fun _ => rfl⟩, B1.out⟩

/-- The blocks of what came in and of a result, at a maker's start. -/
theorem start2 (w : World) (ao : Option Addr) (n ca : Nat) (ad : Int) : Hid (Blk ((w.alloc (.cells #[.slice ao n ca, .int .i64 ad] 36)).alloc (.cells #[.slice none 0 0, .int .i64 0] 36)) w.heap.size 36 [.slice ao n ca, .int .i64 ad] ∧ Blk ((w.alloc (.cells #[.slice ao n ca, .int .i64 ad] 36)).alloc (.cells #[.slice none 0 0, .int .i64 0] 36)) (w.heap.size + 1) 36 [.slice none 0 0, .int .i64 0] ∧ Below w.heap.size w ((w.alloc (.cells #[.slice ao n ca, .int .i64 ad] 36)).alloc (.cells #[.slice none 0 0, .int .i64 0] 36))) := blkN2 w _ _ _ _

end Go.Proofs.YtenmpciimocggaaGreat
namespace Go.Proofs.YtenmpciimocggaaGreat
open Go.RowKit

set_option maxRecDepth 100000 in
set_option maxHeartbeats 1000000 in
theorem specSNew_any (w : World) : Calls Tryz.prog 21 #[] w fun e w' => MadeK w w' e newK := by
  obtain ⟨i0, hi, hz0, hz1, hz2⟩ := info_parts Tryz.infoZ
  have F0 : Hid (Blk (w.alloc (.cells #[.slice none 0 0, .int .i64 0] 36)) w.heap.size 36 [.slice none 0 0, .int .i64 0] ∧ Below w.heap.size w (w.alloc (.cells #[.slice none 0 0, .int .i64 0] 36)) ∧ (w.alloc (.cells #[.slice none 0 0, .int .i64 0] 36)).heap.size = w.heap.size + 1) := ⟨Blk.new w _ _, (Below.refl _ _).alloc (Nat.le_refl _) _, World.size_alloc _ _⟩
  go_enter Tryz.func21, Tryz.ntmps21
  go_wp2_with (at_make; (refine wpList_make_full _ rfl _ _ 34 rfl (w.heap.size + 1) 3 i0 (.int .i64 0) 1 Tryz.underlying34 hi hz0 hz1 _ _ _ _ 48 rfl rfl rfl rfl (by rw [hz2]; omega) (by unfold maxLen; omega) (by rw [World.size_alloc]; exact Nat.le_refl _) ?_; intro w1 hown1 hg1; rw [madeZ, F0.out.2.2] at hown1; have hb1 : Below (w.heap.size + 1) _ w1 := Below.grown (Below.refl _ _) hg1 (by rw [World.size_alloc]; exact Nat.le_refl _) (by intro k hk; cases hk); have J0 := hide1 (F0.out.1.below hb1 (by omega)); have B1 := hide1 (F0.out.2.1.trans (hb1.mono (by omega))); have O1 := hide1 hown1; have y0 : w1.cell? ⟨w.heap.size, 0, none⟩ = some (.slice none 0 0) := J0.out.cell 0; have y1 : w1.cell? ⟨w.heap.size, 1, none⟩ = some (.int .i64 0) := J0.out.cell 1; have yf : ∀ j, w1.frozen? ⟨w.heap.size, j, none⟩ = false := fun j => J0.out.froz j; clear F0 hown1 hg1 hb1))
  have hh := hide1 (Blk.set (Blk.set J0.out 0 (.slice (some ⟨w.heap.size + 1, 0, none⟩) 48 48)) 1 (.int .i64 0))
  refine bodyPost_ret (results_cell_row Tryz.results21 _ _ w.heap.size 36 #[.slice (some ⟨w.heap.size + 1, 0, none⟩) 48 48, .int .i64 0] (0, 0) _ rfl hh.out Tryz.underlying36 rfl (by kernel_rfl)) rfl ?_
  refine ⟨_, _, rfl, own_base (own_far (own_far O1.out _ _ ?_) _ _ ?_) (by omega), (B1.out.setCell (p := ⟨w.heap.size, 0, none⟩) (Nat.le_refl _) _).setCell (p := ⟨w.heap.size, 1, none⟩) (Nat.le_refl _) _⟩
  all_goals
    intro k hk
    have := (O1.out.lt k hk).1
    dsimp only
    omega

/-- 'append([]int{}, row...)': a new row. -/
theorem appZ_run (w : World) (ty : TypeId) (B : Nat) (ao : Option Addr) (m c base : Nat) (nb : List Int) (hE : w.heap[B]? = some (.cells #[] 3 (0, 0))) (hB : base ≤ B) (hm : nb.length = m) (hA : RdZ w ao nb) (hlen : m ≤ 1048576) :
    ∃ b' c' w', (Builtin.append_ #[34, 34] ty #[.slice (some ⟨B, 0, none⟩) 0 0, .slice ao m c]).run Tryz.prog w = .ok (.slice (some ⟨b', 0, none⟩) m c') w' ∧ w'.ownsRow base 3 1 (.slice (some ⟨b', 0, none⟩) m c') m (iz nb) ∧ Below w.heap.size w w' := by
  obtain ⟨i0, hi, hz0, hz1, hz2⟩ := info_parts Tryz.infoZ
  have hBl := (Array.getElem?_eq_some_iff.1 hE).1
  by_cases h0 : m = 0
  · subst h0
    have e : nb = [] := List.eq_nil_of_length_eq_zero hm
    subst e
    refine ⟨B, 0, w, ?_, ⟨rfl, .inr ⟨B, 0, #[], rfl, hB, hE, Nat.le_refl _, Nat.zero_le _, rfl, rfl⟩⟩, Below.refl _ _⟩
    cases ao <;> simp [Builtin.append_, run_underlying Tryz.underlying34, sizeOf, typeInfo, hi, Builtin.lenOf, Builtin.firstCells, loadCells, loadCellsFrom, storeCells]
  · obtain ⟨g, o, rfl, hg, _⟩ := hA 0 (by omega)
    have hAt : ∀ j v, (iz nb)[j]? = some v → w.cell? ((⟨g, o, none⟩ : Addr).add j) = some v := fun j v hj => by
      have hj' : j < nb.length := by have := (List.getElem?_eq_some_iff.1 hj).1; rwa [iz_length] at this
      obtain ⟨b', o', e, _, h⟩ := hA j hj'
      simp only [Option.some.injEq, Addr.mk.injEq, and_true] at e
      obtain ⟨rfl, rfl⟩ := e
      rw [iz_get nb j hj'] at hj
      rw [Addr.add_lit, ← hj]
      exact h
    have hl : (iz nb).length = m * i0.size := by rw [iz_length, hz1, hm]; omega
    have hr := run_append_grow (P := Tryz.prog) w 34 ty 3 i0 (.int .i64 0) Tryz.underlying34 hi hz0 ⟨B, 0, none⟩ 0 0 [] (by simp) (fun j v h => by cases h) ⟨g, o, none⟩ m c (iz nb) hl hAt (by omega) (by omega) (by rw [Nat.zero_add, nextslicecap_zero (by omega), hz2]; omega)
    rw [Nat.zero_add] at hr
    have hge := grownCap_ge w m 0 3
    refine ⟨_, _, _, hr, ⟨by rw [iz_length, hm]; omega, .inr ⟨w.heap.size, _, _, rfl, by omega, heap_alloc_new w.drew _, hge, grownCap_le_maxLen w m 0 3 (by unfold maxLen; omega), ?_, ?_⟩⟩, (Below.refl _ _).drew.alloc (Nat.le_refl _) _⟩
    · have e : (Value.int .i64 0).cells.size = 1 := rfl
      simp only [Array.size_append, List.size_toArray, List.length_nil, size_zeroCells, hl, hz1, e, Nat.zero_add]
      generalize grownCap w m 0 3 = G at hge ⊢
      omega
    · simp only [Array.toList_append, List.nil_append]
      rw [List.take_left' (by rw [iz_length, hm]; omega)]

theorem step_appZ {ops : Array Oper} {o : Oper} {a : Act} {w : World} {K : Act → World → Prop} {Q : Exit → Act → World → Prop} {E : Prop} (hgd : o.guard = none) (s x : Operand)
    (ho : o.op = .call { callee := .builtin .append, args := #[s, x], argTypes := #[34, 34] }) (B : Nat) (ao : Option Addr) (m c base : Nat) (nb : List Int)
    (hs : a.eval s = .slice (some ⟨B, 0, none⟩) 0 0) (hx : a.eval x = .slice ao m c) (hE : w.heap[B]? = some (.cells #[] 3 (0, 0))) (hB : base ≤ B) (hm : nb.length = m) (hA : RdZ w ao nb) (hlen : m ≤ 1048576)
    (h : ∀ b' c' w', w'.ownsRow base 3 1 (.slice (some ⟨b', 0, none⟩) m c') m (iz nb) → Below w.heap.size w w' → K (a.put o.dst (.slice (some ⟨b', 0, none⟩) m c')) w') :
    if Region.wanted o (yielded ops a.tmps) = true then Oper.wp Tryz.prog o a w K Q else E := by
  have hw : Region.wanted o (yielded ops a.tmps) = true := by simp [Region.wanted, hgd]
  rw [if_pos hw]
  obtain ⟨b', c', w', hrun, h1, h2⟩ := appZ_run w o.type B ao m c base nb hE hB hm hA hlen
  unfold Oper.wp
  simp only [execOp, ho, resolve, invoke, builtin, Sem.run_bind, Sem.run_pure, Result.andThen_ok, List.map_toArray, List.map_cons, List.map_nil, hs, hx, hrun]
  exact h b' c' w' h1 h2

theorem in_same (x lo hi : Int) (w : World) : Calls Tryz.prog 16 #[.int .i64 x, .int .i64 lo, .int .i64 hi] w fun e w' => e = .returned (.bool (decide (lo ≤ x) && decide (x ≤ hi))) ∧ w' = w :=
  (in_any x lo hi w).mono fun _ _ h => ⟨h.1, h.2.symm⟩

end Go.Proofs.YtenmpciimocggaaGreat
