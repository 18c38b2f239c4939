/- Rings, by the program: spots compared, and sorted. -/
import Derived.Test.YtdgpencendphbaaDoorRiB
import Derived.Test.YtdgpencendphbaaDoorSortP
namespace Go.Proofs.YtdgpencendphbaaDoor
open Go.RowKit Go.Shelf
open Go.Sort (HoldsK flatK size_flatK get_flatK putRowK)
set_option linter.unusedVariables false

def cmpI (a b : Int) : Int := if a < b then -1 else if b < a then 1 else 0
/-- What the program compares. -/
def cfP (x y : Sp) : Int := if cmpI x.1 y.1 = 0 then cmpI x.2 y.2 else cmpI x.1 y.1
theorem cmpI_neg (a b : Int) : cmpI a b < 0 ↔ a < b := by unfold cmpI; split <;> (try split) <;> omega
theorem cmpI_zero (a b : Int) : cmpI a b = 0 ↔ a = b := by unfold cmpI; split <;> (try split) <;> omega
theorem cfP_lt (x y : Sp) : ltOf cfP x y = ahd x y := by
  unfold ltOf cfP
  rw [Bool.eq_iff_iff, decide_eq_true_iff, ahd_iff]
  by_cases c : cmpI x.1 y.1 = 0
  · rw [if_pos c, cmpI_neg]
    have := (cmpI_zero _ _).1 c
    omega
  · rw [if_neg c, cmpI_neg]
    have : ¬ x.1 = y.1 := fun e => c ((cmpI_zero _ _).2 e)
    omega
theorem swoP : Go.Sort.SWO (ltOf cfP) where
  irrefl x := by rw [cfP_lt]; exact ahd_not.2 (by omega)
  trans x y z h1 h2 := by
    rw [cfP_lt] at *
    have h1 := ahd_iff.1 h1
    have h2 := ahd_iff.1 h2
    exact ahd_iff.2 (by omega)
  ntrans x y z h1 h2 := by
    rw [cfP_lt] at *
    have h1 := ahd_not.1 h1
    have h2 := ahd_not.1 h2
    exact ahd_not.2 (by omega)

theorem isNaN_any (a : Int) (w : World) : Calls Tryd.prog 83 #[.int .i64 a] w fun e w' => e = .returned (.bool false) ∧ w' = w := by
  have q : (a != a) = false := by simp
  go_enter Tryd.func83, Tryd.ntmps83
  go_wp2
  go_ret
  exact ⟨rfl, rfl⟩

set_option maxRecDepth 100000 in
theorem cmpCompare_any (a b : Int) (w : World) : Calls Tryd.prog 62 #[.int .i64 a, .int .i64 b] w fun e w' => e = .returned (.int .i64 (cmpI a b)) ∧ w' = w := by
  have C := hide1 (fun a w => isNaN_any a w)
  unfold cmpI
  by_cases c1 : a < b
  · rw [if_pos c1]
    go_enter Tryd.func62, Tryd.ntmps62
    go_wp2_with (go_at_call 83; refine (C.out _ _).mono ?_; rintro e w1 ⟨rfl, rfl⟩)
    go_ret
    exact ⟨rfl, rfl⟩
  · rw [if_neg c1]
    by_cases c2 : b < a
    · rw [if_pos c2]
      go_enter Tryd.func62, Tryd.ntmps62
      go_wp2_with (go_at_call 83; refine (C.out _ _).mono ?_; rintro e w1 ⟨rfl, rfl⟩)
      go_ret
      exact ⟨rfl, rfl⟩
    · rw [if_neg c2]
      go_enter Tryd.func62, Tryd.ntmps62
      go_wp2_with (go_at_call 83; refine (C.out _ _).mono ?_; rintro e w1 ⟨rfl, rfl⟩)
      go_ret
      exact ⟨rfl, rfl⟩

set_option maxRecDepth 100000 in
theorem cmpOr_any (g ca : Nat) (a b : Int) (w : World) (h0 : w.cell? ⟨g, 0, none⟩ = some (.int .i64 a)) (h1 : w.cell? ⟨g, 1, none⟩ = some (.int .i64 b)) :
    Calls Tryd.prog 61 #[.slice (some ⟨g, 0, none⟩) 2 ca] w fun e w' => e = .returned (.int .i64 (if a = 0 then b else a)) ∧ w' = w := by
  by_cases c1 : a = 0
  · subst c1
    by_cases c2 : b = 0
    · subst c2
      go_enter Tryd.func61, Tryd.ntmps61
      go_wp2
      refine wp_loop_rounds 3 ?_
      rw [rounds_succ]
      go_wp2
      rw [rounds_succ]
      go_wp2
      rw [rounds_succ]
      go_wp2
      go_ret
      exact ⟨rfl, rfl⟩
    · have q2 : (b != 0) = true := by simpa using c2
      go_enter Tryd.func61, Tryd.ntmps61
      go_wp2
      refine wp_loop_rounds 3 ?_
      rw [rounds_succ]
      go_wp2
      rw [rounds_succ]
      go_wp2
      go_ret
      exact ⟨by simp, rfl⟩
  · have q1 : (a != 0) = true := by simpa using c1
    have e : (if a = 0 then b else a) = a := if_neg c1
    rw [e]
    clear e
    go_enter Tryd.func61, Tryd.ntmps61
    go_wp2
    refine wp_loop_rounds 3 ?_
    rw [rounds_succ]
    go_wp2
    go_ret
    exact ⟨rfl, rfl⟩

set_option maxRecDepth 100000 in
set_option maxHeartbeats 2000000 in
theorem closureP (x y : Sp) (W : World) : Calls Tryd.prog 37 #[.agg #[.int .i64 x.1, .int .i64 x.2], .agg #[.int .i64 y.1, .int .i64 y.2]] W fun e w' => e = .returned (.int .i64 (cfP x y)) ∧ ∃ q os', w' = Go.Sort.grow (W.drewN q) os' := by
  obtain ⟨x1, x2⟩ := x
  obtain ⟨y1, y2⟩ := y
  have hr : cfP (x1, x2) (y1, y2) = if cmpI x1 y1 = 0 then cmpI x2 y2 else cmpI x1 y1 := rfl
  rw [hr]
  clear hr
  dsimp only
  have C1 := hide1 (fun w' => cmpCompare_any x1 y1 w')
  have C2 := hide1 (fun w' => cmpCompare_any x2 y2 w')
  have CO := hide1 (fun g ca w' h0 h1 => cmpOr_any g ca (cmpI x1 y1) (cmpI x2 y2) w' h0 h1)
  generalize cmpI x1 y1 = r1 at *
  generalize cmpI x2 y2 = r2 at *
  obtain ⟨R, hR⟩ : ∃ R, (if r1 = 0 then r2 else r1) = R := ⟨_, rfl⟩
  rw [hR] at CO ⊢
  clear hR
  obtain ⟨k1, k2, k3⟩ := blkN2 W #[.int .i64 x1, .int .i64 x2] #[.int .i64 y1, .int .i64 y2] 57 57
  have z0 : ((W.alloc (.cells #[.int .i64 x1, .int .i64 x2] 57)).alloc (.cells #[.int .i64 y1, .int .i64 y2] 57)).cell? ⟨W.heap.size, 0, none⟩ = some (.int .i64 x1) := k1.cell 0
  have z1 : ((W.alloc (.cells #[.int .i64 x1, .int .i64 x2] 57)).alloc (.cells #[.int .i64 y1, .int .i64 y2] 57)).cell? ⟨W.heap.size, 1, none⟩ = some (.int .i64 x2) := k1.cell 1
  have z2 : ((W.alloc (.cells #[.int .i64 x1, .int .i64 x2] 57)).alloc (.cells #[.int .i64 y1, .int .i64 y2] 57)).cell? ⟨W.heap.size + 1, 0, none⟩ = some (.int .i64 y1) := k2.cell 0
  have z3 : ((W.alloc (.cells #[.int .i64 x1, .int .i64 x2] 57)).alloc (.cells #[.int .i64 y1, .int .i64 y2] 57)).cell? ⟨W.heap.size + 1, 1, none⟩ = some (.int .i64 y2) := k2.cell 1
  have l1 := k1.lt
  have l2 := k2.lt
  have HW : Hid (∃ os, ((W.alloc (.cells #[.int .i64 x1, .int .i64 x2] 57)).alloc (.cells #[.int .i64 y1, .int .i64 y2] 57)) = Go.Sort.grow W os) := ⟨_, by rw [Go.Sort.alloc_eq_grow, Go.Sort.alloc_eq_grow, Go.Sort.grow_grow]⟩
  clear k1 k2 k3
  go_enter Tryd.func37, Tryd.ntmps37
  go_wp2_with fail
  generalize ((W.alloc (.cells #[.int .i64 x1, .int .i64 x2] 57)).alloc (.cells #[.int .i64 y1, .int .i64 y2] 57)) = W0 at *
  try go_wp2_with fail
  go_region_held3 (fun w' => w'.cell? ⟨W.heap.size, 0, none⟩ = some (.int .i64 x1) ∧ w'.cell? ⟨W.heap.size, 1, none⟩ = some (.int .i64 x2) ∧ w'.cell? ⟨W.heap.size + 1, 0, none⟩ = some (.int .i64 y1) ∧ w'.cell? ⟨W.heap.size + 1, 1, none⟩ = some (.int .i64 y2)) (first | go_keep | exact ⟨z0, z1, z2, z3⟩ | exact ⟨((show Below W0.heap.size W0 _ by go_grown).cell l1).trans z0, ((show Below W0.heap.size W0 _ by go_grown).cell l1).trans z1, ((show Below W0.heap.size W0 _ by go_grown).cell l2).trans z2, ((show Below W0.heap.size W0 _ by go_grown).cell l2).trans z3⟩) ((first | (go_at_call 61; refine (CO.out _ _ _ (by first | exact (Blk.new W0 3 #[.int .i64 r1, .int .i64 r2]).cell 0 | exact (Blk.new W0.drew 3 #[.int .i64 r1, .int .i64 r2]).cell 0) (by first | exact (Blk.new W0 3 #[.int .i64 r1, .int .i64 r2]).cell 1 | exact (Blk.new W0.drew 3 #[.int .i64 r1, .int .i64 r2]).cell 1)).mono ?_; rintro e w9 ⟨rfl, rfl⟩) | (have := M1.out; go_at_call 62; refine (C2.out _).mono ?_; rintro e w8 ⟨rfl, rfl⟩) | (go_at_call 62; refine (C1.out _).mono ?_; rintro e w7 ⟨rfl, rfl⟩; have M1 := hide1 trivial)))
  go_wp2
  go_ret
  obtain ⟨os, hos⟩ := HW.out
  exact ⟨rfl, 1, _, by rw [hos, Go.Sort.alloc_eq_grow, Go.Sort.grow_grow]; rfl⟩

theorem cmpLaysP (blk off size : Nat) (w : World) : CmpLays Tryd.prog 37 #[] spC 2 cfP blk off size w :=
  fun _ _ _ _ x y => closureP x y _
theorem Tryd.aggSpot : ∀ w, (isAgg 57).run Tryd.prog w = .ok true w := Tryd.isAgg57
theorem Tryd.sizeSpot : ∀ w, (Go.sizeOf 57).run Tryd.prog w = .ok 2 w := Tryd.sizeOf57
theorem flat_sps (l : List Sp) : (flatK spC 2 l.toArray).toList = sps l := by
  refine List.ext_getElem? fun j => ?_
  by_cases hj : j < l.length * 2
  · have h5 : j % 2 < 2 := Nat.mod_lt _ (by decide)
    have hi : j / 2 < l.length := by omega
    have e := sps_at l (j / 2) (j % 2) hi h5
    rw [show j / 2 * 2 + j % 2 = j by omega] at e
    have hs : j < (flatK spC 2 l.toArray).size := by rw [size_flatK]; simpa using hj
    rw [e, Array.getElem?_toList, Array.getElem?_eq_getElem hs]
    have := get_flatK spC 2 l.toArray j (by simpa using hj)
    rw [getElem!_pos (flatK spC 2 l.toArray) j hs] at this
    rw [this, getElem!_pos l.toArray (j / 2) (by simpa using hi)]
    simp only [List.getElem_toArray]
    rw [List.getElem?_eq_getElem (by rw [spC_length]; exact h5), getElem!_pos (spC l[j / 2]) (j % 2) (by rw [spC_length]; exact h5)]
  · rw [List.getElem?_eq_none (by simp; omega), List.getElem?_eq_none (by rw [sps_length]; omega)]
theorem holds_of_ownP {w : World} {base n cap blk : Nat} {L : List Sp} (h : w.ownsRow base 57 2 (.slice (some ⟨blk, 0, none⟩) n cap) n (sps L)) (hn : L.length = n) : HoldsK spC 2 w blk 0 L.toArray := by
  intro j hj
  have hj' : j < L.length * 2 := by rw [size_flatK] at hj; simpa using hj
  refine ⟨?_, h.frozenAt _⟩
  have e : (flatK spC 2 L.toArray).toList[j]? = (sps L)[j]? := by rw [flat_sps]
  rw [Array.getElem?_toList, Array.getElem?_eq_getElem hj] at e
  rw [Nat.zero_add, h.cellAt j (by omega), ← e, getElem!_pos _ j hj]
  rfl
theorem heap_sortP {w : World} {g n : Nat} {os : Array Obj} {cur : Array Value} {e : TypeId} {fr : Nat × Nat} (d : Array Value) (hb : w.heap[g]? = some (.cells cur e fr)) :
    (Go.Sort.grow (Go.Sort.putRow id (Go.Sort.ahead w n) g 0 d) os).heap[g]? = some (.cells (Go.Sort.putCells id 0 d cur) e fr) := by
  have hg : g < w.heap.size := (Array.getElem?_eq_some_iff.1 hb).1
  rw [Go.Sort.heap_grow_old _ _ (by simpa using hg)]
  simp [Go.Sort.putRow, Go.Sort.mapBlock, Go.Sort.ahead, Array.getElem?_modify, hb, Go.Sort.onCells]
theorem take_putCellsP (cur d : Array Value) (h : d.size ≤ cur.size) : (Go.Sort.putCells id 0 d cur).toList.take d.size = d.toList := by
  apply List.ext_getElem?
  intro j
  by_cases hj : j < d.size
  · rw [List.getElem?_take_of_lt hj, Array.getElem?_toList]
    simp [Go.Sort.putCells, hj, show j < cur.size by omega]
  · rw [List.getElem?_take_eq_none (by omega), List.getElem?_eq_none (by simp; omega)]
theorem own_sortP {w : World} {base g cap m : Nat} {os : Array Obj} {L M : List Sp} (h : w.ownsRow base 57 2 (.slice (some ⟨g, 0, none⟩) L.length cap) L.length (sps L)) (hl : M.length = L.length) :
    (sortWorldK spC 2 w g 0 m M.toArray os).ownsRow base 57 2 (.slice (some ⟨g, 0, none⟩) L.length cap) L.length (sps M) := by
  rcases h.2 with ⟨hv, _⟩ | ⟨g', cap', cur, hv, hb, hh, r1, r2, r3, r4⟩
  · cases hv
  · injection hv with e1 e2 e3
    injection e1 with e1
    injection e1 with e1
    subst e1 e3
    have hsz : (flatK spC 2 M.toArray).size = L.length * 2 := by rw [size_flatK]; simp [hl]
    refine ⟨by rw [sps_length, hl], .inr ⟨g, cap, _, rfl, hb, heap_sortP _ hh, r1, r2, by simp [Go.Sort.putCells, r3], ?_⟩⟩
    rw [← flat_sps, ← hsz]
    exact take_putCellsP cur _ (by omega)
theorem below_sortP {w : World} {blk n B : Nat} {d : Array Sp} {os : Array Obj} (hB : B ≤ blk) (hs : blk < w.heap.size) : Below B w (sortWorldK spC 2 w blk 0 n d os) := by
  refine ⟨rfl, rfl, rfl, size_sortWorldK_c spC 2 w blk 0 n d os, fun k hk => ?_⟩
  unfold sortWorldK putRowK Go.Sort.putRow Go.Sort.mapBlock Go.Sort.grow Go.Sort.ahead
  simp only []
  rw [Array.getElem?_append_left (by simp; omega), Array.getElem?_modify, if_neg (by omega)]
/-- Lists in order that have the same spots are one. -/
theorem srt_uniq {l m : List Sp} (h1 : SrtS l) (h2 : SrtS m) (hp : l.Perm m) : l = m := by
  refine List.Perm.eq_of_pairwise (le := fun a b => ahd b a = false) (fun a b _ _ e1 e2 => ?_) h1 h2 hp
  have e1 := ahd_not.1 e1
  have e2 := ahd_not.1 e2
  exact Prod.ext (by omega) (by omega)
theorem insS_perm (l : List Sp) (x : Sp) : (insS l x).Perm (l ++ [x]) := by
  unfold insS
  refine (List.perm_append_comm.trans ?_)
  rw [← List.append_assoc]
  refine List.Perm.append ?_ (List.Perm.refl _)
  refine List.perm_append_comm.trans ?_
  exact List.filter_append_perm (fun y => ahd y x) l

/-- Sorted by 'slices.SortFunc': the list in its order. -/
theorem sortP_any (E R : List Sp) (base blk cap : Nat) (w : World) (hR : SrtS R) (hp : R.Perm E) (h : w.ownsRow base 57 2 (.slice (some ⟨blk, 0, none⟩) E.length cap) E.length (sps E)) (hl : E.length ≤ 1048576) :
    Calls Tryd.prog 36 #[.slice (some ⟨blk, 0, none⟩) E.length cap, .func (.func 37) #[] #[]] w fun e w' => e = .returned (.tuple #[]) ∧ w'.ownsRow base 57 2 (.slice (some ⟨blk, 0, none⟩) E.length cap) E.length (sps R) ∧ Below base w w' := by
  have hb := h.lt blk rfl
  have hH := holds_of_ownP h rfl
  have eg : ∀ args w, (callFunc 37 args).run Tryd.prog w = .ok (.enter 37 args) w := enters_of Tryd.func37 (by kernel_rfl) rfl
  have hcon := AnyQ.slices_SortFunc sortP 2 Tryd.aggSpot Tryd.sizeSpot spC (fun _ => rfl) (fun x v hv => by simp [spC] at hv; rcases hv with rfl | rfl <;> rfl) cfP swoP 37 #[] blk 0 cap E.toArray w eg (cmpLaysP blk 0 _ w) hH hb.2 (by simp; omega)
  change Calls Tryd.prog 36 _ _ _ at hcon
  have es : E.toArray.size = E.length := by simp
  rw [es] at hcon
  refine hcon.mono ?_
  rintro e w' ⟨rfl, d', n, os, hpp, hs, rfl⟩
  have hsz : d'.size = E.length := by rw [hpp.1]; simp
  have hperm : d'.toList.Perm E := by
    have := hpp.2.2
    rw [← es] at this
    rw [show E.toArray.size = d'.size from hpp.1.symm, Array.extract_size] at this
    rw [show d'.size = E.toArray.size from hpp.1, Array.extract_size] at this
    simpa using this
  have hasc : SrtS d'.toList := by
    unfold SrtS
    rw [List.pairwise_iff_getElem]
    intro i j hi hj hij
    have hi' : i < d'.size := by simpa using hi
    have hj' : j < d'.size := by simpa using hj
    have h1 := hs i j (Nat.zero_le _) hij (by omega)
    rw [cfP_lt, getElem!_pos d' i hi', getElem!_pos d' j hj'] at h1
    simpa using h1
  have he : d' = R.toArray := by
    have := srt_uniq hasc hR (hperm.trans hp.symm)
    rw [← this]
  refine ⟨rfl, ?_, below_sortP hb.1 hb.2⟩
  rw [he]
  exact own_sortP h hp.length_eq
end Go.Proofs.YtdgpencendphbaaDoor
