/- The model's l17Lines and l17Commas. -/
import Derived.Test.YtelmchifpgaibaaDoorSAL
import Derived.Test.YtelmchifpgaibaaDoorSAD
import Derived.BigQuiet
import Derived.Test.YtelmchifpgaibaaDoorSAF
import Derived.Laws.Rows
import Derived.Laws.Tables
import Derived.Deep.RegionHeld3
namespace Go.Proofs.YtelmchifpgaibaaDoor
open Go.RowKit
set_option linter.unusedVariables false

set_option maxRecDepth 100000 in
set_option maxHeartbeats 2000000 in
theorem specLines_any (s : ByteArray) (w : World) (hs : s.size ≤ 4000) :
    Calls Tryd.prog 12 #[.string s] w fun e w' => ∃ v, e = .returned v ∧ w'.ownsRow w.heap.size 9 1 v (linesL s).length (sc (linesL s)) ∧ Below w.heap.size w w' := by
  obtain ⟨i0, hi, hz0, hz1, hz2⟩ := info_parts Tryd.info9
  go_enter Tryd.func12, Tryd.ntmps12
  go_wp2
  go_loopw [3, 4, 5] (fun v bv iv wr => ∃ (i b : Nat) (l : List ByteArray), i ≤ s.size ∧ iv = .int .i64 (i : Int) ∧ bv = .int .i64 (b : Int) ∧ Hid ((b, l) = cuS 10 s i) ∧ b ≤ i ∧ l.length ≤ i ∧ wr.ownsRow w.heap.size 9 1 v l.length (sc l) ∧ Below w.heap.size w wr) (fun _ _ iv _ => s.size - (intOf iv).toNat)
  case atStart => exact ⟨0, 0, [], by omega, rfl, rfl, rfl, by omega, by simp, owns_empty w _, (Below.refl _ _).alloc (Nat.le_refl _) _⟩
  case round =>
    obtain ⟨i, b, l, hi1, rfl, rfl, hp, hbi, hll, hown, hbel⟩ := hrel
    have hbs := hbel.size
    by_cases hlt : i < s.size
    · have hb := get_byt s
      have hb1 := byt_le s i
      by_cases c2 : byt s i = 10
      · have c2' : (((byt s i : Nat) : Int) == 10) = true := by simp; omega
        have hcut : Hid _ := (show ¬ (i < s.size ∧ byt s i ≠ 10) from fun hh => hh.2 c2)
        clear c2
        go_wp2_with (at_builtin; (refine wpList_push1 rfl _ _ 31 rfl w.heap.size 9 i0 (.string ⟨#[]⟩) 16 Tryd.underlying31 hi hz0 hz1 hz2 rfl (by decide) _ l.length (sc l) rfl hown _ rfl rfl (by omega) hbs ?_; intro v' w1 hown' hb'))
        go_roundw
        case rel => exact ⟨i + 1, i + 1, l ++ [s.extract b i], by omega, by go_num, by go_num, cuS_part hp.out hcut.out, by omega, by simp; omega, by rw [sc_append, List.length_append]; exact hown', hbel.trans hb'⟩
        case measure => simp [intOf]; omega
      · have c2' : (((byt s i : Nat) : Int) == 10) = false := by simp; omega
        go_wp2
        go_roundw
        case rel => exact ⟨i + 1, b, l, by omega, by go_num, rfl, cuS_skip hp.out hlt c2, by omega, by omega, hown, hbel⟩
        case measure => simp [intOf]; omega
    · obtain rfl : i = s.size := by omega
      have k1 : ¬ ((s.size : Int) < (s.size : Int)) := by omega
      have e1 : (cuS 10 s s.size).1 = b := by rw [← hp.out]
      have e2 : (cuS 10 s s.size).2 = l := by rw [← hp.out]
      by_cases c3 : b < s.size
      · have RES := hide1 (show linesL s = l ++ [s.extract b s.size] by unfold linesL; rw [e1, e2, if_pos c3])
        clear hp e1 e2
        go_wp2_with (at_builtin; (refine wpList_push1 rfl _ _ 31 rfl w.heap.size 9 i0 (.string ⟨#[]⟩) 16 Tryd.underlying31 hi hz0 hz1 hz2 rfl (by decide) _ l.length (sc l) rfl hown _ rfl rfl (by omega) hbs ?_; intro v' w1 hown' hb'))
        go_ret
        exact ⟨_, rfl, by rw [RES.out, sc_append, List.length_append]; exact hown', hbel.trans hb'⟩
      · have RES := hide1 (show linesL s = l by unfold linesL; rw [e1, e2, if_neg c3])
        clear hp e1 e2
        go_wp2
        go_ret
        exact ⟨_, rfl, by rw [RES.out]; exact hown, hbel⟩

set_option maxRecDepth 100000 in
set_option maxHeartbeats 2000000 in
theorem specCommas_any (s : ByteArray) (w : World) (hs : s.size ≤ 4000) :
    Calls Tryd.prog 14 #[.string s] w fun e w' => ∃ b c, e = .returned (.tuple #[.slice b ((viewOf s).getD []).length c, .bool (viewOf s).isSome]) ∧ OwnK w' w.heap.size b c ((viewOf s).getD []) ∧ Below w.heap.size w w' := by
  obtain ⟨i0, hi, hz0, hz1, hz2⟩ := info_parts Tryd.infoZ
  have O0 := hide1 (own_emptyZ w w.heap.size (Nat.le_refl _))
  have B0 := hide1 ((Below.refl w.heap.size w).alloc (Nat.le_refl _) (.cells #[] 3))
  go_enter Tryd.func14, Tryd.ntmps14
  go_wp2
  generalize (w.alloc (.cells #[] 3)) = u at O0 B0 ⊢
  go_loopw [4, 5, 6] (fun ov bv iv wr => ∃ (i b : Nat) (l : List ByteArray) (v : List Int) (ob : Option Addr) (oc : Nat), i ≤ s.size + 1 ∧ iv = .int .i64 (i : Int) ∧ bv = .int .i64 (b : Int) ∧ ov = .slice ob v.length oc ∧ Hid ((b, l) = cuS 44 s i) ∧ b ≤ i ∧ v.length ≤ i ∧ Hid (numsL l = some v) ∧ Hid (OwnK wr w.heap.size ob oc v) ∧ Hid (Below w.heap.size w wr)) (fun _ _ iv _ => s.size + 1 - (intOf iv).toNat)
  case atStart => exact ⟨0, 0, [], [], _, _, by omega, rfl, rfl, rfl, rfl, by omega, Nat.le_refl _, rfl, O0, B0⟩
  case round =>
    obtain ⟨i, b, l, v, ob, oc, hi1, rfl, rfl, rfl, hp, hbi, hvl, HN, HO, BB⟩ := hrel
    have hbs := BB.out.size
    by_cases hle : i ≤ s.size
    · have hb := get_byt s
      by_cases c0 : i < s.size ∧ byt s i ≠ 44
      · have hlt := c0.1
        have c2 := c0.2
        have hb1 := byt_le s i
        have c2' : (((byt s i : Nat) : Int) != 44) = true := by simp; omega
        have k1 : (i : Int) < (s.size : Int) := by omega
        clear c0
        go_wp2
        go_roundw
        case rel => exact ⟨i + 1, b, l, v, ob, oc, by omega, by go_num, rfl, rfl, cuS_skip hp.out hlt c2, by omega, by omega, HN, HO, BB⟩
        case measure => simp [intOf]; omega
      · obtain ⟨x, hx⟩ : ∃ x, x = s.extract b i := ⟨_, rfl⟩
        have HX := hide1 hx
        have hxs : x.size ≤ 1048576 := by rw [hx, ByteArray.size_extract]; omega
        have C := hide1 (fun w' => specReadDec_any x w' hxs)
        have YES := hide1 (fun h => numsL_yes HN.out (x := x) h)
        have PT := hide1 (show (i + 1, l ++ [x]) = cuS 44 s (i + 1) by rw [hx]; exact cuS_part hp.out c0)
        have NO := hide1 (fun (h : rdB x = false) => viewOf_no hp.out HN.out c0 hle (by rw [← hx]; exact h))
        have hown : wr.ownsRow w.heap.size 3 1 (.slice ob v.length oc) v.length (iz v) := HO.out
        clear hx
        have hl0 : (0 : Int) ≤ (b : Int) := by omega
        have hl1 : (b : Int) ≤ (i : Int) := by omega
        have hl2 : (i : Int) ≤ (s.size : Int) := by omega
        by_cases hlt : i < s.size
        · have c2 : byt s i = 44 := Classical.byContradiction fun h => c0 ⟨hlt, h⟩
          have hb1 := byt_le s i
          have c2' : (((byt s i : Nat) : Int) != 44) = false := by simp; omega
          have k1 : (i : Int) < (s.size : Int) := by omega
          clear c0 c2
          cases hx2 : rdB x with
          | true =>
            have HY := hide1 (show rdDec x = .tuple #[.int .i64 (numOf x), .bool true] by unfold rdDec; rw [hx2]; rfl)
            have NX := hide1 (YES.out hx2)
            rw [HY.out] at C
            clear YES NO HY hx2
            go_wp2_with fail
            rw [← HX.out]
            refine (C.out _).mono ?_
            rintro e w5 ⟨rfl, hb5⟩
            have hown5 := own_kept hown hb5
            have hs5 : w.heap.size ≤ w5.heap.size := Nat.le_trans hbs hb5.size
            go_wp2_with (at_builtin; (refine wpList_push1 rfl _ _ 35 rfl w.heap.size 3 i0 (.int .i64 0) 8 Tryd.underlying35 hi hz0 hz1 hz2 rfl (by decide) _ v.length (iz v) rfl hown5 (.int .i64 (numOf x)) rfl rfl (by omega) hs5 ?_; intro v' w7 hown' hb'))
            go_roundw
            case rel =>
              have h8 : w7.ownsRow w.heap.size 3 1 v' (v.length + 1) (iz (v ++ [numOf x])) := by rw [iz_append]; exact hown'
              obtain ⟨b', c', rfl, h9, _⟩ := own_iz h8
              exact ⟨i + 1, i + 1, l ++ [x], v ++ [numOf x], b', c', by omega, by go_num, by go_num, by rw [List.length_append, List.length_cons, List.length_nil], PT, by omega, by rw [List.length_append, List.length_cons, List.length_nil]; omega, NX, hide1 h9, hide1 (BB.out.trans ((hb5.mono hbs).trans hb'))⟩
            case measure => simp [intOf]; omega
          | false =>
            have HY := hide1 (show rdDec x = .tuple #[.int .i64 0, .bool false] by unfold rdDec; rw [hx2]; rfl)
            have NX := hide1 (NO.out hx2)
            rw [HY.out] at C
            clear YES NO HY hx2
            go_wp2_with fail
            rw [← HX.out]
            refine (C.out _).mono ?_
            rintro e w5 ⟨rfl, hb5⟩
            go_wp2
            go_ret2
            rw [NX.out]
            exact ⟨_, _, rfl, own_emptyZ w5 w.heap.size (Nat.le_trans hbs hb5.size), (BB.out.trans (hb5.mono hbs)).alloc (Nat.le_trans hbs hb5.size) _⟩
        · obtain rfl : i = s.size := by omega
          have k1 : ¬ ((s.size : Int) < (s.size : Int)) := by omega
          clear c0 hlt
          cases hx2 : rdB x with
          | true =>
            have HY := hide1 (show rdDec x = .tuple #[.int .i64 (numOf x), .bool true] by unfold rdDec; rw [hx2]; rfl)
            have NX := hide1 (YES.out hx2)
            rw [HY.out] at C
            clear YES NO HY hx2
            go_wp2_with fail
            rw [← HX.out]
            refine (C.out _).mono ?_
            rintro e w5 ⟨rfl, hb5⟩
            have hown5 := own_kept hown hb5
            have hs5 : w.heap.size ≤ w5.heap.size := Nat.le_trans hbs hb5.size
            go_wp2_with (at_builtin; (refine wpList_push1 rfl _ _ 35 rfl w.heap.size 3 i0 (.int .i64 0) 8 Tryd.underlying35 hi hz0 hz1 hz2 rfl (by decide) _ v.length (iz v) rfl hown5 (.int .i64 (numOf x)) rfl rfl (by omega) hs5 ?_; intro v' w7 hown' hb'))
            go_roundw
            case rel =>
              have h8 : w7.ownsRow w.heap.size 3 1 v' (v.length + 1) (iz (v ++ [numOf x])) := by rw [iz_append]; exact hown'
              obtain ⟨b', c', rfl, h9, _⟩ := own_iz h8
              exact ⟨s.size + 1, s.size + 1, l ++ [x], v ++ [numOf x], b', c', by omega, by go_num, by go_num, by rw [List.length_append, List.length_cons, List.length_nil], PT, by omega, by rw [List.length_append, List.length_cons, List.length_nil]; omega, NX, hide1 h9, hide1 (BB.out.trans ((hb5.mono hbs).trans hb'))⟩
            case measure => simp [intOf] <;> omega
          | false =>
            have HY := hide1 (show rdDec x = .tuple #[.int .i64 0, .bool false] by unfold rdDec; rw [hx2]; rfl)
            have NX := hide1 (NO.out hx2)
            rw [HY.out] at C
            clear YES NO HY hx2
            go_wp2_with fail
            rw [← HX.out]
            refine (C.out _).mono ?_
            rintro e w5 ⟨rfl, hb5⟩
            go_wp2
            go_ret2
            rw [NX.out]
            exact ⟨_, _, rfl, own_emptyZ w5 w.heap.size (Nat.le_trans hbs hb5.size), (BB.out.trans (hb5.mono hbs)).alloc (Nat.le_trans hbs hb5.size) _⟩
    · obtain rfl : i = s.size + 1 := by omega
      have RES := hide1 (show viewOf s = some v by unfold viewOf piecesL; rw [← hp.out]; exact HN.out)
      have k1 : ¬ (((s.size + 1 : Nat) : Int) ≤ (s.size : Int)) := by omega
      clear hp HN
      go_wp2
      go_ret2
      rw [RES.out]
      exact ⟨ob, oc, rfl, HO.out, BB.out⟩
end Go.Proofs.YtelmchifpgaibaaDoor
namespace Go.Proofs.YtelmchifpgaibaaDoor
open Go.RowKit
set_option linter.unusedVariables false

/-- The worlds that have grown out of u. -/
def Gr (u : World) : Type := {w' : World // Below u.heap.size u w'}
def Gr.w {u : World} (n : Gr u) : World := n.1
theorem Gr.b {u : World} (n : Gr u) : Below u.heap.size u n.w := n.2
instance (u : World) : Nonempty (Gr u) := ⟨⟨u, Below.refl _ _⟩⟩
theorem Gr.cell {u : World} (n : Gr u) {p : Addr} {v : Value} (h : u.cell? p = some v) : n.w.cell? p = some v := (n.2.cell (World.block_lt_of_cell? u _ h)).trans h
theorem wp_region_grown {P : Program} {id : Nat} {Q : Exit → Act → World → Prop} {a : Act} {u : World} {l : List Oper} (hm : P.follows .mixedOrders = true) (hB : Region.lexB .any l.toArray = true)
    (h : wpQuiet P l.toArray (fun w' => ∃ n : Gr u, w' = n.w) (fun a' => ∀ w', (∃ n : Gr u, w' = n.w) → Q .normal a' w') l a) : (Code.region id l.toArray true).wp P Q a u :=
  wp_region_quiet (C := fun w' => ∃ n : Gr u, w' = n.w) hm hB ⟨⟨{ u with drawn := u.drawn + 1 }, (Below.refl u.heap.size u).drew⟩, rfl⟩ (by simpa using h)
theorem quiet_grown {P : Program} {f : FuncId} {args : Array Value} {u : World} {n : Gr u} {v : Value} (h : Calls P f args n.w fun e w' => e = .returned v ∧ Below n.w.heap.size n.w w') : Calls P f args n.w fun e w'' => e = .returned v ∧ ∃ m : Gr u, w'' = m.w :=
  h.mono fun e w' he => ⟨he.1, ⟨w', n.2.trans (he.2.mono n.2.size)⟩, rfl⟩
theorem quiet_grownS {P : Program} {f : FuncId} {args : Array Value} {u : World} {n : Gr u} {v : Value} (h : Calls P f args n.w fun e w' => e = .returned v ∧ w' = n.w) : Calls P f args n.w fun e w'' => e = .returned v ∧ ∃ m : Gr u, w'' = m.w :=
  h.mono fun e w' he => ⟨he.1, n, he.2⟩
end Go.Proofs.YtelmchifpgaibaaDoor
namespace Go.Proofs.YtelmchifpgaibaaDoor
open Go.RowKit
set_option linter.unusedVariables false

/-- A block that holds these cells. -/
def BlkA (w : World) (g : Nat) (t : TypeId) (cs : Array Value) : Prop := w.heap[g]? = some (.cells cs t (0, 0))
theorem BlkA.lt {w : World} {g : Nat} {t : TypeId} {cs : Array Value} (h : BlkA w g t cs) : g < w.heap.size := by
  by_cases c : g < w.heap.size
  · exact c
  · unfold BlkA at h
    rw [Array.getElem?_eq_none (by omega)] at h
    simp at h
theorem BlkA.below {w w' : World} {g B : Nat} {t : TypeId} {cs : Array Value} (h : BlkA w g t cs) (hb : Below B w w') (hB : g < B) : BlkA w' g t cs := (hb.block g hB).trans h
theorem BlkA.new (w : World) (t : TypeId) (cs : Array Value) : BlkA (w.alloc (.cells cs t)) w.heap.size t cs := heap_alloc_last _ _
theorem BlkA.blk {w : World} {g : Nat} {t : TypeId} {cs : Array Value} (h : BlkA w g t cs) : Blk w g t cs.toList := by unfold Blk; simpa [BlkA] using h
theorem Blk.arr {w : World} {g : Nat} {t : TypeId} {cs : List Value} (h : Blk w g t cs) : BlkA w g t cs.toArray := h
theorem BlkA.cell {w : World} {g : Nat} {t : TypeId} {cs : Array Value} (h : BlkA w g t cs) (j : Nat) {v : Value} (hj : cs.toList[j]? = some v) : w.cell? ⟨g, j, none⟩ = some v := by
  have := (Blk.cell h.blk j)
  rw [hj] at this
  exact this
theorem BlkA.froz {w : World} {g : Nat} {t : TypeId} {cs : Array Value} (h : BlkA w g t cs) (j : Nat) : w.frozen? ⟨g, j, none⟩ = false := h.blk.froz j
theorem BlkA.setc {w : World} {g : Nat} {t : TypeId} {cs : Array Value} (h : BlkA w g t cs) (j : Nat) (u : Value) : BlkA (w.setCell ⟨g, j, none⟩ u) g t (cs.toList.set j u).toArray := (Blk.set h.blk j u).arr
theorem BlkA.far {w : World} {g g' : Nat} {t : TypeId} {cs : Array Value} (h : BlkA w g t cs) (j : Nat) (u : Value) (hn : g' ≠ g) : BlkA (w.setCell ⟨g', j, none⟩ u) g t cs := by
  have := (Blk.far h.blk ⟨g', j, none⟩ u (by dsimp only; omega)).arr
  simpa using this
theorem heap_alloc_two (w : World) (o p : Obj) : ((w.alloc o).alloc p).heap[w.heap.size + 1]? = some p := by
  have := heap_alloc_last (w.alloc o) p
  rwa [World.size_alloc] at this
theorem setRow_alloc_two (w : World) (o : Obj) (c c' : Array Value) (t : TypeId) : ((w.alloc o).alloc (.cells c t)).setRow (w.heap.size + 1) c' = (w.alloc o).alloc (.cells c' t) := by
  have := World.setRow_alloc_new (w.alloc o) c c' t
  rwa [World.size_alloc] at this
theorem two_newT (w : World) (t : TypeId) (cx cy : Array Value) : BlkA ((w.alloc (.cells cx t)).alloc (.cells cy t)) w.heap.size t cx ∧ BlkA ((w.alloc (.cells cx t)).alloc (.cells cy t)) (w.heap.size + 1) t cy ∧ Below w.heap.size w ((w.alloc (.cells cx t)).alloc (.cells cy t)) := by
  have b1 := (Below.refl w.heap.size w).alloc (Nat.le_refl _) (.cells cx t)
  have b2 := (Below.refl (w.alloc (.cells cx t)).heap.size (w.alloc (.cells cx t))).alloc (Nat.le_refl _) (.cells cy t)
  have k1 := BlkA.new w t cx
  have k2 := BlkA.new (w.alloc (.cells cx t)) t cy
  rw [World.size_alloc] at k2
  exact ⟨k1.below b2 k1.lt, k2, b1.trans (b2.mono b1.size)⟩
theorem step_loadR {P : Program} {ops : Array Oper} {o : Oper} {a : Act} {w : World} {K : Act → World → Prop} {Q : Exit → Act → World → Prop} {D : Prop} (hgd : o.guard = none) (ty : TypeId) (x : Operand) (ho : o.op = .load ty x)
    (g : Nat) (hx : a.eval x = .pointer (some ⟨g, 0, none⟩)) (t : TypeId) (cs : Array Value) (d : TypeDesc) (hg : BlkA w g t cs)
    (hu : P.underlying ty = some d) (hd : (match d with | .struct _ | .array _ _ => true | _ => false) = true) (hi : (P.info? ty).map (·.size) = some cs.size)
    (h : K (a.put o.dst (.agg cs)) w) : if Region.wanted o (yielded ops a.tmps) = true then Oper.wp P o a w K Q else D := by
  rw [if_pos (by unfold Region.wanted; rw [hgd])]
  exact wp_load_row ty x ho g hx t cs (0, 0) d hg hu hd hi h
/-- A whole struct is loaded. -/
theorem BlkA.load {P : Program} {w : World} {g : Nat} {t ty : TypeId} {cs : Array Value} {d : TypeDesc} (h : BlkA w g t cs) (hu : P.underlying ty = some d) (hd : (match d with | .struct _ | .array _ _ => true | _ => false) = true) (hi : (P.info? ty).map (·.size) = some cs.size) :
    (Instr.loadAt ty (.pointer (some ⟨g, 0, none⟩))).run P w = .ok (.agg cs) w := by
  simp only [Instr.loadAt, Instr.sureAddr, Sem.run_bind, Sem.run_pure, Result.andThen_ok, run_loadVar_row w g t ty cs (0, 0) d h hu hd hi]
theorem yieldsIf_loadA {P : Program} {ops : Array Oper} {S : World → Prop} {op : Oper} {a : Act} (hw : Region.wanted op (yielded ops a.tmps) = true) (ty : TypeId) (x : Operand) (ho : op.op = .load ty x)
    (g : Nat) (hx : a.eval x = .pointer (some ⟨g, 0, none⟩)) (cs : Array Value) (hS : ∀ w, S w → (Instr.loadAt ty (.pointer (some ⟨g, 0, none⟩))).run P w = .ok (.agg cs) w) : YieldsIf P ops S op (.agg cs) a :=
  .inl ⟨hw, fun w h => by
    unfold execOp
    simp only [ho, hx, Sem.run_bind, Sem.run_pure, Result.andThen_ok, hS w h]⟩
theorem wpList_load_rowG {P : Program} {ops : Array Oper} {rest : List Oper} {o : Oper} {a : Act} {w : World} {Q : Exit → Act → World → Prop} (hgd : Region.wanted o (yielded ops a.tmps) = true) (ty : TypeId) (x : Operand) (ho : o.op = .load ty x)
    (g : Nat) (hx : a.eval x = .pointer (some ⟨g, 0, none⟩)) (t : TypeId) (cs : Array Value) (d : TypeDesc) (hg : BlkA w g t cs)
    (hu : P.underlying ty = some d) (hd : (match d with | .struct _ | .array _ _ => true | _ => false) = true) (hi : (P.info? ty).map (·.size) = some cs.size)
    (h : wpList P ops Q rest (a.put o.dst (.agg cs)) w) : wpList P ops Q (o :: rest) a w :=
  wpList_step fun K hK => by rw [if_pos hgd]; exact wp_load_row ty x ho g hx t cs (0, 0) d hg hu hd hi (hK _ _ h)
end Go.Proofs.YtelmchifpgaibaaDoor
namespace Go.Proofs.YtelmchifpgaibaaDoor
open Go.RowKit
set_option linter.unusedVariables false

theorem quiet_loadA {P : Program} {C : World → Prop} {o : Oper} {a : Act} {K : Act → Prop} (ty : TypeId) (x : Operand) (ho : o.op = .load ty x)
    (b f : Nat) (hx : a.eval x = .pointer (some ⟨b, f, none⟩)) (cs : Array Value) (hS : ∀ w, C w → (Instr.loadAt ty (.pointer (some ⟨b, f, none⟩))).run P w = .ok (.agg cs) w) (h : K (a.put o.dst (.agg cs))) : o.quiet P a C K :=
  ⟨_, fun w hw => by
    unfold Oper.quietAt execOp
    simp only [ho, hx, Sem.run_bind, Sem.run_pure, Result.andThen_ok, hS w hw]
    exact ⟨rfl, rfl⟩, h⟩
theorem Gr.blk {u : World} (n : Gr u) {g : Nat} {t : TypeId} {cs : Array Value} (h : BlkA u g t cs) : BlkA n.w g t cs := h.below n.2 h.lt
theorem gr_load {P : Program} {u : World} {g : Nat} {t ty : TypeId} {cs : Array Value} {d : TypeDesc} (h : BlkA u g t cs) (hu : P.underlying ty = some d) (hd : (match d with | .struct _ | .array _ _ => true | _ => false) = true) (hi : (P.info? ty).map (·.size) = some cs.size) :
    ∀ w, (∃ n : Gr u, w = n.w) → (Instr.loadAt ty (.pointer (some ⟨g, 0, none⟩))).run P w = .ok (.agg cs) w := fun w ⟨n, e⟩ => by subst e; exact (n.blk h).load hu hd hi
end Go.Proofs.YtelmchifpgaibaaDoor
