import Derived.Deep.Cut
import Derived.Test.YtigpjmmfelndkaaGreatDoorLXBO
namespace Go.Proofs.YtigpjmmfelndkaaGreatDoor
open Go.RowKit
set_option maxRecDepth 100000
set_option maxHeartbeats 2000000
theorem qvJ {P : Program} {w : World} {ops : Array Oper} {o : Oper} {a : Act} {K : Act -> World -> Prop} {Q : Exit -> Act -> World -> Prop} {E : Prop} (hgd : o.guard = none) (s x : Operand) (t : TypeId)
  (ho : o.op = .call { callee := .builtin .append, args := #[s, x], argTypes := #[t, t] })
  (base : Nat) (e : TypeId) (i : TypeInfo) (ht : P.underlying t = some (.slice e)) (hi : P.info? e = some i) (hz : i.zero = some (slV zS)) (hsize : i.size = 5) (hby : i.bytes = 56)
  (v : Value) (acc : List Sl) (hs : a.eval s = v) (hown : w.ownsRow base e 5 v acc.length (sls acc)) (nb : List Sl) (g m c : Nat) (hm : nb.length = m) (hx : a.eval x = .slice (some ⟨g, 0, none⟩) m c)
  (hnews : ∀ i (h : i < nb.length), slotAt w g i nb[i]) (hlen : acc.length + m <= 1048576) (hbase : base <= w.heap.size)
  (h : ∀ v' w', w'.ownsRow base e 5 v' (acc ++ nb).length (sls (acc ++ nb)) -> Below base w w' -> K (a.put o.dst v') w') :
  if Region.wanted o (yielded ops a.tmps) = true then Oper.wp P o a w K Q else E := by
 have hw : Region.wanted o (yielded ops a.tmps) = true := by simp [Region.wanted, hgd]
 rw [if_pos hw]
 refine wp_append_own _ s x t ho base e i (slV zS) 5 56 ht hi hz hsize hby rfl (by decide) v acc.length (sls acc) hs hown ⟨g, 0, none⟩ m c (sls nb) hx (by rw [qaL]; omega) ?_ ?_ (by unfold maxLen; omega) (by omega) hbase ?_
 ·intro j u hj
  have hjl : j < nb.length * 5 := by
   have := (List.getElem?_eq_some_iff.1 hj).1
   rwa [qaL] at this
  have h5 : j % 5 < 5 := Nat.mod_lt _ (by decide)
  have hq : j / 5 < nb.length := by omega
  have hr := qjN nb (j / 5) (j % 5) hq h5
  rw [show j / 5 * 5 + j % 5 = j by omega, hj] at hr
  rw [Addr.add_lit, Nat.zero_add]
  obtain ⟨x0, x1, x2, x3, x4⟩ := hnews (j / 5) hq
  have hje : j = j / 5 * 5 + j % 5 := by omega
  rw [hje]
  generalize nb[j / 5] = s5 at *
  generalize j / 5 = q at *
  generalize j % 5 = r at *
  match r, h5 with
  | 0, _ => rw [Nat.add_zero, x0]; exact hr.symm
  | 1, _ => rw [x1]; exact hr.symm
  | 2, _ => rw [x2]; exact hr.symm
  | 3, _ => rw [x3]; exact hr.symm
  | 4, _ => rw [x4]; exact hr.symm
  | r + 5, h => omega
 ·intro u hu
  obtain ⟨s5, _, hs5⟩ := List.mem_flatMap.1 hu
  simp [slC] at hs5
  rcases hs5 with rfl | rfl | rfl | rfl | rfl <;> rfl
 ·intro v' w' h1 h2 _
  refine h v' w' ?_ ?_
  ·rw [qgE, List.length_append, hm]; exact h1
  ·refine Below.grown (Below.refl _ _) h2 hbase ?_
   intro k hk
   exact (hown.lt k hk).1
theorem qhJ (w : World) (o1 o2 : Obj) : ((w.alloc o1).alloc o2).heap[w.heap.size]? = some o1 /\ ((w.alloc o1).alloc o2).heap[w.heap.size + 1]? = some o2 := by
 show ((w.heap.push o1).push o2)[w.heap.size]? = some o1 /\ ((w.heap.push o1).push o2)[w.heap.size + 1]? = some o2
 refine ⟨?_, ?_⟩
 ·rw [Array.getElem?_push, if_neg (by simp), Array.getElem?_push, if_pos rfl]
 ·rw [Array.getElem?_push, if_pos (by simp)]
theorem qbI {P : Program} {fn : Func} {p u v : Tmp} {ty : TypeId} (h : fn.results = #[.cell p ty, .tmp u, .tmp v]) (tmps : Array Value) (w : World) (g : Nat) (t : TypeId) (cs : Array Value) (fr : Nat × Nat) (d : TypeDesc)
  (hp : tmps.getD p undef = .pointer (some ⟨g, 0, none⟩)) (hg : w.heap[g]? = some (.cells cs t fr))
  (hu : P.underlying ty = some d) (hd : (match d with | .struct _ | .array _ _ => true | _ => false) = true) (hi : (P.info? ty).map (·.size) = some cs.size) :
  (results fn tmps).run P w = .ok (.tuple #[.agg cs, tmps.getD u undef, tmps.getD v undef]) w := by
 have hp' : tmps[p]?.getD undef = .pointer (some ⟨g, 0, none⟩) := by simpa using hp
 simp [results, h, hp', asAddr, run_loadVar_row w g t ty cs fr d hg hu hd hi]
theorem qaW {P : Program} {fn : Func} {p u : Tmp} {ty : TypeId} (h : fn.results = #[.cell p ty, .tmp u]) (tmps : Array Value) (w : World) (g : Nat) (t : TypeId) (cs : Array Value) (fr : Nat × Nat) (d : TypeDesc)
  (hp : tmps.getD p undef = .pointer (some ⟨g, 0, none⟩)) (hg : w.heap[g]? = some (.cells cs t fr))
  (hu : P.underlying ty = some d) (hd : (match d with | .struct _ | .array _ _ => true | _ => false) = true) (hi : (P.info? ty).map (·.size) = some cs.size) :
  (results fn tmps).run P w = .ok (.tuple #[.agg cs, tmps.getD u undef]) w := by
 have hp' : tmps[p]?.getD undef = .pointer (some ⟨g, 0, none⟩) := by simpa using hp
 simp [results, h, hp', asAddr, run_loadVar_row w g t ty cs fr d hg hu hd hi]
theorem qeZ {w : World} {g : Nat} {t : TypeId} {a0 a1 : Value} (hg : w.heap[g]? = some (.cells #[a0, a1] t (0, 0))) (u0 u1 : Value) :
  ((w.setCell ⟨g, 0, none⟩ u0).setCell ⟨g, 1, none⟩ u1).heap[g]? = some (.cells #[u0, u1] t (0, 0)) :=
 heap_setCell_same _ g 1 _ _ _ (heap_setCell_same _ g 0 _ _ _ hg)
theorem qoD {w : World} {base n : Nat} {e : TypeId} {v : Value} {xs : List Value} (h : w.ownsRow base e 5 v n xs) (hn : 0 < n) : ∃ g cap, v = .slice (some ⟨g, 0, none⟩) n cap /\ base <= g /\ g < w.heap.size := by
 rcases h.2 with ⟨_, h0⟩ | ⟨g, cap, cur, hv, _⟩
 ·omega
 ·have := h.lt g (by rw [hv]; rfl)
  exact ⟨g, cap, hv, this.1, this.2⟩
theorem qsV (w : World) (e : TypeId) : (w.alloc (.cells #[] e)).ownsRow w.heap.size e 5 (.slice (some ⟨w.heap.size, 0, none⟩) 0 0) 0 [] :=
 ⟨rfl, .inr ⟨w.heap.size, 0, #[], rfl, Nat.le_refl _, heap_alloc_new w _, Nat.le_refl _, Nat.zero_le _, rfl, rfl⟩⟩
theorem qfP (ao : Option Addr) (l : List Sl) (ca : Nat) (f : Int) (w : World) (hl : l.length <= 24) (h0 : 1 <= l.length) (hA : RdA w ao l) :
  Calls Tryz.prog 84 #[arV ao l.length ca f] w fun e w' => ∃ b c, e = .returned (arV (some ⟨b, 0, none⟩) l.length c f) /\ w'.ownsRow w.heap.size 99 5 (.slice (some ⟨b, 0, none⟩) l.length c) l.length (sls l) /\ Below w.heap.size w w' := by
 obtain ⟨i0, hi, hz0, hz1, hz2⟩ := info_parts Tryz.infoSlot
 obtain ⟨g, rfl, hg, _⟩ := hA.at 0 (by omega)
 have HA := hI (show ∀ i (h : i < l.length), slotAt w g i l[i] from fun i hi => by obtain ⟨g', e, _, h⟩ := hA.at i hi; simp at e; subst e; exact h)
 clear hA
 unfold arV
 go_enter Tryz.func84, Tryz.ntmps84
 go_wp2
 have bl := qhJ w (.cells #[.slice (some ⟨g, 0, none⟩) l.length ca, .int .i64 f] 26) (.cells #[.slice none 0 0, .int .i64 0] 26)
 have B0 := hI (qcF w (.cells #[.slice (some ⟨g, 0, none⟩) l.length ca, .int .i64 f] 26) (.cells #[.slice none 0 0, .int .i64 0] 26))
 have hsz : ((w.alloc (.cells #[.slice (some ⟨g, 0, none⟩) l.length ca, .int .i64 f] 26)).alloc (.cells #[.slice none 0 0, .int .i64 0] 26)).heap.size = w.heap.size + 1 + 1 := by simp only [World.size_alloc]
 generalize ((w.alloc (.cells #[.slice (some ⟨g, 0, none⟩) l.length ca, .int .i64 f] 26)).alloc (.cells #[.slice none 0 0, .int .i64 0] 26)) = wn at *
 obtain ⟨b1, b2⟩ := bl
 have x0 : wn.cell? ⟨w.heap.size, 0, none⟩ = some (.slice (some ⟨g, 0, none⟩) l.length ca) := by rw [cell_of_row wn w.heap.size 0 _ _ _ b1]; rfl
 have x1 : wn.cell? ⟨w.heap.size, 1, none⟩ = some (.int .i64 f) := by rw [cell_of_row wn w.heap.size 1 _ _ _ b1]; rfl
 have HS := hI (fun i hi => (HA.out i hi).below B0.out hg)
 have BB := hI b2
 have HZ := hI hsz
 have hgn : g < wn.heap.size := by omega
 have l0 : w.heap.size < wn.heap.size := by omega
 have l1 : w.heap.size + 1 < wn.heap.size := by omega
 have X0 := hI x0
 have X1 := hI x1
 clear b1 b2 hsz
 go_region_held3 (fun w' => w'.cell? ⟨w.heap.size, 0, none⟩ = some (.slice (some ⟨g, 0, none⟩) l.length ca) /\ w'.cell? ⟨w.heap.size, 1, none⟩ = some (.int .i64 f)) (first | go_keep | exact ⟨(hbb.cell l0).trans X0.out, (hbb.cell l0).trans X1.out⟩) ((refine qvJ rfl (.tmp 3) (.tmp 5) 24 rfl wn.heap.size 99 i0 Tryz.underlying24 hi hz0 hz1 hz2 (.slice (some ⟨wn.heap.size, 0, none⟩) 0 0) [] (by rfl) (by exact qsV _ _) l g l.length ca rfl (by rfl) (fun i hi => (HS.out i hi).below (B := wn.heap.size) (by go_grown) hgn) (by simp; omega) (by go_size) ?_; intro v' w1 hown' hb'; simp only [List.nil_append] at hown'; obtain ⟨b, c, rfl, hbg, hbw⟩ := qoD hown' (by omega); have hbb : Below wn.heap.size wn w1 := (show Below wn.heap.size wn _ by go_grown).trans hb'; have c2 : w1.heap[w.heap.size + 1]? = some (.cells #[.slice none 0 0, .int .i64 0] 26 (0, 0)) := (hbb.block _ l1).trans BB.out; have y0 : w1.cell? ⟨w.heap.size + 1, 0, none⟩ = some (.slice none 0 0) := (by rw [cell_of_row w1 (w.heap.size + 1) 0 _ _ _ c2]; rfl); have y1 : w1.cell? ⟨w.heap.size + 1, 1, none⟩ = some (.int .i64 0) := (by rw [cell_of_row w1 (w.heap.size + 1) 1 _ _ _ c2]; rfl); have f0 : ∀ j, w1.frozen? ⟨w.heap.size + 1, j, none⟩ = false := (fun j => by simp [World.frozen?, c2]); have CC2 := hI c2; have HB := hI hbb; have HO := hI hown'; clear c2 hown' hb'))
 go_wp2
 refine bodyPost_ret (results_cell_row Tryz.results84 _ _ (w.heap.size + 1) 26 #[.slice (some ⟨b, 0, none⟩) l.length c, .int .i64 f] (0, 0) _ rfl (qeZ CC2.out _ _) Tryz.underlying26 rfl (by kernel_rfl)) rfl ?_
 have hz := HZ.out
 refine ⟨b, c, rfl, qaB (qaA (qaA HO.out _ _ ?_) _ _ ?_) (by omega), ?_⟩
 ·intro k hk; have := (HO.out.lt k hk).1; dsimp only; omega
 ·intro k hk; have := (HO.out.lt k hk).1; dsimp only; omega
 ·exact ((B0.out.trans (HB.out.mono (by omega))).setCell (p := ⟨w.heap.size + 1, 0, none⟩) (by dsimp only; omega) _).setCell (p := ⟨w.heap.size + 1, 1, none⟩) (by dsimp only; omega) _
theorem qsS (ao : Option Addr) (l : List Sl) (ca : Nat) (f : Int) (ky vl : ByteArray) (w : World) (hl : l.length <= 1048576) (hA : RdA w ao l) :
  Calls Tryz.prog 41 #[arV ao l.length ca f, .string ky, .string vl] w fun e w' =>
   ((∃ (k b c : Nat) (hk : k < l.length), e = .returned (.tuple #[arV (some ⟨b, 0, none⟩) l.length c l[k].next, .int .i64 (24 * l[k].gen + (k : Int)), .bool true]) /\ f = (k : Int) /\ OkA l f /\ 1 <= ky.size /\ ky.size <= 12 /\ vl.size <= 20 /\ w'.ownsRow w.heap.size 99 5 (.slice (some ⟨b, 0, none⟩) l.length c) l.length (sls (l.set k ⟨l[k].gen, true, ky, vl, 0⟩)))
    ∨ (e = .returned (.tuple #[arV none 0 0 0, .int .i64 0, .bool false]) /\ ¬ (OkA l f /\ f ≠ -1 /\ 1 <= ky.size /\ ky.size <= 12 /\ vl.size <= 20))) /\ Below w.heap.size w w' := by
 have C1 := hI (fun o1 o2 => qgC ao l ca f ((w.alloc o1).alloc o2) hl (hA.later (qcF w o1 o2)))
 have HA := hI hA
 clear hA
 unfold arV at C1 ⊢
 go_enter Tryz.func41, Tryz.ntmps41
 go_wp2_with fail
 refine (C1.out _ _).mono ?_
 rintro e w1 ⟨x, rfl, hx, hb1⟩
 have bl := qhJ w (.cells #[.slice ao l.length ca, .int .i64 f] 26) (.cells #[.slice none 0 0, .int .i64 0] 26)
 have B1 := hI ((qcF w (.cells #[.slice ao l.length ca, .int .i64 f] 26) (.cells #[.slice none 0 0, .int .i64 0] 26)).trans (hb1.mono (qcF w _ _).size))
 have hsz : w.heap.size + 1 + 1 <= w1.heap.size := by have := hb1.size; simp only [World.size_alloc] at this; exact this
 rw [<- hb1.block w.heap.size (by simp only [World.size_alloc]; omega), <- hb1.block (w.heap.size + 1) (by simp only [World.size_alloc]; omega)] at bl
 obtain ⟨b1, b2⟩ := bl
 have x0 : w1.cell? ⟨w.heap.size, 0, none⟩ = some (.slice ao l.length ca) := by rw [cell_of_row w1 w.heap.size 0 _ _ _ b1]; rfl
 have x1 : w1.cell? ⟨w.heap.size, 1, none⟩ = some (.int .i64 f) := by rw [cell_of_row w1 w.heap.size 1 _ _ _ b1]; rfl
 have y0 : w1.cell? ⟨w.heap.size + 1, 0, none⟩ = some (.slice none 0 0) := by rw [cell_of_row w1 (w.heap.size + 1) 0 _ _ _ b2]; rfl
 have y1 : w1.cell? ⟨w.heap.size + 1, 1, none⟩ = some (.int .i64 0) := by rw [cell_of_row w1 (w.heap.size + 1) 1 _ _ _ b2]; rfl
 have f0 : ∀ j, w1.frozen? ⟨w.heap.size + 1, j, none⟩ = false := fun j => by simp [World.frozen?, b2]
 have BB := hI b2
 have HX := hI hx
 clear hb1 hx b1 b2
 rcases x with _ | _
 ·have HN := hI (show ¬ (OkA l f /\ f ≠ -1 /\ 1 <= ky.size /\ ky.size <= 12 /\ vl.size <= 20) from fun h => by have := HX.out.2 h.1; cases this)
  clear HX
  go_wp2
  refine bodyPost_ret (qbI Tryz.results41 _ _ (w.heap.size + 1) 26 #[.slice none 0 0, .int .i64 0] (0, 0) _ rfl (qeZ BB.out _ _) Tryz.underlying26 rfl (by kernel_rfl)) rfl ?_
  exact ⟨.inr ⟨rfl, HN.out⟩, (B1.out.setCell (p := ⟨w.heap.size + 1, 0, none⟩) (by dsimp only; omega) _).setCell (p := ⟨w.heap.size + 1, 1, none⟩) (by dsimp only; omega) _⟩
 ·have HOK := hI (HX.out.1 rfl)
  clear HX
  by_cases hf : f = -1
  ·have q : (f == -1) = true := by simp [hf]
   have HN := hI (show ¬ (OkA l f /\ f ≠ -1 /\ 1 <= ky.size /\ ky.size <= 12 /\ vl.size <= 20) from fun h => h.2.1 hf)
   clear hf
   go_wp2
   refine bodyPost_ret (qbI Tryz.results41 _ _ (w.heap.size + 1) 26 #[.slice none 0 0, .int .i64 0] (0, 0) _ rfl (qeZ BB.out _ _) Tryz.underlying26 rfl (by kernel_rfl)) rfl ?_
   exact ⟨.inr ⟨rfl, HN.out⟩, (B1.out.setCell (p := ⟨w.heap.size + 1, 0, none⟩) (by dsimp only; omega) _).setCell (p := ⟨w.heap.size + 1, 1, none⟩) (by dsimp only; omega) _⟩
  ·have q : (f == -1) = false := by simp [hf]
   have kk := fun w => qdP (ky.size : Int) 1 12 w
   by_cases ck : 1 <= ky.size /\ ky.size <= 12
   ·rw [show (decide ((1 : Int) <= (ky.size : Int)) && decide ((ky.size : Int) <= 12)) = true by simp; omega] at kk
    have CI := hI kk
    have CK := hI ck
    clear kk ck
    by_cases cv : vl.size <= 20
    ·have qv : decide ((20 : Int) < (vl.size : Int)) = false := by simp; omega
     have CV := hI cv
     obtain ⟨k, hk, hlt, hus⟩ : ∃ k : Nat, f = (k : Int) /\ ∃ hk : k < l.length, l[k].used = false := by
      rcases HOK.out.free with h | h
      ·exact absurd h hf
      ·exact h
     clear hf
     have hn24 := HOK.out.most
     have CP := hI (qfP ao l ca f w1 hn24 (by omega) (HA.out.later B1.out))
     unfold arV at CP
     subst hk
     have k1 : (k : Int) < (l.length : Int) := by omega
     obtain ⟨g, rfl, hg, hs⟩ := HA.out.at k hlt
     have hgn := HOK.out.slots k hlt
     obtain ⟨g1, g2⟩ : 0 <= l[k].gen /\ l[k].gen <= 41666665 := ⟨hgn.1, hgn.2.1⟩
     have HS := hI hs
     clear hs hgn
     go_wp2_with fail
     refine (CI.out _).mono ?_
     rintro e w2 ⟨rfl, rfl⟩
     go_wp2_with fail
     refine CP.out.mono ?_
     rintro e w2 ⟨b, c, rfl, ho, hb2⟩
     have hbl := ho.lt b rfl
     have z0 := (hb2.cell (p := ⟨w.heap.size, 0, none⟩) (by dsimp only; omega)).trans x0
     have z1 := (hb2.cell (p := ⟨w.heap.size, 1, none⟩) (by dsimp only; omega)).trans x1
     have BB2 := hI ((hb2.block (w.heap.size + 1) (by omega)).trans BB.out)
     have v0 := (hb2.cell (p := ⟨w.heap.size + 1, 0, none⟩) (by dsimp only; omega)).trans y0
     have v1 := (hb2.cell (p := ⟨w.heap.size + 1, 1, none⟩) (by dsimp only; omega)).trans y1
     have fz : ∀ j, w2.frozen? ⟨w.heap.size + 1, j, none⟩ = false := fun j => by simp [World.frozen?, BB2.out]
     have B2 := tRn B1 hb2
     obtain ⟨s0, s1, s2, s3, s4⟩ := HS.out.below B2.out hg
     obtain ⟨u0, t0⟩ := qaQ ho (k * 5) (by omega)
     obtain ⟨u1, t1⟩ := qaQ ho (k * 5 + 1) (by omega)
     obtain ⟨u2, t2⟩ := qaQ ho (k * 5 + 2) (by omega)
     obtain ⟨u3, t3⟩ := qaQ ho (k * 5 + 3) (by omega)
     obtain ⟨u4, t4⟩ := qaQ ho (k * 5 + 4) (by omega)
     have r0 := ho.frozenAt (k * 5)
     have r1 := ho.frozenAt (k * 5 + 1)
     have r2 := ho.frozenAt (k * 5 + 2)
     have r3 := ho.frozenAt (k * 5 + 3)
     have r4 := ho.frozenAt (k * 5 + 4)
     have hs2 := hb2.size
     have l0 : w.heap.size < w2.heap.size := by omega
     have l1 : w.heap.size + 1 < w2.heap.size := by omega
     have l2 : b < w2.heap.size := hbl.2
     have l3 : g < w2.heap.size := by omega
     have HO := hI ho
     clear ho hb2 x0 x1 y0 y1 f0
     go_wp2
     have O5 := qoC HO.out rfl k hlt ⟨l[k].gen, true, ky, vl, 0⟩
     have B5 := qdW B2.out (show w.heap.size <= b by omega) k ⟨l[k].gen, true, ky, vl, 0⟩
     have BK : (((((w2.setCell ⟨b, k * 5, none⟩ (.int .i64 l[k].gen)).setCell ⟨b, k * 5 + 1, none⟩ (.bool true)).setCell ⟨b, k * 5 + 2, none⟩ (.string ky)).setCell ⟨b, k * 5 + 3, none⟩ (.string vl)).setCell ⟨b, k * 5 + 4, none⟩ (.int .i64 0)).heap[w.heap.size + 1]? = some (.cells #[.slice none 0 0, .int .i64 0] 26 (0, 0)) := by
      have hne : w.heap.size + 1 ≠ b := by omega
      rw [Below.heap_setCell _ _ _ _ hne, Below.heap_setCell _ _ _ _ hne, Below.heap_setCell _ _ _ _ hne, Below.heap_setCell _ _ _ _ hne, Below.heap_setCell _ _ _ _ hne]
      exact BB2.out
     have hz5 : (((((w2.setCell ⟨b, k * 5, none⟩ (.int .i64 l[k].gen)).setCell ⟨b, k * 5 + 1, none⟩ (.bool true)).setCell ⟨b, k * 5 + 2, none⟩ (.string ky)).setCell ⟨b, k * 5 + 3, none⟩ (.string vl)).setCell ⟨b, k * 5 + 4, none⟩ (.int .i64 0)).heap.size = w2.heap.size := by simp only [World.size_setCell]
     simp only at O5 B5
     generalize (((((w2.setCell ⟨b, k * 5, none⟩ (.int .i64 l[k].gen)).setCell ⟨b, k * 5 + 1, none⟩ (.bool true)).setCell ⟨b, k * 5 + 2, none⟩ (.string ky)).setCell ⟨b, k * 5 + 3, none⟩ (.string vl)).setCell ⟨b, k * 5 + 4, none⟩ (.int .i64 0)) = w5 at *
     clear z0 z1 v0 v1 fz s0 s1 s2 s3 s4 t0 t1 t2 t3 t4 r0 r1 r2 r3 r4 l3
     rw [<- hz5] at l0 l1 l2
     have bz := qhJ w5 (.cells #[.slice (some ⟨b, 0, none⟩) l.length c, .int .i64 l[k].next] 26) (.cells #[.int .i64 l[k].gen, .bool false, .string l[k].key, .string l[k].val, .int .i64 l[k].next] 99)
     have O6 := hI ((O5.alloc (.cells #[.slice (some ⟨b, 0, none⟩) l.length c, .int .i64 l[k].next] 26)).alloc (.cells #[.int .i64 l[k].gen, .bool false, .string l[k].key, .string l[k].val, .int .i64 l[k].next] 99))
     have B6 := hI (B5.trans ((qcF w5 (.cells #[.slice (some ⟨b, 0, none⟩) l.length c, .int .i64 l[k].next] 26) (.cells #[.int .i64 l[k].gen, .bool false, .string l[k].key, .string l[k].val, .int .i64 l[k].next] 99)).mono B5.size))
     have BK2 := ((qcF w5 (.cells #[.slice (some ⟨b, 0, none⟩) l.length c, .int .i64 l[k].next] 26) (.cells #[.int .i64 l[k].gen, .bool false, .string l[k].key, .string l[k].val, .int .i64 l[k].next] 99)).block (w.heap.size + 1) l1).trans BK
     generalize ((w5.alloc (.cells #[.slice (some ⟨b, 0, none⟩) l.length c, .int .i64 l[k].next] 26)).alloc (.cells #[.int .i64 l[k].gen, .bool false, .string l[k].key, .string l[k].val, .int .i64 l[k].next] 99)) = wz at *
     rw [hz5] at bz
     obtain ⟨bz0, bz1⟩ := bz
     have p0 : wz.cell? ⟨w2.heap.size, 0, none⟩ = some (.slice (some ⟨b, 0, none⟩) l.length c) := by rw [cell_of_row wz w2.heap.size 0 _ _ _ bz0]; rfl
     have p1 : wz.cell? ⟨w2.heap.size, 1, none⟩ = some (.int .i64 l[k].next) := by rw [cell_of_row wz w2.heap.size 1 _ _ _ bz0]; rfl
     have p2 : wz.cell? ⟨w2.heap.size + 1, 0, none⟩ = some (.int .i64 l[k].gen) := by rw [cell_of_row wz (w2.heap.size + 1) 0 _ _ _ bz1]; rfl
     have p3 : wz.cell? ⟨w.heap.size + 1, 0, none⟩ = some (.slice none 0 0) := by rw [cell_of_row wz (w.heap.size + 1) 0 _ _ _ BK2]; rfl
     have p4 : wz.cell? ⟨w.heap.size + 1, 1, none⟩ = some (.int .i64 0) := by rw [cell_of_row wz (w.heap.size + 1) 1 _ _ _ BK2]; rfl
     have fz : ∀ j, wz.frozen? ⟨w.heap.size + 1, j, none⟩ = false := fun j => by simp [World.frozen?, BK2]
     have m1 : IntKind.i64.wrap (24 * l[k].gen) = 24 * l[k].gen := IntWalk.i64_in _ ⟨by omega, by omega⟩
     have m2 : IntKind.i64.wrap (24 * l[k].gen + (k : Int)) = 24 * l[k].gen + (k : Int) := IntWalk.i64_in _ ⟨by omega, by omega⟩
     have BK3 := hI BK2
     have hbz : ¬ b = w.heap.size + 1 := by omega
     clear bz0 bz1 BK2 BK O5 B5 hz5
     go_region
     go_wp2
     refine bodyPost_ret (qbI Tryz.results41 _ _ (w.heap.size + 1) 26 #[.slice (some ⟨b, 0, none⟩) l.length c, .int .i64 l[k].next] (0, 0) _ rfl (qeZ BK3.out _ _) Tryz.underlying26 rfl (by kernel_rfl)) rfl ?_
     refine ⟨.inl ⟨k, b, c, hlt, rfl, rfl, HOK.out, CK.out.1, CK.out.2, CV.out, ?_⟩, ?_⟩
     ·refine (qaB (qaA (qaA O6.out _ _ ?_) _ _ ?_) (by omega)).drew
      ·intro j hj; have : j = b := (by simpa [Value.ownBlock] using hj.symm); dsimp only; omega
      ·intro j hj; have : j = b := (by simpa [Value.ownBlock] using hj.symm); dsimp only; omega
     ·exact ((B6.out.setCell (p := ⟨w.heap.size + 1, 0, none⟩) (by dsimp only; omega) _).setCell (p := ⟨w.heap.size + 1, 1, none⟩) (by dsimp only; omega) _).drew
    ·have qv : decide ((20 : Int) < (vl.size : Int)) = true := by simp; omega
     have HN := hI (show ¬ (OkA l f /\ f ≠ -1 /\ 1 <= ky.size /\ ky.size <= 12 /\ vl.size <= 20) from fun h => cv h.2.2.2.2)
     clear hf cv
     go_wp2_with fail
     refine (CI.out _).mono ?_
     rintro e w2 ⟨rfl, rfl⟩
     go_wp2
     refine bodyPost_ret (qbI Tryz.results41 _ _ (w.heap.size + 1) 26 #[.slice none 0 0, .int .i64 0] (0, 0) _ rfl (qeZ BB.out _ _) Tryz.underlying26 rfl (by kernel_rfl)) rfl ?_
     exact ⟨.inr ⟨rfl, HN.out⟩, (B1.out.setCell (p := ⟨w.heap.size + 1, 0, none⟩) (by dsimp only; omega) _).setCell (p := ⟨w.heap.size + 1, 1, none⟩) (by dsimp only; omega) _⟩
   ·rw [show (decide ((1 : Int) <= (ky.size : Int)) && decide ((ky.size : Int) <= 12)) = false by simp; omega] at kk
    have CI := hI kk
    have HN := hI (show ¬ (OkA l f /\ f ≠ -1 /\ 1 <= ky.size /\ ky.size <= 12 /\ vl.size <= 20) from fun h => ck ⟨h.2.2.1, h.2.2.2.1⟩)
    clear kk ck hf
    go_wp2_with fail
    refine (CI.out _).mono ?_
    rintro e w2 ⟨rfl, rfl⟩
    go_wp2
    refine bodyPost_ret (qbI Tryz.results41 _ _ (w.heap.size + 1) 26 #[.slice none 0 0, .int .i64 0] (0, 0) _ rfl (qeZ BB.out _ _) Tryz.underlying26 rfl (by kernel_rfl)) rfl ?_
    exact ⟨.inr ⟨rfl, HN.out⟩, (B1.out.setCell (p := ⟨w.heap.size + 1, 0, none⟩) (by dsimp only; omega) _).setCell (p := ⟨w.heap.size + 1, 1, none⟩) (by dsimp only; omega) _⟩
def qbM (g : Int) : Int := if 41666665 < g + 1 then 0 else g + 1
def qaS (s : Sl) (f : Int) : Sl := ⟨qbM s.gen, false, ⟨#[]⟩, ⟨#[]⟩, f⟩
theorem qpZ (ao : Option Addr) (l : List Sl) (ca : Nat) (f h : Int) (w : World) (hl : l.length <= 1048576) (h1 : -9223372036854775808 <= h) (h2 : h <= 9223372036854775807) (hA : RdA w ao l) :
  Calls Tryz.prog 40 #[arV ao l.length ca f, .int .i64 h] w fun e w' =>
   ((∃ (k b c : Nat) (hk : k < l.length), e = .returned (.tuple #[arV (some ⟨b, 0, none⟩) l.length c (k : Int), .bool true]) /\ AtA l f h k /\ w'.ownsRow w.heap.size 99 5 (.slice (some ⟨b, 0, none⟩) l.length c) l.length (sls (l.set k (qaS l[k] f))))
    ∨ (e = .returned (.tuple #[arV none 0 0 0, .bool false]) /\ ∀ k, ¬ AtA l f h k)) /\ Below w.heap.size w w' := by
 have C1 := hI (fun o1 o2 => qmU ao l ca f h ((w.alloc o1).alloc o2) hl h1 h2 (hA.later (qcF w o1 o2)))
 have HA := hI hA
 clear hA
 unfold arV at C1 ⊢
 go_enter Tryz.func40, Tryz.ntmps40
 go_wp2_with fail
 refine (C1.out _ _).mono ?_
 rintro e w1 ⟨hx, hb1⟩
 have bl := qhJ w (.cells #[.slice ao l.length ca, .int .i64 f] 26) (.cells #[.slice none 0 0, .int .i64 0] 26)
 have B1 := hI ((qcF w (.cells #[.slice ao l.length ca, .int .i64 f] 26) (.cells #[.slice none 0 0, .int .i64 0] 26)).trans (hb1.mono (qcF w _ _).size))
 have hsz : w.heap.size + 1 + 1 <= w1.heap.size := by have := hb1.size; simp only [World.size_alloc] at this; exact this
 rw [<- hb1.block w.heap.size (by simp only [World.size_alloc]; omega), <- hb1.block (w.heap.size + 1) (by simp only [World.size_alloc]; omega)] at bl
 obtain ⟨b1, b2⟩ := bl
 have x0 : w1.cell? ⟨w.heap.size, 0, none⟩ = some (.slice ao l.length ca) := by rw [cell_of_row w1 w.heap.size 0 _ _ _ b1]; rfl
 have x1 : w1.cell? ⟨w.heap.size, 1, none⟩ = some (.int .i64 f) := by rw [cell_of_row w1 w.heap.size 1 _ _ _ b1]; rfl
 have y0 : w1.cell? ⟨w.heap.size + 1, 0, none⟩ = some (.slice none 0 0) := by rw [cell_of_row w1 (w.heap.size + 1) 0 _ _ _ b2]; rfl
 have y1 : w1.cell? ⟨w.heap.size + 1, 1, none⟩ = some (.int .i64 0) := by rw [cell_of_row w1 (w.heap.size + 1) 1 _ _ _ b2]; rfl
 have f0 : ∀ j, w1.frozen? ⟨w.heap.size + 1, j, none⟩ = false := fun j => by simp [World.frozen?, b2]
 have BB := hI b2
 clear hb1 b1 b2
 rcases hx with ⟨k, rfl, hk⟩ | ⟨rfl, hn⟩
 ·have q : decide ((k : Int) < 0) = false := by simp
  have hlt := hk.lt
  have HK := hI hk
  have hn24 := hk.ok.most
  have hgn := hk.ok.slots k hlt
  obtain ⟨g1, g2⟩ : 0 <= l[k].gen /\ l[k].gen <= 41666665 := ⟨hgn.1, hgn.2.1⟩
  have CP := hI (qfP ao l ca f w1 hn24 (by omega) (HA.out.later B1.out))
  unfold arV at CP
  have k1 : (k : Int) < (l.length : Int) := by omega
  obtain ⟨g, rfl, hg, hs⟩ := HA.out.at k hlt
  have HS := hI hs
  clear hs hgn hk
  go_wp2_with fail
  refine CP.out.mono ?_
  rintro e w2 ⟨b, c, rfl, ho, hb2⟩
  have hbl := ho.lt b rfl
  have z0 := (hb2.cell (p := ⟨w.heap.size, 0, none⟩) (by dsimp only; omega)).trans x0
  have z1 := (hb2.cell (p := ⟨w.heap.size, 1, none⟩) (by dsimp only; omega)).trans x1
  have BB2 := hI ((hb2.block (w.heap.size + 1) (by omega)).trans BB.out)
  have v0 := (hb2.cell (p := ⟨w.heap.size + 1, 0, none⟩) (by dsimp only; omega)).trans y0
  have v1 := (hb2.cell (p := ⟨w.heap.size + 1, 1, none⟩) (by dsimp only; omega)).trans y1
  have fz : ∀ j, w2.frozen? ⟨w.heap.size + 1, j, none⟩ = false := fun j => by simp [World.frozen?, BB2.out]
  have B2 := tRn B1 hb2
  obtain ⟨s0, s1, s2, s3, s4⟩ := HS.out.below B2.out hg
  obtain ⟨u0, t0⟩ := qaQ ho (k * 5) (by omega)
  obtain ⟨u1, t1⟩ := qaQ ho (k * 5 + 1) (by omega)
  obtain ⟨u2, t2⟩ := qaQ ho (k * 5 + 2) (by omega)
  obtain ⟨u3, t3⟩ := qaQ ho (k * 5 + 3) (by omega)
  obtain ⟨u4, t4⟩ := qaQ ho (k * 5 + 4) (by omega)
  have r0 := ho.frozenAt (k * 5)
  have r1 := ho.frozenAt (k * 5 + 1)
  have r2 := ho.frozenAt (k * 5 + 2)
  have r3 := ho.frozenAt (k * 5 + 3)
  have r4 := ho.frozenAt (k * 5 + 4)
  have hs2 := hb2.size
  have l0 : w.heap.size < w2.heap.size := by omega
  have l1 : w.heap.size + 1 < w2.heap.size := by omega
  have l2 : b < w2.heap.size := hbl.2
  have l3 : g < w2.heap.size := by omega
  have hb3 : w.heap.size + 1 + 1 <= b := by omega
  have hbs : ¬ b = w.heap.size + 1 := by omega
  have hbs2 : ¬ w.heap.size + 1 = b := by omega
  have HO := hI ho
  have OK5 := hI (fun gn => qoC ho rfl k hlt ⟨gn, false, ⟨#[]⟩, ⟨#[]⟩, f⟩)
  have BK5 := hI (fun gn => qdW B2.out (show w.heap.size <= b by omega) k ⟨gn, false, ⟨#[]⟩, ⟨#[]⟩, f⟩)
  clear ho hb2 x0 x1 y0 y1 f0 s1 s2 s3 s4
  by_cases cg : 41666665 < l[k].gen + 1
  ·have qg : decide (41666665 < l[k].gen + 1) = true := decide_eq_true cg
   have HG := hI (show qbM l[k].gen = 0 by unfold qbM; rw [if_pos cg])
   clear cg
   go_upto_region 10 with fail
   have O5 := OK5.out (0 : Int)
   have B5 := BK5.out (0 : Int)
   change ((((((w2.setCell ⟨b, k * 5, none⟩ (.int .i64 (0 : Int))).setCell ⟨b, k * 5 + 1, none⟩ (.bool false)).setCell ⟨b, k * 5 + 2, none⟩ (.string ⟨#[]⟩)).setCell ⟨b, k * 5 + 3, none⟩ (.string ⟨#[]⟩)).setCell ⟨b, k * 5 + 4, none⟩ (.int .i64 f))).ownsRow _ _ _ _ _ _ at O5
   have BK : ((((((w2.setCell ⟨b, k * 5, none⟩ (.int .i64 (0 : Int))).setCell ⟨b, k * 5 + 1, none⟩ (.bool false)).setCell ⟨b, k * 5 + 2, none⟩ (.string ⟨#[]⟩)).setCell ⟨b, k * 5 + 3, none⟩ (.string ⟨#[]⟩)).setCell ⟨b, k * 5 + 4, none⟩ (.int .i64 f))).heap[w.heap.size + 1]? = some (.cells #[.slice none 0 0, .int .i64 0] 26 (0, 0)) := by
    rw [Below.heap_setCell _ _ _ _ hbs2, Below.heap_setCell _ _ _ _ hbs2, Below.heap_setCell _ _ _ _ hbs2, Below.heap_setCell _ _ _ _ hbs2, Below.heap_setCell _ _ _ _ hbs2]
    exact BB2.out
   have hz5 : ((((((w2.setCell ⟨b, k * 5, none⟩ (.int .i64 (0 : Int))).setCell ⟨b, k * 5 + 1, none⟩ (.bool false)).setCell ⟨b, k * 5 + 2, none⟩ (.string ⟨#[]⟩)).setCell ⟨b, k * 5 + 3, none⟩ (.string ⟨#[]⟩)).setCell ⟨b, k * 5 + 4, none⟩ (.int .i64 f))).heap.size = w2.heap.size := by simp only [World.size_setCell]
   try simp only at O5 B5
   generalize (((((w2.setCell ⟨b, k * 5, none⟩ (.int .i64 (0 : Int))).setCell ⟨b, k * 5 + 1, none⟩ (.bool false)).setCell ⟨b, k * 5 + 2, none⟩ (.string ⟨#[]⟩)).setCell ⟨b, k * 5 + 3, none⟩ (.string ⟨#[]⟩)).setCell ⟨b, k * 5 + 4, none⟩ (.int .i64 f)) = w5 at *
   clear z0 z1 v0 v1 fz s0 t0 t1 t2 t3 t4 r0 r1 r2 r3 r4 l3
   have bz := heap_alloc_new w5 (.cells #[.slice (some ⟨b, 0, none⟩) l.length c, .int .i64 (k : Int)] 26)
   have O6 := hI (O5.alloc (.cells #[.slice (some ⟨b, 0, none⟩) l.length c, .int .i64 (k : Int)] 26))
   have B6 := hI (B5.alloc B5.size (.cells #[.slice (some ⟨b, 0, none⟩) l.length c, .int .i64 (k : Int)] 26))
   have BK2 := ((bAl w5 (.cells #[.slice (some ⟨b, 0, none⟩) l.length c, .int .i64 (k : Int)] 26)).block (w.heap.size + 1) (by omega)).trans BK
   generalize w5.alloc (.cells #[.slice (some ⟨b, 0, none⟩) l.length c, .int .i64 (k : Int)] 26) = wz at *
   rw [hz5] at bz
   have p0 : wz.cell? ⟨w2.heap.size, 0, none⟩ = some (.slice (some ⟨b, 0, none⟩) l.length c) := by rw [cell_of_row wz w2.heap.size 0 _ _ _ bz]; rfl
   have p1 : wz.cell? ⟨w2.heap.size, 1, none⟩ = some (.int .i64 (k : Int)) := by rw [cell_of_row wz w2.heap.size 1 _ _ _ bz]; rfl
   have p3 : wz.cell? ⟨w.heap.size + 1, 0, none⟩ = some (.slice none 0 0) := by rw [cell_of_row wz (w.heap.size + 1) 0 _ _ _ BK2]; rfl
   have p4 : wz.cell? ⟨w.heap.size + 1, 1, none⟩ = some (.int .i64 0) := by rw [cell_of_row wz (w.heap.size + 1) 1 _ _ _ BK2]; rfl
   have fz : ∀ j, wz.frozen? ⟨w.heap.size + 1, j, none⟩ = false := fun j => by simp [World.frozen?, BK2]
   have BK3 := hI BK2
   clear bz BK2 BK O5 B5 hz5
   go_wp2
   refine bodyPost_ret (qaW Tryz.results40 _ _ (w.heap.size + 1) 26 #[.slice (some ⟨b, 0, none⟩) l.length c, .int .i64 (k : Int)] (0, 0) _ rfl (qeZ BK3.out _ _) Tryz.underlying26 rfl (by kernel_rfl)) rfl ?_
   refine ⟨.inl ⟨k, b, c, hlt, rfl, HK.out, ?_⟩, ?_⟩
   ·show World.ownsRow _ _ _ _ _ _ (sls (l.set k ⟨qbM l[k].gen, false, ⟨#[]⟩, ⟨#[]⟩, f⟩))
    rw [HG.out]
    refine qaB (qaA (qaA O6.out _ _ ?_) _ _ ?_) (by omega)
    ·intro j hj; have : j = b := (by simpa [Value.ownBlock] using hj.symm); dsimp only; omega
    ·intro j hj; have : j = b := (by simpa [Value.ownBlock] using hj.symm); dsimp only; omega
   ·exact (B6.out.setCell (p := ⟨w.heap.size + 1, 0, none⟩) (by dsimp only; omega) _).setCell (p := ⟨w.heap.size + 1, 1, none⟩) (by dsimp only; omega) _
  ·have qg : decide (41666665 < l[k].gen + 1) = false := decide_eq_false cg
   have HG := hI (show qbM l[k].gen = l[k].gen + 1 by unfold qbM; rw [if_neg cg])
   clear cg
   go_upto_region 10 with fail
   have O5 := OK5.out (l[k].gen + 1)
   have B5 := BK5.out (l[k].gen + 1)
   change ((((((w2.setCell ⟨b, k * 5, none⟩ (.int .i64 (l[k].gen + 1))).setCell ⟨b, k * 5 + 1, none⟩ (.bool false)).setCell ⟨b, k * 5 + 2, none⟩ (.string ⟨#[]⟩)).setCell ⟨b, k * 5 + 3, none⟩ (.string ⟨#[]⟩)).setCell ⟨b, k * 5 + 4, none⟩ (.int .i64 f))).ownsRow _ _ _ _ _ _ at O5
   have BK : ((((((w2.setCell ⟨b, k * 5, none⟩ (.int .i64 (l[k].gen + 1))).setCell ⟨b, k * 5 + 1, none⟩ (.bool false)).setCell ⟨b, k * 5 + 2, none⟩ (.string ⟨#[]⟩)).setCell ⟨b, k * 5 + 3, none⟩ (.string ⟨#[]⟩)).setCell ⟨b, k * 5 + 4, none⟩ (.int .i64 f))).heap[w.heap.size + 1]? = some (.cells #[.slice none 0 0, .int .i64 0] 26 (0, 0)) := by
    rw [Below.heap_setCell _ _ _ _ hbs2, Below.heap_setCell _ _ _ _ hbs2, Below.heap_setCell _ _ _ _ hbs2, Below.heap_setCell _ _ _ _ hbs2, Below.heap_setCell _ _ _ _ hbs2]
    exact BB2.out
   have hz5 : ((((((w2.setCell ⟨b, k * 5, none⟩ (.int .i64 (l[k].gen + 1))).setCell ⟨b, k * 5 + 1, none⟩ (.bool false)).setCell ⟨b, k * 5 + 2, none⟩ (.string ⟨#[]⟩)).setCell ⟨b, k * 5 + 3, none⟩ (.string ⟨#[]⟩)).setCell ⟨b, k * 5 + 4, none⟩ (.int .i64 f))).heap.size = w2.heap.size := by simp only [World.size_setCell]
   try simp only at O5 B5
   generalize (((((w2.setCell ⟨b, k * 5, none⟩ (.int .i64 (l[k].gen + 1))).setCell ⟨b, k * 5 + 1, none⟩ (.bool false)).setCell ⟨b, k * 5 + 2, none⟩ (.string ⟨#[]⟩)).setCell ⟨b, k * 5 + 3, none⟩ (.string ⟨#[]⟩)).setCell ⟨b, k * 5 + 4, none⟩ (.int .i64 f)) = w5 at *
   clear z0 z1 v0 v1 fz s0 t0 t1 t2 t3 t4 r0 r1 r2 r3 r4 l3
   have bz := heap_alloc_new w5 (.cells #[.slice (some ⟨b, 0, none⟩) l.length c, .int .i64 (k : Int)] 26)
   have O6 := hI (O5.alloc (.cells #[.slice (some ⟨b, 0, none⟩) l.length c, .int .i64 (k : Int)] 26))
   have B6 := hI (B5.alloc B5.size (.cells #[.slice (some ⟨b, 0, none⟩) l.length c, .int .i64 (k : Int)] 26))
   have BK2 := ((bAl w5 (.cells #[.slice (some ⟨b, 0, none⟩) l.length c, .int .i64 (k : Int)] 26)).block (w.heap.size + 1) (by omega)).trans BK
   generalize w5.alloc (.cells #[.slice (some ⟨b, 0, none⟩) l.length c, .int .i64 (k : Int)] 26) = wz at *
   rw [hz5] at bz
   have p0 : wz.cell? ⟨w2.heap.size, 0, none⟩ = some (.slice (some ⟨b, 0, none⟩) l.length c) := by rw [cell_of_row wz w2.heap.size 0 _ _ _ bz]; rfl
   have p1 : wz.cell? ⟨w2.heap.size, 1, none⟩ = some (.int .i64 (k : Int)) := by rw [cell_of_row wz w2.heap.size 1 _ _ _ bz]; rfl
   have p3 : wz.cell? ⟨w.heap.size + 1, 0, none⟩ = some (.slice none 0 0) := by rw [cell_of_row wz (w.heap.size + 1) 0 _ _ _ BK2]; rfl
   have p4 : wz.cell? ⟨w.heap.size + 1, 1, none⟩ = some (.int .i64 0) := by rw [cell_of_row wz (w.heap.size + 1) 1 _ _ _ BK2]; rfl
   have fz : ∀ j, wz.frozen? ⟨w.heap.size + 1, j, none⟩ = false := fun j => by simp [World.frozen?, BK2]
   have BK3 := hI BK2
   clear bz BK2 BK O5 B5 hz5
   go_wp2
   refine bodyPost_ret (qaW Tryz.results40 _ _ (w.heap.size + 1) 26 #[.slice (some ⟨b, 0, none⟩) l.length c, .int .i64 (k : Int)] (0, 0) _ rfl (qeZ BK3.out _ _) Tryz.underlying26 rfl (by kernel_rfl)) rfl ?_
   refine ⟨.inl ⟨k, b, c, hlt, rfl, HK.out, ?_⟩, ?_⟩
   ·show World.ownsRow _ _ _ _ _ _ (sls (l.set k ⟨qbM l[k].gen, false, ⟨#[]⟩, ⟨#[]⟩, f⟩))
    rw [HG.out]
    refine qaB (qaA (qaA O6.out _ _ ?_) _ _ ?_) (by omega)
    ·intro j hj; have : j = b := (by simpa [Value.ownBlock] using hj.symm); dsimp only; omega
    ·intro j hj; have : j = b := (by simpa [Value.ownBlock] using hj.symm); dsimp only; omega
   ·exact (B6.out.setCell (p := ⟨w.heap.size + 1, 0, none⟩) (by dsimp only; omega) _).setCell (p := ⟨w.heap.size + 1, 1, none⟩) (by dsimp only; omega) _
 ·have HN := hI hn
  clear hn
  go_wp2
  refine bodyPost_ret (qaW Tryz.results40 _ _ (w.heap.size + 1) 26 #[.slice none 0 0, .int .i64 0] (0, 0) _ rfl (qeZ BB.out _ _) Tryz.underlying26 rfl (by kernel_rfl)) rfl ?_
  exact ⟨.inr ⟨rfl, HN.out⟩, (B1.out.setCell (p := ⟨w.heap.size + 1, 0, none⟩) (by dsimp only; omega) _).setCell (p := ⟨w.heap.size + 1, 1, none⟩) (by dsimp only; omega) _⟩
theorem qjG {P : Program} {w : World} {ops : Array Oper} {rest : List Oper} {o : Oper} {a : Act} {Q : Exit -> Act -> World -> Prop} (hgd : o.guard = none) (s x : Operand) (t : TypeId)
  (ho : o.op = .call { callee := .builtin .append, args := #[s, x], argTypes := #[t, t] })
  (base : Nat) (e : TypeId) (i : TypeInfo) (ht : P.underlying t = some (.slice e)) (hi : P.info? e = some i) (hz : i.zero = some (slV zS)) (hsize : i.size = 5) (hby : i.bytes = 56)
  (v : Value) (acc : List Sl) (n : Nat) (hn : acc.length = n) (hs : a.eval s = v) (hown : w.ownsRow base e 5 v n (sls acc)) (u : Sl)
  (hx : a.eval x = .slice (some ⟨w.heap.size, 0, none⟩) 1 1) (hlen : n <= 1048576) (hbase : base <= w.heap.size)
  (h : ∀ v' w', w'.ownsRow base e 5 v' (n + 1) (sls (acc ++ [u])) -> Below base w w' -> wpList P ops Q rest (a.put o.dst v') w') :
  wpList P ops Q (o :: rest) a (w.alloc (.cells #[.int .i64 u.gen, .bool u.used, .string u.key, .string u.val, .int .i64 u.next] e)) := by
 refine wpList_append_own _ hgd s x t ho base e i (slV zS) 5 56 ht hi hz hsize hby rfl (by decide) v n (sls acc) hs (hown.alloc _) ⟨w.heap.size, 0, none⟩ 1 1 (slC u) hx rfl ?_ ?_ ?_ ?_ ?_ ?_
 ·intro j y hj
  rw [Addr.add_lit, Nat.zero_add, World.cell?_alloc_at _ _ _ _ rfl, <- Array.getElem?_toList]
  exact hj
 ·intro y hy
  simp [slC] at hy
  rcases hy with rfl | rfl | rfl | rfl | rfl <;> rfl
 ·unfold maxLen; omega
 ·omega
 ·rw [World.size_alloc]; omega
 ·intro v' w' h1 h2 _
  refine h v' w' ?_ ?_
  ·rw [qgE]; simpa [sls] using h1
  ·refine Below.grown ((Below.refl _ _).alloc hbase _) h2 (by rw [World.size_alloc]; omega) ?_
   intro k hk
   exact (hown.lt k hk).1
def qiO (n : Nat) : Nat -> List Sl
 | 0 => []
 | i + 1 => qiO n i ++ [⟨0, false, ⟨#[]⟩, ⟨#[]⟩, if i + 1 = n then -1 else (i : Int) + 1⟩]
theorem qaG (n : Nat) : ∀ i, (qiO n i).length = i
 | 0 => rfl
 | i + 1 => by rw [qiO, List.length_append, qaG n i]; rfl
theorem qsQ (n : Int) (w : World) :
  Calls Tryz.prog 61 #[.int .i64 n] w fun e w' =>
   ((∃ (m b c : Nat), n = (m : Int) /\ 1 <= m /\ m <= 24 /\ e = .returned (.tuple #[arV (some ⟨b, 0, none⟩) m c 0, .bool true]) /\ w'.ownsRow w.heap.size 99 5 (.slice (some ⟨b, 0, none⟩) m c) m (sls (qiO m m)))
    ∨ (e = .returned (.tuple #[arV none 0 0 0, .bool false]) /\ ¬ (1 <= n /\ n <= 24))) /\ Below w.heap.size w w' := by
 obtain ⟨i0, hi, hz0, hz1, hz2⟩ := info_parts Tryz.infoSlot
 have c0 := fun w => qdP n 1 24 w
 unfold arV
 by_cases hn : 1 <= n /\ n <= 24
 ·rw [show (decide ((1 : Int) <= n) && decide (n <= 24)) = true by simp; omega] at c0
  have C0 := hI c0
  obtain ⟨m, rfl⟩ := Int.eq_ofNat_of_zero_le (show 0 <= n by omega)
  have hm1 : 1 <= m := by omega
  have hm2 : m <= 24 := by omega
  clear c0 hn
  go_enter Tryz.func61, Tryz.ntmps61
  go_wp2_with fail
  refine (C0.out _).mono ?_
  rintro e w1 ⟨rfl, rfl⟩
  go_wp2
  go_loopw [5] (fun iv wr => ∃ (i : Nat) (v : Value), i <= m /\ iv = .int .i64 (i : Int) /\ Hid (wr.heap[w.heap.size + 1]? = some (.cells #[v, .int .i64 0] 26 (0, 0))) /\ Hid (wr.heap[w.heap.size]? = some (.cells #[.slice none 0 0, .int .i64 0] 26 (0, 0))) /\ wr.ownsRow (w.heap.size + 1 + 1) 99 5 v i (sls (qiO m i)) /\ Below w.heap.size w wr) (fun iv _ => m - (intOf iv).toNat)
  case atStart => exact ⟨0, .slice none 0 0, by omega, rfl, hI (qhJ w _ _).2, hI (qhJ w _ _).1, World.ownsRow_nil _ _ _ _, qcF w _ _⟩
  case round =>
   obtain ⟨i, v, him, rfl, H1, H0, hown, hbel⟩ := hrel
   have x0 : wr.cell? ⟨w.heap.size + 1, 0, none⟩ = some v := by rw [cell_of_row wr (w.heap.size + 1) 0 _ _ _ H1.out]; rfl
   have hsz : w.heap.size + 1 < wr.heap.size := (Array.getElem?_eq_some_iff.1 H1.out).1
   by_cases hlt : i < m
   ·have hns : Hid (qiO m (i + 1) = qiO m i ++ [⟨0, false, ⟨#[]⟩, ⟨#[]⟩, if i + 1 = m then -1 else (i : Int) + 1⟩]) := rfl
    by_cases hlast : i + 1 = m
    ·have q : ((i : Int) + 1 == (m : Int)) = true := by rw [beq_iff_eq]; omega
     rw [if_pos hlast] at hns
     have HL := hI hlast
     clear hlast
     go_wp2_with (at_builtin; (refine qjG rfl _ _ 24 rfl (w.heap.size + 1 + 1) 99 i0 Tryz.underlying24 hi hz0 hz1 hz2 _ (qiO m i) i (qaG m i) rfl hown ⟨0, false, ⟨#[]⟩, ⟨#[]⟩, -1⟩ rfl (by omega) (by omega) ?_; intro v' w1 hown' hb'; obtain ⟨b, c, rfl, hbg, hbw⟩ := qoD hown' (by omega); have G1 := hI ((hb'.block (w.heap.size + 1) (by omega)).trans H1.out); have G0 := hI ((hb'.block w.heap.size (by omega)).trans H0.out); have y0 : w1.cell? ⟨w.heap.size + 1, 0, none⟩ = some v := (by rw [cell_of_row w1 (w.heap.size + 1) 0 _ _ _ G1.out]; rfl); have f0 : w1.frozen? ⟨w.heap.size + 1, 0, none⟩ = false := (by simp [World.frozen?, G1.out]); have HO := hI hown'; have HB := hI hb'; clear hown' hb'))
     go_roundw
     case rel =>
      refine ⟨i + 1, .slice (some ⟨b, 0, none⟩) (i + 1) c, by omega, by go_num, hI (heap_setCell_same _ (w.heap.size + 1) 0 _ _ _ G1.out), hI ((Below.heap_setCell _ _ _ _ (by dsimp only; omega)).trans G0.out), ?_, ?_⟩
      ·rw [hns.out]
       refine qaA HO.out _ _ ?_
       intro j hj; have : j = b := (by simpa [Value.ownBlock] using hj.symm); dsimp only; omega
      ·exact (hbel.trans (HB.out.mono (by omega))).setCell (p := ⟨w.heap.size + 1, 0, none⟩) (by dsimp only; omega) _
     case measure => simp [intOf]; omega
    ·have q : ((i : Int) + 1 == (m : Int)) = false := by rw [beq_eq_false_iff_ne]; omega
     rw [if_neg hlast] at hns
     clear hlast
     go_wp2_with (at_builtin; (refine qjG rfl _ _ 24 rfl (w.heap.size + 1 + 1) 99 i0 Tryz.underlying24 hi hz0 hz1 hz2 _ (qiO m i) i (qaG m i) rfl hown ⟨0, false, ⟨#[]⟩, ⟨#[]⟩, (i : Int) + 1⟩ rfl (by omega) (by omega) ?_; intro v' w1 hown' hb'; obtain ⟨b, c, rfl, hbg, hbw⟩ := qoD hown' (by omega); have G1 := hI ((hb'.block (w.heap.size + 1) (by omega)).trans H1.out); have G0 := hI ((hb'.block w.heap.size (by omega)).trans H0.out); have y0 : w1.cell? ⟨w.heap.size + 1, 0, none⟩ = some v := (by rw [cell_of_row w1 (w.heap.size + 1) 0 _ _ _ G1.out]; rfl); have f0 : w1.frozen? ⟨w.heap.size + 1, 0, none⟩ = false := (by simp [World.frozen?, G1.out]); have HO := hI hown'; have HB := hI hb'; clear hown' hb'))
     go_roundw
     case rel =>
      refine ⟨i + 1, .slice (some ⟨b, 0, none⟩) (i + 1) c, by omega, by go_num, hI (heap_setCell_same _ (w.heap.size + 1) 0 _ _ _ G1.out), hI ((Below.heap_setCell _ _ _ _ (by dsimp only; omega)).trans G0.out), ?_, ?_⟩
      ·rw [hns.out]
       refine qaA HO.out _ _ ?_
       intro j hj; have : j = b := (by simpa [Value.ownBlock] using hj.symm); dsimp only; omega
      ·exact (hbel.trans (HB.out.mono (by omega))).setCell (p := ⟨w.heap.size + 1, 0, none⟩) (by dsimp only; omega) _
     case measure => simp [intOf]; omega
   ·obtain rfl : i = m := by omega
    obtain ⟨b, c, rfl, hbg, hbw⟩ := qoD hown (by omega)
    have x1 : wr.cell? ⟨w.heap.size + 1, 1, none⟩ = some (.int .i64 0) := by rw [cell_of_row wr (w.heap.size + 1) 1 _ _ _ H1.out]; rfl
    have y0 : wr.cell? ⟨w.heap.size, 0, none⟩ = some (.slice none 0 0) := by rw [cell_of_row wr w.heap.size 0 _ _ _ H0.out]; rfl
    have y1 : wr.cell? ⟨w.heap.size, 1, none⟩ = some (.int .i64 0) := by rw [cell_of_row wr w.heap.size 1 _ _ _ H0.out]; rfl
    have fz : ∀ j, wr.frozen? ⟨w.heap.size, j, none⟩ = false := fun j => by simp [World.frozen?, H0.out]
    have HO := hI hown
    clear hown
    go_wp2
    refine bodyPost_ret (qaW Tryz.results61 _ _ w.heap.size 26 #[.slice (some ⟨b, 0, none⟩) i c, .int .i64 0] (0, 0) _ rfl (qeZ H0.out _ _) Tryz.underlying26 rfl (by kernel_rfl)) rfl ?_
    refine ⟨.inl ⟨i, b, c, rfl, hm1, hm2, rfl, ?_⟩, ?_⟩
    ·refine qaB (qaA (qaA HO.out _ _ ?_) _ _ ?_) (by omega)
     ·intro j hj; have : j = b := (by simpa [Value.ownBlock] using hj.symm); dsimp only; omega
     ·intro j hj; have : j = b := (by simpa [Value.ownBlock] using hj.symm); dsimp only; omega
    ·exact (hbel.setCell (p := ⟨w.heap.size, 0, none⟩) (by dsimp only; omega) _).setCell (p := ⟨w.heap.size, 1, none⟩) (by dsimp only; omega) _
 ·rw [show (decide ((1 : Int) <= n) && decide (n <= 24)) = false by simp; omega] at c0
  have C0 := hI c0
  have HN := hI hn
  clear c0 hn
  go_enter Tryz.func61, Tryz.ntmps61
  go_wp2_with fail
  refine (C0.out _).mono ?_
  rintro e w1 ⟨rfl, rfl⟩
  go_wp2
  refine bodyPost_ret (qaW Tryz.results61 _ _ w.heap.size 26 #[.slice none 0 0, .int .i64 0] (0, 0) _ rfl (heap_alloc_new w _) Tryz.underlying26 rfl (by kernel_rfl)) rfl ?_
  exact ⟨.inr ⟨rfl, HN.out⟩, by go_grown⟩
end Go.Proofs.YtigpjmmfelndkaaGreatDoor
namespace Go.Proofs.YtigpjmmfelndkaaGreatDoor
theorem Chain.congr {l l' : List Sl} : ∀ {V : List Nat} {a : Int}, Chain l a V -> (∀ p ∈ V, ∀ (h : p < l.length), ∃ h' : p < l'.length, l'[p].next = l[p].next) -> Chain l' a V
 | [], _, h, _ => h
 | p :: V, a, h, hs => by
  obtain ⟨e, hp, hc⟩ := h
  obtain ⟨hp', hn⟩ := hs p (by simp) hp
  refine ⟨e, hp', ?_⟩
  rw [hn]
  exact Chain.congr hc (fun q hq hl => hs q (by simp [hq]) hl)
theorem Chain.set {l : List Sl} {V : List Nat} {a : Int} (h : Chain l a V) (k : Nat) (s : Sl) (hk : k ∉ V) : Chain (l.set k s) a V :=
 h.congr fun p hp hl => ⟨by rw [List.length_set]; exact hl, by
  have hne : k ≠ p := fun e => hk (by rw [e]; exact hp)
  rw [List.getElem_set_ne hne]⟩
theorem OkA.lay {l : List Sl} {k : Nat} (h : OkA l (k : Int)) (hk : k < l.length) (ky vl : ByteArray) (h1 : 1 <= ky.size) (h2 : ky.size <= 12) (h3 : vl.size <= 20) : OkA (l.set k ⟨l[k].gen, true, ky, vl, 0⟩) l[k].next := by
 obtain ⟨V, hV, hu⟩ := h.chain
 have hs := h.slots k hk
 match V, hV, hu with
 | [], hV, _ => have e : (k : Int) = -1 := hV; omega
 | p :: V, hV, hu =>
  have hnd := hV.nodup
  obtain ⟨e, hp, hc⟩ := hV
  obtain rfl : k = p := by omega
  have hkV : k ∉ V := (List.nodup_cons.1 hnd).1
  refine ⟨by rw [List.length_set]; exact h.least, by rw [List.length_set]; exact h.most, ⟨V, hc.set k _ hkV, ?_⟩, ?_⟩
  ·intro i hi
   rw [List.length_set] at hi
   by_cases e : k = i
   ·subst e
    rw [List.getElem_set_self]
    exact ⟨fun h => (by cases h), fun h => absurd h hkV⟩
   ·rw [List.getElem_set_ne e, hu i hi, List.mem_cons]
    exact ⟨fun h => h.resolve_left (fun x => e x.symm), .inr⟩
  ·intro i hi
   rw [List.length_set] at hi
   by_cases e : k = i
   ·subst e
    rw [List.getElem_set_self]
    exact ⟨hs.1, hs.2.1, (fun _ => ⟨h1, h2, h3, rfl⟩), fun h => by cases h⟩
   ·rw [List.getElem_set_ne e]; exact h.slots i hi
theorem qnN {g : Int} (h1 : 0 <= g) : 0 <= qbM g /\ qbM g <= 41666665 := by
 unfold qbM; split <;> omega
theorem OkA.lift {l : List Sl} {f : Int} {k : Nat} (h : OkA l f) (hk : k < l.length) (hu : l[k].used = true) : OkA (l.set k (qaS l[k] f)) (k : Int) := by
 obtain ⟨V, hV, hall⟩ := h.chain
 have hs := h.slots k hk
 have hkV : k ∉ V := fun hm => by have := (hall k hk).2 hm; rw [hu] at this; cases this
 refine ⟨by rw [List.length_set]; exact h.least, by rw [List.length_set]; exact h.most, ⟨k :: V, ⟨rfl, by rw [List.length_set]; exact hk, ?_⟩, ?_⟩, ?_⟩
 ·rw [List.getElem_set_self]
  exact hV.set k _ hkV
 ·intro i hi
  rw [List.length_set] at hi
  by_cases e : k = i
  ·subst e
   rw [List.getElem_set_self]
   exact ⟨fun _ => by simp, fun _ => rfl⟩
  ·rw [List.getElem_set_ne e, hall i hi, List.mem_cons]
   exact ⟨.inr, fun h => h.resolve_left (fun x => e x.symm)⟩
 ·intro i hi
  rw [List.length_set] at hi
  by_cases e : k = i
  ·subst e
   rw [List.getElem_set_self]
   exact ⟨(qnN hs.1).1, (qnN hs.1).2, (fun h => by cases h), fun _ => ⟨rfl, rfl⟩⟩
  ·rw [List.getElem_set_ne e]; exact h.slots i hi
theorem qhE (n : Nat) : ∀ (i j : Nat) (h : j < (qiO n i).length), (qiO n i)[j] = ⟨0, false, ⟨#[]⟩, ⟨#[]⟩, if j + 1 = n then -1 else (j : Int) + 1⟩
 | 0, j, h => by simp [qiO] at h
 | i + 1, j, h => by
  simp only [qiO]
  by_cases e : j < (qiO n i).length
  ·rw [List.getElem_append_left e]; exact qhE n i j e
  ·rw [List.getElem_append_right (by omega)]
   have hj : j = i := by simp [qiO, qaG] at h; rw [qaG] at e; omega
   subst hj
   simp
theorem qmA (n : Nat) : ∀ (d i : Nat), i + d = n -> 0 < d -> Chain (qiO n n) (i : Int) (List.range' i d)
 | 0, _, _, h => by omega
 | 1, i, h, _ => by
  refine ⟨rfl, by rw [qaG]; omega, ?_⟩
  rw [qhE, if_pos (by omega)]
  rfl
 | d + 2, i, h, _ => by
  refine ⟨rfl, by rw [qaG]; omega, ?_⟩
  rw [qhE, if_neg (by omega)]
  have := qmA n (d + 1) (i + 1) (by omega) (by omega)
  simpa using this
theorem OkA.new (n : Nat) (h1 : 1 <= n) (h2 : n <= 24) : OkA (qiO n n) 0 := by
 refine ⟨by rw [qaG]; exact h1, by rw [qaG]; exact h2, ⟨List.range' 0 n, qmA n n 0 (by omega) (by omega), ?_⟩, ?_⟩
 ·intro i hi
  rw [qhE]
  rw [qaG] at hi
  simp [List.mem_range', hi]
 ·intro i hi
  rw [qhE]
  exact ⟨by simp, by simp, (fun h => by cases h), fun _ => ⟨rfl, rfl⟩⟩
end Go.Proofs.YtigpjmmfelndkaaGreatDoor
