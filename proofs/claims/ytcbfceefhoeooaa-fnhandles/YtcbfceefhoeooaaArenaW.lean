/- The contracts of the model's functions that make a place anew. -/
import Derived.Test.YtcbfceefhoeooaaArenaR
import Derived.Deep.RegionLaw
namespace Go.Proofs.Ytcbfceefhoeooaa
open Go.RowKit

/-- 'append(out, row...)' of slots as one step of a region that draws its order. -/
theorem step_slots {P : Program} {w : World} {ops : Array Oper} {o : Oper} {a : Act} {K : Act → World → Prop} {Q : Exit → Act → World → Prop} {E : Prop} (hgd : o.guard = none) (s x : Operand) (t : TypeId)
    (ho : o.op = .call { callee := .builtin .append, args := #[s, x], argTypes := #[t, t] })
    (base : Nat) (e : TypeId) (i : TypeInfo) (ht : P.underlying t = some (.slice e)) (hi : P.info? e = some i) (hz : i.zero = some (slV zS)) (hsize : i.size = 5) (hby : i.bytes = 56)
    (v : Value) (acc : List Sl) (hs : a.eval s = v) (hown : w.ownsRow base e 5 v acc.length (sls acc)) (nb : List Sl) (g m c : Nat) (hm : nb.length = m) (hx : a.eval x = .slice (some ⟨g, 0, none⟩) m c)
    (hnews : ∀ i (h : i < nb.length), slotAt w g i nb[i]) (hlen : acc.length + m ≤ 1048576) (hbase : base ≤ w.heap.size)
    (h : ∀ v' w', w'.ownsRow base e 5 v' (acc ++ nb).length (sls (acc ++ nb)) → Below base w w' → K (a.put o.dst v') w') :
    if Region.wanted o (yielded ops a.tmps) = true then Oper.wp P o a w K Q else E := by
  have hw : Region.wanted o (yielded ops a.tmps) = true := by simp [Region.wanted, hgd]
  rw [if_pos hw]
  refine wp_append_own _ s x t ho base e i (slV zS) 5 56 ht hi hz hsize hby rfl (by decide) v acc.length (sls acc) hs hown ⟨g, 0, none⟩ m c (sls nb) hx (by rw [sls_length]; omega) ?_ ?_ (by unfold maxLen; omega) (by omega) hbase ?_
  · intro j u hj
    have hjl : j < nb.length * 5 := by
      have := (List.getElem?_eq_some_iff.1 hj).1
      rwa [sls_length] at this
    have h5 : j % 5 < 5 := Nat.mod_lt _ (by decide)
    have hq : j / 5 < nb.length := by omega
    have hr := sls_at nb (j / 5) (j % 5) hq h5
    rw [show j / 5 * 5 + j % 5 = j by omega, hj] at hr
    rw [Addr.add_lit, Nat.zero_add]
    obtain ⟨x0, x1, x2, x3, x4⟩ := hnews (j / 5) hq
    have hje : j = j / 5 * 5 + j % 5 := by omega
    rw [hje]
    generalize nb[j / 5] = s5 at *
    generalize j / 5 = q at *
    generalize j % 5 = r at *
    match r, h5 with
    | 0, _ => rw [Nat.add_zero, x0]; exact hr.symm
    | 1, _ => rw [x1]; exact hr.symm
    | 2, _ => rw [x2]; exact hr.symm
    | 3, _ => rw [x3]; exact hr.symm
    | 4, _ => rw [x4]; exact hr.symm
    | r + 5, h => omega
  · intro u hu
    obtain ⟨s5, _, hs5⟩ := List.mem_flatMap.1 hu
    simp [slC] at hs5
    rcases hs5 with rfl | rfl | rfl | rfl | rfl <;> rfl
  · intro v' w' h1 h2 _
    refine h v' w' ?_ ?_
    · rw [sls_append, List.length_append, hm]; exact h1
    · refine Below.grown (Below.refl _ _) h2 hbase ?_
      intro k hk
      exact (hown.lt k hk).1

theorem blocks2 (w : World) (o1 o2 : Obj) : ((w.alloc o1).alloc o2).heap[w.heap.size]? = some o1 ∧ ((w.alloc o1).alloc o2).heap[w.heap.size + 1]? = some o2 := by
  show ((w.heap.push o1).push o2)[w.heap.size]? = some o1 ∧ ((w.heap.push o1).push o2)[w.heap.size + 1]? = some o2
  refine ⟨?_, ?_⟩
  · rw [Array.getElem?_push, if_neg (by simp), Array.getElem?_push, if_pos rfl]
  · rw [Array.getElem?_push, if_pos (by simp)]

theorem results_row3 {P : Program} {fn : Func} {p u v : Tmp} {ty : TypeId} (h : fn.results = #[.cell p ty, .tmp u, .tmp v]) (tmps : Array Value) (w : World) (g : Nat) (t : TypeId) (cs : Array Value) (fr : Nat × Nat) (d : TypeDesc)
    (hp : tmps.getD p undef = .pointer (some ⟨g, 0, none⟩)) (hg : w.heap[g]? = some (.cells cs t fr))
    (hu : P.underlying ty = some d) (hd : (match d with | .struct _ | .array _ _ => true | _ => false) = true) (hi : (P.info? ty).map (·.size) = some cs.size) :
    (results fn tmps).run P w = .ok (.tuple #[.agg cs, tmps.getD u undef, tmps.getD v undef]) w := by
  have hp' : tmps[p]?.getD undef = .pointer (some ⟨g, 0, none⟩) := by simpa using hp
  simp [results, h, hp', asAddr, run_loadVar_row w g t ty cs fr d hg hu hd hi]
theorem results_row2 {P : Program} {fn : Func} {p u : Tmp} {ty : TypeId} (h : fn.results = #[.cell p ty, .tmp u]) (tmps : Array Value) (w : World) (g : Nat) (t : TypeId) (cs : Array Value) (fr : Nat × Nat) (d : TypeDesc)
    (hp : tmps.getD p undef = .pointer (some ⟨g, 0, none⟩)) (hg : w.heap[g]? = some (.cells cs t fr))
    (hu : P.underlying ty = some d) (hd : (match d with | .struct _ | .array _ _ => true | _ => false) = true) (hi : (P.info? ty).map (·.size) = some cs.size) :
    (results fn tmps).run P w = .ok (.tuple #[.agg cs, tmps.getD u undef]) w := by
  have hp' : tmps[p]?.getD undef = .pointer (some ⟨g, 0, none⟩) := by simpa using hp
  simp [results, h, hp', asAddr, run_loadVar_row w g t ty cs fr d hg hu hd hi]
theorem heap2 {w : World} {g : Nat} {t : TypeId} {a0 a1 : Value} (hg : w.heap[g]? = some (.cells #[a0, a1] t (0, 0))) (u0 u1 : Value) :
    ((w.setCell ⟨g, 0, none⟩ u0).setCell ⟨g, 1, none⟩ u1).heap[g]? = some (.cells #[u0, u1] t (0, 0)) :=
  heap_setCell_same _ g 1 _ _ _ (heap_setCell_same _ g 0 _ _ _ hg)
theorem own_at5 {w : World} {base n : Nat} {e : TypeId} {v : Value} {xs : List Value} (h : w.ownsRow base e 5 v n xs) (hn : 0 < n) : ∃ g cap, v = .slice (some ⟨g, 0, none⟩) n cap ∧ base ≤ g ∧ g < w.heap.size := by
  rcases h.2 with ⟨_, h0⟩ | ⟨g, cap, cur, hv, _⟩
  · omega
  · have := h.lt g (by rw [hv]; rfl)
    exact ⟨g, cap, hv, this.1, this.2⟩
theorem owns_empty5 (w : World) (e : TypeId) : (w.alloc (.cells #[] e)).ownsRow w.heap.size e 5 (.slice (some ⟨w.heap.size, 0, none⟩) 0 0) 0 [] :=
  ⟨rfl, .inr ⟨w.heap.size, 0, #[], rfl, Nat.le_refl _, heap_alloc_new w _, Nat.le_refl _, Nat.zero_le _, rfl, rfl⟩⟩

set_option maxRecDepth 100000 in
set_option maxHeartbeats 1000000 in
theorem specCopy_any (ao : Option Addr) (l : List Sl) (ca : Nat) (f : Int) (w : World) (hl : l.length ≤ 24) (h0 : 1 ≤ l.length) (hA : RdA w ao l) :
    Calls Try.prog 33 #[arV ao l.length ca f] w fun e w' => ∃ b c, e = .returned (arV (some ⟨b, 0, none⟩) l.length c f) ∧ w'.ownsRow w.heap.size 40 5 (.slice (some ⟨b, 0, none⟩) l.length c) l.length (sls l) ∧ Below w.heap.size w w' := by
  obtain ⟨i0, hi, hz0, hz1, hz2⟩ := info_parts Try.infoSlot
  obtain ⟨g, rfl, hg, _⟩ := hA.at 0 (by omega)
  have HA := hide1 (show ∀ i (h : i < l.length), slotAt w g i l[i] from fun i hi => by obtain ⟨g', e, _, h⟩ := hA.at i hi; simp at e; subst e; exact h)
  clear hA
  unfold arV
  go_enter Try.func33, Try.ntmps33
  go_wp2
  have bl := blocks2 w (.cells #[.slice (some ⟨g, 0, none⟩) l.length ca, .int .i64 f] 26) (.cells #[.slice none 0 0, .int .i64 0] 26)
  have B0 := hide1 (below2 w (.cells #[.slice (some ⟨g, 0, none⟩) l.length ca, .int .i64 f] 26) (.cells #[.slice none 0 0, .int .i64 0] 26))
  have hsz : ((w.alloc (.cells #[.slice (some ⟨g, 0, none⟩) l.length ca, .int .i64 f] 26)).alloc (.cells #[.slice none 0 0, .int .i64 0] 26)).heap.size = w.heap.size + 1 + 1 := by simp only [World.size_alloc]
  generalize ((w.alloc (.cells #[.slice (some ⟨g, 0, none⟩) l.length ca, .int .i64 f] 26)).alloc (.cells #[.slice none 0 0, .int .i64 0] 26)) = wn at *
  obtain ⟨b1, b2⟩ := bl
  have x0 : wn.cell? ⟨w.heap.size, 0, none⟩ = some (.slice (some ⟨g, 0, none⟩) l.length ca) := by rw [cell_of_row wn w.heap.size 0 _ _ _ b1]; rfl
  have x1 : wn.cell? ⟨w.heap.size, 1, none⟩ = some (.int .i64 f) := by rw [cell_of_row wn w.heap.size 1 _ _ _ b1]; rfl
  have HS := hide1 (fun i hi => (HA.out i hi).below B0.out hg)
  have BB := hide1 b2
  have HZ := hide1 hsz
  have hgn : g < wn.heap.size := by omega
  have l0 : w.heap.size < wn.heap.size := by omega
  have l1 : w.heap.size + 1 < wn.heap.size := by omega
  have X0 := hide1 x0
  have X1 := hide1 x1
  clear b1 b2 hsz
  go_region_held3 (fun w' => w'.cell? ⟨w.heap.size, 0, none⟩ = some (.slice (some ⟨g, 0, none⟩) l.length ca) ∧ w'.cell? ⟨w.heap.size, 1, none⟩ = some (.int .i64 f)) (first | go_keep | exact ⟨(hbb.cell l0).trans X0.out, (hbb.cell l0).trans X1.out⟩) ((refine step_slots rfl (.tmp 3) (.tmp 5) 24 rfl wn.heap.size 40 i0 Try.underlying24 hi hz0 hz1 hz2 (.slice (some ⟨wn.heap.size, 0, none⟩) 0 0) [] (by rfl) (by exact owns_empty5 _ _) l g l.length ca rfl (by rfl) (fun i hi => (HS.out i hi).below (B := wn.heap.size) (by go_grown) hgn) (by simp; omega) (by go_size) ?_; intro v' w1 hown' hb'; simp only [List.nil_append] at hown'; obtain ⟨b, c, rfl, hbg, hbw⟩ := own_at5 hown' (by omega); have hbb : Below wn.heap.size wn w1 := (show Below wn.heap.size wn _ by go_grown).trans hb'; have c2 : w1.heap[w.heap.size + 1]? = some (.cells #[.slice none 0 0, .int .i64 0] 26 (0, 0)) := (hbb.block _ l1).trans BB.out; have y0 : w1.cell? ⟨w.heap.size + 1, 0, none⟩ = some (.slice none 0 0) := (by rw [cell_of_row w1 (w.heap.size + 1) 0 _ _ _ c2]; rfl); have y1 : w1.cell? ⟨w.heap.size + 1, 1, none⟩ = some (.int .i64 0) := (by rw [cell_of_row w1 (w.heap.size + 1) 1 _ _ _ c2]; rfl); have f0 : ∀ j, w1.frozen? ⟨w.heap.size + 1, j, none⟩ = false := (fun j => by simp [World.frozen?, c2]); have CC2 := hide1 c2; have HB := hide1 hbb; have HO := hide1 hown'; clear c2 hown' hb'))
  go_wp2
  refine bodyPost_ret (results_cell_row Try.results33 _ _ (w.heap.size + 1) 26 #[.slice (some ⟨b, 0, none⟩) l.length c, .int .i64 f] (0, 0) _ rfl (heap2 CC2.out _ _) Try.underlying26 rfl (by kernel_rfl)) rfl ?_
  have hz := HZ.out
  refine ⟨b, c, rfl, own_base (own_far (own_far HO.out _ _ ?_) _ _ ?_) (by omega), ?_⟩
  · intro k hk; have := (HO.out.lt k hk).1; dsimp only; omega
  · intro k hk; have := (HO.out.lt k hk).1; dsimp only; omega
  · exact ((B0.out.trans (HB.out.mono (by omega))).setCell (p := ⟨w.heap.size + 1, 0, none⟩) (by dsimp only; omega) _).setCell (p := ⟨w.heap.size + 1, 1, none⟩) (by dsimp only; omega) _

set_option maxRecDepth 100000 in
set_option maxHeartbeats 2000000 in
theorem specLay_any (ao : Option Addr) (l : List Sl) (ca : Nat) (f : Int) (ky vl : ByteArray) (w : World) (hl : l.length ≤ 1048576) (hA : RdA w ao l) :
    Calls Try.prog 32 #[arV ao l.length ca f, .string ky, .string vl] w fun e w' =>
      ((∃ (k b c : Nat) (hk : k < l.length), e = .returned (.tuple #[arV (some ⟨b, 0, none⟩) l.length c l[k].next, .int .i64 (24 * l[k].gen + (k : Int)), .bool true]) ∧ f = (k : Int) ∧ OkA l f ∧ 1 ≤ ky.size ∧ ky.size ≤ 12 ∧ vl.size ≤ 20 ∧ w'.ownsRow w.heap.size 40 5 (.slice (some ⟨b, 0, none⟩) l.length c) l.length (sls (l.set k ⟨l[k].gen, true, ky, vl, 0⟩)))
       ∨ (e = .returned (.tuple #[arV none 0 0 0, .int .i64 0, .bool false]) ∧ ¬ (OkA l f ∧ f ≠ -1 ∧ 1 ≤ ky.size ∧ ky.size ≤ 12 ∧ vl.size ≤ 20))) ∧ Below w.heap.size w w' := by
  have C1 := hide1 (fun o1 o2 => specOk_any ao l ca f ((w.alloc o1).alloc o2) hl (hA.later (below2 w o1 o2)))
  have HA := hide1 hA
  clear hA
  unfold arV at C1 ⊢
  go_enter Try.func32, Try.ntmps32
  go_wp2_with fail
  refine (C1.out _ _).mono ?_
  rintro e w1 ⟨x, rfl, hx, hb1⟩
  have bl := blocks2 w (.cells #[.slice ao l.length ca, .int .i64 f] 26) (.cells #[.slice none 0 0, .int .i64 0] 26)
  have B1 := hide1 ((below2 w (.cells #[.slice ao l.length ca, .int .i64 f] 26) (.cells #[.slice none 0 0, .int .i64 0] 26)).trans (hb1.mono (below2 w _ _).size))
  have hsz : w.heap.size + 1 + 1 ≤ w1.heap.size := by have := hb1.size; simp only [World.size_alloc] at this; exact this
  rw [← hb1.block w.heap.size (by simp only [World.size_alloc]; omega), ← hb1.block (w.heap.size + 1) (by simp only [World.size_alloc]; omega)] at bl
  obtain ⟨b1, b2⟩ := bl
  have x0 : w1.cell? ⟨w.heap.size, 0, none⟩ = some (.slice ao l.length ca) := by rw [cell_of_row w1 w.heap.size 0 _ _ _ b1]; rfl
  have x1 : w1.cell? ⟨w.heap.size, 1, none⟩ = some (.int .i64 f) := by rw [cell_of_row w1 w.heap.size 1 _ _ _ b1]; rfl
  have y0 : w1.cell? ⟨w.heap.size + 1, 0, none⟩ = some (.slice none 0 0) := by rw [cell_of_row w1 (w.heap.size + 1) 0 _ _ _ b2]; rfl
  have y1 : w1.cell? ⟨w.heap.size + 1, 1, none⟩ = some (.int .i64 0) := by rw [cell_of_row w1 (w.heap.size + 1) 1 _ _ _ b2]; rfl
  have f0 : ∀ j, w1.frozen? ⟨w.heap.size + 1, j, none⟩ = false := fun j => by simp [World.frozen?, b2]
  have BB := hide1 b2
  have HX := hide1 hx
  clear hb1 hx b1 b2
  rcases x with _ | _
  · have HN := hide1 (show ¬ (OkA l f ∧ f ≠ -1 ∧ 1 ≤ ky.size ∧ ky.size ≤ 12 ∧ vl.size ≤ 20) from fun h => by have := HX.out.2 h.1; cases this)
    clear HX
    go_wp2
    refine bodyPost_ret (results_row3 Try.results32 _ _ (w.heap.size + 1) 26 #[.slice none 0 0, .int .i64 0] (0, 0) _ rfl (heap2 BB.out _ _) Try.underlying26 rfl (by kernel_rfl)) rfl ?_
    exact ⟨.inr ⟨rfl, HN.out⟩, (B1.out.setCell (p := ⟨w.heap.size + 1, 0, none⟩) (by dsimp only; omega) _).setCell (p := ⟨w.heap.size + 1, 1, none⟩) (by dsimp only; omega) _⟩
  · have HOK := hide1 (HX.out.1 rfl)
    clear HX
    by_cases hf : f = -1
    · have q : (f == -1) = true := by simp [hf]
      have HN := hide1 (show ¬ (OkA l f ∧ f ≠ -1 ∧ 1 ≤ ky.size ∧ ky.size ≤ 12 ∧ vl.size ≤ 20) from fun h => h.2.1 hf)
      clear hf
      go_wp2
      refine bodyPost_ret (results_row3 Try.results32 _ _ (w.heap.size + 1) 26 #[.slice none 0 0, .int .i64 0] (0, 0) _ rfl (heap2 BB.out _ _) Try.underlying26 rfl (by kernel_rfl)) rfl ?_
      exact ⟨.inr ⟨rfl, HN.out⟩, (B1.out.setCell (p := ⟨w.heap.size + 1, 0, none⟩) (by dsimp only; omega) _).setCell (p := ⟨w.heap.size + 1, 1, none⟩) (by dsimp only; omega) _⟩
    · have q : (f == -1) = false := by simp [hf]
      have kk := fun w => in_any (ky.size : Int) 1 12 w
      by_cases ck : 1 ≤ ky.size ∧ ky.size ≤ 12
      · rw [show (decide ((1 : Int) ≤ (ky.size : Int)) && decide ((ky.size : Int) ≤ 12)) = true by simp; omega] at kk
        have CI := hide1 kk
        have CK := hide1 ck
        clear kk ck
        by_cases cv : vl.size ≤ 20
        · have qv : decide ((20 : Int) < (vl.size : Int)) = false := by simp; omega
          have CV := hide1 cv
          obtain ⟨k, hk, hlt, hus⟩ : ∃ k : Nat, f = (k : Int) ∧ ∃ hk : k < l.length, l[k].used = false := by
            rcases HOK.out.free with h | h
            · exact absurd h hf
            · exact h
          clear hf
          have hn24 := HOK.out.most
          have CP := hide1 (specCopy_any ao l ca f w1 hn24 (by omega) (HA.out.later B1.out))
          unfold arV at CP
          subst hk
          have k1 : (k : Int) < (l.length : Int) := by omega
          obtain ⟨g, rfl, hg, hs⟩ := HA.out.at k hlt
          have hgn := HOK.out.slots k hlt
          obtain ⟨g1, g2⟩ : 0 ≤ l[k].gen ∧ l[k].gen ≤ 41666665 := ⟨hgn.1, hgn.2.1⟩
          have HS := hide1 hs
          clear hs hgn
          go_wp2_with fail
          refine (CI.out _).mono ?_
          rintro e w2 ⟨rfl, rfl⟩
          go_wp2_with fail
          refine CP.out.mono ?_
          rintro e w2 ⟨b, c, rfl, ho, hb2⟩
          have hbl := ho.lt b rfl
          have z0 := (hb2.cell (p := ⟨w.heap.size, 0, none⟩) (by dsimp only; omega)).trans x0
          have z1 := (hb2.cell (p := ⟨w.heap.size, 1, none⟩) (by dsimp only; omega)).trans x1
          have BB2 := hide1 ((hb2.block (w.heap.size + 1) (by omega)).trans BB.out)
          have v0 := (hb2.cell (p := ⟨w.heap.size + 1, 0, none⟩) (by dsimp only; omega)).trans y0
          have v1 := (hb2.cell (p := ⟨w.heap.size + 1, 1, none⟩) (by dsimp only; omega)).trans y1
          have fz : ∀ j, w2.frozen? ⟨w.heap.size + 1, j, none⟩ = false := fun j => by simp [World.frozen?, BB2.out]
          have B2 := hide1 (B1.out.trans (hb2.mono B1.out.size))
          obtain ⟨s0, s1, s2, s3, s4⟩ := HS.out.below B2.out hg
          obtain ⟨u0, t0⟩ := own_some ho (k * 5) (by omega)
          obtain ⟨u1, t1⟩ := own_some ho (k * 5 + 1) (by omega)
          obtain ⟨u2, t2⟩ := own_some ho (k * 5 + 2) (by omega)
          obtain ⟨u3, t3⟩ := own_some ho (k * 5 + 3) (by omega)
          obtain ⟨u4, t4⟩ := own_some ho (k * 5 + 4) (by omega)
          have r0 := ho.frozenAt (k * 5)
          have r1 := ho.frozenAt (k * 5 + 1)
          have r2 := ho.frozenAt (k * 5 + 2)
          have r3 := ho.frozenAt (k * 5 + 3)
          have r4 := ho.frozenAt (k * 5 + 4)
          have hs2 := hb2.size
          have l0 : w.heap.size < w2.heap.size := by omega
          have l1 : w.heap.size + 1 < w2.heap.size := by omega
          have l2 : b < w2.heap.size := hbl.2
          have l3 : g < w2.heap.size := by omega
          have HO := hide1 ho
          clear ho hb2 x0 x1 y0 y1 f0
          go_wp2
          have O5 := own_set5 HO.out rfl k hlt ⟨l[k].gen, true, ky, vl, 0⟩
          have B5 := below_set5 B2.out (show w.heap.size ≤ b by omega) k ⟨l[k].gen, true, ky, vl, 0⟩
          have BK : (((((w2.setCell ⟨b, k * 5, none⟩ (.int .i64 l[k].gen)).setCell ⟨b, k * 5 + 1, none⟩ (.bool true)).setCell ⟨b, k * 5 + 2, none⟩ (.string ky)).setCell ⟨b, k * 5 + 3, none⟩ (.string vl)).setCell ⟨b, k * 5 + 4, none⟩ (.int .i64 0)).heap[w.heap.size + 1]? = some (.cells #[.slice none 0 0, .int .i64 0] 26 (0, 0)) := by
            have hne : w.heap.size + 1 ≠ b := by omega
            rw [Below.heap_setCell _ _ _ _ hne, Below.heap_setCell _ _ _ _ hne, Below.heap_setCell _ _ _ _ hne, Below.heap_setCell _ _ _ _ hne, Below.heap_setCell _ _ _ _ hne]
            exact BB2.out
          have hz5 : (((((w2.setCell ⟨b, k * 5, none⟩ (.int .i64 l[k].gen)).setCell ⟨b, k * 5 + 1, none⟩ (.bool true)).setCell ⟨b, k * 5 + 2, none⟩ (.string ky)).setCell ⟨b, k * 5 + 3, none⟩ (.string vl)).setCell ⟨b, k * 5 + 4, none⟩ (.int .i64 0)).heap.size = w2.heap.size := by simp only [World.size_setCell]
          simp only at O5 B5
          generalize (((((w2.setCell ⟨b, k * 5, none⟩ (.int .i64 l[k].gen)).setCell ⟨b, k * 5 + 1, none⟩ (.bool true)).setCell ⟨b, k * 5 + 2, none⟩ (.string ky)).setCell ⟨b, k * 5 + 3, none⟩ (.string vl)).setCell ⟨b, k * 5 + 4, none⟩ (.int .i64 0)) = w5 at *
          clear z0 z1 v0 v1 fz s0 s1 s2 s3 s4 t0 t1 t2 t3 t4 r0 r1 r2 r3 r4 l3
          rw [← hz5] at l0 l1 l2
          have bz := blocks2 w5 (.cells #[.slice (some ⟨b, 0, none⟩) l.length c, .int .i64 l[k].next] 26) (.cells #[.int .i64 l[k].gen, .bool false, .string l[k].key, .string l[k].val, .int .i64 l[k].next] 40)
          have O6 := hide1 ((O5.alloc (.cells #[.slice (some ⟨b, 0, none⟩) l.length c, .int .i64 l[k].next] 26)).alloc (.cells #[.int .i64 l[k].gen, .bool false, .string l[k].key, .string l[k].val, .int .i64 l[k].next] 40))
          have B6 := hide1 (B5.trans ((below2 w5 (.cells #[.slice (some ⟨b, 0, none⟩) l.length c, .int .i64 l[k].next] 26) (.cells #[.int .i64 l[k].gen, .bool false, .string l[k].key, .string l[k].val, .int .i64 l[k].next] 40)).mono B5.size))
          have BK2 := ((below2 w5 (.cells #[.slice (some ⟨b, 0, none⟩) l.length c, .int .i64 l[k].next] 26) (.cells #[.int .i64 l[k].gen, .bool false, .string l[k].key, .string l[k].val, .int .i64 l[k].next] 40)).block (w.heap.size + 1) l1).trans BK
          generalize ((w5.alloc (.cells #[.slice (some ⟨b, 0, none⟩) l.length c, .int .i64 l[k].next] 26)).alloc (.cells #[.int .i64 l[k].gen, .bool false, .string l[k].key, .string l[k].val, .int .i64 l[k].next] 40)) = wz at *
          rw [hz5] at bz
          obtain ⟨bz0, bz1⟩ := bz
          have p0 : wz.cell? ⟨w2.heap.size, 0, none⟩ = some (.slice (some ⟨b, 0, none⟩) l.length c) := by rw [cell_of_row wz w2.heap.size 0 _ _ _ bz0]; rfl
          have p1 : wz.cell? ⟨w2.heap.size, 1, none⟩ = some (.int .i64 l[k].next) := by rw [cell_of_row wz w2.heap.size 1 _ _ _ bz0]; rfl
          have p2 : wz.cell? ⟨w2.heap.size + 1, 0, none⟩ = some (.int .i64 l[k].gen) := by rw [cell_of_row wz (w2.heap.size + 1) 0 _ _ _ bz1]; rfl
          have p3 : wz.cell? ⟨w.heap.size + 1, 0, none⟩ = some (.slice none 0 0) := by rw [cell_of_row wz (w.heap.size + 1) 0 _ _ _ BK2]; rfl
          have p4 : wz.cell? ⟨w.heap.size + 1, 1, none⟩ = some (.int .i64 0) := by rw [cell_of_row wz (w.heap.size + 1) 1 _ _ _ BK2]; rfl
          have fz : ∀ j, wz.frozen? ⟨w.heap.size + 1, j, none⟩ = false := fun j => by simp [World.frozen?, BK2]
          have m1 : IntKind.i64.wrap (24 * l[k].gen) = 24 * l[k].gen := IntWalk.i64_in _ ⟨by omega, by omega⟩
          have m2 : IntKind.i64.wrap (24 * l[k].gen + (k : Int)) = 24 * l[k].gen + (k : Int) := IntWalk.i64_in _ ⟨by omega, by omega⟩
          have BK3 := hide1 BK2
          have hbz : ¬ b = w.heap.size + 1 := by omega
          clear bz0 bz1 BK2 BK O5 B5 hz5
          go_region
          go_wp2
          refine bodyPost_ret (results_row3 Try.results32 _ _ (w.heap.size + 1) 26 #[.slice (some ⟨b, 0, none⟩) l.length c, .int .i64 l[k].next] (0, 0) _ rfl (heap2 BK3.out _ _) Try.underlying26 rfl (by kernel_rfl)) rfl ?_
          refine ⟨.inl ⟨k, b, c, hlt, rfl, rfl, HOK.out, CK.out.1, CK.out.2, CV.out, ?_⟩, ?_⟩
          · refine (own_base (own_far (own_far O6.out _ _ ?_) _ _ ?_) (by omega)).drew
            · intro j hj; have : j = b := (by simpa [Value.ownBlock] using hj.symm); dsimp only; omega
            · intro j hj; have : j = b := (by simpa [Value.ownBlock] using hj.symm); dsimp only; omega
          · exact ((B6.out.setCell (p := ⟨w.heap.size + 1, 0, none⟩) (by dsimp only; omega) _).setCell (p := ⟨w.heap.size + 1, 1, none⟩) (by dsimp only; omega) _).drew
        · have qv : decide ((20 : Int) < (vl.size : Int)) = true := by simp; omega
          have HN := hide1 (show ¬ (OkA l f ∧ f ≠ -1 ∧ 1 ≤ ky.size ∧ ky.size ≤ 12 ∧ vl.size ≤ 20) from fun h => cv h.2.2.2.2)
          clear hf cv
          go_wp2_with fail
          refine (CI.out _).mono ?_
          rintro e w2 ⟨rfl, rfl⟩
          go_wp2
          refine bodyPost_ret (results_row3 Try.results32 _ _ (w.heap.size + 1) 26 #[.slice none 0 0, .int .i64 0] (0, 0) _ rfl (heap2 BB.out _ _) Try.underlying26 rfl (by kernel_rfl)) rfl ?_
          exact ⟨.inr ⟨rfl, HN.out⟩, (B1.out.setCell (p := ⟨w.heap.size + 1, 0, none⟩) (by dsimp only; omega) _).setCell (p := ⟨w.heap.size + 1, 1, none⟩) (by dsimp only; omega) _⟩
      · rw [show (decide ((1 : Int) ≤ (ky.size : Int)) && decide ((ky.size : Int) ≤ 12)) = false by simp; omega] at kk
        have CI := hide1 kk
        have HN := hide1 (show ¬ (OkA l f ∧ f ≠ -1 ∧ 1 ≤ ky.size ∧ ky.size ≤ 12 ∧ vl.size ≤ 20) from fun h => ck ⟨h.2.2.1, h.2.2.2.1⟩)
        clear kk ck hf
        go_wp2_with fail
        refine (CI.out _).mono ?_
        rintro e w2 ⟨rfl, rfl⟩
        go_wp2
        refine bodyPost_ret (results_row3 Try.results32 _ _ (w.heap.size + 1) 26 #[.slice none 0 0, .int .i64 0] (0, 0) _ rfl (heap2 BB.out _ _) Try.underlying26 rfl (by kernel_rfl)) rfl ?_
        exact ⟨.inr ⟨rfl, HN.out⟩, (B1.out.setCell (p := ⟨w.heap.size + 1, 0, none⟩) (by dsimp only; omega) _).setCell (p := ⟨w.heap.size + 1, 1, none⟩) (by dsimp only; omega) _⟩
end Go.Proofs.Ytcbfceefhoeooaa
