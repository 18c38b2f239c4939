/- The calls that are done, collected: the program's slices.Collect over doneCalls. -/
import Derived.Test.YtcahaimefgkmiaaDoC
namespace Go.Proofs.Ytcahaimefgkmiaa
open Go.RowKit Go.Shelf
set_option linter.unusedVariables false
attribute [local go_sem] Oper.semAt_some

theorem own_nocells {w w' : World} {base n size : Nat} {e : TypeId} {v : Value} {xs : List Value} {row : Option Nat} (h : w.ownsRow base e size v n xs) (hg : w.grownBy w' row) (hr : ∀ r, row = some r → ∃ o : Obj, w.heap[r]? = some o ∧ o.isCells = false) : w'.ownsRow base e size v n xs := by
  refine ⟨h.1, ?_⟩
  rcases h.2 with h2 | ⟨g, cap, cur, hv, hg1, hh, r⟩
  · exact .inl h2
  · exact .inr ⟨g, cap, cur, hv, hg1, by rw [grownBy_keeps_cells hg hr hh rfl]; exact hh, r⟩
theorem own_isCells {w : World} {base n size : Nat} {e : TypeId} {v : Value} {xs : List Value} (h : w.ownsRow base e size v n xs) (j : Nat) (o : Obj) (hj : v.ownBlock = some j) (ho : w.heap[j]? = some o) : o.isCells = true := by
  rcases h.2 with ⟨rfl, _⟩ | ⟨g, cap, cur, rfl, _, hh, _⟩
  · cases hj
  · have e : g = j := by simpa [Value.ownBlock] using hj
    subst e
    rw [hh] at ho
    injection ho with ho
    subst ho
    rfl
theorem ob_ne {b : Option Addr} {n c X : Nat} (h : ∀ y, b = some y → y.block ≠ X) {k : Nat} (hk : (Value.slice b n c).ownBlock = some k) (e : k = X) : False := by
  cases b with
  | none => cases hk
  | some y => exact h y rfl (by have : y.block = k := by simpa [Value.ownBlock] using hk
                                rw [this]; exact e)
/-- The row that is collected: behind a box of its own. -/
def ColI (w : World) (pre : List Cl) (W : World) : Prop := (∃ b c, Boxed W w.heap.size 32 (.slice b pre.length c) ∧ W.ownsRow w.heap.size 26 9 (.slice b pre.length c) pre.length (rowG clC pre) ∧ (∀ x, b = some x → x.block ≠ w.heap.size))
theorem ColI.kept {w : World} {pre : List Cl} {A B : World} {row : Option Nat} (h : ColI w pre A) (hg : A.grownBy B row) (hr : ∀ r, row = some r → ∃ o : Obj, A.heap[r]? = some o ∧ o.isCells = false) : ColI w pre B := by
  obtain ⟨b, c, h1, h2, h3⟩ := h
  exact ⟨b, c, (grownBy_keeps_cells hg hr h1 rfl).trans h1, own_nocells h2 hg hr, h3⟩
theorem ColI.bel {w : World} {pre : List Cl} {A B : World} (h : ColI w pre A) (hb : Below A.heap.size A B) : ColI w pre B := by
  obtain ⟨b, c, h1, h2, h3⟩ := h
  exact ⟨b, c, boxed_bel h1 hb, own_kept h2 hb, h3⟩
set_option maxRecDepth 100000 in
set_option maxHeartbeats 4000000 in
theorem appendSeq_any (Bs : Nat) (ao : Option Addr) (ls : List Cl) (ca : Nat) (hls : ls.length ≤ 1048576) (w : World) (hc : w.cell? ⟨Bs, 0, none⟩ = some (.slice ao ls.length ca)) (hR : RdG clC 9 w ao ls) :
    Calls Try.prog 54 #[.slice none 0 0, .func (.func 55) #[] #[.pointer (some ⟨Bs, 0, none⟩)]] w fun e w' => ∃ b c, e = .returned (.slice b (dnL ls).length c) ∧ w'.ownsRow w.heap.size 26 9 (.slice b (dnL ls).length c) (dnL ls).length (rowG clC (dnL ls)) ∧ Below w.heap.size w w' := by
  have hBs : Bs < w.heap.size := World.block_lt_of_cell? w _ hc
  have hdn : (dnL ls).length ≤ ls.length := List.length_filter_le _ _
  obtain ⟨i0, hi, hz0, hz1, hz2⟩ := info_parts Try.infoCl
  refine (callsIn_wide (n := 7)).1 ?_
  refine callsIn_of_wp_marks Try.func54 rfl trivial ?_ rfl
  simp only [Try.ntmps54, List.size_toArray, List.length_cons, List.length_nil, Nat.reduceAdd, Nat.reduceSub, Array.replicate_succ, Array.replicate_zero, List.push_toArray, List.append_toArray, List.nil_append, List.cons_append]
  gi_wp2
  have bS := hide1 (Boxed.new w 32 (.slice none 0 0))
  have bB := hide1 ((Below.refl _ w).alloc (Nat.le_refl _) (.cells #[.slice none 0 0] 32))
  have hsz : (w.alloc (.cells #[.slice none 0 0] 32)).heap.size = w.heap.size + 1 := by simp
  obtain ⟨W0, hW0⟩ : ∃ W0, (w.alloc (.cells #[.slice none 0 0] 32)) = W0 := ⟨_, rfl⟩
  rw [hW0] at bS bB hsz ⊢
  clear hW0
  refine wpIn_rangeFunc_ownH rfl (by omega) (gf := 55) (lb := #[.pointer (some ⟨Bs, 0, none⟩)]) rfl trivial (enters_of Try.func55 (by kernel_rfl) rfl)
    (doneCalls_stops Bs w.heap.size ao ls ca hls W0 (by omega) hBs ((bB.out.cell (p := ⟨Bs, 0, none⟩) hBs).trans hc) (hR.later bB.out) (fun b o e h => by obtain ⟨b2, o2, e2, h2, _⟩ := hR 0 h; rw [e] at e2; injection e2 with e2; injection e2 with e2 _; omega)) belowK_t (belowK_b (by omega)) (Below.refl _ _) (fun _ => rfl)
    (fun pre W => ColI w pre W ∧ Below w.heap.size w W)
    (fun _ _ _ => False)
    (OwnFrom.and (Own.from (fun s A B row hs hg hr => hs.kept hg hr) _) (ownFrom_below (Nat.le_refl _) (by omega)))
    (fun _ _ _ _ _ hs _ _ => hs)
    ⟨⟨none, 0, bS.out, World.ownsRow_nil _ _ _ _, fun x h => by cases h⟩, bB.out⟩
    (fun x a' W => ∃ B1 : Nat, BlkA W B1 26 (clA x) ∧ a' = { tmps := #[.slice none 0 0, .func (.func 55) #[] #[.pointer (some ⟨Bs, 0, none⟩)], .pointer (some ⟨w.heap.size, 0, none⟩), undef, .slice none 0 0, .pointer (some ⟨B1, 0, none⟩), .func (.func 55) #[] #[.pointer (some ⟨Bs, 0, none⟩)], .agg (clA x), undef, undef, undef, undef, undef], defers := [] })
    (fun x a' s A B row hs hg hr => by
      obtain ⟨B1, h1, e⟩ := hs
      exact ⟨B1, (grownBy_keeps_cells hg (fun r e => (hr r e).2) h1 rfl).trans h1, e⟩) ?assign ?body ?done ?stop
  case assign =>
    rintro l pre x W K hi1 hK
    have ONE1 := hide1 (oneCl x)
    gi_wp2_with (first | (refine wpListIn_store_row rfl 26 _ _ rfl W.heap.size (clA x) rfl rfl 26 _ (heap_alloc_last _ _) sizeCl rfl ONE1.out ?_; rw [World.setRow_alloc_new]))
    have bb := (Below.refl W.heap.size W).alloc (Nat.le_refl _) (.cells (clA x) 26)
    exact hK _ _ (keepsFrom_bel bb) (bb.mono hi1.2.size) ⟨hi1.1.bel bb, hi1.2.trans (bb.mono hi1.2.size)⟩ ⟨_, BlkA.new _ _ _, rfl⟩
  case body =>
    rintro l pre x a' W hl ⟨r, hr⟩ ⟨⟨b, c, hb1, hb2, hb3⟩, hB⟩ ⟨B1, h1, rfl⟩ hlt
    have q1 := hb1.cell
    have H1 := hide1 h1
    have HL := hide1 ((Below.refl W.heap.size W).alloc (Nat.le_refl _) (.cells (clA x) 26))
    have O1 := hide1 (own_kept hb2 HL.out)
    have X1 := hide1 (boxed_bel hb1 HL.out)
    have A1 := hide1 (show RdG clC 9 (W.alloc (.cells (clA x) 26)) (some ⟨W.heap.size, 0, none⟩) [x] from fun i hi => by
      obtain rfl : i = 0 := by simp at hi; omega
      refine ⟨W.heap.size, 0, rfl, by simp, fun j hj => ?_⟩
      have := (BlkA.new W 26 (clA x)).blk
      rw [show 0 + 0 * 9 + j = j by omega, this.cell j]
      rfl)
    have HB := hide1 hB
    have N3 := hide1 hb3
    have hsW : w.heap.size ≤ W.heap.size := hB.size
    have hpl : pre.length + 1 ≤ 4194304 := by omega
    have hne : some w.heap.size ≠ (Value.slice b pre.length c).ownBlock := fun e => by
      cases b with
      | none => cases e
      | some y =>
        have e' : w.heap.size = y.block := by simpa [Value.ownBlock] using e
        exact hb3 y rfl e'.symm
    have NE := hide1 hne
    have OC := hide1 (own_isCells O1.out)
    have HS := hide1 HL.out.size
    clear hb1 hb2 h1 hB hb3 bS bB hne
    generalize hU : W.alloc (.cells (clA x) 26) = U at HL O1 X1 A1 OC HS
    gi_wp2_with (first | (refine wpListIn_load_A rfl 26 _ rfl B1 rfl 26 (clA x) _ H1.out Try.underlying26 rfl sizeCl ?_; refine wpListIn_lit1 rfl 32 26 _ rfl (clA x) rfl Try.underlying32 hi hz0 rfl hz1 (by show 0 < 9; omega) (by show 9 ≤ 16777216; omega) ?_; rw [hU]; refine wpListIn_appA encCl rowCl rfl _ _ rfl w.heap.size (.slice b pre.length c) pre.length pre rfl O1.out _ 1 1 [x] rfl rfl A1.out hpl (Nat.le_trans hsW HS.out) ?_; intro b' c' w1 hown' hgrow hat; have X2 := hide1 (show Boxed w1 w.heap.size 32 (.slice b pre.length c) from X1.out.kept hgrow NE.out); have r1 := X2.out.cell; have r2 := X2.out.frozen; have G1 := hide1 hgrow; have O2 := hide1 hown'; have T1 := hide1 hat; clear hown' hgrow hat))
    have N2 := hide1 (show ∀ y, b' = some y → y.block ≠ w.heap.size from fun y hy e => by
      rcases T1.out y hy with h | h
      · exact NE.out (by rw [h, e])
      · have := HS.out; rw [e] at h; have h2 : U.heap.size = W.heap.size + 1 := by rw [← hU]; simp
        omega)
    have B3 := hide1 (show Below w.heap.size W w1 from (HL.out.mono hsW).trans ((Below.refl w.heap.size U).grown G1.out (Nat.le_trans hsW HS.out) (fun k e => by have := O1.out.lt k e; omega)))
    have W1s : W.heap.size ≤ w1.heap.size := by have := G1.out.size; have := HS.out; omega
    have KF := hide1 (((keepsFrom_bel (B := W0.heap.size) HL.out).trans ((KeepsOthers.of_grownBy G1.out (fun j o e ho => OC.out j o e ho)).from _)).trans ((KeepsOthers.setCell w1 ⟨w.heap.size, 0, none⟩ (.slice b' (pre.length + 1) c')).from _))
    have FX := hide1 (boxed_set X2.out (.slice b' (pre.length + 1) c'))
    have FO := hide1 (own_far O2.out ⟨w.heap.size, 0, none⟩ (.slice b' (pre.length + 1) c') (fun k hk e => ob_ne N2.out hk e))
    have el : (pre ++ [x]).length = pre.length + 1 := by simp
    refine ⟨KF.out, B3.out.setCell (p := ⟨w.heap.size, 0, none⟩) (Nat.le_refl _) _, ⟨b', c', ?_, ?_, N2.out⟩, (HB.out.trans B3.out).setCell (p := ⟨w.heap.size, 0, none⟩) (Nat.le_refl _) _⟩
    · rw [el]; exact FX.out
    · rw [el]; exact FO.out
  case done =>
    rintro D xs W hD rfl ⟨⟨b, c, hb1, hb2, hb3⟩, hB⟩ hK
    have q1 := hb1.cell
    clear bS bB
    gi_wp2
    refine ⟨by simp, .inl ⟨_, _, rfl, run_takeDeferred hK, ?_⟩⟩
    have DB := hide1 (belowK_b (w := w) (Nat.le_refl _) W D _ (.deferred none) (by omega) hK rfl rfl)
    exact ⟨_, results_tmp rfl _ _ _, b, c, rfl, own_nocells hb2 (grownBy_putObj' W D (.deferred none)) (fun r e => by cases e; exact ⟨_, hK, rfl⟩), hB.trans DB.out⟩
  case stop =>
    rintro D c pre W hD _ h _
    exact h.elim
end Go.Proofs.Ytcahaimefgkmiaa
