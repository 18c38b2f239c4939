/- The program's InTime. -/
import Derived.Test.YtcahaimefgkmiaaOfC
import Derived.Test.YtcahaimefgkmiaaDoD
import Derived.Test.YtcahaimefgkmiaaStK
namespace Go.Proofs.Ytcahaimefgkmiaa
open Go.RowKit Go.Shelf
set_option linter.unusedVariables false

theorem two_pw {α : Type} {R : α → α → Prop} {l : List α} : (∀ i (hi : i < l.length) k (hk : k < l.length), i ≠ k → R l[i] l[k]) ↔ l.Pairwise (fun a b => R a b ∧ R b a) := by
  rw [List.pairwise_iff_getElem]
  constructor
  · intro h i k hi hk hlt
    exact ⟨h i hi k hk (by omega), h k hk i hi (by omega)⟩
  · intro h i hi k hk hne
    by_cases e : i < k
    · exact (h i k hi hk e).1
    · exact (h k i hk hi (by omega)).2
theorem inT_iff (l : List Cl) : InT l ↔ OfL spk_inOrder hld_inOrder (dnL l) ∧ OfL spk_unlike hld_unlike (dnL l) := by
  unfold OfL InT dnL
  rw [two_pw (R := fun a b => spk_inOrder a b = true → hld_inOrder a b = true), two_pw (R := fun a b => spk_unlike a b = true → hld_unlike a b = true), two_pw (R := okT), List.pairwise_filter, List.pairwise_filter, ← List.pairwise_and_iff]
  have e : ∀ a b : Cl, (okT a b ∧ okT b a) ↔ ((decide (0 ≤ a.dn) = true → decide (0 ≤ b.dn) = true → (spk_inOrder a b = true → hld_inOrder a b = true) ∧ (spk_inOrder b a = true → hld_inOrder b a = true)) ∧ (decide (0 ≤ a.dn) = true → decide (0 ≤ b.dn) = true → (spk_unlike a b = true → hld_unlike a b = true) ∧ (spk_unlike b a = true → hld_unlike b a = true))) := by
    intro a b
    unfold okT spk_inOrder hld_inOrder spk_unlike hld_unlike
    simp only [decide_eq_true_eq, beq_iff_eq, Bool.false_eq_true, imp_false]
    constructor
    · rintro ⟨h1, h2⟩
      exact ⟨fun ha hb => ⟨(h1 ha hb).2, (h2 hb ha).2⟩, fun ha hb => ⟨(h1 ha hb).1, (h2 hb ha).1⟩⟩
    · rintro ⟨h1, h2⟩
      exact ⟨fun ha hb => ⟨(h2 ha hb).1, (h1 ha hb).1⟩, fun hb ha => ⟨(h2 ha hb).2, (h1 ha hb).2⟩⟩
  constructor
  · intro h; exact h.imp (fun {a b} hab => (e a b).1 hab)
  · intro h; exact h.imp (fun {a b} hab => (e a b).2 hab)
theorem sizeTr : (Try.prog.info? 57).map (·.size) = some 2 := by kernel_rfl
set_option maxRecDepth 100000 in
theorem collect_any (Bs : Nat) (ao : Option Addr) (ls : List Cl) (ca : Nat) (hls : ls.length ≤ 1048576) (w : World) (hc : w.cell? ⟨Bs, 0, none⟩ = some (.slice ao ls.length ca)) (hR : RdG clC 9 w ao ls) :
    Calls Try.prog 27 #[.func (.func 55) #[] #[.pointer (some ⟨Bs, 0, none⟩)]] w fun e w' => ∃ b c, e = .returned (.slice b (dnL ls).length c) ∧ w'.ownsRow w.heap.size 26 9 (.slice b (dnL ls).length c) (dnL ls).length (rowG clC (dnL ls)) ∧ Below w.heap.size w w' := by
  have C := hide1 (appendSeq_any Bs ao ls ca hls w hc hR)
  clear hc hR
  go_enter Try.func27, Try.ntmps27
  go_wp2_with (go_at_call 54; refine C.out.mono ?_; rintro e w2 ⟨b, c, rfl, ho, hb⟩; have HO := hide1 ho; have HB := hide1 hb; clear ho hb)
  go_ret
  exact ⟨b, c, rfl, HO.out, HB.out⟩
set_option maxRecDepth 100000 in
set_option maxHeartbeats 4000000 in
theorem implInTime_any (ao : Option Addr) (l : List Cl) (ca : Nat) (w : World) (hl : l.length ≤ 1048576) (hR : RdG clC 9 w ao l) :
    Calls Try.prog 15 #[.slice ao l.length ca] w fun e w' => e = .returned (.bool (bo (InT l))) ∧ Below w.heap.size w w' := by
  have D1 := hide1 ((callsIn_wide (n := 6)).1 (doneCalls_any ao l.length ca w))
  have hb1 := (Below.refl w.heap.size w).alloc (Nat.le_refl _) (.cells #[.slice ao l.length ca] 32)
  have C1 := hide1 (collect_any w.heap.size ao l ca hl (w.alloc (.cells #[.slice ao l.length ca] 32)) (Boxed.new w _ _).cell (hR.later hb1))
  have B1 := hide1 hb1
  have hdn : (dnL l).length ≤ 1048576 := Nat.le_trans (List.length_filter_le _ _) hl
  have sz1 : (w.alloc (.cells #[.slice ao l.length ca] 32)).heap.size = w.heap.size + 1 := by simp
  clear hR hb1
  go_enter Try.func15, Try.ntmps15
  go_upto_region 2 with (first | (go_at_call 28; refine D1.out.mono ?_; rintro e w1 ⟨rfl, rfl⟩) | (go_at_call 27; refine C1.out.mono ?_; rintro e w2 ⟨b, c, rfl, ho, hb⟩; have HO := hide1 ho; have HB := hide1 hb; clear ho hb))
  clear C1 D1
  have B2 := hide1 (B1.out.trans (HB.out.mono B1.out.size))
  have R2 := hide1 (rdG_of_own encCl.len HO.out rfl)
  clear HB HO B1
  have FF := hide1 (two_newT w2 57 #[.func (.func 29) #[] #[], .func (.func 30) #[] #[]] #[.func (.func 31) #[] #[], .func (.func 32) #[] #[]])
  go_upto_region 4 with (first | (refine wpList_store_row rfl 57 _ _ rfl w2.heap.size #[.func (.func 29) #[] #[], .func (.func 30) #[] #[]] rfl rfl 57 _ (heap_alloc_last _ _) sizeTr rfl (by simp [Value.oneCell']) ?_; rw [World.setRow_alloc_new]) | (refine wpList_store_row rfl 57 _ _ rfl (w2.heap.size + 1) #[.func (.func 31) #[] #[], .func (.func 32) #[] #[]] rfl rfl 57 _ (heap_alloc_two _ _ _) sizeTr rfl (by simp [Value.oneCell']) ?_; rw [setRow_alloc_two]))
  generalize ((w2.alloc (.cells #[.func (.func 29) #[] #[], .func (.func 30) #[] #[]] 57)).alloc (.cells #[.func (.func 31) #[] #[], .func (.func 32) #[] #[]] 57)) = u at FF ⊢
  have C3 := hide1 (fun u' (h : Below w2.heap.size w2 u') => of_inOrder b (dnL l) c u' hdn (R2.out.later h))
  have C4 := hide1 (fun u' (h : Below w2.heap.size w2 u') => of_unlike b (dnL l) c u' hdn (R2.out.later h))
  have IFF := hide1 (inT_iff l)
  have BU := hide1 (B2.out.trans (FF.out.2.2.mono B2.out.size))
  have x0 : u.cell? ⟨w2.heap.size, 0, none⟩ = some (.func (.func 29) #[] #[]) := FF.out.1.cell 0 rfl
  have x1 : u.cell? ⟨w2.heap.size, 1, none⟩ = some (.func (.func 30) #[] #[]) := FF.out.1.cell 1 rfl
  by_cases h1 : OfL spk_inOrder hld_inOrder (dnL l)
  · have e1 := bo_t h1
    rw [e1] at C3
    have GO : Hid (bo (InT l) = bo (OfL spk_unlike hld_unlike (dnL l))) := bo_iff (by rw [IFF.out]; exact ⟨fun h => h.2, fun h => ⟨h1, h⟩⟩)
    clear h1 e1
    go_wp2_with (first | (go_at_call 33; first | (refine (C4.out _ (FF.out.2.2.trans (HB3.out.mono FF.out.2.2.size))).mono ?_; rintro e w4 ⟨rfl, hb4⟩; have HB4 := hide1 (HB3.out.trans (hb4.mono HB3.out.size)); clear hb4) | (refine (C3.out _ FF.out.2.2).mono ?_; rintro e w3 ⟨rfl, hb3⟩; have HB3 := hide1 hb3; have y0 : w3.cell? ⟨w2.heap.size + 1, 0, none⟩ = some (.func (.func 31) #[] #[]) := (FF.out.2.1.below hb3 FF.out.2.1.lt).cell 0 rfl; have y1 : w3.cell? ⟨w2.heap.size + 1, 1, none⟩ = some (.func (.func 32) #[] #[]) := (FF.out.2.1.below hb3 FF.out.2.1.lt).cell 1 rfl; clear hb3)))
    go_ret
    exact ⟨by rw [GO.out]; rfl, BU.out.trans (HB4.out.mono BU.out.size)⟩
  · have e1 := bo_f h1
    rw [e1] at C3
    have GO : Hid (bo (InT l) = false) := bo_f (fun h => h1 (IFF.out.1 h).1)
    clear h1 e1
    go_wp2_with (first | (go_at_call 33; refine (C3.out _ FF.out.2.2).mono ?_; rintro e w3 ⟨rfl, hb3⟩; have HB3 := hide1 hb3; clear hb3))
    go_ret
    exact ⟨by rw [GO.out]; rfl, BU.out.trans (HB3.out.mono BU.out.size)⟩
end Go.Proofs.Ytcahaimefgkmiaa
