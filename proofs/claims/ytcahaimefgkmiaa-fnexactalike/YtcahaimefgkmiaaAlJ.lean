/- Who must have the same: the program's Alike. -/
import Derived.Test.YtcahaimefgkmiaaOfQ
import Derived.Test.YtcahaimefgkmiaaGhJ
import Derived.Test.YtcahaimefgkmiaaAlS
namespace Go.Proofs.Ytcahaimefgkmiaa
open Go.RowKit
set_option linter.unusedVariables false

set_option maxRecDepth 100000 in
set_option maxHeartbeats 4000000 in
theorem implAlike_any (g : Gv) (w : World) (hz : SmGp g) (hr : RdGp w g) :
    Calls Try.prog 25 #[.agg (grA g)] w fun e w' => e = .returned (.bool (bo (AlkP g.vs g.ms))) ∧ Below w.heap.size w w' := by
  have F := hide1 (And.intro (BlkA.new w 46 (grA g)) ((Below.refl w.heap.size w).alloc (Nat.le_refl _) (.cells (grA g) 46)))
  have HR := hide1 (hr.later F.out.2)
  have hml := hz.ml
  have hvl := hz.vl
  have HZ := hide1 hz
  clear hr hz
  have RES := hide1 (show bo (AlkP g.vs g.ms) = bo (∀ i (hi : i < g.L.length) k (hk : k < g.L.length), i ≠ k → MusG g.vs g.L[i].m g.L[k].m → g.L[i].m.is = g.L[k].m.is) from bo_iff (by
    rw [AlkP.of_L]
    exact ⟨fun h i hi k hk _ => h i hi k hk, fun h i hi k hk hm => by
      by_cases e : i = k
      · subst e; rfl
      · exact h i hi k hk e hm⟩))
  go_enter Try.func25, Try.ntmps25
  go_upto_region 1 with fail
  generalize (w.alloc (.cells (grA g) 46)) = u at F HR ⊢
  obtain ⟨X, hX⟩ : ∃ G, G = w.heap.size := ⟨_, rfl⟩
  have KX := hide1 F.out.1
  have E0 := hide1 F.out.2
  rw [← hX] at KX ⊢
  clear F hX
  have FF := hide1 (And.intro (BlkA.new u 76 #[.func (.func 52) #[.pointer (some ⟨X, 0, none⟩)] #[], .func (.func 53) #[] #[]]) ((Below.refl u.heap.size u).alloc (Nat.le_refl _) (.cells #[.func (.func 52) #[.pointer (some ⟨X, 0, none⟩)] #[], .func (.func 53) #[] #[]] 76)))
  go_upto_region 2 with (first | (refine wpList_store_row rfl 76 _ _ rfl u.heap.size #[.func (.func 52) #[.pointer (some ⟨X, 0, none⟩)] #[], .func (.func 53) #[] #[]] rfl rfl 76 _ (heap_alloc_last _ _) sizeTrM rfl (by simp [Value.oneCell']) ?_; rw [World.setRow_alloc_new]))
  generalize (u.alloc (.cells #[.func (.func 52) #[.pointer (some ⟨X, 0, none⟩)] #[], .func (.func 53) #[] #[]] 76)) = v at FF ⊢
  have z0 : v.cell? ⟨u.heap.size, 0, none⟩ = some (.func (.func 52) #[.pointer (some ⟨X, 0, none⟩)] #[]) := FF.out.1.cell 0 rfl
  have z1 : v.cell? ⟨u.heap.size, 1, none⟩ = some (.func (.func 53) #[] #[]) := FF.out.1.cell 1 rfl
  have BV := hide1 FF.out.2
  have KV := hide1 (KX.out.below BV.out KX.out.lt)
  have x1 : v.cell? ⟨X, 1, none⟩ = some (.slice g.ma g.L.length g.mc) := KV.out.cell 1 rfl
  have CO := hide1 (of_alike g X g.ma g.L g.mc v hml hvl HZ.out.vs KV.out (HR.out.v.later BV.out) HZ.out.ms (HR.out.m.later BV.out))
  go_wp2_with (first | (go_at_call 46; refine CO.out.mono ?_; rintro e w2 ⟨rfl, hb2⟩; have B2 := hide1 (BV.out.trans (hb2.mono BV.out.size)); clear hb2))
  go_ret
  exact ⟨by rw [RES.out]; rfl, E0.out.trans (B2.out.mono E0.out.size)⟩
end Go.Proofs.Ytcahaimefgkmiaa
