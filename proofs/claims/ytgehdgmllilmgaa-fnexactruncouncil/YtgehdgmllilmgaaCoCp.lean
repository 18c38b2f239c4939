/- The model's copy of a council: its first region, whatever order is drawn. -/
import Derived.Test.YtgehdgmllilmgaaInv
import Derived.Test.YtgehdgmllilmgaaCoDr
namespace Go.Proofs.Ytgehdgmllilmgaa
open Go.RowKit
set_option linter.unusedVariables false

theorem step_cpE {P : Program} {α : Type} {enc : α → List Value} {k : Nat} {t e : TypeId} {ops : Array Oper} {o : Oper} {a : Act} {w : World} {K : Act → World → Prop} {Q : Exit → Act → World → Prop} {D : Prop} (E : EncK enc k) (R : RowK P t e k) (hgd : o.guard = none) (s x : Operand)
    (ho : o.op = .call { callee := .builtin .append, args := #[s, x], argTypes := #[t, t] }) (g : Nat) (hs : a.eval s = .slice (some ⟨g, 0, none⟩) 0 0) (ao : Option Addr) (m c : Nat) (l : List α) (hx : a.eval x = .slice ao m c) (hm : l.length = m) (hA : RdG enc k w ao l) (hlen : m ≤ 1048576)
    (h : ∀ b' c' w', RdG enc k w' b' l → Below w.heap.size w w' → (∀ b o, b' = some ⟨b, o, none⟩ → 0 < m → w.heap.size ≤ b) → m ≤ c' → K (a.put o.dst (.slice b' m c')) w') :
    if Region.wanted o (yielded ops a.tmps) = true then Oper.wp P o a w K Q else D := by
  have hw : Region.wanted o (yielded ops a.tmps) = true := by simp [Region.wanted, hgd]
  rw [if_pos hw]
  obtain ⟨b', c', w', hrun, h1, h2, h3, h4⟩ := cpE_run E R w o.type g ao m c l hm hA hlen
  unfold Oper.wp
  simp only [execOp, ho, resolve, invoke, builtin, Sem.run_bind, Sem.run_pure, Result.andThen_ok, List.map_toArray, List.map_cons, List.map_nil, hs, hx, hrun]
  exact h b' c' w' h1 h2 h3 h4
theorem up_at {l : Array Bool} {i k : Nat} (h : l.getD k false = true) : (l.setIfInBounds i true).getD k false = true := by
  rw [Array.getD_eq_getD_getElem?] at h ⊢
  rw [Array.getElem?_setIfInBounds]
  split
  · split
    · rfl
    · rename_i h1 h2
      rw [Array.getElem?_eq_none (by omega)] at h
      cases h
  · exact h
theorem here {l : Array Bool} {i n : Nat} (hl : l.size = n) (hi : i < n) : (l.setIfInBounds i true).getD i false = true := by
  rw [Array.getD_eq_getD_getElem?, Array.getElem?_setIfInBounds, if_pos rfl, if_pos (by omega)]
  rfl
theorem not_at {l : Array Bool} {i : Nat} (h : l.getD i true = false) (e : l.getD i false = true) : true = false := by
  rw [Array.getD_eq_getD_getElem?] at h e
  cases hc : l[i]? with
  | none => rw [hc] at h; cases h
  | some b => rw [hc] at h e; simp at h e; rw [h] at e; cases e
theorem RdG.moveC {α : Type} {enc : α → List Value} {k : Nat} {w w' : World} {a : Option Addr} {l : List α} {r : Option Nat} (h : RdG enc k w a l) (hb : w.grownBy w' r) (hn : ∀ b o, a = some ⟨b, o, none⟩ → 0 < l.length → r ≠ some b) : RdG enc k w' a l := h.move hb hn
theorem deps_of {ops : Array Oper} {o : Oper} {i : Nat} {l : Array Bool} (ho : ops[i]? = some o) (h : ∃ o, ops[i]? = some o ∧ ∀ e ∈ o.after, Region.binds .any e = true → l.getD e.on false = true) : ∀ e ∈ o.after, Region.binds .any e = true → l.getD e.on false = true := by
  obtain ⟨o', h1, h2⟩ := h
  rw [ho] at h1
  injection h1 with h1
  subst h1
  exact h2

structure ICp (c : Cn) (A : CA) (C : Nat) (u : World) (l : Array Bool) (w : World) (B g0 g1 g2 c0 c1 c2 : Nat) (b0 b1 b2 : Option Addr) (Y3 Y6 Y7 Y8 Y9 Y10 Y11 Y12 Y13 Y14 Y15 Y16 Y17 Y18 : Value) : Prop where
  bl : Below u.heap.size u w
  l0 : l.getD 0 false = true → Y6 = .slice (some ⟨g0, 0, none⟩) 0 0
  p0 : l.getD 1 false = true → Y7 = .pointer (some ⟨C, 0, none⟩)
  r0 : l.getD 2 false = true → Y8 = .slice A.va c.vs.length A.vc
  a0 : l.getD 3 false = true → Y9 = .slice b0 c.vs.length c0
  d0 : l.getD 3 false = true → RdG voC 3 w b0 c.vs ∧ c.vs.length ≤ c0
  u0 : l.getD 3 false = true → ∀ b o, b0 = some ⟨b, o, none⟩ → 0 < c.vs.length → u.heap.size ≤ b
  n0 : l.getD 3 false = true → l.getD 13 false = true → ∀ b o, b0 = some ⟨b, o, none⟩ → 0 < c.vs.length → b ≠ B
  l1 : l.getD 4 false = true → Y10 = .slice (some ⟨g1, 0, none⟩) 0 0
  p1 : l.getD 5 false = true → Y11 = .pointer (some ⟨C, 2, none⟩)
  r1 : l.getD 6 false = true → Y12 = .slice A.na c.ns.length A.nc
  a1 : l.getD 7 false = true → Y13 = .slice b1 c.ns.length c1
  d1 : l.getD 7 false = true → RdG ntC 6 w b1 c.ns ∧ c.ns.length ≤ c1
  u1 : l.getD 7 false = true → ∀ b o, b1 = some ⟨b, o, none⟩ → 0 < c.ns.length → u.heap.size ≤ b
  n1 : l.getD 7 false = true → l.getD 13 false = true → ∀ b o, b1 = some ⟨b, o, none⟩ → 0 < c.ns.length → b ≠ B
  l2 : l.getD 8 false = true → Y14 = .slice (some ⟨g2, 0, none⟩) 0 0
  p2 : l.getD 9 false = true → Y15 = .pointer (some ⟨C, 3, none⟩)
  r2 : l.getD 10 false = true → Y16 = .slice A.ca c.ch.length A.cc
  a2 : l.getD 11 false = true → Y17 = .slice b2 c.ch.length c2
  d2 : l.getD 11 false = true → RdG txE 1 w b2 c.ch ∧ c.ch.length ≤ c2
  u2 : l.getD 11 false = true → ∀ b o, b2 = some ⟨b, o, none⟩ → 0 < c.ch.length → u.heap.size ≤ b
  n2 : l.getD 11 false = true → l.getD 13 false = true → ∀ b o, b2 = some ⟨b, o, none⟩ → 0 < c.ch.length → b ≠ B
  bb : l.getD 12 false = true → Y18 = .agg #[.slice b0 c.vs.length c0, .slice none 0 0, .slice b1 c.ns.length c1, .slice b2 c.ch.length c2]
  b3 : l.getD 12 false = true → l.getD 3 false = true ∧ l.getD 7 false = true ∧ l.getD 11 false = true
  x3 : l.getD 13 false = true → Y3 = .pointer (some ⟨B, 0, none⟩) ∧ u.heap.size ≤ B ∧ B < w.heap.size
  xz : l.getD 13 false = true → ¬ l.getD 14 false = true → Blk w B 32 [.slice none 0 0, .slice none 0 0, .slice none 0 0, .slice none 0 0]
  xf : l.getD 14 false = true → Blk w B 32 [.slice b0 c.vs.length c0, .slice none 0 0, .slice b1 c.ns.length c1, .slice b2 c.ch.length c2]
  x4 : l.getD 14 false = true → ∀ k, k < 14 → l.getD k false = true

set_option maxRecDepth 100000 in
set_option maxHeartbeats 4000000 in
theorem regCp {cd : Go.Code} {Q : Exit → Act → World → Prop} {c : Cn} {A : CA} {C : Nat} {u : World} {lo : Nat → Prop} {X0 X2 X4 X5 X19 X20 X21 X22 X23 X24 X25 X26 X27 X28 X29 X30 X31 X32 X33 X34 X35 X36 X37 X38 X39 X40 X41 X42 X43 X44 X45 X46 X47 Y3 Y6 Y7 Y8 Y9 Y10 Y11 Y12 Y13 Y14 Y15 Y16 Y17 Y18 : Value} (hc : pickQ 1 (Try.f42.body.getD .skip) = some cd)
    (hC : Blk u C 32 [.slice A.va c.vs.length A.vc, .slice A.ta c.ts.length A.tc, .slice A.na c.ns.length A.nc, .slice A.ca c.ch.length A.cc]) (hR : RdC12 lo u C A c) (hz : c.vs.length ≤ 1048576 ∧ c.ns.length ≤ 1048576 ∧ c.ch.length ≤ 1048576)
    (hQ : ∀ (B g0 g1 g2 c0 c1 c2 : Nat) (b0 b1 b2 : Option Addr) (w' : World) (Y3 Y6 Y7 Y8 Y9 Y10 Y11 Y12 Y13 Y14 Y15 Y16 Y17 Y18 : Value), Y3 = .pointer (some ⟨B, 0, none⟩) → u.heap.size ≤ B → Blk w' B 32 [.slice b0 c.vs.length c0, .slice none 0 0, .slice b1 c.ns.length c1, .slice b2 c.ch.length c2] →
      RdG voC 3 w' b0 c.vs → NeA (fun b => u.heap.size ≤ b) B b0 c.vs.length → RdG ntC 6 w' b1 c.ns → NeA (fun b => u.heap.size ≤ b) B b1 c.ns.length → c.ns.length ≤ c1 → RdG txE 1 w' b2 c.ch → NeA (fun b => u.heap.size ≤ b) B b2 c.ch.length → Below u.heap.size u w' → Q .normal { tmps := #[X0, .pointer (some ⟨C, 0, none⟩), X2, Y3, X4, X5, Y6, Y7, Y8, Y9, Y10, Y11, Y12, Y13, Y14, Y15, Y16, Y17, Y18, X19, X20, X21, X22, X23, X24, X25, X26, X27, X28, X29, X30, X31, X32, X33, X34, X35, X36, X37, X38, X39, X40, X41, X42, X43, X44, X45, X46, X47], defers := [] } w') :
    Go.Code.wp Try.prog cd Q { tmps := #[X0, .pointer (some ⟨C, 0, none⟩), X2, Y3, X4, X5, Y6, Y7, Y8, Y9, Y10, Y11, Y12, Y13, Y14, Y15, Y16, Y17, Y18, X19, X20, X21, X22, X23, X24, X25, X26, X27, X28, X29, X30, X31, X32, X33, X34, X35, X36, X37, X38, X39, X40, X41, X42, X43, X44, X45, X46, X47], defers := [] } u := by
  have ec0 : some cd = some _ := hc.symm.trans (show pickQ 1 (Try.f42.body.getD .skip) = some _ from rfl)
  injection ec0 with ec0
  subst ec0
  refine wp_region_any (by kernel_rfl) ?_
  change wpAny _ _ _ _ _ _ _ (World.drew _)
  refine wpAny_inv (fun l a w => ∃ (B g0 g1 g2 c0 c1 c2 : Nat) (b0 b1 b2 : Option Addr) (Y3 Y6 Y7 Y8 Y9 Y10 Y11 Y12 Y13 Y14 Y15 Y16 Y17 Y18 : Value), a = { tmps := #[X0, .pointer (some ⟨C, 0, none⟩), X2, Y3, X4, X5, Y6, Y7, Y8, Y9, Y10, Y11, Y12, Y13, Y14, Y15, Y16, Y17, Y18, X19, X20, X21, X22, X23, X24, X25, X26, X27, X28, X29, X30, X31, X32, X33, X34, X35, X36, X37, X38, X39, X40, X41, X42, X43, X44, X45, X46, X47], defers := [] } ∧ ICp c A C u l w B g0 g1 g2 c0 c1 c2 b0 b1 b2 Y3 Y6 Y7 Y8 Y9 Y10 Y11 Y12 Y13 Y14 Y15 Y16 Y17 Y18) ?_ ?_ _ _ _ _ (by rw [Array.size_replicate]) (by simp) ?_
  · rintro l a w i hl ⟨B, g0, g1, g2, c0, c1, c2, b0, b1, b2, Y3, Y6, Y7, Y8, Y9, Y10, Y11, Y12, Y13, Y14, Y15, Y16, Y17, Y18, rfl, H⟩ hi
    obtain ⟨h1, h2, h3⟩ := ready_at hi
    have hb0 : Below w.heap.size w w := Below.refl _ _
    match i, h1 with
    | 0, _ =>
      have up : ∀ {k : Nat}, l.getD k false = true → (l.setIfInBounds 0 true).getD k false = true := fun {k} h => up_at h
      refine wpOp_step (o := _) rfl (fun K hK => ?_)
      go_simp
      have hb1 : Below w.heap.size w (w.alloc (.cells #[] 43)) := hb0.alloc (Nat.le_refl _) _
      exact hK _ _ ⟨B, w.heap.size, g1, g2, c0, c1, c2, b0, b1, b2, Y3, _, Y7, Y8, Y9, Y10, Y11, Y12, Y13, Y14, Y15, Y16, Y17, Y18, rfl, ⟨H.bl.trans (hb1.mono H.bl.size), (fun _ => rfl), (fun h0 => H.p0 (set_at h0 (by decide))), (fun h0 => H.r0 (set_at h0 (by decide))), (fun h0 => H.a0 (set_at h0 (by decide))), (fun h0 => ⟨(H.d0 (set_at h0 (by decide))).1.later hb1, (H.d0 (set_at h0 (by decide))).2⟩), (fun h0 => H.u0 (set_at h0 (by decide))), (fun h0 h1 => H.n0 (set_at h0 (by decide)) (set_at h1 (by decide))), (fun h0 => H.l1 (set_at h0 (by decide))), (fun h0 => H.p1 (set_at h0 (by decide))), (fun h0 => H.r1 (set_at h0 (by decide))), (fun h0 => H.a1 (set_at h0 (by decide))), (fun h0 => ⟨(H.d1 (set_at h0 (by decide))).1.later hb1, (H.d1 (set_at h0 (by decide))).2⟩), (fun h0 => H.u1 (set_at h0 (by decide))), (fun h0 h1 => H.n1 (set_at h0 (by decide)) (set_at h1 (by decide))), (fun h0 => H.l2 (set_at h0 (by decide))), (fun h0 => H.p2 (set_at h0 (by decide))), (fun h0 => H.r2 (set_at h0 (by decide))), (fun h0 => H.a2 (set_at h0 (by decide))), (fun h0 => ⟨(H.d2 (set_at h0 (by decide))).1.later hb1, (H.d2 (set_at h0 (by decide))).2⟩), (fun h0 => H.u2 (set_at h0 (by decide))), (fun h0 h1 => H.n2 (set_at h0 (by decide)) (set_at h1 (by decide))), (fun h0 => H.bb (set_at h0 (by decide))), (fun h0 => ⟨up (H.b3 (set_at h0 (by decide))).1, up (H.b3 (set_at h0 (by decide))).2.1, up (H.b3 (set_at h0 (by decide))).2.2⟩), (fun h0 => ⟨(H.x3 (set_at h0 (by decide))).1, (H.x3 (set_at h0 (by decide))).2.1, Nat.lt_of_lt_of_le (H.x3 (set_at h0 (by decide))).2.2 (hb1).size⟩), (fun h0 h1 => (H.xz (set_at h0 (by decide)) (fun e => h1 (by rw [Array.getD_eq_getD_getElem?, Array.getElem?_setIfInBounds, if_neg (by decide), ← Array.getD_eq_getD_getElem?]; exact e))).below hb1 (H.xz (set_at h0 (by decide)) (fun e => h1 (by rw [Array.getD_eq_getD_getElem?, Array.getElem?_setIfInBounds, if_neg (by decide), ← Array.getD_eq_getD_getElem?]; exact e))).lt), (fun h0 => absurd (H.x4 (set_at h0 (by decide)) 0 (by decide)) (fun e => by have := not_at h2 e; cases this)), (fun h0 k hk => absurd (H.x4 (set_at h0 (by decide)) 0 (by decide)) (fun e => by have := not_at h2 e; cases this))⟩⟩
    | 1, _ =>
      have up : ∀ {k : Nat}, l.getD k false = true → (l.setIfInBounds 1 true).getD k false = true := fun {k} h => up_at h
      refine wpOp_step (o := _) rfl (fun K hK => ?_)
      go_simp
      exact hK _ _ ⟨B, g0, g1, g2, c0, c1, c2, b0, b1, b2, Y3, Y6, _, Y8, Y9, Y10, Y11, Y12, Y13, Y14, Y15, Y16, Y17, Y18, rfl, ⟨H.bl, (fun h0 => H.l0 (set_at h0 (by decide))), (fun _ => rfl), (fun h0 => H.r0 (set_at h0 (by decide))), (fun h0 => H.a0 (set_at h0 (by decide))), (fun h0 => H.d0 (set_at h0 (by decide))), (fun h0 => H.u0 (set_at h0 (by decide))), (fun h0 h1 => H.n0 (set_at h0 (by decide)) (set_at h1 (by decide))), (fun h0 => H.l1 (set_at h0 (by decide))), (fun h0 => H.p1 (set_at h0 (by decide))), (fun h0 => H.r1 (set_at h0 (by decide))), (fun h0 => H.a1 (set_at h0 (by decide))), (fun h0 => H.d1 (set_at h0 (by decide))), (fun h0 => H.u1 (set_at h0 (by decide))), (fun h0 h1 => H.n1 (set_at h0 (by decide)) (set_at h1 (by decide))), (fun h0 => H.l2 (set_at h0 (by decide))), (fun h0 => H.p2 (set_at h0 (by decide))), (fun h0 => H.r2 (set_at h0 (by decide))), (fun h0 => H.a2 (set_at h0 (by decide))), (fun h0 => H.d2 (set_at h0 (by decide))), (fun h0 => H.u2 (set_at h0 (by decide))), (fun h0 h1 => H.n2 (set_at h0 (by decide)) (set_at h1 (by decide))), (fun h0 => H.bb (set_at h0 (by decide))), (fun h0 => ⟨up (H.b3 (set_at h0 (by decide))).1, up (H.b3 (set_at h0 (by decide))).2.1, up (H.b3 (set_at h0 (by decide))).2.2⟩), (fun h0 => H.x3 (set_at h0 (by decide))), (fun h0 h1 => H.xz (set_at h0 (by decide)) (fun e => h1 (by rw [Array.getD_eq_getD_getElem?, Array.getElem?_setIfInBounds, if_neg (by decide), ← Array.getD_eq_getD_getElem?]; exact e))), (fun h0 => absurd (H.x4 (set_at h0 (by decide)) 1 (by decide)) (fun e => by have := not_at h2 e; cases this)), (fun h0 k hk => absurd (H.x4 (set_at h0 (by decide)) 1 (by decide)) (fun e => by have := not_at h2 e; cases this))⟩⟩
    | 2, _ =>
      have D := deps_of (o := _) rfl h3
      have L1 : l.getD 1 false = true := D ⟨1, .data⟩ (by simp) rfl
      have up : ∀ {k : Nat}, l.getD k false = true → (l.setIfInBounds 2 true).getD k false = true := fun {k} h => up_at h
      obtain rfl := H.p0 L1
      have x0 : w.cell? ⟨C, 0, none⟩ = some (.slice A.va c.vs.length A.vc) := (H.bl.cell (p := ⟨C, 0, none⟩) hC.lt).trans (hC.cell 0)
      refine wpOp_step (o := _) rfl (fun K hK => ?_)
      go_simp
      exact hK _ _ ⟨B, g0, g1, g2, c0, c1, c2, b0, b1, b2, Y3, Y6, _, _, Y9, Y10, Y11, Y12, Y13, Y14, Y15, Y16, Y17, Y18, rfl, ⟨H.bl, (fun h0 => H.l0 (set_at h0 (by decide))), (fun h0 => H.p0 (set_at h0 (by decide))), (fun _ => rfl), (fun h0 => H.a0 (set_at h0 (by decide))), (fun h0 => H.d0 (set_at h0 (by decide))), (fun h0 => H.u0 (set_at h0 (by decide))), (fun h0 h1 => H.n0 (set_at h0 (by decide)) (set_at h1 (by decide))), (fun h0 => H.l1 (set_at h0 (by decide))), (fun h0 => H.p1 (set_at h0 (by decide))), (fun h0 => H.r1 (set_at h0 (by decide))), (fun h0 => H.a1 (set_at h0 (by decide))), (fun h0 => H.d1 (set_at h0 (by decide))), (fun h0 => H.u1 (set_at h0 (by decide))), (fun h0 h1 => H.n1 (set_at h0 (by decide)) (set_at h1 (by decide))), (fun h0 => H.l2 (set_at h0 (by decide))), (fun h0 => H.p2 (set_at h0 (by decide))), (fun h0 => H.r2 (set_at h0 (by decide))), (fun h0 => H.a2 (set_at h0 (by decide))), (fun h0 => H.d2 (set_at h0 (by decide))), (fun h0 => H.u2 (set_at h0 (by decide))), (fun h0 h1 => H.n2 (set_at h0 (by decide)) (set_at h1 (by decide))), (fun h0 => H.bb (set_at h0 (by decide))), (fun h0 => ⟨up (H.b3 (set_at h0 (by decide))).1, up (H.b3 (set_at h0 (by decide))).2.1, up (H.b3 (set_at h0 (by decide))).2.2⟩), (fun h0 => H.x3 (set_at h0 (by decide))), (fun h0 h1 => H.xz (set_at h0 (by decide)) (fun e => h1 (by rw [Array.getD_eq_getD_getElem?, Array.getElem?_setIfInBounds, if_neg (by decide), ← Array.getD_eq_getD_getElem?]; exact e))), (fun h0 => absurd (H.x4 (set_at h0 (by decide)) 2 (by decide)) (fun e => by have := not_at h2 e; cases this)), (fun h0 k hk => absurd (H.x4 (set_at h0 (by decide)) 2 (by decide)) (fun e => by have := not_at h2 e; cases this))⟩⟩
    | 3, _ =>
      have D := deps_of (o := _) rfl h3
      have L0 : l.getD 0 false = true := D ⟨0, .data⟩ (by simp) rfl
      have L2 : l.getD 2 false = true := D ⟨2, .data⟩ (by simp) rfl
      have up : ∀ {k : Nat}, l.getD k false = true → (l.setIfInBounds 3 true).getD k false = true := fun {k} h => up_at h
      obtain rfl := H.l0 L0
      obtain rfl := H.r0 L2
      refine wpOp_step (o := _) rfl (fun K hK => ?_)
      refine step_cpE encV rowV rfl (.tmp 6) (.tmp 8) rfl g0 rfl A.va c.vs.length A.vc c.vs rfl rfl (hR.v.later H.bl) (by omega) ?_
      intro b' c' w' hr hb1 hn hcc
      exact hK _ _ ⟨B, g0, g1, g2, c', c1, c2, b', b1, b2, Y3, _, Y7, _, _, Y10, Y11, Y12, Y13, Y14, Y15, Y16, Y17, Y18, rfl, ⟨H.bl.trans (hb1.mono H.bl.size), (fun h0 => H.l0 (set_at h0 (by decide))), (fun h0 => H.p0 (set_at h0 (by decide))), (fun h0 => H.r0 (set_at h0 (by decide))), (fun _ => rfl), (fun _ => ⟨hr, hcc⟩), (fun _ b o e hp => Nat.le_trans H.bl.size (hn b o e hp)), (fun _ h1 b o e hp => by have := hn b o e hp; have := (H.x3 (set_at h1 (by decide))).2.2; omega), (fun h0 => H.l1 (set_at h0 (by decide))), (fun h0 => H.p1 (set_at h0 (by decide))), (fun h0 => H.r1 (set_at h0 (by decide))), (fun h0 => H.a1 (set_at h0 (by decide))), (fun h0 => ⟨(H.d1 (set_at h0 (by decide))).1.later hb1, (H.d1 (set_at h0 (by decide))).2⟩), (fun h0 => H.u1 (set_at h0 (by decide))), (fun h0 h1 => H.n1 (set_at h0 (by decide)) (set_at h1 (by decide))), (fun h0 => H.l2 (set_at h0 (by decide))), (fun h0 => H.p2 (set_at h0 (by decide))), (fun h0 => H.r2 (set_at h0 (by decide))), (fun h0 => H.a2 (set_at h0 (by decide))), (fun h0 => ⟨(H.d2 (set_at h0 (by decide))).1.later hb1, (H.d2 (set_at h0 (by decide))).2⟩), (fun h0 => H.u2 (set_at h0 (by decide))), (fun h0 h1 => H.n2 (set_at h0 (by decide)) (set_at h1 (by decide))), (fun h0 => absurd (H.b3 (set_at h0 (by decide))).1 (fun e => by have := not_at h2 e; cases this)), (fun h0 => ⟨up (H.b3 (set_at h0 (by decide))).1, up (H.b3 (set_at h0 (by decide))).2.1, up (H.b3 (set_at h0 (by decide))).2.2⟩), (fun h0 => ⟨(H.x3 (set_at h0 (by decide))).1, (H.x3 (set_at h0 (by decide))).2.1, Nat.lt_of_lt_of_le (H.x3 (set_at h0 (by decide))).2.2 (hb1).size⟩), (fun h0 h1 => (H.xz (set_at h0 (by decide)) (fun e => h1 (by rw [Array.getD_eq_getD_getElem?, Array.getElem?_setIfInBounds, if_neg (by decide), ← Array.getD_eq_getD_getElem?]; exact e))).below hb1 (H.xz (set_at h0 (by decide)) (fun e => h1 (by rw [Array.getD_eq_getD_getElem?, Array.getElem?_setIfInBounds, if_neg (by decide), ← Array.getD_eq_getD_getElem?]; exact e))).lt), (fun h0 => absurd (H.x4 (set_at h0 (by decide)) 3 (by decide)) (fun e => by have := not_at h2 e; cases this)), (fun h0 k hk => absurd (H.x4 (set_at h0 (by decide)) 3 (by decide)) (fun e => by have := not_at h2 e; cases this))⟩⟩
    | 4, _ =>
      have up : ∀ {k : Nat}, l.getD k false = true → (l.setIfInBounds 4 true).getD k false = true := fun {k} h => up_at h
      refine wpOp_step (o := _) rfl (fun K hK => ?_)
      go_simp
      have hb1 : Below w.heap.size w (w.alloc (.cells #[] 111)) := hb0.alloc (Nat.le_refl _) _
      exact hK _ _ ⟨B, g0, w.heap.size, g2, c0, c1, c2, b0, b1, b2, Y3, Y6, Y7, Y8, Y9, _, Y11, Y12, Y13, Y14, Y15, Y16, Y17, Y18, rfl, ⟨H.bl.trans (hb1.mono H.bl.size), (fun h0 => H.l0 (set_at h0 (by decide))), (fun h0 => H.p0 (set_at h0 (by decide))), (fun h0 => H.r0 (set_at h0 (by decide))), (fun h0 => H.a0 (set_at h0 (by decide))), (fun h0 => ⟨(H.d0 (set_at h0 (by decide))).1.later hb1, (H.d0 (set_at h0 (by decide))).2⟩), (fun h0 => H.u0 (set_at h0 (by decide))), (fun h0 h1 => H.n0 (set_at h0 (by decide)) (set_at h1 (by decide))), (fun _ => rfl), (fun h0 => H.p1 (set_at h0 (by decide))), (fun h0 => H.r1 (set_at h0 (by decide))), (fun h0 => H.a1 (set_at h0 (by decide))), (fun h0 => ⟨(H.d1 (set_at h0 (by decide))).1.later hb1, (H.d1 (set_at h0 (by decide))).2⟩), (fun h0 => H.u1 (set_at h0 (by decide))), (fun h0 h1 => H.n1 (set_at h0 (by decide)) (set_at h1 (by decide))), (fun h0 => H.l2 (set_at h0 (by decide))), (fun h0 => H.p2 (set_at h0 (by decide))), (fun h0 => H.r2 (set_at h0 (by decide))), (fun h0 => H.a2 (set_at h0 (by decide))), (fun h0 => ⟨(H.d2 (set_at h0 (by decide))).1.later hb1, (H.d2 (set_at h0 (by decide))).2⟩), (fun h0 => H.u2 (set_at h0 (by decide))), (fun h0 h1 => H.n2 (set_at h0 (by decide)) (set_at h1 (by decide))), (fun h0 => H.bb (set_at h0 (by decide))), (fun h0 => ⟨up (H.b3 (set_at h0 (by decide))).1, up (H.b3 (set_at h0 (by decide))).2.1, up (H.b3 (set_at h0 (by decide))).2.2⟩), (fun h0 => ⟨(H.x3 (set_at h0 (by decide))).1, (H.x3 (set_at h0 (by decide))).2.1, Nat.lt_of_lt_of_le (H.x3 (set_at h0 (by decide))).2.2 (hb1).size⟩), (fun h0 h1 => (H.xz (set_at h0 (by decide)) (fun e => h1 (by rw [Array.getD_eq_getD_getElem?, Array.getElem?_setIfInBounds, if_neg (by decide), ← Array.getD_eq_getD_getElem?]; exact e))).below hb1 (H.xz (set_at h0 (by decide)) (fun e => h1 (by rw [Array.getD_eq_getD_getElem?, Array.getElem?_setIfInBounds, if_neg (by decide), ← Array.getD_eq_getD_getElem?]; exact e))).lt), (fun h0 => absurd (H.x4 (set_at h0 (by decide)) 4 (by decide)) (fun e => by have := not_at h2 e; cases this)), (fun h0 k hk => absurd (H.x4 (set_at h0 (by decide)) 4 (by decide)) (fun e => by have := not_at h2 e; cases this))⟩⟩
    | 5, _ =>
      have up : ∀ {k : Nat}, l.getD k false = true → (l.setIfInBounds 5 true).getD k false = true := fun {k} h => up_at h
      refine wpOp_step (o := _) rfl (fun K hK => ?_)
      go_simp
      exact hK _ _ ⟨B, g0, g1, g2, c0, c1, c2, b0, b1, b2, Y3, Y6, Y7, Y8, Y9, Y10, _, Y12, Y13, Y14, Y15, Y16, Y17, Y18, rfl, ⟨H.bl, (fun h0 => H.l0 (set_at h0 (by decide))), (fun h0 => H.p0 (set_at h0 (by decide))), (fun h0 => H.r0 (set_at h0 (by decide))), (fun h0 => H.a0 (set_at h0 (by decide))), (fun h0 => H.d0 (set_at h0 (by decide))), (fun h0 => H.u0 (set_at h0 (by decide))), (fun h0 h1 => H.n0 (set_at h0 (by decide)) (set_at h1 (by decide))), (fun h0 => H.l1 (set_at h0 (by decide))), (fun _ => rfl), (fun h0 => H.r1 (set_at h0 (by decide))), (fun h0 => H.a1 (set_at h0 (by decide))), (fun h0 => H.d1 (set_at h0 (by decide))), (fun h0 => H.u1 (set_at h0 (by decide))), (fun h0 h1 => H.n1 (set_at h0 (by decide)) (set_at h1 (by decide))), (fun h0 => H.l2 (set_at h0 (by decide))), (fun h0 => H.p2 (set_at h0 (by decide))), (fun h0 => H.r2 (set_at h0 (by decide))), (fun h0 => H.a2 (set_at h0 (by decide))), (fun h0 => H.d2 (set_at h0 (by decide))), (fun h0 => H.u2 (set_at h0 (by decide))), (fun h0 h1 => H.n2 (set_at h0 (by decide)) (set_at h1 (by decide))), (fun h0 => H.bb (set_at h0 (by decide))), (fun h0 => ⟨up (H.b3 (set_at h0 (by decide))).1, up (H.b3 (set_at h0 (by decide))).2.1, up (H.b3 (set_at h0 (by decide))).2.2⟩), (fun h0 => H.x3 (set_at h0 (by decide))), (fun h0 h1 => H.xz (set_at h0 (by decide)) (fun e => h1 (by rw [Array.getD_eq_getD_getElem?, Array.getElem?_setIfInBounds, if_neg (by decide), ← Array.getD_eq_getD_getElem?]; exact e))), (fun h0 => absurd (H.x4 (set_at h0 (by decide)) 5 (by decide)) (fun e => by have := not_at h2 e; cases this)), (fun h0 k hk => absurd (H.x4 (set_at h0 (by decide)) 5 (by decide)) (fun e => by have := not_at h2 e; cases this))⟩⟩
    | 6, _ =>
      have D := deps_of (o := _) rfl h3
      have L5 : l.getD 5 false = true := D ⟨5, .data⟩ (by simp) rfl
      have up : ∀ {k : Nat}, l.getD k false = true → (l.setIfInBounds 6 true).getD k false = true := fun {k} h => up_at h
      obtain rfl := H.p1 L5
      have x0 : w.cell? ⟨C, 2, none⟩ = some (.slice A.na c.ns.length A.nc) := (H.bl.cell (p := ⟨C, 2, none⟩) hC.lt).trans (hC.cell 2)
      refine wpOp_step (o := _) rfl (fun K hK => ?_)
      go_simp
      exact hK _ _ ⟨B, g0, g1, g2, c0, c1, c2, b0, b1, b2, Y3, Y6, Y7, Y8, Y9, Y10, _, _, Y13, Y14, Y15, Y16, Y17, Y18, rfl, ⟨H.bl, (fun h0 => H.l0 (set_at h0 (by decide))), (fun h0 => H.p0 (set_at h0 (by decide))), (fun h0 => H.r0 (set_at h0 (by decide))), (fun h0 => H.a0 (set_at h0 (by decide))), (fun h0 => H.d0 (set_at h0 (by decide))), (fun h0 => H.u0 (set_at h0 (by decide))), (fun h0 h1 => H.n0 (set_at h0 (by decide)) (set_at h1 (by decide))), (fun h0 => H.l1 (set_at h0 (by decide))), (fun h0 => H.p1 (set_at h0 (by decide))), (fun _ => rfl), (fun h0 => H.a1 (set_at h0 (by decide))), (fun h0 => H.d1 (set_at h0 (by decide))), (fun h0 => H.u1 (set_at h0 (by decide))), (fun h0 h1 => H.n1 (set_at h0 (by decide)) (set_at h1 (by decide))), (fun h0 => H.l2 (set_at h0 (by decide))), (fun h0 => H.p2 (set_at h0 (by decide))), (fun h0 => H.r2 (set_at h0 (by decide))), (fun h0 => H.a2 (set_at h0 (by decide))), (fun h0 => H.d2 (set_at h0 (by decide))), (fun h0 => H.u2 (set_at h0 (by decide))), (fun h0 h1 => H.n2 (set_at h0 (by decide)) (set_at h1 (by decide))), (fun h0 => H.bb (set_at h0 (by decide))), (fun h0 => ⟨up (H.b3 (set_at h0 (by decide))).1, up (H.b3 (set_at h0 (by decide))).2.1, up (H.b3 (set_at h0 (by decide))).2.2⟩), (fun h0 => H.x3 (set_at h0 (by decide))), (fun h0 h1 => H.xz (set_at h0 (by decide)) (fun e => h1 (by rw [Array.getD_eq_getD_getElem?, Array.getElem?_setIfInBounds, if_neg (by decide), ← Array.getD_eq_getD_getElem?]; exact e))), (fun h0 => absurd (H.x4 (set_at h0 (by decide)) 6 (by decide)) (fun e => by have := not_at h2 e; cases this)), (fun h0 k hk => absurd (H.x4 (set_at h0 (by decide)) 6 (by decide)) (fun e => by have := not_at h2 e; cases this))⟩⟩
    | 7, _ =>
      have D := deps_of (o := _) rfl h3
      have L3 : l.getD 3 false = true := D ⟨3, .chain⟩ (by simp) rfl
      have L4 : l.getD 4 false = true := D ⟨4, .data⟩ (by simp) rfl
      have L6 : l.getD 6 false = true := D ⟨6, .data⟩ (by simp) rfl
      have up : ∀ {k : Nat}, l.getD k false = true → (l.setIfInBounds 7 true).getD k false = true := fun {k} h => up_at h
      obtain rfl := H.l1 L4
      obtain rfl := H.r1 L6
      refine wpOp_step (o := _) rfl (fun K hK => ?_)
      refine step_cpE encN rowN rfl (.tmp 10) (.tmp 12) rfl g1 rfl A.na c.ns.length A.nc c.ns rfl rfl (hR.n.later H.bl) (by omega) ?_
      intro b' c' w' hr hb1 hn hcc
      exact hK _ _ ⟨B, g0, g1, g2, c0, c', c2, b0, b', b2, Y3, Y6, Y7, Y8, Y9, _, Y11, _, _, Y14, Y15, Y16, Y17, Y18, rfl, ⟨H.bl.trans (hb1.mono H.bl.size), (fun h0 => H.l0 (set_at h0 (by decide))), (fun h0 => H.p0 (set_at h0 (by decide))), (fun h0 => H.r0 (set_at h0 (by decide))), (fun h0 => H.a0 (set_at h0 (by decide))), (fun h0 => ⟨(H.d0 (set_at h0 (by decide))).1.later hb1, (H.d0 (set_at h0 (by decide))).2⟩), (fun h0 => H.u0 (set_at h0 (by decide))), (fun h0 h1 => H.n0 (set_at h0 (by decide)) (set_at h1 (by decide))), (fun h0 => H.l1 (set_at h0 (by decide))), (fun h0 => H.p1 (set_at h0 (by decide))), (fun h0 => H.r1 (set_at h0 (by decide))), (fun _ => rfl), (fun _ => ⟨hr, hcc⟩), (fun _ b o e hp => Nat.le_trans H.bl.size (hn b o e hp)), (fun _ h1 b o e hp => by have := hn b o e hp; have := (H.x3 (set_at h1 (by decide))).2.2; omega), (fun h0 => H.l2 (set_at h0 (by decide))), (fun h0 => H.p2 (set_at h0 (by decide))), (fun h0 => H.r2 (set_at h0 (by decide))), (fun h0 => H.a2 (set_at h0 (by decide))), (fun h0 => ⟨(H.d2 (set_at h0 (by decide))).1.later hb1, (H.d2 (set_at h0 (by decide))).2⟩), (fun h0 => H.u2 (set_at h0 (by decide))), (fun h0 h1 => H.n2 (set_at h0 (by decide)) (set_at h1 (by decide))), (fun h0 => absurd (H.b3 (set_at h0 (by decide))).2.1 (fun e => by have := not_at h2 e; cases this)), (fun h0 => ⟨up (H.b3 (set_at h0 (by decide))).1, up (H.b3 (set_at h0 (by decide))).2.1, up (H.b3 (set_at h0 (by decide))).2.2⟩), (fun h0 => ⟨(H.x3 (set_at h0 (by decide))).1, (H.x3 (set_at h0 (by decide))).2.1, Nat.lt_of_lt_of_le (H.x3 (set_at h0 (by decide))).2.2 (hb1).size⟩), (fun h0 h1 => (H.xz (set_at h0 (by decide)) (fun e => h1 (by rw [Array.getD_eq_getD_getElem?, Array.getElem?_setIfInBounds, if_neg (by decide), ← Array.getD_eq_getD_getElem?]; exact e))).below hb1 (H.xz (set_at h0 (by decide)) (fun e => h1 (by rw [Array.getD_eq_getD_getElem?, Array.getElem?_setIfInBounds, if_neg (by decide), ← Array.getD_eq_getD_getElem?]; exact e))).lt), (fun h0 => absurd (H.x4 (set_at h0 (by decide)) 7 (by decide)) (fun e => by have := not_at h2 e; cases this)), (fun h0 k hk => absurd (H.x4 (set_at h0 (by decide)) 7 (by decide)) (fun e => by have := not_at h2 e; cases this))⟩⟩
    | 8, _ =>
      have up : ∀ {k : Nat}, l.getD k false = true → (l.setIfInBounds 8 true).getD k false = true := fun {k} h => up_at h
      refine wpOp_step (o := _) rfl (fun K hK => ?_)
      go_simp
      have hb1 : Below w.heap.size w (w.alloc (.cells #[] 9)) := hb0.alloc (Nat.le_refl _) _
      exact hK _ _ ⟨B, g0, g1, w.heap.size, c0, c1, c2, b0, b1, b2, Y3, Y6, Y7, Y8, Y9, Y10, Y11, Y12, Y13, _, Y15, Y16, Y17, Y18, rfl, ⟨H.bl.trans (hb1.mono H.bl.size), (fun h0 => H.l0 (set_at h0 (by decide))), (fun h0 => H.p0 (set_at h0 (by decide))), (fun h0 => H.r0 (set_at h0 (by decide))), (fun h0 => H.a0 (set_at h0 (by decide))), (fun h0 => ⟨(H.d0 (set_at h0 (by decide))).1.later hb1, (H.d0 (set_at h0 (by decide))).2⟩), (fun h0 => H.u0 (set_at h0 (by decide))), (fun h0 h1 => H.n0 (set_at h0 (by decide)) (set_at h1 (by decide))), (fun h0 => H.l1 (set_at h0 (by decide))), (fun h0 => H.p1 (set_at h0 (by decide))), (fun h0 => H.r1 (set_at h0 (by decide))), (fun h0 => H.a1 (set_at h0 (by decide))), (fun h0 => ⟨(H.d1 (set_at h0 (by decide))).1.later hb1, (H.d1 (set_at h0 (by decide))).2⟩), (fun h0 => H.u1 (set_at h0 (by decide))), (fun h0 h1 => H.n1 (set_at h0 (by decide)) (set_at h1 (by decide))), (fun _ => rfl), (fun h0 => H.p2 (set_at h0 (by decide))), (fun h0 => H.r2 (set_at h0 (by decide))), (fun h0 => H.a2 (set_at h0 (by decide))), (fun h0 => ⟨(H.d2 (set_at h0 (by decide))).1.later hb1, (H.d2 (set_at h0 (by decide))).2⟩), (fun h0 => H.u2 (set_at h0 (by decide))), (fun h0 h1 => H.n2 (set_at h0 (by decide)) (set_at h1 (by decide))), (fun h0 => H.bb (set_at h0 (by decide))), (fun h0 => ⟨up (H.b3 (set_at h0 (by decide))).1, up (H.b3 (set_at h0 (by decide))).2.1, up (H.b3 (set_at h0 (by decide))).2.2⟩), (fun h0 => ⟨(H.x3 (set_at h0 (by decide))).1, (H.x3 (set_at h0 (by decide))).2.1, Nat.lt_of_lt_of_le (H.x3 (set_at h0 (by decide))).2.2 (hb1).size⟩), (fun h0 h1 => (H.xz (set_at h0 (by decide)) (fun e => h1 (by rw [Array.getD_eq_getD_getElem?, Array.getElem?_setIfInBounds, if_neg (by decide), ← Array.getD_eq_getD_getElem?]; exact e))).below hb1 (H.xz (set_at h0 (by decide)) (fun e => h1 (by rw [Array.getD_eq_getD_getElem?, Array.getElem?_setIfInBounds, if_neg (by decide), ← Array.getD_eq_getD_getElem?]; exact e))).lt), (fun h0 => absurd (H.x4 (set_at h0 (by decide)) 8 (by decide)) (fun e => by have := not_at h2 e; cases this)), (fun h0 k hk => absurd (H.x4 (set_at h0 (by decide)) 8 (by decide)) (fun e => by have := not_at h2 e; cases this))⟩⟩
    | 9, _ =>
      have up : ∀ {k : Nat}, l.getD k false = true → (l.setIfInBounds 9 true).getD k false = true := fun {k} h => up_at h
      refine wpOp_step (o := _) rfl (fun K hK => ?_)
      go_simp
      exact hK _ _ ⟨B, g0, g1, g2, c0, c1, c2, b0, b1, b2, Y3, Y6, Y7, Y8, Y9, Y10, Y11, Y12, Y13, Y14, _, Y16, Y17, Y18, rfl, ⟨H.bl, (fun h0 => H.l0 (set_at h0 (by decide))), (fun h0 => H.p0 (set_at h0 (by decide))), (fun h0 => H.r0 (set_at h0 (by decide))), (fun h0 => H.a0 (set_at h0 (by decide))), (fun h0 => H.d0 (set_at h0 (by decide))), (fun h0 => H.u0 (set_at h0 (by decide))), (fun h0 h1 => H.n0 (set_at h0 (by decide)) (set_at h1 (by decide))), (fun h0 => H.l1 (set_at h0 (by decide))), (fun h0 => H.p1 (set_at h0 (by decide))), (fun h0 => H.r1 (set_at h0 (by decide))), (fun h0 => H.a1 (set_at h0 (by decide))), (fun h0 => H.d1 (set_at h0 (by decide))), (fun h0 => H.u1 (set_at h0 (by decide))), (fun h0 h1 => H.n1 (set_at h0 (by decide)) (set_at h1 (by decide))), (fun h0 => H.l2 (set_at h0 (by decide))), (fun _ => rfl), (fun h0 => H.r2 (set_at h0 (by decide))), (fun h0 => H.a2 (set_at h0 (by decide))), (fun h0 => H.d2 (set_at h0 (by decide))), (fun h0 => H.u2 (set_at h0 (by decide))), (fun h0 h1 => H.n2 (set_at h0 (by decide)) (set_at h1 (by decide))), (fun h0 => H.bb (set_at h0 (by decide))), (fun h0 => ⟨up (H.b3 (set_at h0 (by decide))).1, up (H.b3 (set_at h0 (by decide))).2.1, up (H.b3 (set_at h0 (by decide))).2.2⟩), (fun h0 => H.x3 (set_at h0 (by decide))), (fun h0 h1 => H.xz (set_at h0 (by decide)) (fun e => h1 (by rw [Array.getD_eq_getD_getElem?, Array.getElem?_setIfInBounds, if_neg (by decide), ← Array.getD_eq_getD_getElem?]; exact e))), (fun h0 => absurd (H.x4 (set_at h0 (by decide)) 9 (by decide)) (fun e => by have := not_at h2 e; cases this)), (fun h0 k hk => absurd (H.x4 (set_at h0 (by decide)) 9 (by decide)) (fun e => by have := not_at h2 e; cases this))⟩⟩
    | 10, _ =>
      have D := deps_of (o := _) rfl h3
      have L9 : l.getD 9 false = true := D ⟨9, .data⟩ (by simp) rfl
      have up : ∀ {k : Nat}, l.getD k false = true → (l.setIfInBounds 10 true).getD k false = true := fun {k} h => up_at h
      obtain rfl := H.p2 L9
      have x0 : w.cell? ⟨C, 3, none⟩ = some (.slice A.ca c.ch.length A.cc) := (H.bl.cell (p := ⟨C, 3, none⟩) hC.lt).trans (hC.cell 3)
      refine wpOp_step (o := _) rfl (fun K hK => ?_)
      go_simp
      exact hK _ _ ⟨B, g0, g1, g2, c0, c1, c2, b0, b1, b2, Y3, Y6, Y7, Y8, Y9, Y10, Y11, Y12, Y13, Y14, _, _, Y17, Y18, rfl, ⟨H.bl, (fun h0 => H.l0 (set_at h0 (by decide))), (fun h0 => H.p0 (set_at h0 (by decide))), (fun h0 => H.r0 (set_at h0 (by decide))), (fun h0 => H.a0 (set_at h0 (by decide))), (fun h0 => H.d0 (set_at h0 (by decide))), (fun h0 => H.u0 (set_at h0 (by decide))), (fun h0 h1 => H.n0 (set_at h0 (by decide)) (set_at h1 (by decide))), (fun h0 => H.l1 (set_at h0 (by decide))), (fun h0 => H.p1 (set_at h0 (by decide))), (fun h0 => H.r1 (set_at h0 (by decide))), (fun h0 => H.a1 (set_at h0 (by decide))), (fun h0 => H.d1 (set_at h0 (by decide))), (fun h0 => H.u1 (set_at h0 (by decide))), (fun h0 h1 => H.n1 (set_at h0 (by decide)) (set_at h1 (by decide))), (fun h0 => H.l2 (set_at h0 (by decide))), (fun h0 => H.p2 (set_at h0 (by decide))), (fun _ => rfl), (fun h0 => H.a2 (set_at h0 (by decide))), (fun h0 => H.d2 (set_at h0 (by decide))), (fun h0 => H.u2 (set_at h0 (by decide))), (fun h0 h1 => H.n2 (set_at h0 (by decide)) (set_at h1 (by decide))), (fun h0 => H.bb (set_at h0 (by decide))), (fun h0 => ⟨up (H.b3 (set_at h0 (by decide))).1, up (H.b3 (set_at h0 (by decide))).2.1, up (H.b3 (set_at h0 (by decide))).2.2⟩), (fun h0 => H.x3 (set_at h0 (by decide))), (fun h0 h1 => H.xz (set_at h0 (by decide)) (fun e => h1 (by rw [Array.getD_eq_getD_getElem?, Array.getElem?_setIfInBounds, if_neg (by decide), ← Array.getD_eq_getD_getElem?]; exact e))), (fun h0 => absurd (H.x4 (set_at h0 (by decide)) 10 (by decide)) (fun e => by have := not_at h2 e; cases this)), (fun h0 k hk => absurd (H.x4 (set_at h0 (by decide)) 10 (by decide)) (fun e => by have := not_at h2 e; cases this))⟩⟩
    | 11, _ =>
      have D := deps_of (o := _) rfl h3
      have L7 : l.getD 7 false = true := D ⟨7, .chain⟩ (by simp) rfl
      have L8 : l.getD 8 false = true := D ⟨8, .data⟩ (by simp) rfl
      have L10 : l.getD 10 false = true := D ⟨10, .data⟩ (by simp) rfl
      have up : ∀ {k : Nat}, l.getD k false = true → (l.setIfInBounds 11 true).getD k false = true := fun {k} h => up_at h
      obtain rfl := H.l2 L8
      obtain rfl := H.r2 L10
      refine wpOp_step (o := _) rfl (fun K hK => ?_)
      refine step_cpE encX rowX rfl (.tmp 14) (.tmp 16) rfl g2 rfl A.ca c.ch.length A.cc c.ch rfl rfl (hR.c.later H.bl) (by omega) ?_
      intro b' c' w' hr hb1 hn hcc
      exact hK _ _ ⟨B, g0, g1, g2, c0, c1, c', b0, b1, b', Y3, Y6, Y7, Y8, Y9, Y10, Y11, Y12, Y13, _, Y15, _, _, Y18, rfl, ⟨H.bl.trans (hb1.mono H.bl.size), (fun h0 => H.l0 (set_at h0 (by decide))), (fun h0 => H.p0 (set_at h0 (by decide))), (fun h0 => H.r0 (set_at h0 (by decide))), (fun h0 => H.a0 (set_at h0 (by decide))), (fun h0 => ⟨(H.d0 (set_at h0 (by decide))).1.later hb1, (H.d0 (set_at h0 (by decide))).2⟩), (fun h0 => H.u0 (set_at h0 (by decide))), (fun h0 h1 => H.n0 (set_at h0 (by decide)) (set_at h1 (by decide))), (fun h0 => H.l1 (set_at h0 (by decide))), (fun h0 => H.p1 (set_at h0 (by decide))), (fun h0 => H.r1 (set_at h0 (by decide))), (fun h0 => H.a1 (set_at h0 (by decide))), (fun h0 => ⟨(H.d1 (set_at h0 (by decide))).1.later hb1, (H.d1 (set_at h0 (by decide))).2⟩), (fun h0 => H.u1 (set_at h0 (by decide))), (fun h0 h1 => H.n1 (set_at h0 (by decide)) (set_at h1 (by decide))), (fun h0 => H.l2 (set_at h0 (by decide))), (fun h0 => H.p2 (set_at h0 (by decide))), (fun h0 => H.r2 (set_at h0 (by decide))), (fun _ => rfl), (fun _ => ⟨hr, hcc⟩), (fun _ b o e hp => Nat.le_trans H.bl.size (hn b o e hp)), (fun _ h1 b o e hp => by have := hn b o e hp; have := (H.x3 (set_at h1 (by decide))).2.2; omega), (fun h0 => absurd (H.b3 (set_at h0 (by decide))).2.2 (fun e => by have := not_at h2 e; cases this)), (fun h0 => ⟨up (H.b3 (set_at h0 (by decide))).1, up (H.b3 (set_at h0 (by decide))).2.1, up (H.b3 (set_at h0 (by decide))).2.2⟩), (fun h0 => ⟨(H.x3 (set_at h0 (by decide))).1, (H.x3 (set_at h0 (by decide))).2.1, Nat.lt_of_lt_of_le (H.x3 (set_at h0 (by decide))).2.2 (hb1).size⟩), (fun h0 h1 => (H.xz (set_at h0 (by decide)) (fun e => h1 (by rw [Array.getD_eq_getD_getElem?, Array.getElem?_setIfInBounds, if_neg (by decide), ← Array.getD_eq_getD_getElem?]; exact e))).below hb1 (H.xz (set_at h0 (by decide)) (fun e => h1 (by rw [Array.getD_eq_getD_getElem?, Array.getElem?_setIfInBounds, if_neg (by decide), ← Array.getD_eq_getD_getElem?]; exact e))).lt), (fun h0 => absurd (H.x4 (set_at h0 (by decide)) 11 (by decide)) (fun e => by have := not_at h2 e; cases this)), (fun h0 k hk => absurd (H.x4 (set_at h0 (by decide)) 11 (by decide)) (fun e => by have := not_at h2 e; cases this))⟩⟩
    | 12, _ =>
      have D := deps_of (o := _) rfl h3
      have L3 : l.getD 3 false = true := D ⟨3, .data⟩ (by simp) rfl
      have L7 : l.getD 7 false = true := D ⟨7, .data⟩ (by simp) rfl
      have L11 : l.getD 11 false = true := D ⟨11, .data⟩ (by simp) rfl
      have up : ∀ {k : Nat}, l.getD k false = true → (l.setIfInBounds 12 true).getD k false = true := fun {k} h => up_at h
      obtain rfl := H.a0 L3
      obtain rfl := H.a1 L7
      obtain rfl := H.a2 L11
      refine wpOp_step (o := _) rfl (fun K hK => ?_)
      go_simp
      exact hK _ _ ⟨B, g0, g1, g2, c0, c1, c2, b0, b1, b2, Y3, Y6, Y7, Y8, _, Y10, Y11, Y12, _, Y14, Y15, Y16, _, _, rfl, ⟨H.bl, (fun h0 => H.l0 (set_at h0 (by decide))), (fun h0 => H.p0 (set_at h0 (by decide))), (fun h0 => H.r0 (set_at h0 (by decide))), (fun h0 => H.a0 (set_at h0 (by decide))), (fun h0 => H.d0 (set_at h0 (by decide))), (fun h0 => H.u0 (set_at h0 (by decide))), (fun h0 h1 => H.n0 (set_at h0 (by decide)) (set_at h1 (by decide))), (fun h0 => H.l1 (set_at h0 (by decide))), (fun h0 => H.p1 (set_at h0 (by decide))), (fun h0 => H.r1 (set_at h0 (by decide))), (fun h0 => H.a1 (set_at h0 (by decide))), (fun h0 => H.d1 (set_at h0 (by decide))), (fun h0 => H.u1 (set_at h0 (by decide))), (fun h0 h1 => H.n1 (set_at h0 (by decide)) (set_at h1 (by decide))), (fun h0 => H.l2 (set_at h0 (by decide))), (fun h0 => H.p2 (set_at h0 (by decide))), (fun h0 => H.r2 (set_at h0 (by decide))), (fun h0 => H.a2 (set_at h0 (by decide))), (fun h0 => H.d2 (set_at h0 (by decide))), (fun h0 => H.u2 (set_at h0 (by decide))), (fun h0 h1 => H.n2 (set_at h0 (by decide)) (set_at h1 (by decide))), (fun _ => rfl), (fun _ => ⟨up L3, up L7, up L11⟩), (fun h0 => H.x3 (set_at h0 (by decide))), (fun h0 h1 => H.xz (set_at h0 (by decide)) (fun e => h1 (by rw [Array.getD_eq_getD_getElem?, Array.getElem?_setIfInBounds, if_neg (by decide), ← Array.getD_eq_getD_getElem?]; exact e))), (fun h0 => absurd (H.x4 (set_at h0 (by decide)) 12 (by decide)) (fun e => by have := not_at h2 e; cases this)), (fun h0 k hk => absurd (H.x4 (set_at h0 (by decide)) 12 (by decide)) (fun e => by have := not_at h2 e; cases this))⟩⟩
    | 13, _ =>
      have up : ∀ {k : Nat}, l.getD k false = true → (l.setIfInBounds 13 true).getD k false = true := fun {k} h => up_at h
      refine wpOp_step (o := _) rfl (fun K hK => ?_)
      go_simp
      have hb1 : Below w.heap.size w (w.alloc (.cells #[.slice none 0 0, .slice none 0 0, .slice none 0 0, .slice none 0 0] 32)) := hb0.alloc (Nat.le_refl _) _
      exact hK _ _ ⟨w.heap.size, g0, g1, g2, c0, c1, c2, b0, b1, b2, _, Y6, Y7, Y8, Y9, Y10, Y11, Y12, Y13, Y14, Y15, Y16, Y17, Y18, rfl, ⟨H.bl.trans (hb1.mono H.bl.size), (fun h0 => H.l0 (set_at h0 (by decide))), (fun h0 => H.p0 (set_at h0 (by decide))), (fun h0 => H.r0 (set_at h0 (by decide))), (fun h0 => H.a0 (set_at h0 (by decide))), (fun h0 => ⟨(H.d0 (set_at h0 (by decide))).1.later hb1, (H.d0 (set_at h0 (by decide))).2⟩), (fun h0 => H.u0 (set_at h0 (by decide))), (fun h0 _ b o e hp => by have := (H.d0 (set_at h0 (by decide))).1.lt e hp; omega), (fun h0 => H.l1 (set_at h0 (by decide))), (fun h0 => H.p1 (set_at h0 (by decide))), (fun h0 => H.r1 (set_at h0 (by decide))), (fun h0 => H.a1 (set_at h0 (by decide))), (fun h0 => ⟨(H.d1 (set_at h0 (by decide))).1.later hb1, (H.d1 (set_at h0 (by decide))).2⟩), (fun h0 => H.u1 (set_at h0 (by decide))), (fun h0 _ b o e hp => by have := (H.d1 (set_at h0 (by decide))).1.lt e hp; omega), (fun h0 => H.l2 (set_at h0 (by decide))), (fun h0 => H.p2 (set_at h0 (by decide))), (fun h0 => H.r2 (set_at h0 (by decide))), (fun h0 => H.a2 (set_at h0 (by decide))), (fun h0 => ⟨(H.d2 (set_at h0 (by decide))).1.later hb1, (H.d2 (set_at h0 (by decide))).2⟩), (fun h0 => H.u2 (set_at h0 (by decide))), (fun h0 _ b o e hp => by have := (H.d2 (set_at h0 (by decide))).1.lt e hp; omega), (fun h0 => H.bb (set_at h0 (by decide))), (fun h0 => ⟨up (H.b3 (set_at h0 (by decide))).1, up (H.b3 (set_at h0 (by decide))).2.1, up (H.b3 (set_at h0 (by decide))).2.2⟩), (fun _ => ⟨rfl, H.bl.size, by rw [World.size_alloc]; omega⟩), (fun _ _ => Blk.new w _ _), (fun h0 => absurd (H.x4 (set_at h0 (by decide)) 13 (by decide)) (fun e => by have := not_at h2 e; cases this)), (fun h0 k hk => absurd (H.x4 (set_at h0 (by decide)) 13 (by decide)) (fun e => by have := not_at h2 e; cases this))⟩⟩
    | 14, _ =>
      have D := deps_of (o := _) rfl h3
      have L0 : l.getD 0 false = true := D ⟨0, .phase⟩ (by simp) rfl
      have L1 : l.getD 1 false = true := D ⟨1, .phase⟩ (by simp) rfl
      have L2 : l.getD 2 false = true := D ⟨2, .phase⟩ (by simp) rfl
      have L3 : l.getD 3 false = true := D ⟨3, .phase⟩ (by simp) rfl
      have L4 : l.getD 4 false = true := D ⟨4, .phase⟩ (by simp) rfl
      have L5 : l.getD 5 false = true := D ⟨5, .phase⟩ (by simp) rfl
      have L6 : l.getD 6 false = true := D ⟨6, .phase⟩ (by simp) rfl
      have L7 : l.getD 7 false = true := D ⟨7, .phase⟩ (by simp) rfl
      have L8 : l.getD 8 false = true := D ⟨8, .phase⟩ (by simp) rfl
      have L9 : l.getD 9 false = true := D ⟨9, .phase⟩ (by simp) rfl
      have L10 : l.getD 10 false = true := D ⟨10, .phase⟩ (by simp) rfl
      have L11 : l.getD 11 false = true := D ⟨11, .phase⟩ (by simp) rfl
      have L12 : l.getD 12 false = true := D ⟨12, .phase⟩ (by simp) rfl
      have L13 : l.getD 13 false = true := D ⟨13, .phase⟩ (by simp) rfl
      have up : ∀ {k : Nat}, l.getD k false = true → (l.setIfInBounds 14 true).getD k false = true := fun {k} h => up_at h
      obtain ⟨rfl, hxu, hxl⟩ := H.x3 L13
      obtain rfl := H.bb L12
      have n14 : ¬ l.getD 14 false = true := fun e => by have := not_at h2 e; cases this
      have KZ := H.xz L13 n14
      have z0 : w.cell? ⟨B, 0, none⟩ = some (.slice none 0 0) := KZ.cell 0
      have z1 : w.cell? ⟨B, 1, none⟩ = some (.slice none 0 0) := KZ.cell 1
      have z2 : w.cell? ⟨B, 2, none⟩ = some (.slice none 0 0) := KZ.cell 2
      have z3 : w.cell? ⟨B, 3, none⟩ = some (.slice none 0 0) := KZ.cell 3
      have zf : ∀ j, w.frozen? ⟨B, j, none⟩ = false := fun j => KZ.froz j
      refine wpOp_step (o := _) rfl (fun K hK => ?_)
      go_simp
      have hg9 : ∀ (p q r s : Value), w.grownBy ((((w.setCell ⟨B, 0, none⟩ p).setCell ⟨B, 1, none⟩ q).setCell ⟨B, 2, none⟩ r).setCell ⟨B, 3, none⟩ s) (some B) := fun p q r s => gset (gset (gset (gset (World.grownBy.refl _ _) 0 p) 1 q) 2 r) 3 s
      have hbl : ∀ (p q r s : Value), Below u.heap.size u ((((w.setCell ⟨B, 0, none⟩ p).setCell ⟨B, 1, none⟩ q).setCell ⟨B, 2, none⟩ r).setCell ⟨B, 3, none⟩ s) := fun p q r s => (((H.bl.setCell (p := ⟨B, 0, none⟩) hxu p).setCell (p := ⟨B, 1, none⟩) hxu q).setCell (p := ⟨B, 2, none⟩) hxu r).setCell (p := ⟨B, 3, none⟩) hxu s
      exact hK _ _ ⟨B, g0, g1, g2, c0, c1, c2, b0, b1, b2, _, Y6, Y7, Y8, Y9, Y10, Y11, Y12, Y13, Y14, Y15, Y16, Y17, _, rfl, ⟨hbl _ _ _ _, (fun h0 => H.l0 (set_at h0 (by decide))), (fun h0 => H.p0 (set_at h0 (by decide))), (fun h0 => H.r0 (set_at h0 (by decide))), (fun h0 => H.a0 (set_at h0 (by decide))), (fun h0 => ⟨RdG.moveC (H.d0 (set_at h0 (by decide))).1 (hg9 _ _ _ _) (fun b o e hp q => by injection q with q; exact H.n0 (set_at h0 (by decide)) L13 b o e hp q.symm), (H.d0 (set_at h0 (by decide))).2⟩), (fun h0 => H.u0 (set_at h0 (by decide))), (fun h0 h1 => H.n0 (set_at h0 (by decide)) (set_at h1 (by decide))), (fun h0 => H.l1 (set_at h0 (by decide))), (fun h0 => H.p1 (set_at h0 (by decide))), (fun h0 => H.r1 (set_at h0 (by decide))), (fun h0 => H.a1 (set_at h0 (by decide))), (fun h0 => ⟨RdG.moveC (H.d1 (set_at h0 (by decide))).1 (hg9 _ _ _ _) (fun b o e hp q => by injection q with q; exact H.n1 (set_at h0 (by decide)) L13 b o e hp q.symm), (H.d1 (set_at h0 (by decide))).2⟩), (fun h0 => H.u1 (set_at h0 (by decide))), (fun h0 h1 => H.n1 (set_at h0 (by decide)) (set_at h1 (by decide))), (fun h0 => H.l2 (set_at h0 (by decide))), (fun h0 => H.p2 (set_at h0 (by decide))), (fun h0 => H.r2 (set_at h0 (by decide))), (fun h0 => H.a2 (set_at h0 (by decide))), (fun h0 => ⟨RdG.moveC (H.d2 (set_at h0 (by decide))).1 (hg9 _ _ _ _) (fun b o e hp q => by injection q with q; exact H.n2 (set_at h0 (by decide)) L13 b o e hp q.symm), (H.d2 (set_at h0 (by decide))).2⟩), (fun h0 => H.u2 (set_at h0 (by decide))), (fun h0 h1 => H.n2 (set_at h0 (by decide)) (set_at h1 (by decide))), (fun h0 => H.bb (set_at h0 (by decide))), (fun h0 => ⟨up (H.b3 (set_at h0 (by decide))).1, up (H.b3 (set_at h0 (by decide))).2.1, up (H.b3 (set_at h0 (by decide))).2.2⟩), (fun _ => ⟨rfl, hxu, by simpa using hxl⟩), (fun _ h1 => absurd (here hl (by decide)) h1), (fun _ => Blk.set (Blk.set (Blk.set (Blk.set KZ 0 _) 1 _) 2 _) 3 _), (fun _ k hk => up (by match k, hk with | 0, _ => exact L0 | 1, _ => exact L1 | 2, _ => exact L2 | 3, _ => exact L3 | 4, _ => exact L4 | 5, _ => exact L5 | 6, _ => exact L6 | 7, _ => exact L7 | 8, _ => exact L8 | 9, _ => exact L9 | 10, _ => exact L10 | 11, _ => exact L11 | 12, _ => exact L12 | 13, _ => exact L13))⟩⟩
  · rintro l a w hl ⟨B, g0, g1, g2, c0, c1, c2, b0, b1, b2, Y3, Y6, Y7, Y8, Y9, Y10, Y11, Y12, Y13, Y14, Y15, Y16, Y17, Y18, rfl, H⟩ hn
    have L0 : l.getD 0 false = true := getD_tt (by rw [hl]; decide) (ready_nil hn (o := _) rfl (by intro e he; simp at he))
    have L1 : l.getD 1 false = true := getD_tt (by rw [hl]; decide) (ready_nil hn (o := _) rfl (by intro e he; simp at he))
    have L2 : l.getD 2 false = true := getD_tt (by rw [hl]; decide) (ready_nil hn (o := _) rfl (by intro e he; simp at he; rcases he with rfl <;> assumption))
    have L3 : l.getD 3 false = true := getD_tt (by rw [hl]; decide) (ready_nil hn (o := _) rfl (by intro e he; simp at he; rcases he with rfl | rfl <;> assumption))
    have L4 : l.getD 4 false = true := getD_tt (by rw [hl]; decide) (ready_nil hn (o := _) rfl (by intro e he; simp at he))
    have L5 : l.getD 5 false = true := getD_tt (by rw [hl]; decide) (ready_nil hn (o := _) rfl (by intro e he; simp at he))
    have L6 : l.getD 6 false = true := getD_tt (by rw [hl]; decide) (ready_nil hn (o := _) rfl (by intro e he; simp at he; rcases he with rfl <;> assumption))
    have L7 : l.getD 7 false = true := getD_tt (by rw [hl]; decide) (ready_nil hn (o := _) rfl (by intro e he; simp at he; rcases he with rfl | rfl | rfl <;> assumption))
    have L8 : l.getD 8 false = true := getD_tt (by rw [hl]; decide) (ready_nil hn (o := _) rfl (by intro e he; simp at he))
    have L9 : l.getD 9 false = true := getD_tt (by rw [hl]; decide) (ready_nil hn (o := _) rfl (by intro e he; simp at he))
    have L10 : l.getD 10 false = true := getD_tt (by rw [hl]; decide) (ready_nil hn (o := _) rfl (by intro e he; simp at he; rcases he with rfl <;> assumption))
    have L11 : l.getD 11 false = true := getD_tt (by rw [hl]; decide) (ready_nil hn (o := _) rfl (by intro e he; simp at he; rcases he with rfl | rfl | rfl <;> assumption))
    have L12 : l.getD 12 false = true := getD_tt (by rw [hl]; decide) (ready_nil hn (o := _) rfl (by intro e he; simp at he; rcases he with rfl | rfl | rfl <;> assumption))
    have L13 : l.getD 13 false = true := getD_tt (by rw [hl]; decide) (ready_nil hn (o := _) rfl (by intro e he; simp at he))
    have L14 : l.getD 14 false = true := getD_tt (by rw [hl]; decide) (ready_nil hn (o := _) rfl (by intro e he; simp at he; rcases he with rfl | rfl | rfl | rfl | rfl | rfl | rfl | rfl | rfl | rfl | rfl | rfl | rfl | rfl | rfl | rfl | rfl <;> assumption))
    obtain ⟨x1, x2, x3⟩ := H.x3 L13
    exact hQ B g0 g1 g2 c0 c1 c2 b0 b1 b2 w _ _ _ _ _ _ _ _ _ _ _ _ _ _ x1 x2 (H.xf L14) (H.d0 L3).1 (fun b o e hp => ⟨H.n0 L3 L13 b o e hp, H.u0 L3 b o e hp⟩) (H.d1 L7).1 (fun b o e hp => ⟨H.n1 L7 L13 b o e hp, H.u1 L7 b o e hp⟩) (H.d1 L7).2 (H.d2 L11).1 (fun b o e hp => ⟨H.n2 L11 L13 b o e hp, H.u2 L11 b o e hp⟩) H.bl
  · have no : ∀ {k : Nat}, ¬ (Array.replicate 15 false).getD k false = true := fun {k} h => by
      rw [Array.getD_eq_getD_getElem?, Array.getElem?_replicate] at h
      split at h <;> cases h
    exact ⟨0, 0, 0, 0, 0, 0, 0, none, none, none, Y3, Y6, Y7, Y8, Y9, Y10, Y11, Y12, Y13, Y14, Y15, Y16, Y17, Y18, rfl, ⟨(Below.refl _ _).drew, (fun h => absurd h no), (fun h => absurd h no), (fun h => absurd h no), (fun h => absurd h no), (fun h => absurd h no), (fun h => absurd h no), (fun h  _=> absurd h no), (fun h => absurd h no), (fun h => absurd h no), (fun h => absurd h no), (fun h => absurd h no), (fun h => absurd h no), (fun h => absurd h no), (fun h  _=> absurd h no), (fun h => absurd h no), (fun h => absurd h no), (fun h => absurd h no), (fun h => absurd h no), (fun h => absurd h no), (fun h => absurd h no), (fun h  _=> absurd h no), (fun h => absurd h no), (fun h => absurd h no), (fun h => absurd h no), (fun h  _=> absurd h no), (fun h => absurd h no), (fun h => absurd h no)⟩⟩
end Go.Proofs.Ytgehdgmllilmgaa
