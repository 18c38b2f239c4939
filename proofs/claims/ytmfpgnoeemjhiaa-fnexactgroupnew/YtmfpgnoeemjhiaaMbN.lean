/- Members: MemberNew, the model's and the program's. -/
import Derived.Test.YtmfpgnoeemjhiaaMbM
import Derived.Test.YtmfpgnoeemjhiaaViI
import Derived.Deep.DeepCutAuto
namespace Go.Proofs.Ytmfpgnoeemjhiaa
open Go.RowKit
set_option linter.unusedVariables false

theorem resMb2 {P : Program} {fn : Func} {p u : Tmp} {ty : TypeId} (h : fn.results = #[.cell p ty, .tmp u]) (tmps : Array Value) (w : World) (g : Nat) (t : TypeId) (cs : Array Value) (fr : Nat × Nat) (d : TypeDesc)
    (hp : tmps.getD p undef = .pointer (some ⟨g, 0, none⟩)) (hg : w.heap[g]? = some (.cells cs t fr))
    (hu : P.underlying ty = some d) (hd : (match d with | .struct _ | .array _ _ => true | _ => false) = true) (hi : (P.info? ty).map (·.size) = some cs.size) :
    (results fn tmps).run P w = .ok (.tuple #[.agg cs, tmps.getD u undef]) w := by
  have hp' : tmps[p]?.getD undef = .pointer (some ⟨g, 0, none⟩) := by simpa using hp
  simp [results, h, hp', asAddr, run_loadVar_row w g t ty cs fr d hg hu hd hi]
/-- The first view of right views, and its first member, in memory. -/
theorem first_view {w : World} {a : Option Addr} {L : List Vw} (h : RdVs w a L) (hs : ∀ x ∈ L, x.l.length ≤ 1048576) (ok : okViews (L.map (·.l))) :
    ∃ (x : Vw) (n b o b1 o1 : _), a = some ⟨b, o, none⟩ ∧ x.a = some ⟨b1, o1, none⟩ ∧ w.cell? ⟨b, o, none⟩ = some (.slice x.a x.l.length x.c) ∧ w.cell? ⟨b1, o1, none⟩ = some (.int .i64 n) ∧ b < w.heap.size ∧ b1 < w.heap.size ∧ 0 < L.length ∧ 0 < x.l.length ∧ x.l.length ≤ 1048576 ∧ RdZ w x.a x.l ∧ vwA (L.map (·.l)) 1 = x.l ∧ x.l.headD 0 = n := by
  cases L with
  | nil => have := ok.2.1; simp at this
  | cons x L' =>
    have hm : x ∈ x :: L' := by simp
    have hv : okView x.l := ok.1 x.l (by simp)
    obtain ⟨b, o, ha, hb, hc⟩ := h.r 0 (by simp)
    have hd := hc 0 (by omega)
    cases h0 : x.l with
    | nil => have := hv.1.1; rw [h0] at this; simp at this
    | cons n l' =>
      obtain ⟨b1, o1, ha1, hb1, hc1⟩ := h.v x hm 0 (by rw [h0]; simp)
      refine ⟨x, n, b, o, b1, o1, ha, ha1, ?_, ?_, hb, hb1, by simp, by rw [h0]; simp, hs x hm, h.v x hm, rfl, by rw [h0]; rfl⟩
      · simpa [vwC, h0] using hd
      · have e : x.l[0]'(by rw [h0]; simp) = n := by simp only [h0, List.getElem_cons_zero]
        rw [e] at hc1
        simpa using hc1
set_option maxRecDepth 100000 in
set_option maxHeartbeats 4000000 in
theorem specMemberNew_no1 (id : Int) (a : Option Addr) (L : List Vw) (ca : Nat) (w : World) (hl : L.length ≤ 1048576) (hs : ∀ x ∈ L, x.l.length ≤ 1048576) (hA : RdVs w a L) (c0 : ¬ okViews (L.map (·.l))) :
    Calls Try.prog 24 #[.int .i64 id, .slice a L.length ca] w fun e w' => e = .returned (.tuple #[mbV (newMb id (L.map (·.l))).1 noMA, .bool (newMb id (L.map (·.l))).2]) ∧ Below w.heap.size w w' := by
  have F := hide1 (And.intro (Blk.new w 54 #[.int .i64 0, .int .i64 0, .bool false, .bool false, .bool false, .bool false, .slice none 0 0, .slice none 0 0, .int .i64 0, .int .i64 0, .int .i64 0, .int .i64 0, .string ⟨#[]⟩, .string ⟨#[]⟩, .int .i64 0, .slice none 0 0]) ((Below.refl w.heap.size w).alloc (Nat.le_refl _) (.cells #[.int .i64 0, .int .i64 0, .bool false, .bool false, .bool false, .bool false, .slice none 0 0, .slice none 0 0, .int .i64 0, .int .i64 0, .int .i64 0, .int .i64 0, .string ⟨#[]⟩, .string ⟨#[]⟩, .int .i64 0, .slice none 0 0] 54)))
  have CV := hide1 (fun w' (hb : Below w.heap.size w w') => specViews_any a L ca w' hl hs (hA.later hb))
  have CN := hide1 (fun w' => in_anyR id 1 6 w')
  have FV := hide1 (fun ok => first_view hA hs ok)
  clear hA hs
  go_enter Try.func24, Try.ntmps24
  go_upto_region 1 with fail
  generalize (w.alloc (.cells #[.int .i64 0, .int .i64 0, .bool false, .bool false, .bool false, .bool false, .slice none 0 0, .slice none 0 0, .int .i64 0, .int .i64 0, .int .i64 0, .int .i64 0, .string ⟨#[]⟩, .string ⟨#[]⟩, .int .i64 0, .slice none 0 0] 54)) = u at F ⊢
  obtain ⟨G, hG⟩ : ∃ G, G = w.heap.size := ⟨_, rfl⟩
  have KG := hide1 F.out.1
  rw [← hG] at KG ⊢
  have E0 := hide1 F.out.2
  have hGw : w.heap.size ≤ G := by omega
  clear F hG
  rw [decide_eq_false c0] at CV
  have HN := hide1 (show newMb id (L.map (·.l)) = (zeroMb, false) by unfold newMb; rw [if_neg (fun h => c0 h.1)])
  clear c0
  go_wp2_with (first | (go_at_call 22; refine (CV.out _ E0.out).mono ?_; rintro r w1 ⟨rfl, hb⟩; have KG := hide1 (KG.out.below hb KG.out.lt); have E0 := hide1 (E0.out.trans (hb.mono E0.out.size)); clear hb; have g0 : w1.cell? ⟨G, 0, none⟩ = some (.int .i64 0) := KG.out.cell 0; have g1 : w1.cell? ⟨G, 1, none⟩ = some (.int .i64 0) := KG.out.cell 1; have g2 : w1.cell? ⟨G, 2, none⟩ = some (.bool false) := KG.out.cell 2; have g3 : w1.cell? ⟨G, 3, none⟩ = some (.bool false) := KG.out.cell 3; have g4 : w1.cell? ⟨G, 4, none⟩ = some (.bool false) := KG.out.cell 4; have g5 : w1.cell? ⟨G, 5, none⟩ = some (.bool false) := KG.out.cell 5; have g6 : w1.cell? ⟨G, 6, none⟩ = some (.slice none 0 0) := KG.out.cell 6; have g7 : w1.cell? ⟨G, 7, none⟩ = some (.slice none 0 0) := KG.out.cell 7; have g8 : w1.cell? ⟨G, 8, none⟩ = some (.int .i64 0) := KG.out.cell 8; have g9 : w1.cell? ⟨G, 9, none⟩ = some (.int .i64 0) := KG.out.cell 9; have g10 : w1.cell? ⟨G, 10, none⟩ = some (.int .i64 0) := KG.out.cell 10; have g11 : w1.cell? ⟨G, 11, none⟩ = some (.int .i64 0) := KG.out.cell 11; have g12 : w1.cell? ⟨G, 12, none⟩ = some (.string ⟨#[]⟩) := KG.out.cell 12; have g13 : w1.cell? ⟨G, 13, none⟩ = some (.string ⟨#[]⟩) := KG.out.cell 13; have g14 : w1.cell? ⟨G, 14, none⟩ = some (.int .i64 0) := KG.out.cell 14; have g15 : w1.cell? ⟨G, 15, none⟩ = some (.slice none 0 0) := KG.out.cell 15; have gf : ∀ j, w1.frozen? ⟨G, j, none⟩ = false := fun j => KG.out.froz j; have HH := hide1 (Blk.set (Blk.set (Blk.set (Blk.set (Blk.set (Blk.set (Blk.set (Blk.set (Blk.set (Blk.set (Blk.set (Blk.set (Blk.set (Blk.set (Blk.set (Blk.set KG.out 0 (.int .i64 0)) 1 (.int .i64 0)) 2 (.bool false)) 3 (.bool false)) 4 (.bool false)) 5 (.bool false)) 6 (.slice none 0 0)) 7 (.slice none 0 0)) 8 (.int .i64 0)) 9 (.int .i64 0)) 10 (.int .i64 0)) 11 (.int .i64 0)) 12 (.string ⟨#[]⟩)) 13 (.string ⟨#[]⟩)) 14 (.int .i64 0)) 15 (.slice none 0 0)); dsimp only [List.set_cons_zero, List.set_cons_succ] at HH; have HB := hide1 ((((((((((((((((E0.out.setCell (p := ⟨G, 0, none⟩) (by dsimp only; omega) (.int .i64 0)).setCell (p := ⟨G, 1, none⟩) (by dsimp only; omega) (.int .i64 0)).setCell (p := ⟨G, 2, none⟩) (by dsimp only; omega) (.bool false)).setCell (p := ⟨G, 3, none⟩) (by dsimp only; omega) (.bool false)).setCell (p := ⟨G, 4, none⟩) (by dsimp only; omega) (.bool false)).setCell (p := ⟨G, 5, none⟩) (by dsimp only; omega) (.bool false)).setCell (p := ⟨G, 6, none⟩) (by dsimp only; omega) (.slice none 0 0)).setCell (p := ⟨G, 7, none⟩) (by dsimp only; omega) (.slice none 0 0)).setCell (p := ⟨G, 8, none⟩) (by dsimp only; omega) (.int .i64 0)).setCell (p := ⟨G, 9, none⟩) (by dsimp only; omega) (.int .i64 0)).setCell (p := ⟨G, 10, none⟩) (by dsimp only; omega) (.int .i64 0)).setCell (p := ⟨G, 11, none⟩) (by dsimp only; omega) (.int .i64 0)).setCell (p := ⟨G, 12, none⟩) (by dsimp only; omega) (.string ⟨#[]⟩)).setCell (p := ⟨G, 13, none⟩) (by dsimp only; omega) (.string ⟨#[]⟩)).setCell (p := ⟨G, 14, none⟩) (by dsimp only; omega) (.int .i64 0)).setCell (p := ⟨G, 15, none⟩) (by dsimp only; omega) (.slice none 0 0))) | (go_at_call 18; refine (CN.out _).mono ?_; rintro r wx ⟨rfl, rfl⟩))
  refine bodyPost_ret (resMb2 Try.results24 _ _ G 54 #[.int .i64 0, .int .i64 0, .bool false, .bool false, .bool false, .bool false, .slice none 0 0, .slice none 0 0, .int .i64 0, .int .i64 0, .int .i64 0, .int .i64 0, .string ⟨#[]⟩, .string ⟨#[]⟩, .int .i64 0, .slice none 0 0] (0, 0) _ rfl HH.out Try.underlying54 rfl (by kernel_rfl)) rfl ?_
  exact ⟨by rw [HN.out]; rfl, HB.out⟩
set_option maxRecDepth 100000 in
set_option maxHeartbeats 4000000 in
theorem specMemberNew_no2 (id : Int) (a : Option Addr) (L : List Vw) (ca : Nat) (w : World) (hl : L.length ≤ 1048576) (hs : ∀ x ∈ L, x.l.length ≤ 1048576) (hA : RdVs w a L) (c0 : okViews (L.map (·.l))) (c1 : ¬ (1 ≤ id ∧ id ≤ 6)) :
    Calls Try.prog 24 #[.int .i64 id, .slice a L.length ca] w fun e w' => e = .returned (.tuple #[mbV (newMb id (L.map (·.l))).1 noMA, .bool (newMb id (L.map (·.l))).2]) ∧ Below w.heap.size w w' := by
  have F := hide1 (And.intro (Blk.new w 54 #[.int .i64 0, .int .i64 0, .bool false, .bool false, .bool false, .bool false, .slice none 0 0, .slice none 0 0, .int .i64 0, .int .i64 0, .int .i64 0, .int .i64 0, .string ⟨#[]⟩, .string ⟨#[]⟩, .int .i64 0, .slice none 0 0]) ((Below.refl w.heap.size w).alloc (Nat.le_refl _) (.cells #[.int .i64 0, .int .i64 0, .bool false, .bool false, .bool false, .bool false, .slice none 0 0, .slice none 0 0, .int .i64 0, .int .i64 0, .int .i64 0, .int .i64 0, .string ⟨#[]⟩, .string ⟨#[]⟩, .int .i64 0, .slice none 0 0] 54)))
  have CV := hide1 (fun w' (hb : Below w.heap.size w w') => specViews_any a L ca w' hl hs (hA.later hb))
  have CN := hide1 (fun w' => in_anyR id 1 6 w')
  have FV := hide1 (fun ok => first_view hA hs ok)
  clear hA hs
  go_enter Try.func24, Try.ntmps24
  go_upto_region 1 with fail
  generalize (w.alloc (.cells #[.int .i64 0, .int .i64 0, .bool false, .bool false, .bool false, .bool false, .slice none 0 0, .slice none 0 0, .int .i64 0, .int .i64 0, .int .i64 0, .int .i64 0, .string ⟨#[]⟩, .string ⟨#[]⟩, .int .i64 0, .slice none 0 0] 54)) = u at F ⊢
  obtain ⟨G, hG⟩ : ∃ G, G = w.heap.size := ⟨_, rfl⟩
  have KG := hide1 F.out.1
  rw [← hG] at KG ⊢
  have E0 := hide1 F.out.2
  have hGw : w.heap.size ≤ G := by omega
  clear F hG
  rw [decide_eq_true c0] at CV
  rw [in_noI c1] at CN
  have HN := hide1 (show newMb id (L.map (·.l)) = (zeroMb, false) by unfold newMb; rw [if_neg (fun h => c1 h.2)])
  clear c0 c1
  go_wp2_with (first | (go_at_call 22; refine (CV.out _ E0.out).mono ?_; rintro r w1 ⟨rfl, hb⟩; have KG := hide1 (KG.out.below hb KG.out.lt); have E0 := hide1 (E0.out.trans (hb.mono E0.out.size)); clear hb; have g0 : w1.cell? ⟨G, 0, none⟩ = some (.int .i64 0) := KG.out.cell 0; have g1 : w1.cell? ⟨G, 1, none⟩ = some (.int .i64 0) := KG.out.cell 1; have g2 : w1.cell? ⟨G, 2, none⟩ = some (.bool false) := KG.out.cell 2; have g3 : w1.cell? ⟨G, 3, none⟩ = some (.bool false) := KG.out.cell 3; have g4 : w1.cell? ⟨G, 4, none⟩ = some (.bool false) := KG.out.cell 4; have g5 : w1.cell? ⟨G, 5, none⟩ = some (.bool false) := KG.out.cell 5; have g6 : w1.cell? ⟨G, 6, none⟩ = some (.slice none 0 0) := KG.out.cell 6; have g7 : w1.cell? ⟨G, 7, none⟩ = some (.slice none 0 0) := KG.out.cell 7; have g8 : w1.cell? ⟨G, 8, none⟩ = some (.int .i64 0) := KG.out.cell 8; have g9 : w1.cell? ⟨G, 9, none⟩ = some (.int .i64 0) := KG.out.cell 9; have g10 : w1.cell? ⟨G, 10, none⟩ = some (.int .i64 0) := KG.out.cell 10; have g11 : w1.cell? ⟨G, 11, none⟩ = some (.int .i64 0) := KG.out.cell 11; have g12 : w1.cell? ⟨G, 12, none⟩ = some (.string ⟨#[]⟩) := KG.out.cell 12; have g13 : w1.cell? ⟨G, 13, none⟩ = some (.string ⟨#[]⟩) := KG.out.cell 13; have g14 : w1.cell? ⟨G, 14, none⟩ = some (.int .i64 0) := KG.out.cell 14; have g15 : w1.cell? ⟨G, 15, none⟩ = some (.slice none 0 0) := KG.out.cell 15; have gf : ∀ j, w1.frozen? ⟨G, j, none⟩ = false := fun j => KG.out.froz j; have HH := hide1 (Blk.set (Blk.set (Blk.set (Blk.set (Blk.set (Blk.set (Blk.set (Blk.set (Blk.set (Blk.set (Blk.set (Blk.set (Blk.set (Blk.set (Blk.set (Blk.set KG.out 0 (.int .i64 0)) 1 (.int .i64 0)) 2 (.bool false)) 3 (.bool false)) 4 (.bool false)) 5 (.bool false)) 6 (.slice none 0 0)) 7 (.slice none 0 0)) 8 (.int .i64 0)) 9 (.int .i64 0)) 10 (.int .i64 0)) 11 (.int .i64 0)) 12 (.string ⟨#[]⟩)) 13 (.string ⟨#[]⟩)) 14 (.int .i64 0)) 15 (.slice none 0 0)); dsimp only [List.set_cons_zero, List.set_cons_succ] at HH; have HB := hide1 ((((((((((((((((E0.out.setCell (p := ⟨G, 0, none⟩) (by dsimp only; omega) (.int .i64 0)).setCell (p := ⟨G, 1, none⟩) (by dsimp only; omega) (.int .i64 0)).setCell (p := ⟨G, 2, none⟩) (by dsimp only; omega) (.bool false)).setCell (p := ⟨G, 3, none⟩) (by dsimp only; omega) (.bool false)).setCell (p := ⟨G, 4, none⟩) (by dsimp only; omega) (.bool false)).setCell (p := ⟨G, 5, none⟩) (by dsimp only; omega) (.bool false)).setCell (p := ⟨G, 6, none⟩) (by dsimp only; omega) (.slice none 0 0)).setCell (p := ⟨G, 7, none⟩) (by dsimp only; omega) (.slice none 0 0)).setCell (p := ⟨G, 8, none⟩) (by dsimp only; omega) (.int .i64 0)).setCell (p := ⟨G, 9, none⟩) (by dsimp only; omega) (.int .i64 0)).setCell (p := ⟨G, 10, none⟩) (by dsimp only; omega) (.int .i64 0)).setCell (p := ⟨G, 11, none⟩) (by dsimp only; omega) (.int .i64 0)).setCell (p := ⟨G, 12, none⟩) (by dsimp only; omega) (.string ⟨#[]⟩)).setCell (p := ⟨G, 13, none⟩) (by dsimp only; omega) (.string ⟨#[]⟩)).setCell (p := ⟨G, 14, none⟩) (by dsimp only; omega) (.int .i64 0)).setCell (p := ⟨G, 15, none⟩) (by dsimp only; omega) (.slice none 0 0))) | (go_at_call 18; refine (CN.out _).mono ?_; rintro r wx ⟨rfl, rfl⟩))
  refine bodyPost_ret (resMb2 Try.results24 _ _ G 54 #[.int .i64 0, .int .i64 0, .bool false, .bool false, .bool false, .bool false, .slice none 0 0, .slice none 0 0, .int .i64 0, .int .i64 0, .int .i64 0, .int .i64 0, .string ⟨#[]⟩, .string ⟨#[]⟩, .int .i64 0, .slice none 0 0] (0, 0) _ rfl HH.out Try.underlying54 rfl (by kernel_rfl)) rfl ?_
  exact ⟨by rw [HN.out]; rfl, HB.out⟩
set_option maxRecDepth 100000 in
set_option maxHeartbeats 4000000 in
theorem specMemberNew_true (id : Int) (a : Option Addr) (L : List Vw) (ca : Nat) (w : World) (hl : L.length ≤ 1048576) (hs : ∀ x ∈ L, x.l.length ≤ 1048576) (hA : RdVs w a L) (c0 : okViews (L.map (·.l))) (c1 : 1 ≤ id ∧ id ≤ 6) (cq : (vwA (L.map (·.l)) 1).headD 0 = id) :
    Calls Try.prog 24 #[.int .i64 id, .slice a L.length ca] w fun e w' => e = .returned (.tuple #[mbV (newMb id (L.map (·.l))).1 noMA, .bool (newMb id (L.map (·.l))).2]) ∧ Below w.heap.size w w' := by
  have F := hide1 (And.intro (Blk.new w 54 #[.int .i64 0, .int .i64 0, .bool false, .bool false, .bool false, .bool false, .slice none 0 0, .slice none 0 0, .int .i64 0, .int .i64 0, .int .i64 0, .int .i64 0, .string ⟨#[]⟩, .string ⟨#[]⟩, .int .i64 0, .slice none 0 0]) ((Below.refl w.heap.size w).alloc (Nat.le_refl _) (.cells #[.int .i64 0, .int .i64 0, .bool false, .bool false, .bool false, .bool false, .slice none 0 0, .slice none 0 0, .int .i64 0, .int .i64 0, .int .i64 0, .int .i64 0, .string ⟨#[]⟩, .string ⟨#[]⟩, .int .i64 0, .slice none 0 0] 54)))
  have CV := hide1 (fun w' (hb : Below w.heap.size w w') => specViews_any a L ca w' hl hs (hA.later hb))
  have CN := hide1 (fun w' => in_anyR id 1 6 w')
  have FV := hide1 (fun ok => first_view hA hs ok)
  clear hA hs
  go_enter Try.func24, Try.ntmps24
  go_upto_region 1 with fail
  generalize (w.alloc (.cells #[.int .i64 0, .int .i64 0, .bool false, .bool false, .bool false, .bool false, .slice none 0 0, .slice none 0 0, .int .i64 0, .int .i64 0, .int .i64 0, .int .i64 0, .string ⟨#[]⟩, .string ⟨#[]⟩, .int .i64 0, .slice none 0 0] 54)) = u at F ⊢
  obtain ⟨G, hG⟩ : ∃ G, G = w.heap.size := ⟨_, rfl⟩
  have KG := hide1 F.out.1
  rw [← hG] at KG ⊢
  have E0 := hide1 F.out.2
  have hGw : w.heap.size ≤ G := by omega
  clear F hG
  rw [decide_eq_true c0] at CV
  rw [in_yesI c1] at CN
  obtain ⟨x, n, b, o, b1, o1, rfl, hxa, v0, v1, hb0, hb1, hx0, hx1, hx2, hrz, hvw, hhd⟩ := FV.out c0
  have CI := hide1 (fun w' (hb : Below w.heap.size w w') => specIn_any x.a x.l x.c id w' hx2 (hrz.later hb))
  have HN := hide1 (show newMb id (L.map (·.l)) = (⟨id, 1, false, decide (id ∈ x.l), decide (n = id), decide (n = id), [], [], 0, zeroTk⟩, true) by unfold newMb; rw [if_pos ⟨c0, c1⟩, hvw, hhd])
  have V0 := hide1 (And.intro v0 (And.intro v1 (And.intro hb0 hb1)))
  have k0 : (0 : Int) < (L.length : Int) := by omega
  have k1 : (0 : Int) < (x.l.length : Int) := by omega
  rw [hvw, hhd] at cq
  have qq : (n == id) = true := by simp [cq]
  rw [decide_eq_true cq] at HN
  generalize decide (id ∈ x.l) = mem at *
  clear c0 c1 hvw hhd hrz v0 v1 hb0 hb1 FV cq
  rw [hxa] at V0 CI
  clear hxa
  go_upto_region 3 with (first | (go_at_call 22; refine (CV.out _ E0.out).mono ?_; rintro r w1 ⟨rfl, hb⟩; have KG := hide1 (KG.out.below hb KG.out.lt); have E0 := hide1 (E0.out.trans (hb.mono E0.out.size)); clear hb; have p0 : w1.cell? ⟨b, o, none⟩ = some (.slice (some ⟨b1, o1, none⟩) x.l.length x.c) := (E0.out.cell (p := ⟨b, o, none⟩) V0.out.2.2.1).trans V0.out.1; have p1 : w1.cell? ⟨b1, o1, none⟩ = some (.int .i64 n) := (E0.out.cell (p := ⟨b1, o1, none⟩) V0.out.2.2.2).trans V0.out.2.1) | (go_at_call 18; refine (CN.out _).mono ?_; rintro r wx ⟨rfl, rfl⟩))
  have CIw := hide1 (CI.out wx E0.out)
  go_wp2_with fail
  refine CIw.out.mono ?_
  rintro r w2 ⟨rfl, rfl⟩
  have FB := hide1 (And.intro (Blk.new wx 54 #[.int .i64 id, .int .i64 1, .bool false, .bool mem, .bool false, .bool false, .slice none 0 0, .slice none 0 0, .int .i64 0, .int .i64 0, .int .i64 0, .int .i64 0, .string ⟨#[]⟩, .string ⟨#[]⟩, .int .i64 0, .slice none 0 0]) ((Below.refl wx.heap.size wx).alloc (Nat.le_refl _) (.cells #[.int .i64 id, .int .i64 1, .bool false, .bool mem, .bool false, .bool false, .slice none 0 0, .slice none 0 0, .int .i64 0, .int .i64 0, .int .i64 0, .int .i64 0, .string ⟨#[]⟩, .string ⟨#[]⟩, .int .i64 0, .slice none 0 0] 54)))
  go_upto_region 4 with fail
  generalize (wx.alloc (.cells #[.int .i64 id, .int .i64 1, .bool false, .bool mem, .bool false, .bool false, .slice none 0 0, .slice none 0 0, .int .i64 0, .int .i64 0, .int .i64 0, .int .i64 0, .string ⟨#[]⟩, .string ⟨#[]⟩, .int .i64 0, .slice none 0 0] 54)) = v at FB ⊢
  obtain ⟨X, hX⟩ : ∃ G, G = wx.heap.size := ⟨_, rfl⟩
  have KX := hide1 FB.out.1
  rw [← hX] at KX ⊢
  have hne : G ≠ X := by have := KG.out.lt; omega
  have hXw : w.heap.size ≤ X := by have := E0.out.size; omega
  have KV := hide1 (KG.out.below FB.out.2 KG.out.lt)
  have EV := hide1 (E0.out.trans (FB.out.2.mono E0.out.size))
  clear hX FB KG
  have p0 : v.cell? ⟨b, o, none⟩ = some (.slice (some ⟨b1, o1, none⟩) x.l.length x.c) := (EV.out.cell (p := ⟨b, o, none⟩) V0.out.2.2.1).trans V0.out.1
  have p1 : v.cell? ⟨b1, o1, none⟩ = some (.int .i64 n) := (EV.out.cell (p := ⟨b1, o1, none⟩) V0.out.2.2.2).trans V0.out.2.1
  have c4 : v.cell? ⟨X, 4, none⟩ = some (.bool false) := KX.out.cell 4
  have c5 : v.cell? ⟨X, 5, none⟩ = some (.bool false) := KX.out.cell 5
  have cf : ∀ j, v.frozen? ⟨X, j, none⟩ = false := fun j => KX.out.froz j
  have KX2 := hide1 (Blk.set (Blk.set KX.out 4 (.bool true)) 5 (.bool true))
  dsimp only [List.set_cons_zero, List.set_cons_succ] at KX2
  have KV2 := hide1 ((KV.out.far ⟨X, 4, none⟩ (.bool true) (by dsimp only; omega)).far ⟨X, 5, none⟩ (.bool true) (by dsimp only; omega))
  have EV2 := hide1 ((EV.out.setCell (p := ⟨X, 4, none⟩) hXw (.bool true)).setCell (p := ⟨X, 5, none⟩) hXw (.bool true))
  go_upto_region 6 with fail
  generalize ((v.setCell ⟨X, 4, none⟩ (.bool true)).setCell ⟨X, 5, none⟩ (.bool true)) = v2 at KX2 KV2 EV2 ⊢
  clear KX KV EV E0 p0 p1 c4 c5 cf
  have c0 : v2.cell? ⟨X, 0, none⟩ = some (.int .i64 id) := KX2.out.cell 0
  have c1 : v2.cell? ⟨X, 1, none⟩ = some (.int .i64 1) := KX2.out.cell 1
  have c2 : v2.cell? ⟨X, 2, none⟩ = some (.bool false) := KX2.out.cell 2
  have c3 : v2.cell? ⟨X, 3, none⟩ = some (.bool mem) := KX2.out.cell 3
  have c4 : v2.cell? ⟨X, 4, none⟩ = some (.bool true) := KX2.out.cell 4
  have c5 : v2.cell? ⟨X, 5, none⟩ = some (.bool true) := KX2.out.cell 5
  have c6 : v2.cell? ⟨X, 6, none⟩ = some (.slice none 0 0) := KX2.out.cell 6
  have c7 : v2.cell? ⟨X, 7, none⟩ = some (.slice none 0 0) := KX2.out.cell 7
  have c8 : v2.cell? ⟨X, 8, none⟩ = some (.int .i64 0) := KX2.out.cell 8
  have c9 : v2.cell? ⟨X, 9, none⟩ = some (.int .i64 0) := KX2.out.cell 9
  have c10 : v2.cell? ⟨X, 10, none⟩ = some (.int .i64 0) := KX2.out.cell 10
  have c11 : v2.cell? ⟨X, 11, none⟩ = some (.int .i64 0) := KX2.out.cell 11
  have c12 : v2.cell? ⟨X, 12, none⟩ = some (.string ⟨#[]⟩) := KX2.out.cell 12
  have c13 : v2.cell? ⟨X, 13, none⟩ = some (.string ⟨#[]⟩) := KX2.out.cell 13
  have c14 : v2.cell? ⟨X, 14, none⟩ = some (.int .i64 0) := KX2.out.cell 14
  have c15 : v2.cell? ⟨X, 15, none⟩ = some (.slice none 0 0) := KX2.out.cell 15
  have g0 : v2.cell? ⟨G, 0, none⟩ = some (.int .i64 0) := KV2.out.cell 0
  have g1 : v2.cell? ⟨G, 1, none⟩ = some (.int .i64 0) := KV2.out.cell 1
  have g2 : v2.cell? ⟨G, 2, none⟩ = some (.bool false) := KV2.out.cell 2
  have g3 : v2.cell? ⟨G, 3, none⟩ = some (.bool false) := KV2.out.cell 3
  have g4 : v2.cell? ⟨G, 4, none⟩ = some (.bool false) := KV2.out.cell 4
  have g5 : v2.cell? ⟨G, 5, none⟩ = some (.bool false) := KV2.out.cell 5
  have g6 : v2.cell? ⟨G, 6, none⟩ = some (.slice none 0 0) := KV2.out.cell 6
  have g7 : v2.cell? ⟨G, 7, none⟩ = some (.slice none 0 0) := KV2.out.cell 7
  have g8 : v2.cell? ⟨G, 8, none⟩ = some (.int .i64 0) := KV2.out.cell 8
  have g9 : v2.cell? ⟨G, 9, none⟩ = some (.int .i64 0) := KV2.out.cell 9
  have g10 : v2.cell? ⟨G, 10, none⟩ = some (.int .i64 0) := KV2.out.cell 10
  have g11 : v2.cell? ⟨G, 11, none⟩ = some (.int .i64 0) := KV2.out.cell 11
  have g12 : v2.cell? ⟨G, 12, none⟩ = some (.string ⟨#[]⟩) := KV2.out.cell 12
  have g13 : v2.cell? ⟨G, 13, none⟩ = some (.string ⟨#[]⟩) := KV2.out.cell 13
  have g14 : v2.cell? ⟨G, 14, none⟩ = some (.int .i64 0) := KV2.out.cell 14
  have g15 : v2.cell? ⟨G, 15, none⟩ = some (.slice none 0 0) := KV2.out.cell 15
  have gf : ∀ j, v2.frozen? ⟨G, j, none⟩ = false := fun j => KV2.out.froz j
  have HH := hide1 (Blk.set (Blk.set (Blk.set (Blk.set (Blk.set (Blk.set (Blk.set (Blk.set (Blk.set (Blk.set (Blk.set (Blk.set (Blk.set (Blk.set (Blk.set (Blk.set KV2.out 0 (.int .i64 id)) 1 (.int .i64 1)) 2 (.bool false)) 3 (.bool mem)) 4 (.bool true)) 5 (.bool true)) 6 (.slice none 0 0)) 7 (.slice none 0 0)) 8 (.int .i64 0)) 9 (.int .i64 0)) 10 (.int .i64 0)) 11 (.int .i64 0)) 12 (.string ⟨#[]⟩)) 13 (.string ⟨#[]⟩)) 14 (.int .i64 0)) 15 (.slice none 0 0))
  dsimp only [List.set_cons_zero, List.set_cons_succ] at HH
  have HB := hide1 ((((((((((((((((EV2.out.setCell (p := ⟨G, 0, none⟩) (by dsimp only; omega) (.int .i64 id)).setCell (p := ⟨G, 1, none⟩) (by dsimp only; omega) (.int .i64 1)).setCell (p := ⟨G, 2, none⟩) (by dsimp only; omega) (.bool false)).setCell (p := ⟨G, 3, none⟩) (by dsimp only; omega) (.bool mem)).setCell (p := ⟨G, 4, none⟩) (by dsimp only; omega) (.bool true)).setCell (p := ⟨G, 5, none⟩) (by dsimp only; omega) (.bool true)).setCell (p := ⟨G, 6, none⟩) (by dsimp only; omega) (.slice none 0 0)).setCell (p := ⟨G, 7, none⟩) (by dsimp only; omega) (.slice none 0 0)).setCell (p := ⟨G, 8, none⟩) (by dsimp only; omega) (.int .i64 0)).setCell (p := ⟨G, 9, none⟩) (by dsimp only; omega) (.int .i64 0)).setCell (p := ⟨G, 10, none⟩) (by dsimp only; omega) (.int .i64 0)).setCell (p := ⟨G, 11, none⟩) (by dsimp only; omega) (.int .i64 0)).setCell (p := ⟨G, 12, none⟩) (by dsimp only; omega) (.string ⟨#[]⟩)).setCell (p := ⟨G, 13, none⟩) (by dsimp only; omega) (.string ⟨#[]⟩)).setCell (p := ⟨G, 14, none⟩) (by dsimp only; omega) (.int .i64 0)).setCell (p := ⟨G, 15, none⟩) (by dsimp only; omega) (.slice none 0 0))
  clear KX2 KV2 EV2
  go_wp2
  refine bodyPost_ret (resMb2 Try.results24 _ _ G 54 #[.int .i64 id, .int .i64 1, .bool false, .bool mem, .bool true, .bool true, .slice none 0 0, .slice none 0 0, .int .i64 0, .int .i64 0, .int .i64 0, .int .i64 0, .string ⟨#[]⟩, .string ⟨#[]⟩, .int .i64 0, .slice none 0 0] (0, 0) _ rfl HH.out Try.underlying54 rfl (by kernel_rfl)) rfl ?_
  exact ⟨by rw [HN.out]; rfl, HB.out⟩
set_option maxRecDepth 100000 in
set_option maxHeartbeats 4000000 in
theorem specMemberNew_false (id : Int) (a : Option Addr) (L : List Vw) (ca : Nat) (w : World) (hl : L.length ≤ 1048576) (hs : ∀ x ∈ L, x.l.length ≤ 1048576) (hA : RdVs w a L) (c0 : okViews (L.map (·.l))) (c1 : 1 ≤ id ∧ id ≤ 6) (cq : ¬ (vwA (L.map (·.l)) 1).headD 0 = id) :
    Calls Try.prog 24 #[.int .i64 id, .slice a L.length ca] w fun e w' => e = .returned (.tuple #[mbV (newMb id (L.map (·.l))).1 noMA, .bool (newMb id (L.map (·.l))).2]) ∧ Below w.heap.size w w' := by
  have F := hide1 (And.intro (Blk.new w 54 #[.int .i64 0, .int .i64 0, .bool false, .bool false, .bool false, .bool false, .slice none 0 0, .slice none 0 0, .int .i64 0, .int .i64 0, .int .i64 0, .int .i64 0, .string ⟨#[]⟩, .string ⟨#[]⟩, .int .i64 0, .slice none 0 0]) ((Below.refl w.heap.size w).alloc (Nat.le_refl _) (.cells #[.int .i64 0, .int .i64 0, .bool false, .bool false, .bool false, .bool false, .slice none 0 0, .slice none 0 0, .int .i64 0, .int .i64 0, .int .i64 0, .int .i64 0, .string ⟨#[]⟩, .string ⟨#[]⟩, .int .i64 0, .slice none 0 0] 54)))
  have CV := hide1 (fun w' (hb : Below w.heap.size w w') => specViews_any a L ca w' hl hs (hA.later hb))
  have CN := hide1 (fun w' => in_anyR id 1 6 w')
  have FV := hide1 (fun ok => first_view hA hs ok)
  clear hA hs
  go_enter Try.func24, Try.ntmps24
  go_upto_region 1 with fail
  generalize (w.alloc (.cells #[.int .i64 0, .int .i64 0, .bool false, .bool false, .bool false, .bool false, .slice none 0 0, .slice none 0 0, .int .i64 0, .int .i64 0, .int .i64 0, .int .i64 0, .string ⟨#[]⟩, .string ⟨#[]⟩, .int .i64 0, .slice none 0 0] 54)) = u at F ⊢
  obtain ⟨G, hG⟩ : ∃ G, G = w.heap.size := ⟨_, rfl⟩
  have KG := hide1 F.out.1
  rw [← hG] at KG ⊢
  have E0 := hide1 F.out.2
  have hGw : w.heap.size ≤ G := by omega
  clear F hG
  rw [decide_eq_true c0] at CV
  rw [in_yesI c1] at CN
  obtain ⟨x, n, b, o, b1, o1, rfl, hxa, v0, v1, hb0, hb1, hx0, hx1, hx2, hrz, hvw, hhd⟩ := FV.out c0
  have CI := hide1 (fun w' (hb : Below w.heap.size w w') => specIn_any x.a x.l x.c id w' hx2 (hrz.later hb))
  have HN := hide1 (show newMb id (L.map (·.l)) = (⟨id, 1, false, decide (id ∈ x.l), decide (n = id), decide (n = id), [], [], 0, zeroTk⟩, true) by unfold newMb; rw [if_pos ⟨c0, c1⟩, hvw, hhd])
  have V0 := hide1 (And.intro v0 (And.intro v1 (And.intro hb0 hb1)))
  have k0 : (0 : Int) < (L.length : Int) := by omega
  have k1 : (0 : Int) < (x.l.length : Int) := by omega
  rw [hvw, hhd] at cq
  have qq : (n == id) = false := by simp [cq]
  rw [decide_eq_false cq] at HN
  generalize decide (id ∈ x.l) = mem at *
  clear c0 c1 hvw hhd hrz v0 v1 hb0 hb1 FV cq
  rw [hxa] at V0 CI
  clear hxa
  go_upto_region 3 with (first | (go_at_call 22; refine (CV.out _ E0.out).mono ?_; rintro r w1 ⟨rfl, hb⟩; have KG := hide1 (KG.out.below hb KG.out.lt); have E0 := hide1 (E0.out.trans (hb.mono E0.out.size)); clear hb; have p0 : w1.cell? ⟨b, o, none⟩ = some (.slice (some ⟨b1, o1, none⟩) x.l.length x.c) := (E0.out.cell (p := ⟨b, o, none⟩) V0.out.2.2.1).trans V0.out.1; have p1 : w1.cell? ⟨b1, o1, none⟩ = some (.int .i64 n) := (E0.out.cell (p := ⟨b1, o1, none⟩) V0.out.2.2.2).trans V0.out.2.1) | (go_at_call 18; refine (CN.out _).mono ?_; rintro r wx ⟨rfl, rfl⟩))
  have CIw := hide1 (CI.out wx E0.out)
  go_wp2_with fail
  refine CIw.out.mono ?_
  rintro r w2 ⟨rfl, rfl⟩
  have FB := hide1 (And.intro (Blk.new wx 54 #[.int .i64 id, .int .i64 1, .bool false, .bool mem, .bool false, .bool false, .slice none 0 0, .slice none 0 0, .int .i64 0, .int .i64 0, .int .i64 0, .int .i64 0, .string ⟨#[]⟩, .string ⟨#[]⟩, .int .i64 0, .slice none 0 0]) ((Below.refl wx.heap.size wx).alloc (Nat.le_refl _) (.cells #[.int .i64 id, .int .i64 1, .bool false, .bool mem, .bool false, .bool false, .slice none 0 0, .slice none 0 0, .int .i64 0, .int .i64 0, .int .i64 0, .int .i64 0, .string ⟨#[]⟩, .string ⟨#[]⟩, .int .i64 0, .slice none 0 0] 54)))
  go_upto_region 4 with fail
  generalize (wx.alloc (.cells #[.int .i64 id, .int .i64 1, .bool false, .bool mem, .bool false, .bool false, .slice none 0 0, .slice none 0 0, .int .i64 0, .int .i64 0, .int .i64 0, .int .i64 0, .string ⟨#[]⟩, .string ⟨#[]⟩, .int .i64 0, .slice none 0 0] 54)) = v at FB ⊢
  obtain ⟨X, hX⟩ : ∃ G, G = wx.heap.size := ⟨_, rfl⟩
  have KX := hide1 FB.out.1
  rw [← hX] at KX ⊢
  have hne : G ≠ X := by have := KG.out.lt; omega
  have hXw : w.heap.size ≤ X := by have := E0.out.size; omega
  have KV := hide1 (KG.out.below FB.out.2 KG.out.lt)
  have EV := hide1 (E0.out.trans (FB.out.2.mono E0.out.size))
  clear hX FB KG
  have p0 : v.cell? ⟨b, o, none⟩ = some (.slice (some ⟨b1, o1, none⟩) x.l.length x.c) := (EV.out.cell (p := ⟨b, o, none⟩) V0.out.2.2.1).trans V0.out.1
  have p1 : v.cell? ⟨b1, o1, none⟩ = some (.int .i64 n) := (EV.out.cell (p := ⟨b1, o1, none⟩) V0.out.2.2.2).trans V0.out.2.1
  have c4 : v.cell? ⟨X, 4, none⟩ = some (.bool false) := KX.out.cell 4
  have c5 : v.cell? ⟨X, 5, none⟩ = some (.bool false) := KX.out.cell 5
  have cf : ∀ j, v.frozen? ⟨X, j, none⟩ = false := fun j => KX.out.froz j
  have KX2 := hide1 (Blk.set (Blk.set KX.out 4 (.bool false)) 5 (.bool false))
  dsimp only [List.set_cons_zero, List.set_cons_succ] at KX2
  have KV2 := hide1 ((KV.out.far ⟨X, 4, none⟩ (.bool false) (by dsimp only; omega)).far ⟨X, 5, none⟩ (.bool false) (by dsimp only; omega))
  have EV2 := hide1 ((EV.out.setCell (p := ⟨X, 4, none⟩) hXw (.bool false)).setCell (p := ⟨X, 5, none⟩) hXw (.bool false))
  go_upto_region 6 with fail
  generalize ((v.setCell ⟨X, 4, none⟩ (.bool false)).setCell ⟨X, 5, none⟩ (.bool false)) = v2 at KX2 KV2 EV2 ⊢
  clear KX KV EV E0 p0 p1 c4 c5 cf
  have c0 : v2.cell? ⟨X, 0, none⟩ = some (.int .i64 id) := KX2.out.cell 0
  have c1 : v2.cell? ⟨X, 1, none⟩ = some (.int .i64 1) := KX2.out.cell 1
  have c2 : v2.cell? ⟨X, 2, none⟩ = some (.bool false) := KX2.out.cell 2
  have c3 : v2.cell? ⟨X, 3, none⟩ = some (.bool mem) := KX2.out.cell 3
  have c4 : v2.cell? ⟨X, 4, none⟩ = some (.bool false) := KX2.out.cell 4
  have c5 : v2.cell? ⟨X, 5, none⟩ = some (.bool false) := KX2.out.cell 5
  have c6 : v2.cell? ⟨X, 6, none⟩ = some (.slice none 0 0) := KX2.out.cell 6
  have c7 : v2.cell? ⟨X, 7, none⟩ = some (.slice none 0 0) := KX2.out.cell 7
  have c8 : v2.cell? ⟨X, 8, none⟩ = some (.int .i64 0) := KX2.out.cell 8
  have c9 : v2.cell? ⟨X, 9, none⟩ = some (.int .i64 0) := KX2.out.cell 9
  have c10 : v2.cell? ⟨X, 10, none⟩ = some (.int .i64 0) := KX2.out.cell 10
  have c11 : v2.cell? ⟨X, 11, none⟩ = some (.int .i64 0) := KX2.out.cell 11
  have c12 : v2.cell? ⟨X, 12, none⟩ = some (.string ⟨#[]⟩) := KX2.out.cell 12
  have c13 : v2.cell? ⟨X, 13, none⟩ = some (.string ⟨#[]⟩) := KX2.out.cell 13
  have c14 : v2.cell? ⟨X, 14, none⟩ = some (.int .i64 0) := KX2.out.cell 14
  have c15 : v2.cell? ⟨X, 15, none⟩ = some (.slice none 0 0) := KX2.out.cell 15
  have g0 : v2.cell? ⟨G, 0, none⟩ = some (.int .i64 0) := KV2.out.cell 0
  have g1 : v2.cell? ⟨G, 1, none⟩ = some (.int .i64 0) := KV2.out.cell 1
  have g2 : v2.cell? ⟨G, 2, none⟩ = some (.bool false) := KV2.out.cell 2
  have g3 : v2.cell? ⟨G, 3, none⟩ = some (.bool false) := KV2.out.cell 3
  have g4 : v2.cell? ⟨G, 4, none⟩ = some (.bool false) := KV2.out.cell 4
  have g5 : v2.cell? ⟨G, 5, none⟩ = some (.bool false) := KV2.out.cell 5
  have g6 : v2.cell? ⟨G, 6, none⟩ = some (.slice none 0 0) := KV2.out.cell 6
  have g7 : v2.cell? ⟨G, 7, none⟩ = some (.slice none 0 0) := KV2.out.cell 7
  have g8 : v2.cell? ⟨G, 8, none⟩ = some (.int .i64 0) := KV2.out.cell 8
  have g9 : v2.cell? ⟨G, 9, none⟩ = some (.int .i64 0) := KV2.out.cell 9
  have g10 : v2.cell? ⟨G, 10, none⟩ = some (.int .i64 0) := KV2.out.cell 10
  have g11 : v2.cell? ⟨G, 11, none⟩ = some (.int .i64 0) := KV2.out.cell 11
  have g12 : v2.cell? ⟨G, 12, none⟩ = some (.string ⟨#[]⟩) := KV2.out.cell 12
  have g13 : v2.cell? ⟨G, 13, none⟩ = some (.string ⟨#[]⟩) := KV2.out.cell 13
  have g14 : v2.cell? ⟨G, 14, none⟩ = some (.int .i64 0) := KV2.out.cell 14
  have g15 : v2.cell? ⟨G, 15, none⟩ = some (.slice none 0 0) := KV2.out.cell 15
  have gf : ∀ j, v2.frozen? ⟨G, j, none⟩ = false := fun j => KV2.out.froz j
  have HH := hide1 (Blk.set (Blk.set (Blk.set (Blk.set (Blk.set (Blk.set (Blk.set (Blk.set (Blk.set (Blk.set (Blk.set (Blk.set (Blk.set (Blk.set (Blk.set (Blk.set KV2.out 0 (.int .i64 id)) 1 (.int .i64 1)) 2 (.bool false)) 3 (.bool mem)) 4 (.bool false)) 5 (.bool false)) 6 (.slice none 0 0)) 7 (.slice none 0 0)) 8 (.int .i64 0)) 9 (.int .i64 0)) 10 (.int .i64 0)) 11 (.int .i64 0)) 12 (.string ⟨#[]⟩)) 13 (.string ⟨#[]⟩)) 14 (.int .i64 0)) 15 (.slice none 0 0))
  dsimp only [List.set_cons_zero, List.set_cons_succ] at HH
  have HB := hide1 ((((((((((((((((EV2.out.setCell (p := ⟨G, 0, none⟩) (by dsimp only; omega) (.int .i64 id)).setCell (p := ⟨G, 1, none⟩) (by dsimp only; omega) (.int .i64 1)).setCell (p := ⟨G, 2, none⟩) (by dsimp only; omega) (.bool false)).setCell (p := ⟨G, 3, none⟩) (by dsimp only; omega) (.bool mem)).setCell (p := ⟨G, 4, none⟩) (by dsimp only; omega) (.bool false)).setCell (p := ⟨G, 5, none⟩) (by dsimp only; omega) (.bool false)).setCell (p := ⟨G, 6, none⟩) (by dsimp only; omega) (.slice none 0 0)).setCell (p := ⟨G, 7, none⟩) (by dsimp only; omega) (.slice none 0 0)).setCell (p := ⟨G, 8, none⟩) (by dsimp only; omega) (.int .i64 0)).setCell (p := ⟨G, 9, none⟩) (by dsimp only; omega) (.int .i64 0)).setCell (p := ⟨G, 10, none⟩) (by dsimp only; omega) (.int .i64 0)).setCell (p := ⟨G, 11, none⟩) (by dsimp only; omega) (.int .i64 0)).setCell (p := ⟨G, 12, none⟩) (by dsimp only; omega) (.string ⟨#[]⟩)).setCell (p := ⟨G, 13, none⟩) (by dsimp only; omega) (.string ⟨#[]⟩)).setCell (p := ⟨G, 14, none⟩) (by dsimp only; omega) (.int .i64 0)).setCell (p := ⟨G, 15, none⟩) (by dsimp only; omega) (.slice none 0 0))
  clear KX2 KV2 EV2
  go_wp2
  refine bodyPost_ret (resMb2 Try.results24 _ _ G 54 #[.int .i64 id, .int .i64 1, .bool false, .bool mem, .bool false, .bool false, .slice none 0 0, .slice none 0 0, .int .i64 0, .int .i64 0, .int .i64 0, .int .i64 0, .string ⟨#[]⟩, .string ⟨#[]⟩, .int .i64 0, .slice none 0 0] (0, 0) _ rfl HH.out Try.underlying54 rfl (by kernel_rfl)) rfl ?_
  exact ⟨by rw [HN.out]; rfl, HB.out⟩
set_option maxRecDepth 100000 in
set_option maxHeartbeats 4000000 in
theorem specMemberNew_any (id : Int) (a : Option Addr) (L : List Vw) (ca : Nat) (w : World) (hl : L.length ≤ 1048576) (hs : ∀ x ∈ L, x.l.length ≤ 1048576) (hA : RdVs w a L) :
    Calls Try.prog 24 #[.int .i64 id, .slice a L.length ca] w fun e w' => e = .returned (.tuple #[mbV (newMb id (L.map (·.l))).1 noMA, .bool (newMb id (L.map (·.l))).2]) ∧ Below w.heap.size w w' := by
  by_cases c0 : okViews (L.map (·.l))
  · by_cases c1 : 1 ≤ id ∧ id ≤ 6
    · by_cases cq : (vwA (L.map (·.l)) 1).headD 0 = id
      · exact specMemberNew_true id a L ca w hl hs hA c0 c1 cq
      · exact specMemberNew_false id a L ca w hl hs hA c0 c1 cq
    · exact specMemberNew_no2 id a L ca w hl hs hA c0 c1
  · exact specMemberNew_no1 id a L ca w hl hs hA c0
set_option maxRecDepth 100000 in
set_option maxHeartbeats 4000000 in
theorem implMemberNew_no1 (id : Int) (a : Option Addr) (L : List Vw) (ca : Nat) (w : World) (hl : L.length ≤ 1048576) (hs : ∀ x ∈ L, x.l.length ≤ 1048576) (hA : RdVs w a L) (c0 : ¬ okViews (L.map (·.l))) :
    Calls Try.prog 29 #[.int .i64 id, .slice a L.length ca] w fun e w' => e = .returned (.tuple #[mbV (newMb id (L.map (·.l))).1 noMA, .bool (newMb id (L.map (·.l))).2]) ∧ Below w.heap.size w w' := by
  have F := hide1 (And.intro (Blk.new w 54 #[.int .i64 0, .int .i64 0, .bool false, .bool false, .bool false, .bool false, .slice none 0 0, .slice none 0 0, .int .i64 0, .int .i64 0, .int .i64 0, .int .i64 0, .string ⟨#[]⟩, .string ⟨#[]⟩, .int .i64 0, .slice none 0 0]) ((Below.refl w.heap.size w).alloc (Nat.le_refl _) (.cells #[.int .i64 0, .int .i64 0, .bool false, .bool false, .bool false, .bool false, .slice none 0 0, .slice none 0 0, .int .i64 0, .int .i64 0, .int .i64 0, .int .i64 0, .string ⟨#[]⟩, .string ⟨#[]⟩, .int .i64 0, .slice none 0 0] 54)))
  have CV := hide1 (fun w' (hb : Below w.heap.size w w') => implViews_any a L ca w' hl hs (hA.later hb))
  have CN := hide1 (fun w' => nodeFits_any id w')
  have FV := hide1 (fun ok => first_view hA hs ok)
  clear hA hs
  go_enter Try.func29, Try.ntmps29
  go_upto_region 1 with fail
  generalize (w.alloc (.cells #[.int .i64 0, .int .i64 0, .bool false, .bool false, .bool false, .bool false, .slice none 0 0, .slice none 0 0, .int .i64 0, .int .i64 0, .int .i64 0, .int .i64 0, .string ⟨#[]⟩, .string ⟨#[]⟩, .int .i64 0, .slice none 0 0] 54)) = u at F ⊢
  obtain ⟨G, hG⟩ : ∃ G, G = w.heap.size := ⟨_, rfl⟩
  have KG := hide1 F.out.1
  rw [← hG] at KG ⊢
  have E0 := hide1 F.out.2
  have hGw : w.heap.size ≤ G := by omega
  clear F hG
  rw [decide_eq_false c0] at CV
  have HN := hide1 (show newMb id (L.map (·.l)) = (zeroMb, false) by unfold newMb; rw [if_neg (fun h => c0 h.1)])
  clear c0
  go_wp2_with (first | (go_at_call 26; refine (CV.out _ E0.out).mono ?_; rintro r w1 ⟨rfl, hb⟩; have KG := hide1 (KG.out.below hb KG.out.lt); have E0 := hide1 (E0.out.trans (hb.mono E0.out.size)); clear hb; have g0 : w1.cell? ⟨G, 0, none⟩ = some (.int .i64 0) := KG.out.cell 0; have g1 : w1.cell? ⟨G, 1, none⟩ = some (.int .i64 0) := KG.out.cell 1; have g2 : w1.cell? ⟨G, 2, none⟩ = some (.bool false) := KG.out.cell 2; have g3 : w1.cell? ⟨G, 3, none⟩ = some (.bool false) := KG.out.cell 3; have g4 : w1.cell? ⟨G, 4, none⟩ = some (.bool false) := KG.out.cell 4; have g5 : w1.cell? ⟨G, 5, none⟩ = some (.bool false) := KG.out.cell 5; have g6 : w1.cell? ⟨G, 6, none⟩ = some (.slice none 0 0) := KG.out.cell 6; have g7 : w1.cell? ⟨G, 7, none⟩ = some (.slice none 0 0) := KG.out.cell 7; have g8 : w1.cell? ⟨G, 8, none⟩ = some (.int .i64 0) := KG.out.cell 8; have g9 : w1.cell? ⟨G, 9, none⟩ = some (.int .i64 0) := KG.out.cell 9; have g10 : w1.cell? ⟨G, 10, none⟩ = some (.int .i64 0) := KG.out.cell 10; have g11 : w1.cell? ⟨G, 11, none⟩ = some (.int .i64 0) := KG.out.cell 11; have g12 : w1.cell? ⟨G, 12, none⟩ = some (.string ⟨#[]⟩) := KG.out.cell 12; have g13 : w1.cell? ⟨G, 13, none⟩ = some (.string ⟨#[]⟩) := KG.out.cell 13; have g14 : w1.cell? ⟨G, 14, none⟩ = some (.int .i64 0) := KG.out.cell 14; have g15 : w1.cell? ⟨G, 15, none⟩ = some (.slice none 0 0) := KG.out.cell 15; have gf : ∀ j, w1.frozen? ⟨G, j, none⟩ = false := fun j => KG.out.froz j; have HH := hide1 (Blk.set (Blk.set (Blk.set (Blk.set (Blk.set (Blk.set (Blk.set (Blk.set (Blk.set (Blk.set (Blk.set (Blk.set (Blk.set (Blk.set (Blk.set (Blk.set KG.out 0 (.int .i64 0)) 1 (.int .i64 0)) 2 (.bool false)) 3 (.bool false)) 4 (.bool false)) 5 (.bool false)) 6 (.slice none 0 0)) 7 (.slice none 0 0)) 8 (.int .i64 0)) 9 (.int .i64 0)) 10 (.int .i64 0)) 11 (.int .i64 0)) 12 (.string ⟨#[]⟩)) 13 (.string ⟨#[]⟩)) 14 (.int .i64 0)) 15 (.slice none 0 0)); dsimp only [List.set_cons_zero, List.set_cons_succ] at HH; have HB := hide1 ((((((((((((((((E0.out.setCell (p := ⟨G, 0, none⟩) (by dsimp only; omega) (.int .i64 0)).setCell (p := ⟨G, 1, none⟩) (by dsimp only; omega) (.int .i64 0)).setCell (p := ⟨G, 2, none⟩) (by dsimp only; omega) (.bool false)).setCell (p := ⟨G, 3, none⟩) (by dsimp only; omega) (.bool false)).setCell (p := ⟨G, 4, none⟩) (by dsimp only; omega) (.bool false)).setCell (p := ⟨G, 5, none⟩) (by dsimp only; omega) (.bool false)).setCell (p := ⟨G, 6, none⟩) (by dsimp only; omega) (.slice none 0 0)).setCell (p := ⟨G, 7, none⟩) (by dsimp only; omega) (.slice none 0 0)).setCell (p := ⟨G, 8, none⟩) (by dsimp only; omega) (.int .i64 0)).setCell (p := ⟨G, 9, none⟩) (by dsimp only; omega) (.int .i64 0)).setCell (p := ⟨G, 10, none⟩) (by dsimp only; omega) (.int .i64 0)).setCell (p := ⟨G, 11, none⟩) (by dsimp only; omega) (.int .i64 0)).setCell (p := ⟨G, 12, none⟩) (by dsimp only; omega) (.string ⟨#[]⟩)).setCell (p := ⟨G, 13, none⟩) (by dsimp only; omega) (.string ⟨#[]⟩)).setCell (p := ⟨G, 14, none⟩) (by dsimp only; omega) (.int .i64 0)).setCell (p := ⟨G, 15, none⟩) (by dsimp only; omega) (.slice none 0 0))) | (go_at_call 19; refine (CN.out _).mono ?_; rintro r wx ⟨rfl, rfl⟩))
  refine bodyPost_ret (resMb2 Try.results29 _ _ G 54 #[.int .i64 0, .int .i64 0, .bool false, .bool false, .bool false, .bool false, .slice none 0 0, .slice none 0 0, .int .i64 0, .int .i64 0, .int .i64 0, .int .i64 0, .string ⟨#[]⟩, .string ⟨#[]⟩, .int .i64 0, .slice none 0 0] (0, 0) _ rfl HH.out Try.underlying54 rfl (by kernel_rfl)) rfl ?_
  exact ⟨by rw [HN.out]; rfl, HB.out⟩
set_option maxRecDepth 100000 in
set_option maxHeartbeats 4000000 in
theorem implMemberNew_no2 (id : Int) (a : Option Addr) (L : List Vw) (ca : Nat) (w : World) (hl : L.length ≤ 1048576) (hs : ∀ x ∈ L, x.l.length ≤ 1048576) (hA : RdVs w a L) (c0 : okViews (L.map (·.l))) (c1 : ¬ (1 ≤ id ∧ id ≤ 6)) :
    Calls Try.prog 29 #[.int .i64 id, .slice a L.length ca] w fun e w' => e = .returned (.tuple #[mbV (newMb id (L.map (·.l))).1 noMA, .bool (newMb id (L.map (·.l))).2]) ∧ Below w.heap.size w w' := by
  have F := hide1 (And.intro (Blk.new w 54 #[.int .i64 0, .int .i64 0, .bool false, .bool false, .bool false, .bool false, .slice none 0 0, .slice none 0 0, .int .i64 0, .int .i64 0, .int .i64 0, .int .i64 0, .string ⟨#[]⟩, .string ⟨#[]⟩, .int .i64 0, .slice none 0 0]) ((Below.refl w.heap.size w).alloc (Nat.le_refl _) (.cells #[.int .i64 0, .int .i64 0, .bool false, .bool false, .bool false, .bool false, .slice none 0 0, .slice none 0 0, .int .i64 0, .int .i64 0, .int .i64 0, .int .i64 0, .string ⟨#[]⟩, .string ⟨#[]⟩, .int .i64 0, .slice none 0 0] 54)))
  have CV := hide1 (fun w' (hb : Below w.heap.size w w') => implViews_any a L ca w' hl hs (hA.later hb))
  have CN := hide1 (fun w' => nodeFits_any id w')
  have FV := hide1 (fun ok => first_view hA hs ok)
  clear hA hs
  go_enter Try.func29, Try.ntmps29
  go_upto_region 1 with fail
  generalize (w.alloc (.cells #[.int .i64 0, .int .i64 0, .bool false, .bool false, .bool false, .bool false, .slice none 0 0, .slice none 0 0, .int .i64 0, .int .i64 0, .int .i64 0, .int .i64 0, .string ⟨#[]⟩, .string ⟨#[]⟩, .int .i64 0, .slice none 0 0] 54)) = u at F ⊢
  obtain ⟨G, hG⟩ : ∃ G, G = w.heap.size := ⟨_, rfl⟩
  have KG := hide1 F.out.1
  rw [← hG] at KG ⊢
  have E0 := hide1 F.out.2
  have hGw : w.heap.size ≤ G := by omega
  clear F hG
  rw [decide_eq_true c0] at CV
  rw [decide_eq_false c1] at CN
  have HN := hide1 (show newMb id (L.map (·.l)) = (zeroMb, false) by unfold newMb; rw [if_neg (fun h => c1 h.2)])
  clear c0 c1
  go_wp2_with (first | (go_at_call 26; refine (CV.out _ E0.out).mono ?_; rintro r w1 ⟨rfl, hb⟩; have KG := hide1 (KG.out.below hb KG.out.lt); have E0 := hide1 (E0.out.trans (hb.mono E0.out.size)); clear hb; have g0 : w1.cell? ⟨G, 0, none⟩ = some (.int .i64 0) := KG.out.cell 0; have g1 : w1.cell? ⟨G, 1, none⟩ = some (.int .i64 0) := KG.out.cell 1; have g2 : w1.cell? ⟨G, 2, none⟩ = some (.bool false) := KG.out.cell 2; have g3 : w1.cell? ⟨G, 3, none⟩ = some (.bool false) := KG.out.cell 3; have g4 : w1.cell? ⟨G, 4, none⟩ = some (.bool false) := KG.out.cell 4; have g5 : w1.cell? ⟨G, 5, none⟩ = some (.bool false) := KG.out.cell 5; have g6 : w1.cell? ⟨G, 6, none⟩ = some (.slice none 0 0) := KG.out.cell 6; have g7 : w1.cell? ⟨G, 7, none⟩ = some (.slice none 0 0) := KG.out.cell 7; have g8 : w1.cell? ⟨G, 8, none⟩ = some (.int .i64 0) := KG.out.cell 8; have g9 : w1.cell? ⟨G, 9, none⟩ = some (.int .i64 0) := KG.out.cell 9; have g10 : w1.cell? ⟨G, 10, none⟩ = some (.int .i64 0) := KG.out.cell 10; have g11 : w1.cell? ⟨G, 11, none⟩ = some (.int .i64 0) := KG.out.cell 11; have g12 : w1.cell? ⟨G, 12, none⟩ = some (.string ⟨#[]⟩) := KG.out.cell 12; have g13 : w1.cell? ⟨G, 13, none⟩ = some (.string ⟨#[]⟩) := KG.out.cell 13; have g14 : w1.cell? ⟨G, 14, none⟩ = some (.int .i64 0) := KG.out.cell 14; have g15 : w1.cell? ⟨G, 15, none⟩ = some (.slice none 0 0) := KG.out.cell 15; have gf : ∀ j, w1.frozen? ⟨G, j, none⟩ = false := fun j => KG.out.froz j; have HH := hide1 (Blk.set (Blk.set (Blk.set (Blk.set (Blk.set (Blk.set (Blk.set (Blk.set (Blk.set (Blk.set (Blk.set (Blk.set (Blk.set (Blk.set (Blk.set (Blk.set KG.out 0 (.int .i64 0)) 1 (.int .i64 0)) 2 (.bool false)) 3 (.bool false)) 4 (.bool false)) 5 (.bool false)) 6 (.slice none 0 0)) 7 (.slice none 0 0)) 8 (.int .i64 0)) 9 (.int .i64 0)) 10 (.int .i64 0)) 11 (.int .i64 0)) 12 (.string ⟨#[]⟩)) 13 (.string ⟨#[]⟩)) 14 (.int .i64 0)) 15 (.slice none 0 0)); dsimp only [List.set_cons_zero, List.set_cons_succ] at HH; have HB := hide1 ((((((((((((((((E0.out.setCell (p := ⟨G, 0, none⟩) (by dsimp only; omega) (.int .i64 0)).setCell (p := ⟨G, 1, none⟩) (by dsimp only; omega) (.int .i64 0)).setCell (p := ⟨G, 2, none⟩) (by dsimp only; omega) (.bool false)).setCell (p := ⟨G, 3, none⟩) (by dsimp only; omega) (.bool false)).setCell (p := ⟨G, 4, none⟩) (by dsimp only; omega) (.bool false)).setCell (p := ⟨G, 5, none⟩) (by dsimp only; omega) (.bool false)).setCell (p := ⟨G, 6, none⟩) (by dsimp only; omega) (.slice none 0 0)).setCell (p := ⟨G, 7, none⟩) (by dsimp only; omega) (.slice none 0 0)).setCell (p := ⟨G, 8, none⟩) (by dsimp only; omega) (.int .i64 0)).setCell (p := ⟨G, 9, none⟩) (by dsimp only; omega) (.int .i64 0)).setCell (p := ⟨G, 10, none⟩) (by dsimp only; omega) (.int .i64 0)).setCell (p := ⟨G, 11, none⟩) (by dsimp only; omega) (.int .i64 0)).setCell (p := ⟨G, 12, none⟩) (by dsimp only; omega) (.string ⟨#[]⟩)).setCell (p := ⟨G, 13, none⟩) (by dsimp only; omega) (.string ⟨#[]⟩)).setCell (p := ⟨G, 14, none⟩) (by dsimp only; omega) (.int .i64 0)).setCell (p := ⟨G, 15, none⟩) (by dsimp only; omega) (.slice none 0 0))) | (go_at_call 19; refine (CN.out _).mono ?_; rintro r wx ⟨rfl, rfl⟩))
  refine bodyPost_ret (resMb2 Try.results29 _ _ G 54 #[.int .i64 0, .int .i64 0, .bool false, .bool false, .bool false, .bool false, .slice none 0 0, .slice none 0 0, .int .i64 0, .int .i64 0, .int .i64 0, .int .i64 0, .string ⟨#[]⟩, .string ⟨#[]⟩, .int .i64 0, .slice none 0 0] (0, 0) _ rfl HH.out Try.underlying54 rfl (by kernel_rfl)) rfl ?_
  exact ⟨by rw [HN.out]; rfl, HB.out⟩
set_option maxRecDepth 100000 in
set_option maxHeartbeats 4000000 in
theorem implMemberNew_true (id : Int) (a : Option Addr) (L : List Vw) (ca : Nat) (w : World) (hl : L.length ≤ 1048576) (hs : ∀ x ∈ L, x.l.length ≤ 1048576) (hA : RdVs w a L) (c0 : okViews (L.map (·.l))) (c1 : 1 ≤ id ∧ id ≤ 6) (cq : (vwA (L.map (·.l)) 1).headD 0 = id) :
    Calls Try.prog 29 #[.int .i64 id, .slice a L.length ca] w fun e w' => e = .returned (.tuple #[mbV (newMb id (L.map (·.l))).1 noMA, .bool (newMb id (L.map (·.l))).2]) ∧ Below w.heap.size w w' := by
  have F := hide1 (And.intro (Blk.new w 54 #[.int .i64 0, .int .i64 0, .bool false, .bool false, .bool false, .bool false, .slice none 0 0, .slice none 0 0, .int .i64 0, .int .i64 0, .int .i64 0, .int .i64 0, .string ⟨#[]⟩, .string ⟨#[]⟩, .int .i64 0, .slice none 0 0]) ((Below.refl w.heap.size w).alloc (Nat.le_refl _) (.cells #[.int .i64 0, .int .i64 0, .bool false, .bool false, .bool false, .bool false, .slice none 0 0, .slice none 0 0, .int .i64 0, .int .i64 0, .int .i64 0, .int .i64 0, .string ⟨#[]⟩, .string ⟨#[]⟩, .int .i64 0, .slice none 0 0] 54)))
  have CV := hide1 (fun w' (hb : Below w.heap.size w w') => implViews_any a L ca w' hl hs (hA.later hb))
  have CN := hide1 (fun w' => nodeFits_any id w')
  have FV := hide1 (fun ok => first_view hA hs ok)
  clear hA hs
  go_enter Try.func29, Try.ntmps29
  go_upto_region 1 with fail
  generalize (w.alloc (.cells #[.int .i64 0, .int .i64 0, .bool false, .bool false, .bool false, .bool false, .slice none 0 0, .slice none 0 0, .int .i64 0, .int .i64 0, .int .i64 0, .int .i64 0, .string ⟨#[]⟩, .string ⟨#[]⟩, .int .i64 0, .slice none 0 0] 54)) = u at F ⊢
  obtain ⟨G, hG⟩ : ∃ G, G = w.heap.size := ⟨_, rfl⟩
  have KG := hide1 F.out.1
  rw [← hG] at KG ⊢
  have E0 := hide1 F.out.2
  have hGw : w.heap.size ≤ G := by omega
  clear F hG
  rw [decide_eq_true c0] at CV
  rw [decide_eq_true c1] at CN
  obtain ⟨x, n, b, o, b1, o1, rfl, hxa, v0, v1, hb0, hb1, hx0, hx1, hx2, hrz, hvw, hhd⟩ := FV.out c0
  have CI := hide1 (fun w' (hb : Below w.heap.size w w') => containsV_any x.a x.c x.l id w' hx2 (hrz.later hb))
  have HN := hide1 (show newMb id (L.map (·.l)) = (⟨id, 1, false, decide (id ∈ x.l), decide (n = id), decide (n = id), [], [], 0, zeroTk⟩, true) by unfold newMb; rw [if_pos ⟨c0, c1⟩, hvw, hhd])
  have V0 := hide1 (And.intro v0 (And.intro v1 (And.intro hb0 hb1)))
  have k0 : (0 : Int) < (L.length : Int) := by omega
  have k1 : (0 : Int) < (x.l.length : Int) := by omega
  rw [hvw, hhd] at cq
  have qq : (n == id) = true := by simp [cq]
  rw [decide_eq_true cq] at HN
  generalize decide (id ∈ x.l) = mem at *
  clear c0 c1 hvw hhd hrz v0 v1 hb0 hb1 FV cq
  rw [hxa] at V0 CI
  clear hxa
  go_upto_region 3 with (first | (go_at_call 26; refine (CV.out _ E0.out).mono ?_; rintro r w1 ⟨rfl, hb⟩; have KG := hide1 (KG.out.below hb KG.out.lt); have E0 := hide1 (E0.out.trans (hb.mono E0.out.size)); clear hb; have p0 : w1.cell? ⟨b, o, none⟩ = some (.slice (some ⟨b1, o1, none⟩) x.l.length x.c) := (E0.out.cell (p := ⟨b, o, none⟩) V0.out.2.2.1).trans V0.out.1; have p1 : w1.cell? ⟨b1, o1, none⟩ = some (.int .i64 n) := (E0.out.cell (p := ⟨b1, o1, none⟩) V0.out.2.2.2).trans V0.out.2.1) | (go_at_call 19; refine (CN.out _).mono ?_; rintro r wx ⟨rfl, rfl⟩))
  have CIw := hide1 (CI.out wx E0.out)
  have p0 : wx.cell? ⟨b, o, none⟩ = some (.slice (some ⟨b1, o1, none⟩) x.l.length x.c) := (E0.out.cell (p := ⟨b, o, none⟩) V0.out.2.2.1).trans V0.out.1
  have p1 : wx.cell? ⟨b1, o1, none⟩ = some (.int .i64 n) := (E0.out.cell (p := ⟨b1, o1, none⟩) V0.out.2.2.2).trans V0.out.2.1
  go_wp2_with fail
  refine CIw.out.mono ?_
  rintro r w2 ⟨rfl, rfl⟩
  have g0 : w2.cell? ⟨G, 0, none⟩ = some (.int .i64 0) := KG.out.cell 0
  have g1 : w2.cell? ⟨G, 1, none⟩ = some (.int .i64 0) := KG.out.cell 1
  have g2 : w2.cell? ⟨G, 2, none⟩ = some (.bool false) := KG.out.cell 2
  have g3 : w2.cell? ⟨G, 3, none⟩ = some (.bool false) := KG.out.cell 3
  have g4 : w2.cell? ⟨G, 4, none⟩ = some (.bool false) := KG.out.cell 4
  have g5 : w2.cell? ⟨G, 5, none⟩ = some (.bool false) := KG.out.cell 5
  have g6 : w2.cell? ⟨G, 6, none⟩ = some (.slice none 0 0) := KG.out.cell 6
  have g7 : w2.cell? ⟨G, 7, none⟩ = some (.slice none 0 0) := KG.out.cell 7
  have g8 : w2.cell? ⟨G, 8, none⟩ = some (.int .i64 0) := KG.out.cell 8
  have g9 : w2.cell? ⟨G, 9, none⟩ = some (.int .i64 0) := KG.out.cell 9
  have g10 : w2.cell? ⟨G, 10, none⟩ = some (.int .i64 0) := KG.out.cell 10
  have g11 : w2.cell? ⟨G, 11, none⟩ = some (.int .i64 0) := KG.out.cell 11
  have g12 : w2.cell? ⟨G, 12, none⟩ = some (.string ⟨#[]⟩) := KG.out.cell 12
  have g13 : w2.cell? ⟨G, 13, none⟩ = some (.string ⟨#[]⟩) := KG.out.cell 13
  have g14 : w2.cell? ⟨G, 14, none⟩ = some (.int .i64 0) := KG.out.cell 14
  have g15 : w2.cell? ⟨G, 15, none⟩ = some (.slice none 0 0) := KG.out.cell 15
  have gf : ∀ j, w2.frozen? ⟨G, j, none⟩ = false := fun j => KG.out.froz j
  have HH := hide1 (Blk.set (Blk.set (Blk.set (Blk.set (Blk.set (Blk.set (Blk.set (Blk.set (Blk.set (Blk.set (Blk.set (Blk.set (Blk.set (Blk.set (Blk.set (Blk.set KG.out 0 (.int .i64 id)) 1 (.int .i64 1)) 2 (.bool false)) 3 (.bool mem)) 4 (.bool true)) 5 (.bool true)) 6 (.slice none 0 0)) 7 (.slice none 0 0)) 8 (.int .i64 0)) 9 (.int .i64 0)) 10 (.int .i64 0)) 11 (.int .i64 0)) 12 (.string ⟨#[]⟩)) 13 (.string ⟨#[]⟩)) 14 (.int .i64 0)) 15 (.slice none 0 0))
  dsimp only [List.set_cons_zero, List.set_cons_succ] at HH
  have HB := hide1 ((((((((((((((((E0.out.setCell (p := ⟨G, 0, none⟩) (by dsimp only; omega) (.int .i64 id)).setCell (p := ⟨G, 1, none⟩) (by dsimp only; omega) (.int .i64 1)).setCell (p := ⟨G, 2, none⟩) (by dsimp only; omega) (.bool false)).setCell (p := ⟨G, 3, none⟩) (by dsimp only; omega) (.bool mem)).setCell (p := ⟨G, 4, none⟩) (by dsimp only; omega) (.bool true)).setCell (p := ⟨G, 5, none⟩) (by dsimp only; omega) (.bool true)).setCell (p := ⟨G, 6, none⟩) (by dsimp only; omega) (.slice none 0 0)).setCell (p := ⟨G, 7, none⟩) (by dsimp only; omega) (.slice none 0 0)).setCell (p := ⟨G, 8, none⟩) (by dsimp only; omega) (.int .i64 0)).setCell (p := ⟨G, 9, none⟩) (by dsimp only; omega) (.int .i64 0)).setCell (p := ⟨G, 10, none⟩) (by dsimp only; omega) (.int .i64 0)).setCell (p := ⟨G, 11, none⟩) (by dsimp only; omega) (.int .i64 0)).setCell (p := ⟨G, 12, none⟩) (by dsimp only; omega) (.string ⟨#[]⟩)).setCell (p := ⟨G, 13, none⟩) (by dsimp only; omega) (.string ⟨#[]⟩)).setCell (p := ⟨G, 14, none⟩) (by dsimp only; omega) (.int .i64 0)).setCell (p := ⟨G, 15, none⟩) (by dsimp only; omega) (.slice none 0 0))
  go_wp2
  refine bodyPost_ret (resMb2 Try.results29 _ _ G 54 #[.int .i64 id, .int .i64 1, .bool false, .bool mem, .bool true, .bool true, .slice none 0 0, .slice none 0 0, .int .i64 0, .int .i64 0, .int .i64 0, .int .i64 0, .string ⟨#[]⟩, .string ⟨#[]⟩, .int .i64 0, .slice none 0 0] (0, 0) _ rfl HH.out Try.underlying54 rfl (by kernel_rfl)) rfl ?_
  exact ⟨by rw [HN.out]; rfl, HB.out⟩
set_option maxRecDepth 100000 in
set_option maxHeartbeats 4000000 in
theorem implMemberNew_false (id : Int) (a : Option Addr) (L : List Vw) (ca : Nat) (w : World) (hl : L.length ≤ 1048576) (hs : ∀ x ∈ L, x.l.length ≤ 1048576) (hA : RdVs w a L) (c0 : okViews (L.map (·.l))) (c1 : 1 ≤ id ∧ id ≤ 6) (cq : ¬ (vwA (L.map (·.l)) 1).headD 0 = id) :
    Calls Try.prog 29 #[.int .i64 id, .slice a L.length ca] w fun e w' => e = .returned (.tuple #[mbV (newMb id (L.map (·.l))).1 noMA, .bool (newMb id (L.map (·.l))).2]) ∧ Below w.heap.size w w' := by
  have F := hide1 (And.intro (Blk.new w 54 #[.int .i64 0, .int .i64 0, .bool false, .bool false, .bool false, .bool false, .slice none 0 0, .slice none 0 0, .int .i64 0, .int .i64 0, .int .i64 0, .int .i64 0, .string ⟨#[]⟩, .string ⟨#[]⟩, .int .i64 0, .slice none 0 0]) ((Below.refl w.heap.size w).alloc (Nat.le_refl _) (.cells #[.int .i64 0, .int .i64 0, .bool false, .bool false, .bool false, .bool false, .slice none 0 0, .slice none 0 0, .int .i64 0, .int .i64 0, .int .i64 0, .int .i64 0, .string ⟨#[]⟩, .string ⟨#[]⟩, .int .i64 0, .slice none 0 0] 54)))
  have CV := hide1 (fun w' (hb : Below w.heap.size w w') => implViews_any a L ca w' hl hs (hA.later hb))
  have CN := hide1 (fun w' => nodeFits_any id w')
  have FV := hide1 (fun ok => first_view hA hs ok)
  clear hA hs
  go_enter Try.func29, Try.ntmps29
  go_upto_region 1 with fail
  generalize (w.alloc (.cells #[.int .i64 0, .int .i64 0, .bool false, .bool false, .bool false, .bool false, .slice none 0 0, .slice none 0 0, .int .i64 0, .int .i64 0, .int .i64 0, .int .i64 0, .string ⟨#[]⟩, .string ⟨#[]⟩, .int .i64 0, .slice none 0 0] 54)) = u at F ⊢
  obtain ⟨G, hG⟩ : ∃ G, G = w.heap.size := ⟨_, rfl⟩
  have KG := hide1 F.out.1
  rw [← hG] at KG ⊢
  have E0 := hide1 F.out.2
  have hGw : w.heap.size ≤ G := by omega
  clear F hG
  rw [decide_eq_true c0] at CV
  rw [decide_eq_true c1] at CN
  obtain ⟨x, n, b, o, b1, o1, rfl, hxa, v0, v1, hb0, hb1, hx0, hx1, hx2, hrz, hvw, hhd⟩ := FV.out c0
  have CI := hide1 (fun w' (hb : Below w.heap.size w w') => containsV_any x.a x.c x.l id w' hx2 (hrz.later hb))
  have HN := hide1 (show newMb id (L.map (·.l)) = (⟨id, 1, false, decide (id ∈ x.l), decide (n = id), decide (n = id), [], [], 0, zeroTk⟩, true) by unfold newMb; rw [if_pos ⟨c0, c1⟩, hvw, hhd])
  have V0 := hide1 (And.intro v0 (And.intro v1 (And.intro hb0 hb1)))
  have k0 : (0 : Int) < (L.length : Int) := by omega
  have k1 : (0 : Int) < (x.l.length : Int) := by omega
  rw [hvw, hhd] at cq
  have qq : (n == id) = false := by simp [cq]
  rw [decide_eq_false cq] at HN
  generalize decide (id ∈ x.l) = mem at *
  clear c0 c1 hvw hhd hrz v0 v1 hb0 hb1 FV cq
  rw [hxa] at V0 CI
  clear hxa
  go_upto_region 3 with (first | (go_at_call 26; refine (CV.out _ E0.out).mono ?_; rintro r w1 ⟨rfl, hb⟩; have KG := hide1 (KG.out.below hb KG.out.lt); have E0 := hide1 (E0.out.trans (hb.mono E0.out.size)); clear hb; have p0 : w1.cell? ⟨b, o, none⟩ = some (.slice (some ⟨b1, o1, none⟩) x.l.length x.c) := (E0.out.cell (p := ⟨b, o, none⟩) V0.out.2.2.1).trans V0.out.1; have p1 : w1.cell? ⟨b1, o1, none⟩ = some (.int .i64 n) := (E0.out.cell (p := ⟨b1, o1, none⟩) V0.out.2.2.2).trans V0.out.2.1) | (go_at_call 19; refine (CN.out _).mono ?_; rintro r wx ⟨rfl, rfl⟩))
  have CIw := hide1 (CI.out wx E0.out)
  have p0 : wx.cell? ⟨b, o, none⟩ = some (.slice (some ⟨b1, o1, none⟩) x.l.length x.c) := (E0.out.cell (p := ⟨b, o, none⟩) V0.out.2.2.1).trans V0.out.1
  have p1 : wx.cell? ⟨b1, o1, none⟩ = some (.int .i64 n) := (E0.out.cell (p := ⟨b1, o1, none⟩) V0.out.2.2.2).trans V0.out.2.1
  go_wp2_with fail
  refine CIw.out.mono ?_
  rintro r w2 ⟨rfl, rfl⟩
  have g0 : w2.cell? ⟨G, 0, none⟩ = some (.int .i64 0) := KG.out.cell 0
  have g1 : w2.cell? ⟨G, 1, none⟩ = some (.int .i64 0) := KG.out.cell 1
  have g2 : w2.cell? ⟨G, 2, none⟩ = some (.bool false) := KG.out.cell 2
  have g3 : w2.cell? ⟨G, 3, none⟩ = some (.bool false) := KG.out.cell 3
  have g4 : w2.cell? ⟨G, 4, none⟩ = some (.bool false) := KG.out.cell 4
  have g5 : w2.cell? ⟨G, 5, none⟩ = some (.bool false) := KG.out.cell 5
  have g6 : w2.cell? ⟨G, 6, none⟩ = some (.slice none 0 0) := KG.out.cell 6
  have g7 : w2.cell? ⟨G, 7, none⟩ = some (.slice none 0 0) := KG.out.cell 7
  have g8 : w2.cell? ⟨G, 8, none⟩ = some (.int .i64 0) := KG.out.cell 8
  have g9 : w2.cell? ⟨G, 9, none⟩ = some (.int .i64 0) := KG.out.cell 9
  have g10 : w2.cell? ⟨G, 10, none⟩ = some (.int .i64 0) := KG.out.cell 10
  have g11 : w2.cell? ⟨G, 11, none⟩ = some (.int .i64 0) := KG.out.cell 11
  have g12 : w2.cell? ⟨G, 12, none⟩ = some (.string ⟨#[]⟩) := KG.out.cell 12
  have g13 : w2.cell? ⟨G, 13, none⟩ = some (.string ⟨#[]⟩) := KG.out.cell 13
  have g14 : w2.cell? ⟨G, 14, none⟩ = some (.int .i64 0) := KG.out.cell 14
  have g15 : w2.cell? ⟨G, 15, none⟩ = some (.slice none 0 0) := KG.out.cell 15
  have gf : ∀ j, w2.frozen? ⟨G, j, none⟩ = false := fun j => KG.out.froz j
  have HH := hide1 (Blk.set (Blk.set (Blk.set (Blk.set (Blk.set (Blk.set (Blk.set (Blk.set (Blk.set (Blk.set (Blk.set (Blk.set (Blk.set (Blk.set (Blk.set (Blk.set KG.out 0 (.int .i64 id)) 1 (.int .i64 1)) 2 (.bool false)) 3 (.bool mem)) 4 (.bool false)) 5 (.bool false)) 6 (.slice none 0 0)) 7 (.slice none 0 0)) 8 (.int .i64 0)) 9 (.int .i64 0)) 10 (.int .i64 0)) 11 (.int .i64 0)) 12 (.string ⟨#[]⟩)) 13 (.string ⟨#[]⟩)) 14 (.int .i64 0)) 15 (.slice none 0 0))
  dsimp only [List.set_cons_zero, List.set_cons_succ] at HH
  have HB := hide1 ((((((((((((((((E0.out.setCell (p := ⟨G, 0, none⟩) (by dsimp only; omega) (.int .i64 id)).setCell (p := ⟨G, 1, none⟩) (by dsimp only; omega) (.int .i64 1)).setCell (p := ⟨G, 2, none⟩) (by dsimp only; omega) (.bool false)).setCell (p := ⟨G, 3, none⟩) (by dsimp only; omega) (.bool mem)).setCell (p := ⟨G, 4, none⟩) (by dsimp only; omega) (.bool false)).setCell (p := ⟨G, 5, none⟩) (by dsimp only; omega) (.bool false)).setCell (p := ⟨G, 6, none⟩) (by dsimp only; omega) (.slice none 0 0)).setCell (p := ⟨G, 7, none⟩) (by dsimp only; omega) (.slice none 0 0)).setCell (p := ⟨G, 8, none⟩) (by dsimp only; omega) (.int .i64 0)).setCell (p := ⟨G, 9, none⟩) (by dsimp only; omega) (.int .i64 0)).setCell (p := ⟨G, 10, none⟩) (by dsimp only; omega) (.int .i64 0)).setCell (p := ⟨G, 11, none⟩) (by dsimp only; omega) (.int .i64 0)).setCell (p := ⟨G, 12, none⟩) (by dsimp only; omega) (.string ⟨#[]⟩)).setCell (p := ⟨G, 13, none⟩) (by dsimp only; omega) (.string ⟨#[]⟩)).setCell (p := ⟨G, 14, none⟩) (by dsimp only; omega) (.int .i64 0)).setCell (p := ⟨G, 15, none⟩) (by dsimp only; omega) (.slice none 0 0))
  go_wp2
  refine bodyPost_ret (resMb2 Try.results29 _ _ G 54 #[.int .i64 id, .int .i64 1, .bool false, .bool mem, .bool false, .bool false, .slice none 0 0, .slice none 0 0, .int .i64 0, .int .i64 0, .int .i64 0, .int .i64 0, .string ⟨#[]⟩, .string ⟨#[]⟩, .int .i64 0, .slice none 0 0] (0, 0) _ rfl HH.out Try.underlying54 rfl (by kernel_rfl)) rfl ?_
  exact ⟨by rw [HN.out]; rfl, HB.out⟩
set_option maxRecDepth 100000 in
set_option maxHeartbeats 4000000 in
theorem implMemberNew_any (id : Int) (a : Option Addr) (L : List Vw) (ca : Nat) (w : World) (hl : L.length ≤ 1048576) (hs : ∀ x ∈ L, x.l.length ≤ 1048576) (hA : RdVs w a L) :
    Calls Try.prog 29 #[.int .i64 id, .slice a L.length ca] w fun e w' => e = .returned (.tuple #[mbV (newMb id (L.map (·.l))).1 noMA, .bool (newMb id (L.map (·.l))).2]) ∧ Below w.heap.size w w' := by
  by_cases c0 : okViews (L.map (·.l))
  · by_cases c1 : 1 ≤ id ∧ id ≤ 6
    · by_cases cq : (vwA (L.map (·.l)) 1).headD 0 = id
      · exact implMemberNew_true id a L ca w hl hs hA c0 c1 cq
      · exact implMemberNew_false id a L ca w hl hs hA c0 c1 cq
    · exact implMemberNew_no2 id a L ca w hl hs hA c0 c1
  · exact implMemberNew_no1 id a L ca w hl hs hA c0
end Go.Proofs.Ytmfpgnoeemjhiaa
