/- Groups in the statements' words: copied. -/
import Derived.Test.YtcahaimefgkmiaaGqL
import Derived.Test.YtcahaimefgkmiaaToVo
import Derived.Laws.CopyOwn
namespace Go.Proofs.Ytcahaimefgkmiaa
open Go.ChangeShapes Go.WideShapes Go.ChangeAt Go.RowKit Go.Deep Go.Joins
set_option linter.unusedVariables false

/-- What the copying of a group holds: what came, the result, the copy. -/
structure GqS (w U : World) (X R O lo : Nat) (a cs : Array Value) : Prop where
  bx : BlkA U X 40 a
  rs : BlkA U R 46 zGp
  ob : BlkA U O 46 cs
  bl : Below w.heap.size w U
  lR : w.heap.size ≤ R
  lO : w.heap.size ≤ O
  nX : O ≠ X
  nR : O ≠ R
  oL : O < lo
  rL : R < lo
  uL : lo ≤ U.heap.size
theorem GqS.later {w U W : World} {X R O lo : Nat} {a cs : Array Value} (h : GqS w U X R O lo a cs) (hb : Below U.heap.size U W) : GqS w W X R O lo a cs :=
  ⟨h.bx.below hb h.bx.lt, h.rs.below hb h.rs.lt, h.ob.below hb h.ob.lt, h.bl.trans (hb.mono h.bl.size), h.lR, h.lO, h.nX, h.nR, h.oL, h.rL, Nat.le_trans h.uL hb.size⟩
theorem GqS.set {w U : World} {X R O lo : Nat} {a cs : Array Value} (h : GqS w U X R O lo a cs) (j : Nat) (u : Value) : GqS w (U.setCell ⟨O, j, none⟩ u) X R O lo a (cs.toList.set j u).toArray :=
  ⟨h.bx.far j u h.nX, h.rs.far j u h.nR, h.ob.setc j u, h.bl.setCell (p := ⟨O, j, none⟩) h.lO u, h.lR, h.lO, h.nX, h.nR, h.oL, h.rL, by have := h.uL; simpa using this⟩
theorem gw {w : World} {g j : Nat} {u : Value} : w.grownBy (w.setCell ⟨g, j, none⟩ u) (some g) := gset (gnew (Below.refl _ _)) j u
theorem grown_setRow (w : World) (R : Nat) (cs : Array Value) : w.grownBy (w.setRow R cs) (some R) := by
  have b := below_setRow (B := 0) (Below.refl 0 w) (Nat.zero_le R) cs
  refine ⟨b.os, b.tape, b.output, b.size, fun k hk hne => ?_⟩
  unfold World.setRow
  simp only [Array.getElem?_modify]
  rw [if_neg (fun e => hne (by rw [e]))]
theorem RdGp.gr {w w' : World} {h : Gv} {lo R : Nat} (hr : RdGp w h) (hv : LoVs lo h.va h.M) (hm : LoA lo h.ma h.L.length ∧ ∀ y ∈ h.L, LMr lo y) (hf : LoA lo h.fa h.N.length ∧ ∀ y ∈ h.N, LMv lo y) (hc : LoA lo h.ca h.C.length) (hg : w.grownBy w' (some R)) (hR : R < lo) : RdGp w' h :=
  ⟨⟨hr.v.r.gr hg (fun b o e hn e2 => by have := hv.r b o e hn; injection e2 with e2; omega), fun x hx => RdZ.gr (hr.v.v x hx) hg (fun b o e hn e2 => by have := hv.v x hx b o e hn; injection e2 with e2; omega), hr.v.c⟩, hr.m.gr hm.1 hm.2 hg hR, hr.f.gr hf.1 hf.2 hg hR, hr.c.gr hg (fun b o e hn e2 => by have := hc b o e hn; injection e2 with e2; omega)⟩
set_option maxRecDepth 100000 in
set_option maxHeartbeats 4000000 in
theorem toGp_any (g : Gv) (w : World) (hz : SmGp g) (hr : RdGp w g) :
    Calls Try.prog 21 #[.agg (grA g)] w fun e w' => ∃ h : Gv, e = .returned (.agg (grA h)) ∧ SaGp g h ∧ RdGp w' h ∧ Below w.heap.size w w' := by
  have F := hide1 (blkN3 w (grA g) #[.slice none 0 0, .slice none 0 0, .slice none 0 0, .slice none 0 0] #[.slice none 0 0, .slice none 0 0, .slice none 0 0, .slice none 0 0] 40 46 46)
  have C1 := hide1 (fun w' (hb : Below w.heap.size w w') => toIntSS_own g.va g.M g.vc w' hz.vl hz.vs (hr.v.later hb))
  have C2 := hide1 (fun w' (hb : Below w.heap.size w w') => toMemberS_any g.ma g.L g.mc w' hz.ml hz.ms (hr.m.later hb))
  have C3 := hide1 (fun w' (hb : Below w.heap.size w w') => toMsgS_any g.fa g.N g.fc w' hz.fl hz.fs (hr.f.later hb))
  have C4 := hide1 (fun w' (hb : Below w.heap.size w w') => toCallS_any g.ca g.C g.cc w' hz.cl (hr.c.later hb))
  clear hr hz
  go_enter Try.func21, Try.ntmps21
  go_upto_region 2 with fail
  generalize (((w.alloc (.cells (grA g) 40)).alloc (.cells #[.slice none 0 0, .slice none 0 0, .slice none 0 0, .slice none 0 0] 46)).alloc (.cells #[.slice none 0 0, .slice none 0 0, .slice none 0 0, .slice none 0 0] 46)) = w0 at F ⊢
  obtain ⟨X, hX⟩ : ∃ G, G = w.heap.size := ⟨_, rfl⟩
  obtain ⟨R, hR⟩ : ∃ G, G = w.heap.size + 1 := ⟨_, rfl⟩
  obtain ⟨O, hO⟩ : ∃ G, G = w.heap.size + 1 + 1 := ⟨_, rfl⟩
  have lt3 := F.out.2.2.1.lt
  obtain ⟨lo, hlo⟩ : ∃ G, G = w0.heap.size := ⟨_, rfl⟩
  have S0 := hide1 (show GqS w w0 X R O lo (grA g) zGp from ⟨by rw [hX]; exact F.out.1, by rw [hR]; exact F.out.2.1, by rw [hO]; exact F.out.2.2.1, F.out.2.2.2, by omega, by omega, by omega, by omega, by omega, by omega, by omega⟩)
  rw [← hO, ← hR, ← hX]
  clear F hX hR hO lt3 hlo
  have x0 : w0.cell? ⟨X, 0, none⟩ = some (.slice g.va g.M.length g.vc) := S0.out.bx.cell 0 rfl
  go_wp2_with fail
  refine (C1.out w0 S0.out.bl).mono ?_
  rintro e w1 ⟨⟨va, vc, M, rfl, hM, ho⟩, hb⟩
  have V0 := hide1 (And.intro ho.rd (LoVs.mono (⟨lo_of_own ho.o, fun x hx => lo_of_own (ho.r x hx)⟩ : LoVs w0.heap.size va M) S0.out.uL))
  have eM : M.length = g.M.length := by have := congrArg List.length hM; simpa using this
  have HV := hide1 hM
  clear ho hM
  have T0 := hide1 (S0.out.later hb)
  clear hb S0 C1 x0
  have y0 : w1.cell? ⟨O, 0, none⟩ = some (.slice none 0 0) := T0.out.ob.cell 0 rfl
  have f0 := T0.out.ob.froz 0
  have S1 := hide1 (T0.out.set 0 (.slice va g.M.length vc))
  have V1 := hide1 (And.intro (show RdVs (w1.setCell ⟨O, 0, none⟩ (.slice va g.M.length vc)) va M from RdVs.far V0.out.1 V0.out.2 T0.out.oL 0 _) V0.out.2)
  clear T0 V0
  go_upto_region 3 with fail
  generalize (w1.setCell ⟨O, 0, none⟩ (.slice va g.M.length vc)) = w2 at S1 V1 ⊢
  clear y0 f0
  have x1 : w2.cell? ⟨X, 1, none⟩ = some (.slice g.ma g.L.length g.mc) := S1.out.bx.cell 1 rfl
  go_wp2_with fail
  refine (C2.out w2 S1.out.bl).mono ?_
  rintro e w3 ⟨ma, mc, L, rfl, hM, ho, hlo2, hb⟩
  have M0 := hide1 (And.intro ho (And.intro (hlo2.1.mono S1.out.uL) (show ∀ y ∈ L, LMr lo y from fun y hy => (hlo2.2 y hy).mono S1.out.uL)))
  have HM := hide1 hM
  clear ho hM hlo2
  have T1 := hide1 (S1.out.later hb)
  have V2 := hide1 (And.intro (V1.out.1.later hb) V1.out.2)
  clear hb S1 C2 x1 V1
  have M2 := M0
  clear M0
  have y1 : w3.cell? ⟨O, 1, none⟩ = some (.slice none 0 0) := T1.out.ob.cell 1 rfl
  have f1 := T1.out.ob.froz 1
  have S2 := hide1 (T1.out.set 1 (.slice ma L.length mc))
  have V3 := hide1 (And.intro (show RdVs (w3.setCell ⟨O, 1, none⟩ (.slice ma L.length mc)) va M from RdVs.far V2.out.1 V2.out.2 T1.out.oL 1 _) V2.out.2)
  have M3 := hide1 (And.intro (show RdMrs (w3.setCell ⟨O, 1, none⟩ (.slice ma L.length mc)) ma L from RdMrs.gr M2.out.1 M2.out.2.1 M2.out.2.2 gw T1.out.oL) M2.out.2)
  clear T1 V2 M2
  go_upto_region 4 with fail
  generalize (w3.setCell ⟨O, 1, none⟩ (.slice ma L.length mc)) = w4 at S2 V3 M3 ⊢
  clear y1 f1
  have x2 : w4.cell? ⟨X, 2, none⟩ = some (.slice g.fa g.N.length g.fc) := S2.out.bx.cell 2 rfl
  go_wp2_with fail
  refine (C3.out w4 S2.out.bl).mono ?_
  rintro e w5 ⟨fa, fc, N, rfl, hM, ho, hlo2, hb⟩
  have F0 := hide1 (And.intro ho (And.intro (hlo2.1.mono S2.out.uL) (show ∀ y ∈ N, LMv lo y from fun y hy => (hlo2.2 y hy).mono S2.out.uL)))
  have HF := hide1 hM
  clear ho hM hlo2
  have T2 := hide1 (S2.out.later hb)
  have V4 := hide1 (And.intro (V3.out.1.later hb) V3.out.2)
  have M4 := hide1 (And.intro (M3.out.1.later hb) M3.out.2)
  clear hb S2 C3 x2 V3 M3
  have F4 := F0
  clear F0
  have y2 : w5.cell? ⟨O, 2, none⟩ = some (.slice none 0 0) := T2.out.ob.cell 2 rfl
  have f2 := T2.out.ob.froz 2
  have S3 := hide1 (T2.out.set 2 (.slice fa N.length fc))
  have V5 := hide1 (And.intro (show RdVs (w5.setCell ⟨O, 2, none⟩ (.slice fa N.length fc)) va M from RdVs.far V4.out.1 V4.out.2 T2.out.oL 2 _) V4.out.2)
  have M5 := hide1 (And.intro (show RdMrs (w5.setCell ⟨O, 2, none⟩ (.slice fa N.length fc)) ma L from RdMrs.gr M4.out.1 M4.out.2.1 M4.out.2.2 gw T2.out.oL) M4.out.2)
  have F5 := hide1 (And.intro (show RdMvs (w5.setCell ⟨O, 2, none⟩ (.slice fa N.length fc)) fa N from RdMvs.gr F4.out.1 F4.out.2.1 F4.out.2.2 gw T2.out.oL) F4.out.2)
  clear T2 V4 M4 F4
  go_upto_region 5 with fail
  generalize (w5.setCell ⟨O, 2, none⟩ (.slice fa N.length fc)) = w6 at S3 V5 M5 F5 ⊢
  clear y2 f2
  have x3 : w6.cell? ⟨X, 3, none⟩ = some (.slice g.ca g.C.length g.cc) := S3.out.bx.cell 3 rfl
  go_wp2_with fail
  refine (C4.out w6 S3.out.bl).mono ?_
  rintro e w7 ⟨ca, cc, rfl, ho, hb⟩
  have K0 := hide1 (And.intro (rdG_of_own encCl.len ho rfl) ((lo_of_own (m := g.C.length) ho).mono S3.out.uL))
  clear ho
  have T3 := hide1 (S3.out.later hb)
  have V6 := hide1 (And.intro (V5.out.1.later hb) V5.out.2)
  have M6 := hide1 (And.intro (M5.out.1.later hb) M5.out.2)
  have F6 := hide1 (And.intro (F5.out.1.later hb) F5.out.2)
  clear hb S3 C4 x3 V5 M5 F5
  have K6 := K0
  clear K0
  have y3 : w7.cell? ⟨O, 3, none⟩ = some (.slice none 0 0) := T3.out.ob.cell 3 rfl
  have f3 := T3.out.ob.froz 3
  have S4 := hide1 (T3.out.set 3 (.slice ca g.C.length cc))
  have V7 := hide1 (And.intro (show RdVs (w7.setCell ⟨O, 3, none⟩ (.slice ca g.C.length cc)) va M from RdVs.far V6.out.1 V6.out.2 T3.out.oL 3 _) V6.out.2)
  have M7 := hide1 (And.intro (show RdMrs (w7.setCell ⟨O, 3, none⟩ (.slice ca g.C.length cc)) ma L from RdMrs.gr M6.out.1 M6.out.2.1 M6.out.2.2 gw T3.out.oL) M6.out.2)
  have F7 := hide1 (And.intro (show RdMvs (w7.setCell ⟨O, 3, none⟩ (.slice ca g.C.length cc)) fa N from RdMvs.gr F6.out.1 F6.out.2.1 F6.out.2.2 gw T3.out.oL) F6.out.2)
  have K7 := hide1 (And.intro (show RdG clC 9 (w7.setCell ⟨O, 3, none⟩ (.slice ca g.C.length cc)) ca g.C from RdG.farX K6.out.1 3 _ (fun b f e hn => by have := K6.out.2 b f e hn; have := T3.out.oL; omega)) K6.out.2)
  clear T3 V6 M6 F6 K6
  go_upto_region 6 with fail
  generalize (w7.setCell ⟨O, 3, none⟩ (.slice ca g.C.length cc)) = w8 at S4 V7 M7 F7 K7 ⊢
  clear y3 f3
  have OB : BlkA w8 O 46 (grA ⟨va, vc, M, ma, mc, L, fa, fc, N, ca, cc, g.C⟩) := by
    have h := S4.out.ob
    rw [← eM] at h
    exact h
  have OH := hide1 OB
  have RS := hide1 S4.out.rs
  have HRR := hide1 (setRow_heap w8 R zGp (grA ⟨va, vc, M, ma, mc, L, fa, fc, N, ca, cc, g.C⟩) 46 (0, 0) S4.out.rs)
  have BB := hide1 (below_setRow S4.out.bl S4.out.lR (grA ⟨va, vc, M, ma, mc, L, fa, fc, N, ca, cc, g.C⟩))
  have RR := hide1 (show RdGp (w8.setRow R (grA ⟨va, vc, M, ma, mc, L, fa, fc, N, ca, cc, g.C⟩)) ⟨va, vc, M, ma, mc, L, fa, fc, N, ca, cc, g.C⟩ from RdGp.gr (lo := lo) (R := R) ⟨V7.out.1, M7.out.1, F7.out.1, K7.out.1⟩ V7.out.2 M7.out.2 F7.out.2 K7.out.2 (grown_setRow _ _ _) S4.out.rL)
  have ONE := hide1 (oneGp ⟨va, vc, M, ma, mc, L, fa, fc, N, ca, cc, g.C⟩)
  generalize hH : (⟨va, vc, M, ma, mc, L, fa, fc, N, ca, cc, g.C⟩ : Gv) = H at OH HRR BB RR ONE
  clear OB S4 V7 M7 F7 K7
  go_wp2_with (first | (refine wpList_load_rowG rfl 46 _ rfl O rfl 46 (grA H) _ OH.out Try.underlying46 rfl sizeGpI ?_) | (refine wpList_store_row rfl 46 _ _ rfl R (grA H) rfl rfl 46 zGp RS.out sizeGpI rfl ONE.out ?_))
  refine bodyPost_ret (results_cell_row Try.results21 _ _ R 46 (grA H) (0, 0) _ rfl HRR.out Try.underlying46 rfl sizeGpI) rfl ?_
  exact ⟨H, rfl, by subst hH; exact ⟨HV.out, HM.out, HF.out, rfl⟩, RR.out, BB.out⟩
end Go.Proofs.Ytcahaimefgkmiaa
