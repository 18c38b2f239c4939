/- RunCouncil answers as its model at every argument. -/
import Derived.Test.YtgehdgmllilmgaaRows
import Derived.ProofKit
import Derived.OpenShut
import Derived.ShutString
import Derived.ChangeOld
import Derived.Test.YtgehdgmllilmgaaMkD
import Derived.Test.YtgehdgmllilmgaaYS
import Derived.Test.YtgehdgmllilmgaaYT
import Derived.Test.YtgehdgmllilmgaaYQ
import Derived.Test.YtgehdgmllilmgaaCoRn
import Derived.Test.YtgehdgmllilmgaaLawX
namespace Go.Proofs.Ytgehdgmllilmgaa
open Go.ChangeShapes Go.WideShapes Go.ChangeAt Go.RowKit
open Go.ChangeMaps (open_string shut_string)
set_option linter.unusedVariables false

section
variable {α : Type} {enc : α → List Value} {k : Nat}
theorem RdG.laterB {B : Nat} {w w' : World} {a : Option Addr} {l : List α} (h : RdG enc k w a l) (hb : Below B w w') (hB : ∀ b o, a = some ⟨b, o, none⟩ → 0 < l.length → b < B) : RdG enc k w' a l := by
  intro i hi
  obtain ⟨b, o, ha, hg, hc⟩ := h i hi
  refine ⟨b, o, ha, Nat.lt_of_lt_of_le hg hb.size, fun j hj => ?_⟩
  rw [← hc j hj]
  exact World.cell?_of_block (hb.block b (hB b o ha (by omega)))
end
/-- Where a council's rows lie. -/
structure BdC (B : Nat) (A : CA) (c : Cn) : Prop where
  v : ∀ b o, A.va = some ⟨b, o, none⟩ → 0 < c.vs.length → b < B
  t : ∀ b o, A.ta = some ⟨b, o, none⟩ → 0 < A.L.length → b < B
  p : ∀ t ∈ A.L, (∀ b o, t.pa = some ⟨b, o, none⟩ → 0 < t.y.ps.length → b < B) ∧ ∀ b o, t.ka = some ⟨b, o, none⟩ → 0 < t.y.tk.length → b < B
  n : ∀ b o, A.na = some ⟨b, o, none⟩ → 0 < c.ns.length → b < B
  h : ∀ b o, A.ca = some ⟨b, o, none⟩ → 0 < c.ch.length → b < B
theorem RdC12.bound {lo : Nat → Prop} {w : World} {B : Nat} {A : CA} {c : Cn} (h : RdC12 lo w B A c) : BdC w.heap.size A c :=
  ⟨fun b o e hn => h.v.lt e hn, fun b o e hn => h.t.lt e hn, fun t ht => ⟨fun b o e hn => (h.r t ht).1.lt e hn, fun b o e hn => (h.r t ht).2.2.1.lt e hn⟩, fun b o e hn => h.n.lt e hn, fun b o e hn => h.c.lt e hn⟩
theorem RdC12.laterB {lo : Nat → Prop} {D : Nat} {w w' : World} {B : Nat} {A : CA} {c : Cn} (h : RdC12 lo w B A c) (hb : Below D w w') (hB : BdC D A c) : RdC12 lo w' B A c :=
  ⟨h.v.laterB hb hB.v, h.vn, h.e, h.t.laterB hb hB.t, h.tn, fun t ht => ⟨(h.r t ht).1.laterB hb (hB.p t ht).1, (h.r t ht).2.1, (h.r t ht).2.2.1.laterB hb (hB.p t ht).2, (h.r t ht).2.2.2⟩, h.n.laterB hb hB.n, h.nn, h.nl, h.c.laterB hb hB.h, h.cn⟩
set_option maxRecDepth 100000 in
set_option maxHeartbeats 8000000 in
theorem walk_FnExactRunCouncil (a0 a1 : Int) (ao : Option Addr) (l : List Hp) (ca : Nat) (w : World) (w0 : (Lit.int .i64 a0).wf = true) (w1 : (Lit.int .i64 a1).wf = true) (hR : RdG hpC 4 w ao l) (hl : l.length ≤ maxLen) (hw : ∀ s ∈ l, wfHappen s) :
    Calls Try.prog 8 #[.int .i64 a0, .int .i64 a1, .slice ao l.length ca] w fun e w' => e = .returned (.bool true) ∧ Below w.heap.size w w' := by
  clear w0 w1
  have hl9 : l.length ≤ 9223372036854775807 := by unfold maxLen at hl; omega
  have CZ := hide1 (szHappenS_any ao l ca 1048576 w (Nat.le_refl _) hl9 hR (fun i h => by have := (hw _ (List.getElem_mem h)).2.2.2; unfold maxLen at this; omega))
  have HR := hide1 hR
  clear hR hw hl hl9
  go_enter Try.func8, Try.ntmps8
  go_wp2_with fail
  refine CZ.out.mono ?_
  rintro e wz ⟨hz, hbz⟩
  clear CZ
  rcases hz with rfl | ⟨r, rfl, hr1, hr2, hr3⟩
  · go_wp2
    go_ret
    exact ⟨rfl, hbz⟩
  · have qr : ¬ ((r : Int) < 0) := by omega
    have qr2 : decide ((r : Int) < 0) = false := decide_eq_false qr
    have hz : ∀ e ∈ l, e.v.size ≤ 1048576 := fun e he => by obtain ⟨j, hj, rfl⟩ := List.getElem_of_mem he; exact hr3 j hj
    have CT := hide1 (fun W (hb : Below w.heap.size w W) => toHappenS_any ao l ca W hr2 (HR.out.later hb))
    obtain ⟨R, hRR⟩ : ∃ R, runR a0 a1 l = R := ⟨_, rfl⟩
    have hsc := run_sc hRR
    have CS := hide1 (fun W (b : Option Addr) (cb : Nat) (h : RdG hpC 4 W b l) => specRun_any a0 a1 b cb l R W hr2 hz h hRR)
    have CI := hide1 (fun W (b : Option Addr) (cb : Nat) (h : RdG hpC 4 W b l) => implRun_any a0 a1 b cb l R W hr2 hz h hRR)
    obtain ⟨c, ks, ok⟩ := R
    have HSc := hide1 (show Sc12 c from hsc.1)
    have hkl : ks.length ≤ 80 := hsc.2
    dsimp only at CS CI
    clear hRR hsc hz hr3 hr1
    have qb : (ok != ok) = false := by cases ok <;> rfl
    have E_0 := hide1 hbz
    clear hbz
    go_wp2_with fail
    refine (CT.out wz E_0.out).mono ?_
    rintro e wt ⟨tb, tc, rfl, hT, hb⟩
    have TT := hide1 (rdG_of_own encH.len hT rfl)
    have E_1 := hide1 (E_0.out.trans ((hb).mono E_0.out.size))
    clear E_0
    clear hb hT
    go_wp2_with fail
    refine (CS.out wt tb tc TT.out).mono ?_
    rintro e ws ⟨⟨A, kb, kc, rfl, hA, hK⟩, hb⟩
    have E_2 := hide1 (E_1.out.trans ((hb).mono E_1.out.size))
    clear E_1
    have A_2 := hide1 (hA ws.heap.size (.inr (Nat.le_refl _)))
    have K_2 := hide1 hK
    clear hb hA hK TT
    have FB := hide1 (And.intro (Blk.new ws 32 #[.slice A.va c.vs.length A.vc, .slice A.ta c.ts.length A.tc, .slice A.na c.ns.length A.nc, .slice A.ca c.ch.length A.cc]) ((Below.refl ws.heap.size ws).alloc (Nat.le_refl _) (.cells #[.slice A.va c.vs.length A.vc, .slice A.ta c.ts.length A.tc, .slice A.na c.ns.length A.nc, .slice A.ca c.ch.length A.cc] 32)))
    go_upto_region 6 with fail
    generalize (ws.alloc (.cells #[.slice A.va c.vs.length A.vc, .slice A.ta c.ts.length A.tc, .slice A.na c.ns.length A.nc, .slice A.ca c.ch.length A.cc] 32)) = u1 at FB ⊢
    obtain ⟨G1, hG1⟩ : ∃ G, G = ws.heap.size := ⟨_, rfl⟩
    have KB := hide1 FB.out.1
    rw [← hG1] at KB ⊢
    have E_3 := hide1 (E_2.out.trans ((FB.out.2).mono E_2.out.size))
    have A_3 := hide1 (A_2.out.later (FB.out.2))
    have K_3 := hide1 (K_2.out.later (FB.out.2))
    clear E_2
    clear A_2
    clear K_2
    have B1_3 := hide1 KB.out
    have HG1 := hide1 hG1
    clear KB FB hG1
    have LU1 := hide1 (show w.heap.size ≤ u1.heap.size from E_3.out.size)
    have BU1 := hide1 (show G1 < u1.heap.size from B1_3.out.lt)
    have AU1 := hide1 (RdC12.bound A_3.out)
    have KU1 := hide1 (fun b o (e : kb = some ⟨b, o, none⟩) (h : 0 < ks.length) => RdG.lt K_3.out e h)
    go_wp2_with fail
    refine (CT.out u1 E_3.out).mono ?_
    rintro e w6 ⟨xb, xc, rfl, hX, hb⟩
    have E_4 := hide1 (E_3.out.trans ((hb).mono E_3.out.size))
    have A_4 := hide1 (A_3.out.later (hb))
    have K_4 := hide1 (K_3.out.later (hb))
    have B1_4 := hide1 (B1_3.out.below (hb) B1_3.out.lt)
    clear E_3
    clear A_3
    clear K_3
    clear B1_3
    have X_4 := hide1 hX
    have XB6 := hide1 (show ∀ q, (Value.slice xb l.length xc).ownBlock = some q → u1.heap.size ≤ q ∧ q < w6.heap.size from fun q hq => hX.lt q hq)
    have EU1 := hide1 (show w.heap.size ≤ u1.heap.size from LU1.out)
    have lu16 : u1.heap.size ≤ w6.heap.size := hb.size
    clear hb hX
    have XR := hide1 (rdG_of_own encH.len X_4.out rfl)
    go_wp2_with fail
    refine (CI.out w6 xb xc XR.out).mono ?_
    rintro e w7 ⟨⟨M, mb, mc, rfl, hM, hN, hNI⟩, hb⟩
    have E_5 := hide1 (E_4.out.trans ((hb).mono E_4.out.size))
    have A_5 := hide1 (A_4.out.later (hb))
    have K_5 := hide1 (K_4.out.later (hb))
    have B1_5 := hide1 (B1_4.out.below (hb) B1_4.out.lt)
    have X_5 := hide1 (own_kept X_4.out (hb))
    clear E_4
    clear A_4
    clear K_4
    clear B1_4
    clear X_4
    have lw67 : w6.heap.size ≤ w7.heap.size := hb.size
    have M_5 := hide1 hM
    have N_5 := hide1 hN
    have NI := hide1 hNI
    clear hb hM hN hNI XR
    have NQ := hide1 (show ∀ q, (Value.slice mb ks.length mc).ownBlock = some q → ¬ InA M q from fun q hq => by obtain ⟨y, hy, ey⟩ := ownBlk hq; rw [← ey]; exact NI.out y hy)
    have NB7 := hide1 (show ∀ q, (Value.slice mb ks.length mc).ownBlock = some q → q < w7.heap.size from fun q hq => (N_5.out.lt q hq).2)
    have NE7 := hide1 (show G1 < w7.heap.size from B1_5.out.lt)
    have NG7 := hide1 (show ¬ InA M w7.heap.size from fun e => by have := (M_5.out.inA e).2; omega)
    have FB := hide1 (And.intro (Blk.new w7 32 #[.slice M.va c.vs.length M.vc, .slice M.ta c.ts.length M.tc, .slice M.na c.ns.length M.nc, .slice M.ca c.ch.length M.cc]) ((Below.refl w7.heap.size w7).alloc (Nat.le_refl _) (.cells #[.slice M.va c.vs.length M.vc, .slice M.ta c.ts.length M.tc, .slice M.na c.ns.length M.nc, .slice M.ca c.ch.length M.cc] 32)))
    go_upto_region 8 with fail
    generalize (w7.alloc (.cells #[.slice M.va c.vs.length M.vc, .slice M.ta c.ts.length M.tc, .slice M.na c.ns.length M.nc, .slice M.ca c.ch.length M.cc] 32)) = u2 at FB ⊢
    obtain ⟨G2, hG2⟩ : ∃ G, G = w7.heap.size := ⟨_, rfl⟩
    have KB := hide1 FB.out.1
    rw [← hG2] at KB ⊢
    have E_6 := hide1 (E_5.out.trans ((FB.out.2).mono E_5.out.size))
    have A_6 := hide1 (A_5.out.later (FB.out.2))
    have K_6 := hide1 (K_5.out.later (FB.out.2))
    have B1_6 := hide1 (B1_5.out.below (FB.out.2) B1_5.out.lt)
    have X_6 := hide1 (own_kept X_5.out (FB.out.2))
    have M_6 := hide1 (M_5.out.kept (FB.out.2))
    have N_6 := hide1 (own_kept N_5.out (FB.out.2))
    clear E_5
    clear A_5
    clear K_5
    clear B1_5
    clear X_5
    clear M_5
    clear N_5
    have B2_6 := hide1 KB.out
    have HG2 := hide1 hG2
    clear KB FB hG2
    have NG2 := hide1 (show ¬ InA M G2 from fun e => NG7.out (HG2.out ▸ e))
    have HL := hide1 (show M.L.length = c.ts.length from M_6.out.len)
    have SM := hide1 (HSc.out.sm M_6.out.e)
    have NE12 := hide1 (show G1 ≠ G2 from fun e => by have h1 := NE7.out; have h2 := HG2.out; omega)
    have lG12 : G1 ≠ G2 := fun e => NE12.out e
    have B2c0 := (cells4 B2_6.out).1
    have B2c1 := (cells4 B2_6.out).2.1
    have B2c2 := (cells4 B2_6.out).2.2.1
    have B2c3 := (cells4 B2_6.out).2.2.2
    have B1c0 := (cells4 B1_6.out).1
    have B1c1 := (cells4 B1_6.out).2.1
    have B1c2 := (cells4 B1_6.out).2.2.1
    have B1c3 := (cells4 B1_6.out).2.2.2
    go_wp2_with fail
    refine (eqCouncil_same (lo := fun _ => True) c M A u2.heap.size ws.heap.size (fun _ => True) u2 HSc.out.eq (OwC.rd M_6.out (.inr (Nat.le_refl _)) (LoLe.all _)) A_6.out).mono ?_
    rintro e w8 ⟨rfl, hb⟩
    clear B2c0 B2c1 B2c2 B2c3 B1c0 B1c1 B1c2 B1c3
    have E_7 := hide1 (E_6.out.trans ((hb).mono E_6.out.size))
    have A_7 := hide1 (A_6.out.later (hb))
    have K_7 := hide1 (K_6.out.later (hb))
    have B1_7 := hide1 (B1_6.out.below (hb) B1_6.out.lt)
    have X_7 := hide1 (own_kept X_6.out (hb))
    have M_7 := hide1 (M_6.out.kept (hb))
    have N_7 := hide1 (own_kept N_6.out (hb))
    have B2_7 := hide1 (B2_6.out.below (hb) B2_6.out.lt)
    clear E_6
    clear A_6
    clear K_6
    clear B1_6
    clear X_6
    clear M_6
    clear N_6
    clear B2_6
    clear hb
    go_wp2_with fail
    refine (eqIntS_own mb kb ks mc kc w8 (by omega) (rdZ_of (rdG_of_own encZ.len N_7.out rfl)) (rdZ_of K_7.out)).mono ?_
    rintro e w9 ⟨rfl, hb⟩
    have E_8 := hide1 (E_7.out.trans ((hb).mono E_7.out.size))
    have A_8 := hide1 (A_7.out.later (hb))
    have K_8 := hide1 (K_7.out.later (hb))
    have B1_8 := hide1 (B1_7.out.below (hb) B1_7.out.lt)
    have X_8 := hide1 (own_kept X_7.out (hb))
    have M_8 := hide1 (M_7.out.kept (hb))
    have N_8 := hide1 (own_kept N_7.out (hb))
    have B2_8 := hide1 (B2_7.out.below (hb) B2_7.out.lt)
    clear E_7
    clear A_7
    clear K_7
    clear B1_7
    clear X_7
    clear M_7
    clear N_7
    clear B2_7
    clear hb
    go_wp2_with fail
    refine (CT.out w9 E_8.out).mono ?_
    rintro e wa ⟨yb, yc, rfl, hY, hb⟩
    have E_9 := hide1 (E_8.out.trans ((hb).mono E_8.out.size))
    have A_9 := hide1 (A_8.out.later (hb))
    have K_9 := hide1 (K_8.out.later (hb))
    have B1_9 := hide1 (B1_8.out.below (hb) B1_8.out.lt)
    have X_9 := hide1 (own_kept X_8.out (hb))
    have M_9 := hide1 (M_8.out.kept (hb))
    have N_9 := hide1 (own_kept N_8.out (hb))
    have B2_9 := hide1 (B2_8.out.below (hb) B2_8.out.lt)
    clear E_8
    clear A_8
    clear K_8
    clear B1_8
    clear X_8
    clear M_8
    clear N_8
    clear B2_8
    have YR := hide1 (rdG_of_own encH.len hY rfl)
    clear hb hY
    go_wp2_with fail
    refine (eqHappenS_same xb yb l xc yc wa hr2 (rdG_of_own encH.len X_9.out rfl) YR.out).mono ?_
    rintro e wb ⟨rfl, hb⟩
    have E_10 := hide1 (E_9.out.trans ((hb).mono E_9.out.size))
    have A_10 := hide1 (A_9.out.later (hb))
    have K_10 := hide1 (K_9.out.later (hb))
    have B1_10 := hide1 (B1_9.out.below (hb) B1_9.out.lt)
    have X_10 := hide1 (own_kept X_9.out (hb))
    have M_10 := hide1 (M_9.out.kept (hb))
    have N_10 := hide1 (own_kept N_9.out (hb))
    have B2_10 := hide1 (B2_9.out.below (hb) B2_9.out.lt)
    clear E_9
    clear A_9
    clear K_9
    clear B1_9
    clear X_9
    clear M_9
    clear N_9
    clear B2_9
    clear hb YR
    go_wp2_with fail
    refine (markHappenS_any (.slice xb l.length xc) l.length 1 (rowG hpC l) u1.heap.size wb hr2 (by omega) (by omega) X_10.out).mono ?_
    rintro e wc ⟨rfl, hX, hg⟩
    have q0 : decide (1 + 4 * (l.length : Int) < 0) = false := decide_eq_false (by omega)
    have q1 : ¬ (1 + 4 * (l.length : Int) < 0) := by omega
    have XB := hide1 (show ∀ q, (Value.slice xb l.length xc).ownBlock = some q → u1.heap.size ≤ q ∧ q < w6.heap.size from XB6.out)
    have gl := gbelow (B := u1.heap.size) hg (fun q hq => (XB.out q hq).1) (by have := X_10.out; have := B2_10.out.lt; have := HG2.out; omega)
    have E_11 := hide1 (E_10.out.trans (gl.mono EU1.out))
    have A_11 := hide1 (A_10.out.laterB gl AU1.out)
    have K_11 := hide1 (RdG.laterB K_10.out gl KU1.out)
    have B1_11 := hide1 (B1_10.out.below gl BU1.out)
    have B2_11 := hide1 (gblk hg B2_10.out (fun e => by have := (XB.out _ e).2; have := HG2.out; omega))
    have M_11 := hide1 (M_10.out.farG hg (fun q hq e => by have := (XB.out q hq).2; have := (M_10.out.inA e).1; omega))
    have N_11 := hide1 (gown hg N_10.out (fun q hq e => by have := (XB.out q e).2; have := (N_10.out.lt q hq).1; omega))
    clear E_10 A_10 K_10 B1_10 B2_10 M_10 N_10 X_10 hX hg gl
    have B2c0 := (cells4 B2_11.out).1
    have B2c1 := (cells4 B2_11.out).2.1
    have B2c2 := (cells4 B2_11.out).2.2.1
    have B2c3 := (cells4 B2_11.out).2.2.2
    have B1c0 := (cells4 B1_11.out).1
    have B1c1 := (cells4 B1_11.out).2.1
    have B1c2 := (cells4 B1_11.out).2.2.1
    have B1c3 := (cells4 B1_11.out).2.2.2
    go_wp2_with fail
    refine (eqCouncil_same (lo := fun _ => True) c M A wc.heap.size ws.heap.size (fun _ => True) wc HSc.out.eq (OwC.rd M_11.out (.inr (Nat.le_refl _)) (LoLe.all _)) A_11.out).mono ?_
    rintro e wd ⟨rfl, hb⟩
    clear B2c0 B2c1 B2c2 B2c3 B1c0 B1c1 B1c2 B1c3
    have E_12 := hide1 (E_11.out.trans ((hb).mono E_11.out.size))
    have A_12 := hide1 (A_11.out.later (hb))
    have K_12 := hide1 (K_11.out.later (hb))
    have B1_12 := hide1 (B1_11.out.below (hb) B1_11.out.lt)
    have M_12 := hide1 (M_11.out.kept (hb))
    have N_12 := hide1 (own_kept N_11.out (hb))
    have B2_12 := hide1 (B2_11.out.below (hb) B2_11.out.lt)
    clear E_11
    clear A_11
    clear K_11
    clear B1_11
    clear M_11
    clear N_11
    clear B2_11
    clear hb
    go_wp2_with fail
    refine (eqIntS_own mb kb ks mc kc wd (by omega) (rdZ_of (rdG_of_own encZ.len N_12.out rfl)) (rdZ_of K_12.out)).mono ?_
    rintro e we ⟨rfl, hb⟩
    have E_13 := hide1 (E_12.out.trans ((hb).mono E_12.out.size))
    have A_13 := hide1 (A_12.out.later (hb))
    have K_13 := hide1 (K_12.out.later (hb))
    have B1_13 := hide1 (B1_12.out.below (hb) B1_12.out.lt)
    have M_13 := hide1 (M_12.out.kept (hb))
    have N_13 := hide1 (own_kept N_12.out (hb))
    have B2_13 := hide1 (B2_12.out.below (hb) B2_12.out.lt)
    clear E_12
    clear A_12
    clear K_12
    clear B1_12
    clear M_12
    clear N_12
    clear B2_12
    clear hb
    have B2c0 := (cells4 B2_13.out).1
    have B2c1 := (cells4 B2_13.out).2.1
    have B2c2 := (cells4 B2_13.out).2.2.1
    have B2c3 := (cells4 B2_13.out).2.2.2
    go_wp2_with fail
    refine (markCouncil_own M c 1 w6.heap.size we SM.out (by omega) (by omega) M_13.out (by have := E_13.out.size; have := (B2_13.out.lt); have := HG2.out; omega)).mono ?_
    rintro e wf ⟨rfl, ho, fr⟩
    clear B2c0 B2c1 B2c2 B2c3
    have fb := M_13.out.frB fr (by have := (B2_13.out.lt); have := HG2.out; omega)
    have l16 : u1.heap.size ≤ w6.heap.size := lu16
    have E_14 := hide1 (E_13.out.trans (fb.mono (Nat.le_trans EU1.out l16)))
    have A_14 := hide1 (A_13.out.laterB (fb.mono l16) AU1.out)
    have K_14 := hide1 (RdG.laterB K_13.out (fb.mono l16) KU1.out)
    have B1_14 := hide1 (B1_13.out.below (fb.mono l16) BU1.out)
    have B2_14 := hide1 (fr.blk B2_13.out NG2.out)
    have M_14 := hide1 ho
    have N_14 := hide1 (fr.ownR N_13.out NQ.out)
    clear E_13 A_13 K_13 B1_13 B2_13 M_13 N_13 ho fr fb
    have hmb : mkE 1 M c ≤ 1030000 := by have := SM.out.kt (k := 1) (by omega); have := SM.out.n; have := SM.out.c; unfold mkE; omega
    obtain ⟨me, hme⟩ : ∃ q, mkE 1 M c = q := ⟨_, rfl⟩
    rw [hme] at hmb ⊢
    have HME := hide1 hme
    clear hme
    go_wp2_with fail
    refine (markIntS_any mb mc me w6.heap.size ks wf (by omega) (by omega) (by rw [iz_row]; exact N_14.out)).mono ?_
    rintro e wg ⟨rfl, ho, hg⟩
    have gl := gbelow (B := w6.heap.size) hg (fun q hq => (N_14.out.lt q hq).1) (by have := (B2_14.out.lt); have := HG2.out; omega)
    have E_15 := hide1 (E_14.out.trans (gl.mono (Nat.le_trans EU1.out l16)))
    have A_15 := hide1 (A_14.out.laterB (gl.mono l16) AU1.out)
    have K_15 := hide1 (RdG.laterB K_14.out (gl.mono l16) KU1.out)
    have B1_15 := hide1 (B1_14.out.below (gl.mono l16) BU1.out)
    have B2_15 := hide1 (gblk hg B2_14.out (fun e => by have := (NB7.out _ e); have := HG2.out; omega))
    have M_15 := hide1 (M_14.out.farG hg (fun q hq e => NQ.out q hq (mkA_in e)))
    have N_15 := hide1 (show RdZ wg mb (patZ me ks.length) from rdZ_of_own (by simpa [patZ_length] using (show wg.ownsRow w6.heap.size 3 1 (.slice mb (patZ me ks.length).length mc) (patZ me ks.length).length (iz (patZ me ks.length)) by rw [patZ_length]; exact ho)))
    have qm : (((me : Int) + (ks.length : Int)) != ((me : Int) + (ks.length : Int))) = false := by simp
    have qn : decide ((me : Int) < 0) = false := decide_eq_false (by omega)
    have qn2 : ¬ ((me : Int) < 0) := by omega
    have qk : decide ((me : Int) + (ks.length : Int) < 0) = false := decide_eq_false (by omega)
    have qk2 : ¬ ((me : Int) + (ks.length : Int) < 0) := by omega
    clear E_14 A_14 K_14 B1_14 B2_14 M_14 N_14 ho hg gl
    have B2c0 := (cells4 B2_15.out).1
    have B2c1 := (cells4 B2_15.out).2.1
    have B2c2 := (cells4 B2_15.out).2.2.1
    have B2c3 := (cells4 B2_15.out).2.2.2
    go_wp2_with fail
    refine (heldCouncil_own M c 1 (fun _ => True) wg.heap.size wg SM.out HL.out (by omega) (by omega) (OwC.rd M_15.out (.inr (Nat.le_refl _)) (LoLe.all _))).mono ?_
    rintro e wh ⟨rfl, hb⟩
    clear B2c0 B2c1 B2c2 B2c3
    have E_16 := hide1 (E_15.out.trans ((hb).mono E_15.out.size))
    have A_16 := hide1 (A_15.out.later (hb))
    have K_16 := hide1 (K_15.out.later (hb))
    have B1_16 := hide1 (B1_15.out.below (hb) B1_15.out.lt)
    have M_16 := hide1 (M_15.out.kept (hb))
    have N_16 := hide1 (N_15.out.later (hb))
    have B2_16 := hide1 (B2_15.out.below (hb) B2_15.out.lt)
    clear E_15
    clear A_15
    clear K_15
    clear B1_15
    clear M_15
    clear N_15
    clear B2_15
    clear hb
    rw [HME.out]
    go_wp2_with fail
    refine (heldIntS_any mb ks.length mc me wh (by omega) (by omega) N_16.out).mono ?_
    rintro e wi ⟨rfl, rfl⟩
    go_wp2_with fail
    refine (CT.out wi E_16.out).mono ?_
    rintro e wj ⟨zb, zc, rfl, hZ, hb⟩
    have E_17 := hide1 (E_16.out.trans ((hb).mono E_16.out.size))
    have A_17 := hide1 (A_16.out.later (hb))
    have K_17 := hide1 (K_16.out.later (hb))
    have B1_17 := hide1 (B1_16.out.below (hb) B1_16.out.lt)
    have M_17 := hide1 (M_16.out.kept (hb))
    have N_17 := hide1 (N_16.out.later (hb))
    have B2_17 := hide1 (B2_16.out.below (hb) B2_16.out.lt)
    clear E_16
    clear A_16
    clear K_16
    clear B1_16
    clear M_16
    clear N_16
    clear B2_16
    have ZR := hide1 (rdG_of_own encH.len hZ rfl)
    clear hb hZ
    go_wp2_with fail
    refine (CI.out wj zb zc ZR.out).mono ?_
    rintro e wk ⟨⟨P, pb, pc, rfl, hM, hN, hNI⟩, hb⟩
    have E_18 := hide1 (E_17.out.trans ((hb).mono E_17.out.size))
    have A_18 := hide1 (A_17.out.later (hb))
    have K_18 := hide1 (K_17.out.later (hb))
    have B1_18 := hide1 (B1_17.out.below (hb) B1_17.out.lt)
    have M_18 := hide1 (M_17.out.kept (hb))
    have N_18 := hide1 (N_17.out.later (hb))
    have B2_18 := hide1 (B2_17.out.below (hb) B2_17.out.lt)
    clear E_17
    clear A_17
    clear K_17
    clear B1_17
    clear M_17
    clear N_17
    clear B2_17
    have P_18 := hide1 hM
    have Q_18 := hide1 hN
    clear hb hM hN hNI ZR
    have FB := hide1 (And.intro (Blk.new wk 32 #[.slice P.va c.vs.length P.vc, .slice P.ta c.ts.length P.tc, .slice P.na c.ns.length P.nc, .slice P.ca c.ch.length P.cc]) ((Below.refl wk.heap.size wk).alloc (Nat.le_refl _) (.cells #[.slice P.va c.vs.length P.vc, .slice P.ta c.ts.length P.tc, .slice P.na c.ns.length P.nc, .slice P.ca c.ch.length P.cc] 32)))
    go_upto_region 29 with fail
    generalize (wk.alloc (.cells #[.slice P.va c.vs.length P.vc, .slice P.ta c.ts.length P.tc, .slice P.na c.ns.length P.nc, .slice P.ca c.ch.length P.cc] 32)) = u3 at FB ⊢
    obtain ⟨G3, hG3⟩ : ∃ G, G = wk.heap.size := ⟨_, rfl⟩
    have KB := hide1 FB.out.1
    rw [← hG3] at KB ⊢
    have E_19 := hide1 (E_18.out.trans ((FB.out.2).mono E_18.out.size))
    have A_19 := hide1 (A_18.out.later (FB.out.2))
    have K_19 := hide1 (K_18.out.later (FB.out.2))
    have B1_19 := hide1 (B1_18.out.below (FB.out.2) B1_18.out.lt)
    have M_19 := hide1 (M_18.out.kept (FB.out.2))
    have N_19 := hide1 (N_18.out.later (FB.out.2))
    have B2_19 := hide1 (B2_18.out.below (FB.out.2) B2_18.out.lt)
    have P_19 := hide1 (P_18.out.kept (FB.out.2))
    have Q_19 := hide1 (own_kept Q_18.out (FB.out.2))
    clear E_18
    clear A_18
    clear K_18
    clear B1_18
    clear M_18
    clear N_18
    clear B2_18
    clear P_18
    clear Q_18
    have B3_19 := hide1 KB.out
    have HG3 := hide1 hG3
    clear KB FB hG3
    have B3c0 := (cells4 B3_19.out).1
    have B3c1 := (cells4 B3_19.out).2.1
    have B3c2 := (cells4 B3_19.out).2.2.1
    have B3c3 := (cells4 B3_19.out).2.2.2
    have B1c0 := (cells4 B1_19.out).1
    have B1c1 := (cells4 B1_19.out).2.1
    have B1c2 := (cells4 B1_19.out).2.2.1
    have B1c3 := (cells4 B1_19.out).2.2.2
    go_wp2_with fail
    refine (eqCouncil_same (lo := fun _ => True) c P A u3.heap.size ws.heap.size (fun _ => True) u3 HSc.out.eq (OwC.rd P_19.out (.inr (Nat.le_refl _)) (LoLe.all _)) A_19.out).mono ?_
    rintro e wl ⟨rfl, hb⟩
    clear B3c0 B3c1 B3c2 B3c3 B1c0 B1c1 B1c2 B1c3
    have E_20 := hide1 (E_19.out.trans ((hb).mono E_19.out.size))
    have A_20 := hide1 (A_19.out.later (hb))
    have K_20 := hide1 (K_19.out.later (hb))
    have B1_20 := hide1 (B1_19.out.below (hb) B1_19.out.lt)
    have M_20 := hide1 (M_19.out.kept (hb))
    have N_20 := hide1 (N_19.out.later (hb))
    have B2_20 := hide1 (B2_19.out.below (hb) B2_19.out.lt)
    have P_20 := hide1 (P_19.out.kept (hb))
    have Q_20 := hide1 (own_kept Q_19.out (hb))
    have B3_20 := hide1 (B3_19.out.below (hb) B3_19.out.lt)
    clear E_19
    clear A_19
    clear K_19
    clear B1_19
    clear M_19
    clear N_19
    clear B2_19
    clear P_19
    clear Q_19
    clear B3_19
    clear hb
    go_wp2_with fail
    refine (eqIntS_own pb kb ks pc kc wl (by omega) (rdZ_of (rdG_of_own encZ.len Q_20.out rfl)) (rdZ_of K_20.out)).mono ?_
    rintro e wm ⟨rfl, hb⟩
    have E_21 := hide1 (E_20.out.trans ((hb).mono E_20.out.size))
    have A_21 := hide1 (A_20.out.later (hb))
    have K_21 := hide1 (K_20.out.later (hb))
    have B1_21 := hide1 (B1_20.out.below (hb) B1_20.out.lt)
    have M_21 := hide1 (M_20.out.kept (hb))
    have N_21 := hide1 (N_20.out.later (hb))
    have B2_21 := hide1 (B2_20.out.below (hb) B2_20.out.lt)
    have P_21 := hide1 (P_20.out.kept (hb))
    have Q_21 := hide1 (own_kept Q_20.out (hb))
    have B3_21 := hide1 (B3_20.out.below (hb) B3_20.out.lt)
    clear E_20
    clear A_20
    clear K_20
    clear B1_20
    clear M_20
    clear N_20
    clear B2_20
    clear P_20
    clear Q_20
    clear B3_20
    clear hb
    have B2c0 := (cells4 B2_21.out).1
    have B2c1 := (cells4 B2_21.out).2.1
    have B2c2 := (cells4 B2_21.out).2.2.1
    have B2c3 := (cells4 B2_21.out).2.2.2
    go_wp2_with fail
    refine (heldCouncil_own M c 1 (fun _ => True) wm.heap.size wm SM.out HL.out (by omega) (by omega) (OwC.rd M_21.out (.inr (Nat.le_refl _)) (LoLe.all _))).mono ?_
    rintro e wn ⟨rfl, hb⟩
    clear B2c0 B2c1 B2c2 B2c3
    have E_22 := hide1 (E_21.out.trans ((hb).mono E_21.out.size))
    have A_22 := hide1 (A_21.out.later (hb))
    have K_22 := hide1 (K_21.out.later (hb))
    have B1_22 := hide1 (B1_21.out.below (hb) B1_21.out.lt)
    have M_22 := hide1 (M_21.out.kept (hb))
    have N_22 := hide1 (N_21.out.later (hb))
    have B2_22 := hide1 (B2_21.out.below (hb) B2_21.out.lt)
    have P_22 := hide1 (P_21.out.kept (hb))
    have Q_22 := hide1 (own_kept Q_21.out (hb))
    have B3_22 := hide1 (B3_21.out.below (hb) B3_21.out.lt)
    clear E_21
    clear A_21
    clear K_21
    clear B1_21
    clear M_21
    clear N_21
    clear B2_21
    clear P_21
    clear Q_21
    clear B3_21
    clear hb
    rw [HME.out]
    go_wp2_with fail
    refine (heldIntS_any mb ks.length mc me wn (by omega) (by omega) N_22.out).mono ?_
    rintro e wo ⟨rfl, rfl⟩
    go_wp2
    go_ret
    exact ⟨rfl, E_22.out⟩

set_option maxRecDepth 100000 in
theorem lifted_FnExactRunCouncil (os : Os) (started : os.Started) (H : Type) (enc : TypeId × Value → H) :
    ReturnsInHanded {} Try.checked os 8 .any (Rows.fnExactRunCouncilSpec.pre6 enc Try.prog Try.f8 Rows.fnExactRunCouncilRow.domain false) (Rows.fnExactRunCouncilSpec.post enc Try.prog Try.f8 false true false false) := by
  refine returnsInHanded_of_change (C := Try.checked) (show ownKnob Try.prog.godebug = none by kernel_rfl) started (by kernel_rfl) Try.func8
    (ChangeSpec.witness6 (enc := enc) (C := Try.checked) false ⟨#[], #[.int .i64 0, .int .i64 0, .slice none 0 0], []⟩ 8 (by kernel_rfl) (by kernel_rfl) (by kernel_rfl) (by kernel_rfl)) ?_
  intro W base args ds gs before hval0 hW hcnd _
  have hval : ∀ (j : Nat) t v, Try.f8.params[j]? = some t → args[j]? = some v → Value.okWide Try.prog W .any base t v := hval0
  have hW' := hW
  obtain ⟨p, q, hA0, hV, rfl, hfz, hnd⟩ := hW
  have hA : DataW.TrodAll enc Try.prog W 0 (fun _ => true) true Try.f8.params.toList args.toList ds p := hA0
  rw [Try.params8] at hA hval
  obtain ⟨v0, vs0, d0, ds0, p0, q0, hargs, rfl, rfl, h0, r0⟩ := trodAll_cons hA
  obtain ⟨v1, vs1, d1, ds1, p1, q1, rfl, rfl, rfl, h1, r1⟩ := trodAll_cons r0
  obtain ⟨v2, vs2, d2, ds2, p2, q2, rfl, rfl, rfl, h2, r2⟩ := trodAll_cons r1
  obtain ⟨rfl, rfl, rfl⟩ := trodAll_nil r2
  obtain rfl : args = #[v0, v1, v2] := by cases args; simp_all
  obtain ⟨rfl, rfl⟩ := trodVars_none hV
  obtain ⟨a0, rfl, rfl, rfl, w0⟩ := open_int Try.underlying3 (hval 0 3 v0 rfl rfl) h0
  obtain ⟨a1, rfl, rfl, rfl, w1⟩ := open_int Try.underlying3 (hval 1 3 v1 rfl rfl) h1
  have k2 := h2
  have lt2 : ∀ x ∈ p2, x.block < W.heap.size := by obtain ⟨m, hm⟩ := k2; exact DataW.trod_lt m _ _ _ hm
  obtain ⟨ao2, l2, ca2, rfl, hR2, hl2, hw2⟩ := open_happens (hval 2 55 v2 rfl rfl) h2
  clear hA0 hval0
  try simp only [List.append_nil] at hW'
  refine (walk_FnExactRunCouncil a0 a1 ao2 l2 ca2 W w0 w1 hR2 hl2 hw2).mono fun e W' ⟨he, bel⟩ => ?_
  subst he
  exact ⟨_, rfl, _, _, _, [], _, [], hW', trodAll_mk1 (shut_bool Try.underlying4 _), (trodAll_cons_mk (shut_int Try.underlying3 w0) (trodAll_cons_mk (shut_int Try.underlying3 w1) (trodAll_cons_mk (Below.trod (show laidOutB Try.prog = true by kernel_rfl) (by kernel_rfl) (of_decide_eq_true (by kernel_rfl)) k2 bel lt2) trodAll_mk0))), rfl, bel.frame _, fun h => by cases h⟩

theorem proved_FnExactRunCouncil : Rows.FnExactRunCouncilSaid :=
  OpenClaim.holds_of_wide 8 Try.f8 rfl rfl rfl rfl rfl rfl rfl ⟨rfl, rfl, rfl, rfl, rfl⟩ rfl rfl rfl rfl rfl (by kernel_rfl) Try.func8 (by kernel_rfl)
    (of_decide_eq_true (by kernel_rfl)) (by unfold Func.isWrapper; first | (rw [if_pos (by decide +kernel)]; kernel_rfl) | (rw [if_neg (by decide +kernel)]; exact ⟨rfl, rfl⟩))
    (fun os started H enc _ => lifted_FnExactRunCouncil os started H enc)
#print axioms proved_FnExactRunCouncil
end Go.Proofs.Ytgehdgmllilmgaa
