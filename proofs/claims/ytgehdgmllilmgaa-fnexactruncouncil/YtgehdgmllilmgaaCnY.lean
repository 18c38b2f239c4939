/- The program's RunCouncil. -/
import Derived.Test.YtgehdgmllilmgaaYX
import Derived.Test.YtgehdgmllilmgaaCnI
import Derived.Test.YtgehdgmllilmgaaYS
namespace Go.Proofs.Ytgehdgmllilmgaa
open Go.RowKit
set_option linter.unusedVariables false

theorem resC3 {P : Program} {fn : Func} {p u v : Tmp} {ty : TypeId} (h : fn.results = #[.cell p ty, .tmp u, .tmp v]) (tmps : Array Value) (w : World) (g : Nat) (t : TypeId) (cs : Array Value) (fr : Nat × Nat) (d : TypeDesc)
    (hp : tmps.getD p undef = .pointer (some ⟨g, 0, none⟩)) (hg : w.heap[g]? = some (.cells cs t fr))
    (hu : P.underlying ty = some d) (hd : (match d with | .struct _ | .array _ _ => true | _ => false) = true) (hi : (P.info? ty).map (·.size) = some cs.size) :
    (results fn tmps).run P w = .ok (.tuple #[.agg cs, tmps.getD u undef, tmps.getD v undef]) w := by
  have hp' : tmps[p]?.getD undef = .pointer (some ⟨g, 0, none⟩) := by simpa using hp
  simp [results, h, hp', asAddr, run_loadVar_row w g t ty cs fr d hg hu hd hi]
theorem nil_slot (i : Nat) : slot nilA i = none := by
  match i with
  | 0 => rfl
  | 1 => rfl
  | 2 => rfl
  | 3 => rfl
  | k + 4 => rfl
theorem nil_in {G : Nat} (h : InA nilA G) : False := by
  obtain ⟨j, x, hx, _⟩ := h
  rw [nil_slot] at hx
  cases hx
set_option maxRecDepth 100000 in
set_option maxHeartbeats 4000000 in
theorem implRun_any (v t : Int) (a : Option Addr) (ca : Nat) (es : List Hp) (R : Cn × List Int × Bool) (w : World) (hl : es.length ≤ 1048576) (hz : ∀ e ∈ es, e.v.size ≤ 1048576) (hR : RdG hpC 4 w a es) (hRR : runR v t es = R) :
    Calls Try.prog 12 #[.int .i64 v, .int .i64 t, .slice a es.length ca] w fun r w' => (∃ (A : CA) (b : Option Addr) (cb : Nat), r = .returned (.tuple #[.agg #[.slice A.va R.1.vs.length A.vc, .slice A.ta R.1.ts.length A.tc, .slice A.na R.1.ns.length A.nc, .slice A.ca R.1.ch.length A.cc], .slice b R.2.1.length cb, .bool R.2.2]) ∧ OwC w.heap.size w' A R.1 ∧ w'.ownsRow w.heap.size 3 1 (.slice b R.2.1.length cb) R.2.1.length (rowG izE R.2.1) ∧ ∀ x, b = some x → ¬ InA A x.block) ∧ Below w.heap.size w w' := by
  have F0 := hide1 (And.intro (Blk.new w 32 #[.slice none 0 0, .slice none 0 0, .slice none 0 0, .slice none 0 0]) ((Below.refl w.heap.size w).alloc (Nat.le_refl _) (.cells #[.slice none 0 0, .slice none 0 0, .slice none 0 0, .slice none 0 0] 32)))
  have CN := hide1 (fun w' => implNewO_any v t w')
  have CF := hide1 (fun w' (hb : Below w.heap.size w w') => implOkHs_any a ca es t w' hl hz (hR.later hb))
  have HR := hide1 hR
  have HZ := hide1 hz
  clear hR hz
  go_enter Try.func12, Try.ntmps12
  go_wp2_with fail
  generalize (w.alloc (.cells #[.slice none 0 0, .slice none 0 0, .slice none 0 0, .slice none 0 0] 32)) = u at F0 ⊢
  refine (CN.out u).mono ?_
  rintro r w1 ⟨⟨A, rfl, hO⟩, hb1⟩
  have O1 := hide1 hO
  have B1 := hide1 hb1
  have KR := hide1 (F0.out.1.below hb1 F0.out.1.lt)
  have BW := hide1 (F0.out.2.trans (hb1.mono F0.out.2.size))
  have lRu : w.heap.size < u.heap.size := F0.out.1.lt
  clear hO hb1 F0 CN
  obtain ⟨RB, hRB⟩ : ∃ G, G = w.heap.size := ⟨_, rfl⟩
  have HRB := hide1 hRB
  rw [← hRB] at KR
  rw [show ({block := w.heap.size, off := 0} : Addr) = ⟨RB, 0, none⟩ by rw [hRB]]
  have lR1 : RB < w1.heap.size := KR.out.lt
  clear hRB
  unfold cnC
  generalize hcc : newC v t = c at *
  have FC := hide1 (And.intro (Blk.new w1 32 #[.slice A.va c.vs.length A.vc, .slice A.ta c.ts.length A.tc, .slice A.na c.ns.length A.nc, .slice A.ca c.ch.length A.cc]) ((Below.refl w1.heap.size w1).alloc (Nat.le_refl _) (.cells #[.slice A.va c.vs.length A.vc, .slice A.ta c.ts.length A.tc, .slice A.na c.ns.length A.nc, .slice A.ca c.ch.length A.cc] 32)))
  by_cases co : okNew v t
  · have E2 := hide1 (decide_eq_true co)
    rw [E2.out]
    obtain ⟨⟨v1, v2⟩, t1, t2⟩ := id co
    obtain ⟨vn, hvn⟩ : ∃ n : Nat, v = (n : Int) := ⟨v.toNat, by omega⟩
    obtain ⟨tn, htn⟩ : ∃ n : Nat, t = (n : Int) := ⟨t.toNat, by omega⟩
    subst hvn htn
    have HNC := hide1 (show c = newCn vn tn by rw [← hcc]; unfold newC; rw [if_pos co, Int.toNat_natCast, Int.toNat_natCast])
    go_wp2_with fail
    generalize (w1.alloc (.cells #[.slice A.va c.vs.length A.vc, .slice A.ta c.ts.length A.tc, .slice A.na c.ns.length A.nc, .slice A.ca c.ch.length A.cc] 32)) = w2 at FC ⊢
    have KR2 := hide1 (KR.out.below FC.out.2 lR1)
    have BW2 := hide1 (BW.out.trans (FC.out.2.mono BW.out.size))
    obtain ⟨B, hB⟩ : ∃ B, B = w1.heap.size := ⟨_, rfl⟩
    have KB2 := hide1 FC.out.1
    rw [← hB] at KB2 ⊢
    have O2 := hide1 (O1.out.kept FC.out.2)
    have NB := hide1 (show ¬ InA A B ∧ ¬ InA A RB from ⟨fun e => by have := (O1.out.inA e).2; omega, fun e => by have := (O1.out.inA e).1; have := HRB.out; omega⟩)
    have hRBB : RB ≠ B := by omega
    have luw : w.heap.size ≤ u.heap.size := by omega
    have lu1 : u.heap.size ≤ w1.heap.size := B1.out.size
    have lB2 : u.heap.size ≤ B := by omega
    refine (CF.out w2 BW2.out).mono ?_
    rintro r w3 ⟨rfl, hb3⟩
    have D3 := hide1 hb3
    have KR3 := hide1 (KR2.out.below hb3 KR2.out.lt)
    have BW3 := hide1 (BW2.out.trans (hb3.mono BW2.out.size))
    clear hb3
    by_cases ce : okHps (tn : Int) es
    · rw [decide_eq_true ce]
      have ER := hide1 (show R = ((runC (newCn vn tn) es).1, (runC (newCn vn tn) es).2, true) by rw [← hRR]; unfold runR; rw [if_pos ⟨co, ce⟩, Int.toNat_natCast, Int.toNat_natCast])
      have hn80 := ce.1
      have HCE := hide1 ce.2
      have V3 := hide1 (show VaO u.heap.size w3 B A c from ⟨KB2.out.below D3.out KB2.out.lt, O2.out.kept D3.out, NB.out.1, Nat.le_trans lu1 (Nat.le_trans FC.out.2.size D3.out.size)⟩)
      clear co ce hRR hB hcc KR KR2 KB2 O2 O1 FC B1 BW BW2 CF
      obtain ⟨n, hn⟩ : ∃ n, es.length = n := ⟨_, rfl⟩
      have HNN := hide1 hn
      obtain ⟨i0, hi, hz0, hz1, hz2⟩ := info_parts Try.infoZ
      rw [hn] at hn80
      have hl2 : n ≤ 1048576 := by omega
      rw [hn]
      clear hn hl
      go_wp2_with (at_make; (refine wpList_make_full _ rfl _ _ 33 rfl w3.heap.size 3 i0 (.int .i64 0) 1 Try.underlying33 hi hz0 hz1 _ _ _ _ n rfl rfl rfl rfl (by rw [hz2]; omega) (by unfold maxLen; omega) (Nat.le_refl _) ?_; intro w4 hown4 hg4))
      have eZ : (madeCells (Value.int .i64 0).cells (n * 1)).toList = rowG izE ([] ++ List.replicate (n - 0) 0) := by
        rw [Nat.mul_one, Nat.sub_zero, List.nil_append]
        refine List.ext_getElem? fun j => ?_
        have hr : rowG izE (List.replicate n (0 : Int)) = List.replicate n (Value.int .i64 0) := by
          rw [← iz_row]
          simp [iz]
        rw [hr]
        simp [madeCells, Value.cells, Nat.mod_one]
        by_cases hj : j < n <;> simp [hj]
      rw [eZ] at hown4
      obtain ⟨Nb, hNb⟩ : ∃ G, G = w3.heap.size := ⟨_, rfl⟩
      rw [← hNb] at hown4 ⊢
      have D4 := hide1 (show Below w3.heap.size w3 w4 from gbelow hg4 (by intro k hk; cases hk) (Nat.le_refl _))
      have V4 := hide1 (V3.out.kept D4.out)
      have KR4 := hide1 (KR3.out.below D4.out KR3.out.lt)
      have BW4 := hide1 (BW3.out.trans (D4.out.mono BW3.out.size))
      have O4 := hide1 (own_base (base := u.heap.size) hown4 (by have := V3.out.lb; omega))
      have hNbB : Nb ≠ B := by have := V3.out.b.lt; omega
      have hNbR : Nb ≠ RB := by have := KR3.out.lt; omega
      have NI4 := hide1 (show ¬ InA A Nb ∧ ¬ InA A RB from ⟨fun e => by have := (V3.out.o.inA e).2; omega, NB.out.2⟩)
      have M0 := hide1 (show Mid13 vn tn 0 es c [] by rw [HNC.out]; exact Mid13.new vn tn es (by omega) (by omega))
      clear hown4 hg4 D4 V3 KR3 BW3 hNb eZ D3 NB hi hz0 hz1 hz2 i0
      go_wp2_with fail
      go_loopw [35] (fun iv wr => ∃ (i : Nat) (ci : Cn) (ki : List Int) (Ai : CA), i ≤ n ∧ iv = .int .i64 (i : Int) ∧ Hid (Mid13 vn tn i es ci ki) ∧ Hid (VaO u.heap.size wr B Ai ci) ∧ Hid (wr.ownsRow u.heap.size 3 1 (.slice (some ⟨Nb, 0, none⟩) n n) n (rowG izE (ki ++ List.replicate (n - i) 0))) ∧ Hid (Blk wr RB 32 [.slice none 0 0, .slice none 0 0, .slice none 0 0, .slice none 0 0]) ∧ Hid (¬ InA Ai Nb ∧ ¬ InA Ai RB) ∧ Hid (Below w.heap.size w wr)) (fun iv _ => n - (intOf iv).toNat)
      case atStart => exact ⟨0, c, [], A, by omega, rfl, M0, V4, O4, KR4, NI4, BW4⟩
      case round =>
        obtain ⟨i, ci, ki, Ai, hi, rfl, MI, VI, OI, KI, NI, BI⟩ := hrel
        by_cases hlt : i < n
        · have k1 : (i : Int) < (n : Int) := by omega
          have k0 : (0 : Int) ≤ (i : Int) := by omega
          have hie : i < es.length := by rw [HNN.out]; exact hlt
          obtain ⟨eb, eo, rfl, hbe, h1⟩ := HR.out i hie
          have x0 : wr.cell? ⟨eb, eo + i * 4, none⟩ = some (.int .i64 es[i].k) := (BI.out.cell (p := ⟨eb, eo + i * 4 + 0, none⟩) hbe).trans (h1 0 (by omega))
          have x1 : wr.cell? ⟨eb, eo + i * 4 + 1, none⟩ = some (.int .i64 es[i].i) := (BI.out.cell (p := ⟨eb, eo + i * 4 + 1, none⟩) hbe).trans (h1 1 (by omega))
          have x2 : wr.cell? ⟨eb, eo + i * 4 + 2, none⟩ = some (.int .i64 es[i].a) := (BI.out.cell (p := ⟨eb, eo + i * 4 + 2, none⟩) hbe).trans (h1 2 (by omega))
          have x3 : wr.cell? ⟨eb, eo + i * 4 + 3, none⟩ = some (.string es[i].v) := (BI.out.cell (p := ⟨eb, eo + i * 4 + 3, none⟩) hbe).trans (h1 3 (by omega))
          have hok := HCE.out es[i] (List.getElem_mem hie)
          have MN := hide1 (MI.out.next (by omega) hie hok)
          have hok2 : okHp ci.ts.length es[i] := by rw [MI.out.ht]; exact hok
          have HOK := hide1 hok2
          clear h1 hok hok2
          generalize es[i] = e at *
          have FE := hide1 ((Below.refl wr.heap.size wr).alloc (Nat.le_refl _) (.cells #[.int .i64 e.k, .int .i64 e.i, .int .i64 e.a, .string e.v] 40))
          go_wp2_with fail
          generalize (wr.alloc (.cells #[.int .i64 e.k, .int .i64 e.i, .int .i64 e.a, .string e.v] 40)) = w5 at FE ⊢
          have V5 := hide1 (VI.out.kept FE.out)
          have G13 := hide1 (go13_of MI.out.hg MI.out.hs (by omega))
          clear x0 x1 x2 x3
          refine (implHap_any ci e Ai B u.heap.size w5 V5.out G13.out MI.out.hg MI.out.hn HOK.out).mono ?_
          rintro r w6 ⟨rfl, A6, V6, R6⟩
          have ONb : (Value.slice (some ⟨Nb, 0, none⟩) n n).ownBlock = some Nb := rfl
          have O6 := hide1 (R6.own (own_kept OI.out FE.out) (fun q hq => by injection hq with hq; subst hq; exact ⟨NI.out.1, hNbB⟩))
          have K6 := hide1 (R6.blk (KI.out.below FE.out KI.out.lt) NI.out.2 hRBB)
          have lNw : Nb < w5.heap.size := Nat.lt_of_lt_of_le (OI.out.lt Nb rfl).2 FE.out.size
          have lRw : RB < w5.heap.size := Nat.lt_of_lt_of_le KI.out.lt FE.out.size
          have N6 := hide1 (show ¬ InA A6 Nb ∧ ¬ InA A6 RB from ⟨fun e => by
            rcases R6.rows Nb e with e | e
            · exact NI.out.1 e
            · omega, fun e => by
            rcases R6.rows RB e with e | e
            · exact NI.out.2 e
            · omega⟩)
          have HV6 := hide1 V6
          have B6 := hide1 (BI.out.trans ((FE.out.mono BI.out.size).trans (R6.toBelow (D := w.heap.size) (fun G hG => by have := (V5.out.o.inA hG).1; omega) (by omega) (Nat.le_trans BI.out.size FE.out.size))))
          generalize hcode : (doC ci e).2 = code at *
          obtain ⟨u0, y0⟩ := own_some O6.out i (by omega)
          have f0 := O6.out.frozenAt i
          clear V6 R6 ONb G13 V5 FE
          go_wp2
          go_roundw
          case rel =>
            refine ⟨i + 1, _, _, A6, by omega, by go_num, MN, hide1 (HV6.out.farR hNbB N6.out.1 (gset (World.grownBy.refl _ _) i _)), hide1 ?_, hide1 (K6.out.far _ _ (by dsimp only; exact fun e => hNbR e.symm)), N6, hide1 (B6.out.setCell (p := ⟨Nb, i, none⟩) (by dsimp only; have := (O6.out.lt Nb rfl).1; omega) _)⟩
            have o9 := (World.ownsRow.stored O6.out i (.int .i64 code)).1
            have e9 := rowG_set izE 1 encZ.len (ki ++ List.replicate (n - i) 0) i code (by rw [List.length_append, MI.out.hl]; simp; omega)
            rw [Nat.mul_one] at e9
            have e8 : (ki ++ List.replicate (n - i) (0 : Int)).set i code = ki ++ [code] ++ List.replicate (n - (i + 1)) 0 := by
              have hl2 := MI.out.hl
              rw [List.set_append_right _ _ (by omega), hl2, Nat.sub_self, show n - i = (n - (i + 1)) + 1 by omega, List.replicate_succ, List.set_cons_zero, List.append_assoc]
              rfl
            rw [e8] at e9
            rw [e9]
            exact o9
          case measure => simp [intOf]; omega
        · obtain rfl : i = n := by omega
          have k1 : ¬ ((i : Int) < (i : Int)) := by omega
          have eT : es.take i = es := by rw [← HNN.out, List.take_length]
          have ERR := hide1 (show R = (ci, ki, true) by rw [ER.out, MI.out.hc, MI.out.hk, eT])
          have hkl := MI.out.hl
          have oo := OI.out
          rw [Nat.sub_self, List.replicate_zero, List.append_nil] at oo
          have OE := hide1 oo
          have HKL := hide1 hkl
          have HEV := hide1 VI.out
          obtain ⟨b0, b1, b2, b3⟩ := VI.out.cells
          have r0 : wr.cell? ⟨RB, 0, none⟩ = some (.slice none 0 0) := KI.out.cell 0
          have r1 : wr.cell? ⟨RB, 1, none⟩ = some (.slice none 0 0) := KI.out.cell 1
          have r2 : wr.cell? ⟨RB, 2, none⟩ = some (.slice none 0 0) := KI.out.cell 2
          have r3 : wr.cell? ⟨RB, 3, none⟩ = some (.slice none 0 0) := KI.out.cell 3
          have rf : ∀ j, wr.frozen? ⟨RB, j, none⟩ = false := fun j => KI.out.froz j
          clear eT hkl oo M0 V4 O4 KR4 NI4 BW4 ER OI
          go_wp2
          refine bodyPost_ret (resC3 Try.results12 _ _ RB 32 #[.slice Ai.va ci.vs.length Ai.vc, .slice Ai.ta ci.ts.length Ai.tc, .slice Ai.na ci.ns.length Ai.nc, .slice Ai.ca ci.ch.length Ai.cc] (0, 0) _ rfl (Blk.set (Blk.set (Blk.set (Blk.set KI.out 0 _) 1 _) 2 _) 3 _) Try.underlying32 rfl (by kernel_rfl)) rfl ?_
          have G9 : ∀ (x : World) (a b c d : Value), x.grownBy ((((x.setCell ⟨RB, 0, none⟩ a).setCell ⟨RB, 1, none⟩ b).setCell ⟨RB, 2, none⟩ c).setCell ⟨RB, 3, none⟩ d) (some RB) := fun x a b c d => gset (gset (gset (gset (World.grownBy.refl _ _) 0 a) 1 b) 2 c) 3 d
          refine ⟨⟨Ai, some ⟨Nb, 0, none⟩, i, ?_, ?_, ?_, fun x hx => by injection hx with hx; subst hx; exact NI.out.1⟩, BI.out.grown (G9 _ _ _ _ _) BI.out.size (fun q hq => by injection hq with hq; have := HRB.out; omega)⟩
          · rw [ERR.out]
            dsimp only
            rw [HKL.out]
            rfl
          · rw [ERR.out]
            exact ((HEV.out.farR hRBB NI.out.2 (G9 _ _ _ _ _)).o).base luw
          · rw [ERR.out]
            dsimp only
            rw [HKL.out]
            exact own_base (gown (G9 _ _ _ _ _) OE.out (fun q hq e => by injection e with e; injection hq with hq; exact hNbR (hq.trans e.symm))) luw
    · rw [decide_eq_false ce]
      have ER := hide1 (show R = (zeroCn, [], false) by rw [← hRR]; unfold runR; rw [if_neg (fun h => ce h.2)])
      clear co ce hRR hB hcc KR KR2
      have r0 : w3.cell? ⟨RB, 0, none⟩ = some (.slice none 0 0) := KR3.out.cell 0
      have r1 : w3.cell? ⟨RB, 1, none⟩ = some (.slice none 0 0) := KR3.out.cell 1
      have r2 : w3.cell? ⟨RB, 2, none⟩ = some (.slice none 0 0) := KR3.out.cell 2
      have r3 : w3.cell? ⟨RB, 3, none⟩ = some (.slice none 0 0) := KR3.out.cell 3
      have rf : ∀ j, w3.frozen? ⟨RB, j, none⟩ = false := fun j => KR3.out.froz j
      have lR2 : RB < w3.heap.size := KR3.out.lt
      go_wp2
      have G9 : ∀ (x : World) (a b c d : Value), x.grownBy ((((x.setCell ⟨RB, 0, none⟩ a).setCell ⟨RB, 1, none⟩ b).setCell ⟨RB, 2, none⟩ c).setCell ⟨RB, 3, none⟩ d) (some RB) := fun x a b c d => gset (gset (gset (gset (World.grownBy.refl _ _) 0 a) 1 b) 2 c) 3 d
      have K9 := (Blk.set (Blk.set (Blk.set (Blk.set KR3.out 0 (.slice none 0 0)) 1 (.slice none 0 0)) 2 (.slice none 0 0)) 3 (.slice none 0 0))
      have B9 := BW3.out.grown (G9 w3 (.slice none 0 0) (.slice none 0 0) (.slice none 0 0) (.slice none 0 0)) BW3.out.size (fun q hq => by injection hq with hq; have := HRB.out; omega)
      have S9 : ((((w3.setCell ⟨RB, 0, none⟩ (.slice none 0 0)).setCell ⟨RB, 1, none⟩ (.slice none 0 0)).setCell ⟨RB, 2, none⟩ (.slice none 0 0)).setCell ⟨RB, 3, none⟩ (.slice none 0 0)).heap.size = w3.heap.size := by simp only [World.size_setCell]
      generalize ((((w3.setCell ⟨RB, 0, none⟩ (.slice none 0 0)).setCell ⟨RB, 1, none⟩ (.slice none 0 0)).setCell ⟨RB, 2, none⟩ (.slice none 0 0)).setCell ⟨RB, 3, none⟩ (.slice none 0 0)) = w9 at K9 B9 S9 ⊢
      refine bodyPost_ret (resC3 Try.results12 _ _ RB 32 #[.slice none 0 0, .slice none 0 0, .slice none 0 0, .slice none 0 0] (0, 0) _ rfl (K9.more _) Try.underlying32 rfl (by kernel_rfl)) rfl ?_
      refine ⟨⟨nilA, some ⟨w3.heap.size, 0, none⟩, 0, by rw [ER.out]; rfl, by rw [ER.out]; exact nil_own _ _, ?_, fun x _ h => nil_in h⟩, B9.alloc B9.size _⟩
      rw [ER.out]
      exact own_none (enc := izE) (α := Int) (newAt S9) (by have := BW3.out.size; omega)
  · have E2 := hide1 (decide_eq_false co)
    have ER := hide1 (show R = (zeroCn, [], false) by rw [← hRR]; unfold runR; rw [if_neg (fun h => co h.1)])
    rw [E2.out]
    clear co hRR
    go_upto_region 2 with fail
    generalize (w1.alloc (.cells #[.slice A.va c.vs.length A.vc, .slice A.ta c.ts.length A.tc, .slice A.na c.ns.length A.nc, .slice A.ca c.ch.length A.cc] 32)) = w2 at FC ⊢
    have KR2 := hide1 (KR.out.below FC.out.2 lR1)
    have BW2 := hide1 (BW.out.trans (FC.out.2.mono BW.out.size))
    have r0 : w2.cell? ⟨RB, 0, none⟩ = some (.slice none 0 0) := KR2.out.cell 0
    have r1 : w2.cell? ⟨RB, 1, none⟩ = some (.slice none 0 0) := KR2.out.cell 1
    have r2 : w2.cell? ⟨RB, 2, none⟩ = some (.slice none 0 0) := KR2.out.cell 2
    have r3 : w2.cell? ⟨RB, 3, none⟩ = some (.slice none 0 0) := KR2.out.cell 3
    have rf : ∀ j, w2.frozen? ⟨RB, j, none⟩ = false := fun j => KR2.out.froz j
    have lR2 : RB < w2.heap.size := KR2.out.lt
    go_wp2
    have G9 : ∀ (x : World) (a b c d : Value), x.grownBy ((((x.setCell ⟨RB, 0, none⟩ a).setCell ⟨RB, 1, none⟩ b).setCell ⟨RB, 2, none⟩ c).setCell ⟨RB, 3, none⟩ d) (some RB) := fun x a b c d => gset (gset (gset (gset (World.grownBy.refl _ _) 0 a) 1 b) 2 c) 3 d
    have K9 := (Blk.set (Blk.set (Blk.set (Blk.set KR2.out 0 (.slice none 0 0)) 1 (.slice none 0 0)) 2 (.slice none 0 0)) 3 (.slice none 0 0))
    have B9 := BW2.out.grown (G9 w2 (.slice none 0 0) (.slice none 0 0) (.slice none 0 0) (.slice none 0 0)) BW2.out.size (fun q hq => by injection hq with hq; have := HRB.out; omega)
    have S9 : ((((w2.setCell ⟨RB, 0, none⟩ (.slice none 0 0)).setCell ⟨RB, 1, none⟩ (.slice none 0 0)).setCell ⟨RB, 2, none⟩ (.slice none 0 0)).setCell ⟨RB, 3, none⟩ (.slice none 0 0)).heap.size = w2.heap.size := by simp only [World.size_setCell]
    generalize ((((w2.setCell ⟨RB, 0, none⟩ (.slice none 0 0)).setCell ⟨RB, 1, none⟩ (.slice none 0 0)).setCell ⟨RB, 2, none⟩ (.slice none 0 0)).setCell ⟨RB, 3, none⟩ (.slice none 0 0)) = w9 at K9 B9 S9 ⊢
    refine bodyPost_ret (resC3 Try.results12 _ _ RB 32 #[.slice none 0 0, .slice none 0 0, .slice none 0 0, .slice none 0 0] (0, 0) _ rfl (K9.more _) Try.underlying32 rfl (by kernel_rfl)) rfl ?_
    refine ⟨⟨nilA, some ⟨w2.heap.size, 0, none⟩, 0, by rw [ER.out]; rfl, by rw [ER.out]; exact nil_own _ _, ?_, fun x _ h => nil_in h⟩, B9.alloc B9.size _⟩
    rw [ER.out]
    exact own_none (enc := izE) (α := Int) (newAt S9) (by have := BW2.out.size; omega)
end Go.Proofs.Ytgehdgmllilmgaa

