/- The model's copy of a council. -/
import Derived.Test.YtgehdgmllilmgaaCoCp
namespace Go.Proofs.Ytgehdgmllilmgaa
open Go.RowKit
set_option linter.unusedVariables false

theorem wpList_cpE {P : Program} {α : Type} {enc : α → List Value} {k : Nat} {t e : TypeId} {ops : Array Oper} {rest : List Oper} {o : Oper} {a : Act} {w : World} {Q : Exit → Act → World → Prop} (E : EncK enc k) (R : RowK P t e k) (hgd : o.guard = none) (s x : Operand)
    (ho : o.op = .call { callee := .builtin .append, args := #[s, x], argTypes := #[t, t] }) (g : Nat) (hs : a.eval s = .slice (some ⟨g, 0, none⟩) 0 0) (ao : Option Addr) (m c : Nat) (l : List α) (hx : a.eval x = .slice ao m c) (hm : l.length = m) (hA : RdG enc k w ao l) (hlen : m ≤ 1048576)
    (h : ∀ b' c' w', RdG enc k w' b' l → Below w.heap.size w w' → (∀ b o, b' = some ⟨b, o, none⟩ → 0 < m → w.heap.size ≤ b) → m ≤ c' → wpList P ops Q rest (a.put o.dst (.slice b' m c')) w') : wpList P ops Q (o :: rest) a w := by
  refine wpList_plain hgd fun K hK => ?_
  obtain ⟨b', c', w', hrun, h1, h2, h3, h4⟩ := cpE_run E R w o.type g ao m c l hm hA hlen
  unfold Oper.wp
  simp only [execOp, ho, resolve, invoke, builtin, Sem.run_bind, Sem.run_pure, Result.andThen_ok, List.map_toArray, List.map_cons, List.map_nil, hs, hx, hrun]
  exact hK _ _ (h b' c' w' h1 h2 h3 h4)
theorem NeA.new {α : Type} {enc : α → List Value} {k C : Nat} {w : World} {a : Option Addr} {l : List α} (h : RdG enc k w a l) (hC : w.heap.size ≤ C) : NeA (fun _ => True) C a l.length := fun b o ha hn => ⟨by have := h.lt ha hn; omega, trivial⟩
theorem RdC12.fresh {lo : Nat → Prop} {w u : World} {B C : Nat} {A : CA} {c : Cn} (h : RdC12 lo w B A c) (hC : w.heap.size ≤ C) (hb : Below w.heap.size w u) : RdC12 (fun _ => True) u C A c :=
  ⟨h.v.later hb, NeA.new h.v hC, h.e, h.t.later hb, NeA.new h.t hC, fun t ht => ⟨(h.r t ht).1.later hb, NeA.new (h.r t ht).1 hC, (h.r t ht).2.2.1.later hb, NeA.new (h.r t ht).2.2.1 hC⟩, h.n.later hb, NeA.new h.n hC, h.nl, h.c.later hb, NeA.new h.c hC⟩
/-- Others are put behind a row that lies beside a try's rows. -/
theorem TmR.push {m B n ec : Nat} {w w' : World} {t : Tm} {eb b5 : Option Addr} (h : TmR (LoB m eb) w B t) (hg : w.grownBy w' (Value.slice eb n ec).ownBlock) (hl : ∀ x, b5 = some x → (Value.slice eb n ec).ownBlock = some x.block ∨ w.heap.size ≤ x.block) : TmR (LoB m b5) w' B t := by
  have nn : ∀ {α : Type} {enc : α → List Value} {k : Nat} {a : Option Addr} {l : List α}, RdG enc k w a l → NeA (LoB m eb) B a l.length → RdG enc k w' a l ∧ NeA (LoB m b5) B a l.length := fun hR hN => by
    refine ⟨hR.move hg (fun b o ha hl e => ?_), fun b o ha hn => ⟨(hN b o ha hn).1, (hN b o ha hn).2.1, fun x hx e => ?_⟩⟩
    · obtain ⟨x, hx, ex⟩ := ownBlkR e
      exact (hN b o ha hl).2.2 x hx ex.symm
    · rcases hl x hx with e1 | e1
      · obtain ⟨y, hy, ey⟩ := ownBlkR e1
        exact (hN b o ha hn).2.2 y hy (by omega)
      · have := hR.lt ha hn
        omega
  exact ⟨(nn h.1 h.2.1).1, (nn h.1 h.2.1).2, (nn h.2.2.1 h.2.2.2).1, (nn h.2.2.1 h.2.2.2).2⟩
theorem TmR.laterL {lo : Nat → Prop} {w w' : World} {B : Nat} {t : Tm} (h : TmR lo w B t) (hb : Below w.heap.size w w') : TmR lo w' B t := ⟨h.1.later hb, h.2.1, h.2.2.1.later hb, h.2.2.2⟩
theorem gthen {a b c : World} {B n : Nat} (h : a.grownBy b (some B)) (hb : Below n b c) (hn : a.heap.size ≤ n) : a.grownBy c (some B) :=
  ⟨hb.os.trans h.os, hb.tape.trans h.tape, hb.output.trans h.output, Nat.le_trans h.size hb.size, fun k hk hne => (hb.block k (by omega)).trans (h.block k hk hne)⟩
set_option maxRecDepth 100000 in
set_option maxHeartbeats 4000000 in
theorem specCopy_any12 {lo : Nat → Prop} (c : Cn) (A : CA) (B0 : Nat) (w : World) (hR : RdC12 lo w B0 A c) (F : Fit12 c) :
    Calls Try.prog 42 #[.agg #[.slice A.va c.vs.length A.vc, .slice A.ta c.ts.length A.tc, .slice A.na c.ns.length A.nc, .slice A.ca c.ch.length A.cc]] w fun r w' => (∃ M : CA, r = .returned (.agg #[.slice M.va c.vs.length M.vc, .slice M.ta c.ts.length M.tc, .slice M.na c.ns.length M.nc, .slice M.ca c.ch.length M.cc]) ∧ ∀ D, D < w.heap.size ∨ w'.heap.size ≤ D → RdC12 (fun b => w.heap.size ≤ b) w' D M c) ∧ Below w.heap.size w w' := by
  have F0 := hide1 (blkN2 w #[.slice A.va c.vs.length A.vc, .slice A.ta c.ts.length A.tc, .slice A.na c.ns.length A.nc, .slice A.ca c.ch.length A.cc] #[.slice none 0 0, .slice none 0 0, .slice none 0 0, .slice none 0 0] 32 32)
  have E0 := hide1 (((Below.refl w.heap.size w).alloc (Nat.le_refl _) (.cells #[.slice A.va c.vs.length A.vc, .slice A.ta c.ts.length A.tc, .slice A.na c.ns.length A.nc, .slice A.ca c.ch.length A.cc] 32)).alloc (by rw [World.size_alloc]; omega) (.cells #[.slice none 0 0, .slice none 0 0, .slice none 0 0, .slice none 0 0] 32))
  have SU := hide1 (show ((w.alloc (.cells #[.slice A.va c.vs.length A.vc, .slice A.ta c.ts.length A.tc, .slice A.na c.ns.length A.nc, .slice A.ca c.ch.length A.cc] 32)).alloc (.cells #[.slice none 0 0, .slice none 0 0, .slice none 0 0, .slice none 0 0] 32)).heap.size = w.heap.size + 2 by rw [World.size_alloc, World.size_alloc])
  have hLA : A.L.length = c.ts.length := by rw [← hR.e, List.length_map]
  have hts := F.t
  have HF := hide1 F
  have R0 := hide1 hR
  clear hR F
  go_enter Try.func42, Try.ntmps42
  go_upto_region 1 with fail
  generalize ((w.alloc (.cells #[.slice A.va c.vs.length A.vc, .slice A.ta c.ts.length A.tc, .slice A.na c.ns.length A.nc, .slice A.ca c.ch.length A.cc] 32)).alloc (.cells #[.slice none 0 0, .slice none 0 0, .slice none 0 0, .slice none 0 0] 32)) = u at F0 E0 SU ⊢
  have su : u.heap.size = w.heap.size + 2 := SU.out
  obtain ⟨C, hCw⟩ : ∃ C, C = w.heap.size := ⟨_, rfl⟩
  obtain ⟨RB, hRB⟩ : ∃ G, G = w.heap.size + 1 := ⟨_, rfl⟩
  have KC := hide1 F0.out.1
  have KR := hide1 F0.out.2.1
  rw [← hCw] at KC ⊢
  rw [show C + 1 = RB by omega]
  rw [← hRB] at KR
  have RU := hide1 (R0.out.fresh (C := C) (by omega) E0.out)
  have hCu : C < u.heap.size := by omega
  have hRu : RB < u.heap.size := by omega
  have hCR : C ≠ RB := by omega
  have hCw2 : w.heap.size ≤ C := by omega
  have hRw2 : w.heap.size ≤ RB := by omega
  have hwu : w.heap.size ≤ u.heap.size := by omega
  clear F0 R0 hCw hRB su SU
  refine regCp rfl KC.out RU.out ⟨by have := HF.out.v; omega, by have := HF.out.n; omega, by have := HF.out.h; omega⟩ ?_
  intro B g0 g1 g2 c0 c1 c2 b0 b1 b2 w5 Y3 Y6 Y7 Y8 Y9 Y10 Y11 Y12 Y13 Y14 Y15 Y16 Y17 Y18 hY hBu hKB hr0 hn0 hr1 hn1 hc1 hr2 hn2 hb5
  subst hY
  have S5 := hide1 (And.intro hr0 (And.intro hn0 (And.intro hr1 (And.intro hn1 (And.intro hc1 (And.intro hr2 hn2))))))
  have KB := hide1 hKB
  have E5 := hide1 hb5
  have lB5 : B < w5.heap.size := hKB.lt
  have lu5 : u.heap.size ≤ w5.heap.size := hb5.size
  clear hr0 hn0 hr1 hn1 hc1 hr2 hn2 hKB hb5
  go_wp2
  go_loopw [4] (fun iv wr => ∃ i : Nat, i ≤ c.ts.length ∧ iv = .int .i64 (i : Int) ∧ ∃ (tb : Option Addr) (tc : Nat) (L' : List Tm), Hid (L'.map (·.y) = c.ts.take i) ∧ Hid (L'.length = i) ∧ Hid (Blk wr B 32 [.slice b0 c.vs.length c0, .slice tb i tc, .slice b1 c.ns.length c1, .slice b2 c.ch.length c2]) ∧ Hid (wr.ownsRow w5.heap.size 47 7 (.slice tb i tc) i (rowG tmC L')) ∧ Hid (∀ t ∈ L', TmR (LoB u.heap.size tb) wr B t) ∧ Hid (w5.grownBy wr (some B))) (fun iv _ => c.ts.length - (intOf iv).toNat)
  case atStart => exact ⟨0, Nat.zero_le _, rfl, none, 0, [], hide1 (by simp), hide1 rfl, KB, hide1 ⟨rfl, .inl ⟨rfl, rfl⟩⟩, hide1 (by simp), hide1 (World.grownBy.refl _ _)⟩
  case round =>
    obtain ⟨i, hi, rfl, tb, tc, L', HY, HLl, KBr, OT, HT, GR⟩ := hrel
    have lwr : w5.heap.size ≤ wr.heap.size := GR.out.size
    have BR := hide1 (show Below u.heap.size u wr from E5.out.trans (gbelow GR.out (fun q hq => by injection hq with hq; omega) lu5))
    have z1 : wr.cell? ⟨C, 1, none⟩ = some (.slice A.ta c.ts.length A.tc) := (BR.out.cell (p := ⟨C, 1, none⟩) hCu).trans (KC.out.cell 1)
    by_cases hlt : i < c.ts.length
    · have k1 : (i : Int) < (c.ts.length : Int) := by omega
      have hiL : i < A.L.length := by omega
      obtain ⟨ab, ao, haa, hab, hac⟩ := RU.out.t i hiL
      have HTi := hide1 (RU.out.r _ (List.getElem_mem hiL))
      have hyi : A.L[i].y = c.ts[i] := by
        have := RU.out.e
        have h0 : (A.L.map (·.y))[i]? = c.ts[i]? := by rw [this]
        rw [List.getElem?_map, List.getElem?_eq_getElem hiL, List.getElem?_eq_getElem hlt] at h0
        simpa using h0
      have HFl := HF.out.l _ (List.getElem_mem hlt)
      rw [← hyi] at HFl
      have HYi := hide1 hyi
      have m0 : wr.cell? ⟨ab, ao + i * 7, none⟩ = some (.int .i64 A.L[i].y.i) := (BR.out.cell (p := ⟨ab, ao + i * 7, none⟩) hab).trans (hac 0 (by omega))
      have m1 : wr.cell? ⟨ab, ao + i * 7 + 1, none⟩ = some (.int .i64 A.L[i].y.b) := (BR.out.cell (p := ⟨ab, ao + i * 7 + 1, none⟩) hab).trans (hac 1 (by omega))
      have m2 : wr.cell? ⟨ab, ao + i * 7 + 2, none⟩ = some (.string A.L[i].y.v) := (BR.out.cell (p := ⟨ab, ao + i * 7 + 2, none⟩) hab).trans (hac 2 (by omega))
      have m3 : wr.cell? ⟨ab, ao + i * 7 + 3, none⟩ = some (.slice A.L[i].pa A.L[i].y.ps.length A.L[i].pc) := (BR.out.cell (p := ⟨ab, ao + i * 7 + 3, none⟩) hab).trans (hac 3 (by omega))
      have m4 : wr.cell? ⟨ab, ao + i * 7 + 4, none⟩ = some (.bool A.L[i].y.as) := (BR.out.cell (p := ⟨ab, ao + i * 7 + 4, none⟩) hab).trans (hac 4 (by omega))
      have m5 : wr.cell? ⟨ab, ao + i * 7 + 5, none⟩ = some (.slice A.L[i].ka A.L[i].y.tk.length A.L[i].kc) := (BR.out.cell (p := ⟨ab, ao + i * 7 + 5, none⟩) hab).trans (hac 5 (by omega))
      have m6 : wr.cell? ⟨ab, ao + i * 7 + 6, none⟩ = some (.bool A.L[i].y.ch) := (BR.out.cell (p := ⟨ab, ao + i * 7 + 6, none⟩) hab).trans (hac 6 (by omega))
      rw [haa] at z1
      generalize A.L[i] = t at *
      clear hac haa hyi hiL
      have FY := hide1 (And.intro (Blk.new wr 47 #[.int .i64 t.y.i, .int .i64 t.y.b, .string t.y.v, .slice t.pa t.y.ps.length t.pc, .bool t.y.as, .slice t.ka t.y.tk.length t.kc, .bool t.y.ch]) ((Below.refl wr.heap.size wr).alloc (Nat.le_refl _) (.cells #[.int .i64 t.y.i, .int .i64 t.y.b, .string t.y.v, .slice t.pa t.y.ps.length t.pc, .bool t.y.as, .slice t.ka t.y.tk.length t.kc, .bool t.y.ch] 47)))
      go_upto_region 6 with fail
      generalize (wr.alloc (.cells #[.int .i64 t.y.i, .int .i64 t.y.b, .string t.y.v, .slice t.pa t.y.ps.length t.pc, .bool t.y.as, .slice t.ka t.y.tk.length t.kc, .bool t.y.ch] 47)) = wa at FY ⊢
      obtain ⟨Y, hY⟩ : ∃ Y, Y = wr.heap.size := ⟨_, rfl⟩
      have KY := hide1 FY.out.1
      rw [← hY] at KY ⊢
      have lY : Y < wa.heap.size := KY.out.lt
      have EA := hide1 FY.out.2
      have hYr : wr.heap.size ≤ Y := by omega
      clear hY FY m0 m1 m2 m3 m4 m5 m6 z1
      have y3 : wa.cell? ⟨Y, 3, none⟩ = some (.slice t.pa t.y.ps.length t.pc) := KY.out.cell 3
      have EL : Hid (Below wa.heap.size wa (wa.alloc (.cells #[] 111))) := (Below.refl wa.heap.size wa).alloc (Nat.le_refl _) (.cells #[] 111)
      go_upto_region 7 with (at_builtin; (refine wpList_cpE encN rowN rfl (.tmp 31) (.tmp 33) rfl wa.heap.size rfl t.pa t.y.ps.length t.pc t.y.ps rfl rfl ((HTi.out.1.later (BR.out.trans (EA.out.mono BR.out.size))).later EL.out) (by omega) ?_; intro b6 c6 w6 hr6 hb6 hn6 hc6; have E6 : Hid (Below wa.heap.size wa w6) := EL.out.trans (hb6.mono EL.out.size); have R6 := hide1 hr6; have N6 : Hid (∀ b o, b6 = some ⟨b, o, none⟩ → 0 < t.y.ps.length → wa.heap.size ≤ b) := (fun b o e h => Nat.le_trans EL.out.size (hn6 b o e h)); have x3 : w6.cell? ⟨Y, 3, none⟩ = some (.slice t.pa t.y.ps.length t.pc) := (E6.out.cell (p := ⟨Y, 3, none⟩) lY).trans y3; have xf : w6.frozen? ⟨Y, 3, none⟩ = false := (E6.out.frozen (p := ⟨Y, 3, none⟩) lY).trans (KY.out.froz 3); clear hr6 hb6 hn6 hc6))
      have KY6 := hide1 (Blk.set (KY.out.below E6.out lY) 3 (.slice b6 t.y.ps.length c6))
      have R6s := hide1 (R6.out.moveC (gset (World.grownBy.refl _ (some Y)) 3 (.slice b6 t.y.ps.length c6)) (fun b o e h q => by injection q with q; have := N6.out b o e h; omega))
      have EB := hide1 (((EA.out.trans (E6.out.mono EA.out.size)).setCell (p := ⟨Y, 3, none⟩) hYr (.slice b6 t.y.ps.length c6)))
      generalize w6.setCell ⟨Y, 3, none⟩ (.slice b6 t.y.ps.length c6) = wb at KY6 R6s EB ⊢
      have KYb := hide1 (show Blk wb Y 47 [.int .i64 t.y.i, .int .i64 t.y.b, .string t.y.v, .slice b6 t.y.ps.length c6, .bool t.y.as, .slice t.ka t.y.tk.length t.kc, .bool t.y.ch] from KY6.out)
      have lYb : Y < wb.heap.size := KYb.out.lt
      clear KY6 R6 EL x3 xf y3 KY E6
      have y5 : wb.cell? ⟨Y, 5, none⟩ = some (.slice t.ka t.y.tk.length t.kc) := KYb.out.cell 5
      have EL : Hid (Below wb.heap.size wb (wb.alloc (.cells #[] 3))) := (Below.refl wb.heap.size wb).alloc (Nat.le_refl _) (.cells #[] 3)
      go_upto_region 8 with (at_builtin; (refine wpList_cpE encZ rowZ rfl (.tmp 36) (.tmp 38) rfl wb.heap.size rfl t.ka t.y.tk.length t.kc t.y.tk rfl rfl ((HTi.out.2.2.1.later (BR.out.trans (EB.out.mono BR.out.size))).later EL.out) (by omega) ?_; intro b7 c7 w7 hr7 hb7 hn7 hc7; have E7 : Hid (Below wb.heap.size wb w7) := EL.out.trans (hb7.mono EL.out.size); have R7 := hide1 hr7; have N7 : Hid (∀ b o, b7 = some ⟨b, o, none⟩ → 0 < t.y.tk.length → wb.heap.size ≤ b) := (fun b o e h => Nat.le_trans EL.out.size (hn7 b o e h)); have x5 : w7.cell? ⟨Y, 5, none⟩ = some (.slice t.ka t.y.tk.length t.kc) := (E7.out.cell (p := ⟨Y, 5, none⟩) lYb).trans y5; have xf : w7.frozen? ⟨Y, 5, none⟩ = false := (E7.out.frozen (p := ⟨Y, 5, none⟩) lYb).trans (KYb.out.froz 5); clear hr7 hb7 hn7 hc7))
      have gY := fun (W : World) => gset (World.grownBy.refl W (some Y)) 5 (.slice b7 t.y.tk.length c7)
      have KY7 := hide1 (Blk.set (KYb.out.below E7.out lYb) 5 (.slice b7 t.y.tk.length c7))
      have R7s := hide1 (R7.out.moveC (gY w7) (fun b o e h q => by injection q with q; have := N7.out b o e h; omega))
      have R6c := hide1 ((R6s.out.later E7.out).moveC (gY w7) (fun b o e h q => by injection q with q; have := N6.out b o e h; omega))
      have EC := hide1 (((EB.out.trans (E7.out.mono EB.out.size)).setCell (p := ⟨Y, 5, none⟩) hYr (.slice b7 t.y.tk.length c7)))
      have sAB : Hid (wr.heap.size ≤ wa.heap.size ∧ wr.heap.size ≤ wb.heap.size) := ⟨EA.out.size, EB.out.size⟩
      generalize w7.setCell ⟨Y, 5, none⟩ (.slice b7 t.y.tk.length c7) = wc at KY7 R7s R6c EC ⊢
      have KYc := hide1 (show Blk wc Y 47 [.int .i64 t.y.i, .int .i64 t.y.b, .string t.y.v, .slice b6 t.y.ps.length c6, .bool t.y.as, .slice b7 t.y.tk.length c7, .bool t.y.ch] from KY7.out)
      clear KY7 R7 R6s EL x5 xf y5 KYb E7 lYb gY EB EA lY
      have y0 : wc.cell? ⟨Y, 0, none⟩ = some (.int .i64 t.y.i) := KYc.out.cell 0
      have y1 : wc.cell? ⟨Y, 1, none⟩ = some (.int .i64 t.y.b) := KYc.out.cell 1
      have y2 : wc.cell? ⟨Y, 2, none⟩ = some (.string t.y.v) := KYc.out.cell 2
      have y3 : wc.cell? ⟨Y, 3, none⟩ = some (.slice b6 t.y.ps.length c6) := KYc.out.cell 3
      have y4 : wc.cell? ⟨Y, 4, none⟩ = some (.bool t.y.as) := KYc.out.cell 4
      have y5 : wc.cell? ⟨Y, 5, none⟩ = some (.slice b7 t.y.tk.length c7) := KYc.out.cell 5
      have y6 : wc.cell? ⟨Y, 6, none⟩ = some (.bool t.y.ch) := KYc.out.cell 6
      have lBr : B < wr.heap.size := by omega
      have d1 : wc.cell? ⟨B, 1, none⟩ = some (.slice tb i tc) := (EC.out.cell (p := ⟨B, 1, none⟩) lBr).trans (KBr.out.cell 1)
      have lrc : wr.heap.size ≤ wc.heap.size := EC.out.size
      have FL := hide1 (And.intro (Blk.new wc 47 #[.int .i64 t.y.i, .int .i64 t.y.b, .string t.y.v, .slice b6 t.y.ps.length c6, .bool t.y.as, .slice b7 t.y.tk.length c7, .bool t.y.ch]) ((Below.refl wc.heap.size wc).alloc (Nat.le_refl _) (.cells #[.int .i64 t.y.i, .int .i64 t.y.b, .string t.y.v, .slice b6 t.y.ps.length c6, .bool t.y.as, .slice b7 t.y.tk.length c7, .bool t.y.ch] 47)))
      have EF := hide1 (show Below wr.heap.size wr _ from EC.out.trans (FL.out.2.mono lrc))
      have hYB : Y ≠ B := by omega
      go_wp2_with (at_builtin; (refine wpList_appA encT rowT rfl (.tmp 42) (.tmp 44) rfl w5.heap.size _ i L' rfl (own_kept OT.out EF.out) (some ⟨wc.heap.size, 0, none⟩) 1 1 [⟨t.y, b6, c6, b7, c7⟩] rfl rfl (rd_one encT FL.out.1) (by omega) (by have := FL.out.2.size; omega) ?_; intro b8 c8 w8 ho8 hg8 hp8; have O8 := hide1 ho8; have G8 := hide1 hg8; have P8 := hide1 hp8; have KB8 := hide1 (gblk hg8 (KBr.out.below EF.out lBr) (fun e => by have := (OT.out.lt _ e).1; omega)); have x1 : w8.cell? ⟨B, 1, none⟩ = some (.slice tb i tc) := KB8.out.cell 1; have xf : w8.frozen? ⟨B, 1, none⟩ = false := KB8.out.froz 1; clear ho8 hg8 hp8))
      have B8 := hide1 (show Below w5.heap.size wr w8 from (EF.out.mono lwr).trans (gbelow G8.out (fun q hq => (OT.out.lt q hq).1) (by have := EF.out.size; omega)))
      have HT8 := hide1 (show ∀ x ∈ L' ++ [⟨t.y, b6, c6, b7, c7⟩], TmR (LoB u.heap.size b8) w8 B x from fun x hx => by
        refine TmR.push (n := i) (ec := tc) ?_ G8.out P8.out
        rcases List.mem_append.1 hx with hx | hx
        · exact (HT.out x hx).laterL EF.out
        · rw [List.mem_singleton] at hx
          subst hx
          refine ⟨R6c.out.later FL.out.2, fun b o e h => ?_, R7s.out.later FL.out.2, fun b o e h => ?_⟩
          · have := N6.out b o e h
            have := sAB.out.1
            exact ⟨by omega, by omega, fun x hx e2 => by have := (OT.out.lt x.block (by subst hx; rfl)).2; omega⟩
          · have := N7.out b o e h
            have := sAB.out.2
            exact ⟨by omega, by omega, fun x hx e2 => by have := (OT.out.lt x.block (by subst hx; rfl)).2; omega⟩)
      have hyl : (L' ++ [(⟨t.y, b6, c6, b7, c7⟩ : Tm)]).map (fun x : Tm => x.y) = c.ts.take (i + 1) := by
        rw [List.map_append, HY.out, List.take_succ_eq_append_getElem hlt, ← HYi.out]
        rfl
      go_roundw
      case rel =>
        have gB := gset (World.grownBy.refl w8 (some B)) 1 (.slice b8 (i + 1) c8)
        refine ⟨i + 1, by omega, by go_num, b8, c8, L' ++ [⟨t.y, b6, c6, b7, c7⟩], hide1 hyl, hide1 (by rw [List.length_append, HLl.out]; rfl), hide1 (Blk.set KB8.out 1 (.slice b8 (i + 1) c8)), hide1 ?_, hide1 (fun x hx => (HT8.out x hx).grown gB), hide1 (gtrans (gthen GR.out B8.out (Nat.le_refl _)) gB)⟩
        exact gown gB O8.out (fun k hk e => by injection e with e; have := (O8.out.lt k hk).1; omega)
      case measure => simp [intOf]; omega
    · obtain rfl : i = c.ts.length := by omega
      have k1 : ¬ ((c.ts.length : Int) < (c.ts.length : Int)) := by omega
      have y0 : wr.cell? ⟨B, 0, none⟩ = some (.slice b0 c.vs.length c0) := KBr.out.cell 0
      have y1 : wr.cell? ⟨B, 1, none⟩ = some (.slice tb c.ts.length tc) := KBr.out.cell 1
      have y2 : wr.cell? ⟨B, 2, none⟩ = some (.slice b1 c.ns.length c1) := KBr.out.cell 2
      have y3 : wr.cell? ⟨B, 3, none⟩ = some (.slice b2 c.ch.length c2) := KBr.out.cell 3
      have RR := hide1 (KR.out.below BR.out hRu)
      have r0 : wr.cell? ⟨RB, 0, none⟩ = some (.slice none 0 0) := RR.out.cell 0
      have r1 : wr.cell? ⟨RB, 1, none⟩ = some (.slice none 0 0) := RR.out.cell 1
      have r2 : wr.cell? ⟨RB, 2, none⟩ = some (.slice none 0 0) := RR.out.cell 2
      have r3 : wr.cell? ⟨RB, 3, none⟩ = some (.slice none 0 0) := RR.out.cell 3
      have rf : ∀ j, wr.frozen? ⟨RB, j, none⟩ = false := fun j => RR.out.froz j
      have hRBB : RB ≠ B := by omega
      go_wp2
      refine bodyPost_ret (results_cell_row Try.results42 _ _ RB 32 #[.slice b0 c.vs.length c0, .slice tb c.ts.length tc, .slice b1 c.ns.length c1, .slice b2 c.ch.length c2] (0, 0) _ rfl (Blk.set (Blk.set (Blk.set (Blk.set RR.out 0 _) 1 _) 2 _) 3 _) Try.underlying32 rfl (by kernel_rfl)) rfl ?_
      have hg9 : ∀ (p q r s : Value), wr.grownBy ((((wr.setCell ⟨RB, 0, none⟩ p).setCell ⟨RB, 1, none⟩ q).setCell ⟨RB, 2, none⟩ r).setCell ⟨RB, 3, none⟩ s) (some RB) := fun p q r s => gset (gset (gset (gset (World.grownBy.refl _ _) 0 p) 1 q) 2 r) 3 s
      have hb9 : ∀ (p q r s : Value), Below w.heap.size w ((((wr.setCell ⟨RB, 0, none⟩ p).setCell ⟨RB, 1, none⟩ q).setCell ⟨RB, 2, none⟩ r).setCell ⟨RB, 3, none⟩ s) := fun p q r s => ((((E0.out.trans (BR.out.mono hwu)).setCell (p := ⟨RB, 0, none⟩) hRw2 p).setCell (p := ⟨RB, 1, none⟩) hRw2 q).setCell (p := ⟨RB, 2, none⟩) hRw2 r).setCell (p := ⟨RB, 3, none⟩) hRw2 s
      refine ⟨⟨⟨b0, c0, tb, tc, b1, c1, b2, c2, L'⟩, rfl, fun D hD => ?_⟩, hb9 _ _ _ _⟩
      simp only [World.size_setCell] at hD
      obtain ⟨s0, n0, s1, n1, hc1, s2, n2⟩ := S5.out
      have mv : ∀ {α : Type} {enc : α → List Value} {k : Nat} {a : Option Addr} {l : List α} (p q r s : Value), RdG enc k wr a l → (∀ b o, a = some ⟨b, o, none⟩ → 0 < l.length → u.heap.size ≤ b) → RdG enc k ((((wr.setCell ⟨RB, 0, none⟩ p).setCell ⟨RB, 1, none⟩ q).setCell ⟨RB, 2, none⟩ r).setCell ⟨RB, 3, none⟩ s) a l ∧ NeA (fun b => w.heap.size ≤ b) D a l.length := fun p q r s hR hN =>
        ⟨hR.move (hg9 p q r s) (fun b o e h x => by injection x; have := hN b o e h; omega), fun b o e h => ⟨by have := hR.lt e h; have := hN b o e h; omega, by have := hN b o e h; show w.heap.size ≤ b; omega⟩⟩
      have t0 := s0.move GR.out (fun b o e h q => by injection q with q; exact (n0 b o e h).1 q.symm)
      have t1 := s1.move GR.out (fun b o e h q => by injection q with q; exact (n1 b o e h).1 q.symm)
      have t2 := s2.move GR.out (fun b o e h q => by injection q with q; exact (n2 b o e h).1 q.symm)
      have tT := rdG_of_own encT.len OT.out HLl.out
      have a0 := fun p q r s => mv p q r s t0 (fun b o e h => (n0 b o e h).2)
      have a1 := fun p q r s => mv p q r s t1 (fun b o e h => (n1 b o e h).2)
      have a2 := fun p q r s => mv p q r s t2 (fun b o e h => (n2 b o e h).2)
      have aT := fun p q r s => mv p q r s tT (fun b o e h => by have := (OT.out.lt b (by subst e; rfl)).1; omega)
      refine ⟨(a0 _ _ _ _).1, (a0 (.int .i64 0) (.int .i64 0) (.int .i64 0) (.int .i64 0)).2, by have := HY.out; rw [List.take_length] at this; exact this, (aT _ _ _ _).1, (aT (.int .i64 0) (.int .i64 0) (.int .i64 0) (.int .i64 0)).2, fun x hx => ?_, (a1 _ _ _ _).1, (a1 (.int .i64 0) (.int .i64 0) (.int .i64 0) (.int .i64 0)).2, hc1, (a2 _ _ _ _).1, (a2 (.int .i64 0) (.int .i64 0) (.int .i64 0) (.int .i64 0)).2⟩
      have hx2 := HT.out x hx
      have p1 := fun p q r s => mv p q r s hx2.1 (fun b o e h => (hx2.2.1 b o e h).2.1)
      have p2 := fun p q r s => mv p q r s hx2.2.2.1 (fun b o e h => (hx2.2.2.2 b o e h).2.1)
      exact ⟨(p1 _ _ _ _).1, (p1 (.int .i64 0) (.int .i64 0) (.int .i64 0) (.int .i64 0)).2, (p2 _ _ _ _).1, (p2 (.int .i64 0) (.int .i64 0) (.int .i64 0) (.int .i64 0)).2⟩
end Go.Proofs.Ytgehdgmllilmgaa
