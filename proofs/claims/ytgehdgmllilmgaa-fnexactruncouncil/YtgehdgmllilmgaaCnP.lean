/- The program's councils: what a voice tells is brought to a try. -/
import Derived.Test.YtgehdgmllilmgaaYN
import Derived.Laws.EntriesVeiled
namespace Go.Proofs.Ytgehdgmllilmgaa
open Go.RowKit
set_option linter.unusedVariables false

/-- What a voice tells, brought to a try. -/
def tellC (c : Cn) (m : Nt) : Cn × Int :=
  if waitB (tyAt c m.o) m = false then (c, 1)
  else if m.k = 2 then ({ setTy c m.o (hearPr (tyAt c m.o) m c.vs.length).1 with ns := c.ns ++ (hearPr (tyAt c m.o) m c.vs.length).2 }, 0)
  else ({ setTy c m.o (hearTk (tyAt c m.o) m.f c.vs.length).1 with ch := c.ch ++ (hearTk (tyAt c m.o) m.f c.vs.length).2 }, 0)

set_option maxRecDepth 100000 in
set_option maxHeartbeats 4000000 in
theorem implTellP_any (c : Cn) (m : Nt) (A : CA) (B base : Nat) (j : Nat) (w : World) (h : VaO base w B A c) (hk : m.k = 2) (ho : m.o = (j : Int) + 1) (hj : j < c.ts.length) (hT : c.ts.length ≤ 1000) (nv : c.vs.length ≤ 1000) (nn : c.ns.length ≤ 100000) (nc : c.ch.length ≤ 100000) (hps : c.ts[j].ps.length ≤ 1000) (htk : c.ts[j].tk.length ≤ 1000) :
    Calls Try.prog 96 #[.pointer (some ⟨B, 0, none⟩), .agg #[.int .i64 m.k, .int .i64 m.f, .int .i64 m.o, .int .i64 m.b, .int .i64 m.t, .string m.v]] w fun e w' => e = .returned (.int .i64 (tellC c m).2) ∧ (∃ A', VaO base w' B A' (tellC c m).1 ∧ FrB A B w A' w') := by
  obtain ⟨g, t, hta, htq, hty, hc7⟩ := h.tryAt hj
  have HQ := hide1 (show tellC c m = if waitB t.y m = false then (c, 1) else ({ c with ts := c.ts.set j (hearPr t.y m c.vs.length).1, ns := c.ns ++ (hearPr t.y m c.vs.length).2 }, 0) by
    unfold tellC
    rw [ho, tyAt_nat c hj, setTy_nat, ← hty, if_pos hk])
  rw [HQ.out]
  have hps2 : t.y.ps.length ≤ 1000 := by rw [hty]; exact hps
  have htk2 : t.y.tk.length ≤ 1000 := by rw [hty]; exact htk
  obtain ⟨wb, hwb⟩ : ∃ b, waitB t.y m = b := ⟨_, rfl⟩
  have CW := hide1 (fun w' (hb : Below w.heap.size w w') => show Calls Try.prog 108 #[.pointer (some ⟨g, j * 7, none⟩), .agg #[.int .i64 2, .int .i64 m.f, .int .i64 ((j : Int) + 1), .int .i64 m.b, .int .i64 m.t, .string m.v]] w' (fun e w'' => e = .returned (.bool wb) ∧ Below w'.heap.size w' w'') by
    have h' := h.kept hb
    have ro := h'.o.r t (List.mem_of_getElem? htq)
    have := waits_any g (j * 7) t m w' (.inl hk) (by omega) (by omega) ((h'.try7 hta htq).1) (rdG_of_own encN.len ro.p rfl) (rdG_of_own encZ.len ro.k rfl)
    rw [hwb, hk, ho] at this
    exact this)
  rw [hwb]
  have HV := hide1 h
  have HTA := hide1 hta
  have HT := hide1 htq
  have HK := hide1 hk
  have HOO := hide1 ho
  have y1 := h.cells.2.1
  rw [hta] at y1
  have lBw : B < w.heap.size := h.b.lt
  have kj : (j : Int) < (c.ts.length : Int) := by omega
  have kj0 : (0 : Int) ≤ (j : Int) := by omega
  have qj : (j : Int) + 1 - 1 = (j : Int) := by omega
  have qw : IntKind.i64.wrap ((j : Int) + 1 - 1) = (j : Int) := by rw [qj]; exact IntWalk.i64_in _ ⟨by omega, by omega⟩
  have qw2 : IntKind.i64.wrap (j : Int) = (j : Int) := IntWalk.i64_in _ ⟨by omega, by omega⟩
  have Y1 := hide1 y1
  clear h hc7 hwb HQ hty hps htk hta htq qj
  rw [hk, ho]
  clear hk ho
  have F0 := hide1 (blkN2 w #[.int .i64 2, .int .i64 m.f, .int .i64 ((j : Int) + 1), .int .i64 m.b, .int .i64 m.t, .string m.v] #[.nilFunc, .nilFunc, .func (.func 106) #[] #[], .nilFunc, .func (.func 107) #[] #[]] 111 149)
  go_enter Try.func96, Try.ntmps96
  go_upto_region 2 with fail
  generalize ((w.alloc (.cells #[.int .i64 2, .int .i64 m.f, .int .i64 ((j : Int) + 1), .int .i64 m.b, .int .i64 m.t, .string m.v] 111)).alloc (.cells #[.nilFunc, .nilFunc, .func (.func 106) #[] #[], .nilFunc, .func (.func 107) #[] #[]] 149)) = u at F0 ⊢
  obtain ⟨M, hM⟩ : ∃ M, M = w.heap.size := ⟨_, rfl⟩
  obtain ⟨H, hH⟩ : ∃ H, H = w.heap.size + 1 := ⟨_, rfl⟩
  have K0 := hide1 F0.out.1
  have K1 := hide1 F0.out.2.1
  have B0 := hide1 F0.out.2.2
  rw [← hM] at K0
  rw [← hH] at K1 ⊢
  rw [show ({block := w.heap.size, off := 0} : Addr) = ⟨M, 0, none⟩ by rw [hM]]
  have HVU := hide1 (HV.out.kept B0.out)
  have hMB : M ≠ B := by omega
  have hHB : H ≠ B := by omega
  have lMu : M < u.heap.size := K0.out.lt
  have lHu : H < u.heap.size := K1.out.lt
  have lBu : B < u.heap.size := HVU.out.b.lt
  have NI := hide1 (show ¬ InA A M ∧ ¬ InA A H from ⟨fun e => by have := (HV.out.o.inA e).2; omega, fun e => by have := (HV.out.o.inA e).2; omega⟩)
  clear F0 hM hH y1
  have b1 : u.cell? ⟨B, 1, none⟩ = some (.slice (some ⟨g, 0, none⟩) c.ts.length A.tc) := (B0.out.cell lBw).trans Y1.out
  have n2 : u.cell? ⟨M, 2, none⟩ = some (.int .i64 ((j : Int) + 1)) := K0.out.cell 2
  go_cut [6] (fun tv wx => tv = .pointer (some ⟨g, j * 7, none⟩) ∧ Hid (Below u.heap.size u wx))
  case first =>
    go_region_held3 (fun w' => w'.cell? ⟨B, 1, none⟩ = some (.slice (some ⟨g, 0, none⟩) c.ts.length A.tc) ∧ w'.cell? ⟨M, 2, none⟩ = some (.int .i64 ((j : Int) + 1))) (go_keep) (fail)
    go_wp2_with fail
    go_meet
    exact ⟨rfl, hide1 (Below.refl _ _).drew⟩
  case rest =>
    obtain ⟨rfl, DC⟩ := hcut
    have HVC := hide1 (HVU.out.kept DC.out)
    have KC := hide1 (K0.out.below DC.out lMu)
    have KH := hide1 (K1.out.below DC.out lHu)
    have BC := hide1 (B0.out.trans (DC.out.mono B0.out.size))
    clear b1 n2 HVU
    generalize wc = u2 at *
    have lM2 : M < u2.heap.size := KC.out.lt
    have lH2 : H < u2.heap.size := KH.out.lt
    have lB2 : B < u2.heap.size := HVC.out.b.lt
    have n0 : u2.cell? ⟨M, 0, none⟩ = some (.int .i64 2) := KC.out.cell 0
    have n1 : u2.cell? ⟨M, 1, none⟩ = some (.int .i64 m.f) := KC.out.cell 1
    have n2 : u2.cell? ⟨M, 2, none⟩ = some (.int .i64 ((j : Int) + 1)) := KC.out.cell 2
    have n3 : u2.cell? ⟨M, 3, none⟩ = some (.int .i64 m.b) := KC.out.cell 3
    have n4 : u2.cell? ⟨M, 4, none⟩ = some (.int .i64 m.t) := KC.out.cell 4
    have n5 : u2.cell? ⟨M, 5, none⟩ = some (.string m.v) := KC.out.cell 5
    go_wp2_with fail
    refine (CW.out u2 BC.out).mono ?_
    rintro e w3 ⟨rfl, hb3⟩
    have D3 := hide1 hb3
    have B3 := hide1 (BC.out.trans (hb3.mono BC.out.size))
    have HV3 := hide1 (HVC.out.kept hb3)
    have K3 := hide1 (KC.out.below hb3 lM2)
    have H3 := hide1 (KH.out.below hb3 lH2)
    have R3 := hide1 ((FrB.refl A B w).below B3.out)
    clear hb3 n0 n1 n2 n3 n4 n5 CW HVC KC KH
    cases wb
    · go_wp2
      go_ret
      exact ⟨rfl, A, HV3.out, R3.out⟩
    · have lM3 : M < w3.heap.size := K3.out.lt
      have lH3 : H < w3.heap.size := H3.out.lt
      have lB3 : B < w3.heap.size := HV3.out.b.lt
      have n0 : w3.cell? ⟨M, 0, none⟩ = some (.int .i64 2) := K3.out.cell 0
      have n1 : w3.cell? ⟨M, 1, none⟩ = some (.int .i64 m.f) := K3.out.cell 1
      have n2 : w3.cell? ⟨M, 2, none⟩ = some (.int .i64 ((j : Int) + 1)) := K3.out.cell 2
      have n3 : w3.cell? ⟨M, 3, none⟩ = some (.int .i64 m.b) := K3.out.cell 3
      have n4 : w3.cell? ⟨M, 4, none⟩ = some (.int .i64 m.t) := K3.out.cell 4
      have n5 : w3.cell? ⟨M, 5, none⟩ = some (.string m.v) := K3.out.cell 5
      have f2 : w3.cell? ⟨H, 2, none⟩ = some (.func (.func 106) #[] #[]) := H3.out.cell 2
      have b0 : w3.cell? ⟨B, 0, none⟩ = some (.slice A.va c.vs.length A.vc) := HV3.out.cells.1
      have CH := hide1 (fun w' (hb : Below w3.heap.size w3 w') => implHearP_any c m A B base g j c.vs.length t w' (HV3.out.kept hb) HTA.out HT.out nv hps2)
      obtain ⟨rr, hrr⟩ : ∃ r, hearPr t.y m c.vs.length = r := ⟨_, rfl⟩
      have HRR := hide1 hrr
      rw [HK.out, HOO.out] at CH
      go_upto_region 5 with fail
      go_cut [7, 8] (fun av cv wx => ∃ (a : Option Addr) (q ca : Nat), av = .slice a q ca ∧ cv = .slice none 0 0 ∧ ∃ A', q = (hearPr t.y m c.vs.length).2.length ∧ Hid (RdG ntC 6 wx a (hearPr t.y m c.vs.length).2) ∧ Hid (∀ x, a = some x → x.block ≠ B ∧ ¬ InA A' x.block) ∧ Hid (VaO base wx B A' { c with ts := c.ts.set j (hearPr t.y m c.vs.length).1 }) ∧ Hid (FrB A B w3 A' wx))
      case first =>
        go_region_with (go_at_call 106; refine (CH.out _ (by go_grown)).mono ?_; rintro e w4 ⟨a4, q4, c4, rfl, A4, h41, h42, h43, h44, h45⟩; have Z := hide1 (And.intro h41 (And.intro h42 (And.intro h43 (And.intro h44 h45)))); clear h41 h42 h43 h44 h45 n0 n1 n2 n3 n4 n5 f2 b0)
        all_goals
          go_wp2_with fail
          go_meet
          exact ⟨a4, q4, c4, rfl, rfl, A4, Z.out.1, hide1 Z.out.2.1, hide1 Z.out.2.2.1, hide1 Z.out.2.2.2.1, hide1 ((show FrB A B w3 A w3.drew from (FrB.refl _ _ _).below (Below.refl _ _).drew).trans Z.out.2.2.2.2)⟩
      case rest =>
        obtain ⟨a, q, ca, rfl, rfl, A4, rfl, RA, NX, HV4, R4⟩ := hcut
        have HLQ := hide1 (show (hearPr t.y m c.vs.length).2.length ≤ 1000 by unfold hearPr; split <;> simp; omega)
        rw [hrr] at RA HV4 HLQ ⊢
        clear hrr n0 n1 n2 n3 n4 n5 f2 b0 CH
        obtain ⟨ry, rl⟩ := rr
        dsimp only at RA HV4 HLQ ⊢
        have hlq := HLQ.out
        have z2 := HV4.out.cells.2.2.1
        have zf : wc.frozen? ⟨B, 2, none⟩ = false := HV4.out.b.froz 2
        dsimp only at z2
        go_upto_region 7 with (at_builtin; (refine wpList_sayN HV4.out (Below.refl _ _) rfl (.tmp 41) (.tmp 42) rfl rfl a rl.length ca rl rfl rfl RA.out (show c.ns.length + _ ≤ 1048576 by omega) ?_; intro b5 c5 w5 hs5; have S5 := hide1 hs5; clear hs5 z2 zf; have z2 : w5.cell? ⟨B, 2, none⟩ = some (.slice A4.na c.ns.length A4.nc) := S5.out.b.cell 2; have zf : w5.frozen? ⟨B, 2, none⟩ = false := S5.out.b.froz 2))
        have HV6 := hide1 S5.out.v
        have R6 := hide1 S5.out.f
        dsimp only at HV6 R6 ⊢
        generalize w5.setCell ⟨B, 2, none⟩ (.slice b5 (c.ns.length + rl.length) c5) = w6 at HV6 R6 ⊢
        clear z2 zf S5
        have z3 := HV6.out.cells.2.2.2
        have zg : w6.frozen? ⟨B, 3, none⟩ = false := HV6.out.b.froz 3
        dsimp only at z3
        skip
        go_upto_region 8 with (at_builtin; (refine wpList_sayC HV6.out (Below.refl _ _) rfl (.tmp 50) (.tmp 51) rfl rfl none 0 0 [] rfl rfl (RdG.nil _ _) (show c.ch.length + _ ≤ 1048576 by omega) ?_; intro b7 c7 w7 hs7; have S7 := hide1 hs7; clear hs7 z3 zg; have z3 : w7.cell? ⟨B, 3, none⟩ = some (.slice A4.ca c.ch.length A4.cc) := S7.out.b.cell 3; have zg : w7.frozen? ⟨B, 3, none⟩ = false := S7.out.b.froz 3))
        have HV8 := hide1 S7.out.v
        have R8 := hide1 S7.out.f
        dsimp only at HV8 R8 ⊢
        generalize w7.setCell ⟨B, 3, none⟩ (.slice b7 (c.ch.length + ([] : List ByteArray).length) c7) = w8 at HV8 R8 ⊢
        rw [List.append_nil] at HV8
        clear z3 zg S7
        go_wp2
        go_ret
        exact ⟨rfl, _, by rw [HRR.out]; exact HV8.out, R3.out.trans (R4.out.trans (R6.out.trans R8.out))⟩

set_option maxRecDepth 100000 in
set_option maxHeartbeats 4000000 in
theorem implTellT_any (c : Cn) (m : Nt) (A : CA) (B base : Nat) (j : Nat) (w : World) (h : VaO base w B A c) (hk : m.k = 4) (ho : m.o = (j : Int) + 1) (hj : j < c.ts.length) (hT : c.ts.length ≤ 1000) (nv : c.vs.length ≤ 1000) (nn : c.ns.length ≤ 100000) (nc : c.ch.length ≤ 100000) (hps : c.ts[j].ps.length ≤ 1000) (htk : c.ts[j].tk.length ≤ 1000) :
    Calls Try.prog 96 #[.pointer (some ⟨B, 0, none⟩), .agg #[.int .i64 m.k, .int .i64 m.f, .int .i64 m.o, .int .i64 m.b, .int .i64 m.t, .string m.v]] w fun e w' => e = .returned (.int .i64 (tellC c m).2) ∧ (∃ A', VaO base w' B A' (tellC c m).1 ∧ FrB A B w A' w') := by
  obtain ⟨g, t, hta, htq, hty, hc7⟩ := h.tryAt hj
  have HQ := hide1 (show tellC c m = if waitB t.y m = false then (c, 1) else ({ c with ts := c.ts.set j (hearTk t.y m.f c.vs.length).1, ch := c.ch ++ (hearTk t.y m.f c.vs.length).2 }, 0) by
    unfold tellC
    rw [ho, tyAt_nat c hj, setTy_nat, ← hty, if_neg (show ¬ m.k = 2 by omega), setTy_nat])
  rw [HQ.out]
  have hps2 : t.y.ps.length ≤ 1000 := by rw [hty]; exact hps
  have htk2 : t.y.tk.length ≤ 1000 := by rw [hty]; exact htk
  obtain ⟨wb, hwb⟩ : ∃ b, waitB t.y m = b := ⟨_, rfl⟩
  have CW := hide1 (fun w' (hb : Below w.heap.size w w') => show Calls Try.prog 108 #[.pointer (some ⟨g, j * 7, none⟩), .agg #[.int .i64 4, .int .i64 m.f, .int .i64 ((j : Int) + 1), .int .i64 m.b, .int .i64 m.t, .string m.v]] w' (fun e w'' => e = .returned (.bool wb) ∧ Below w'.heap.size w' w'') by
    have h' := h.kept hb
    have ro := h'.o.r t (List.mem_of_getElem? htq)
    have := waits_any g (j * 7) t m w' (.inr hk) (by omega) (by omega) ((h'.try7 hta htq).1) (rdG_of_own encN.len ro.p rfl) (rdG_of_own encZ.len ro.k rfl)
    rw [hwb, hk, ho] at this
    exact this)
  rw [hwb]
  have HV := hide1 h
  have HTA := hide1 hta
  have HT := hide1 htq
  have HK := hide1 hk
  have HOO := hide1 ho
  have y1 := h.cells.2.1
  rw [hta] at y1
  have lBw : B < w.heap.size := h.b.lt
  have kj : (j : Int) < (c.ts.length : Int) := by omega
  have kj0 : (0 : Int) ≤ (j : Int) := by omega
  have qj : (j : Int) + 1 - 1 = (j : Int) := by omega
  have qw : IntKind.i64.wrap ((j : Int) + 1 - 1) = (j : Int) := by rw [qj]; exact IntWalk.i64_in _ ⟨by omega, by omega⟩
  have qw2 : IntKind.i64.wrap (j : Int) = (j : Int) := IntWalk.i64_in _ ⟨by omega, by omega⟩
  have Y1 := hide1 y1
  clear h hc7 hwb HQ hty hps htk hta htq qj
  rw [hk, ho]
  clear hk ho
  have F0 := hide1 (blkN2 w #[.int .i64 4, .int .i64 m.f, .int .i64 ((j : Int) + 1), .int .i64 m.b, .int .i64 m.t, .string m.v] #[.nilFunc, .nilFunc, .func (.func 106) #[] #[], .nilFunc, .func (.func 107) #[] #[]] 111 149)
  go_enter Try.func96, Try.ntmps96
  go_upto_region 2 with fail
  generalize ((w.alloc (.cells #[.int .i64 4, .int .i64 m.f, .int .i64 ((j : Int) + 1), .int .i64 m.b, .int .i64 m.t, .string m.v] 111)).alloc (.cells #[.nilFunc, .nilFunc, .func (.func 106) #[] #[], .nilFunc, .func (.func 107) #[] #[]] 149)) = u at F0 ⊢
  obtain ⟨M, hM⟩ : ∃ M, M = w.heap.size := ⟨_, rfl⟩
  obtain ⟨H, hH⟩ : ∃ H, H = w.heap.size + 1 := ⟨_, rfl⟩
  have K0 := hide1 F0.out.1
  have K1 := hide1 F0.out.2.1
  have B0 := hide1 F0.out.2.2
  rw [← hM] at K0
  rw [← hH] at K1 ⊢
  rw [show ({block := w.heap.size, off := 0} : Addr) = ⟨M, 0, none⟩ by rw [hM]]
  have HVU := hide1 (HV.out.kept B0.out)
  have hMB : M ≠ B := by omega
  have hHB : H ≠ B := by omega
  have lMu : M < u.heap.size := K0.out.lt
  have lHu : H < u.heap.size := K1.out.lt
  have lBu : B < u.heap.size := HVU.out.b.lt
  have NI := hide1 (show ¬ InA A M ∧ ¬ InA A H from ⟨fun e => by have := (HV.out.o.inA e).2; omega, fun e => by have := (HV.out.o.inA e).2; omega⟩)
  clear F0 hM hH y1
  have b1 : u.cell? ⟨B, 1, none⟩ = some (.slice (some ⟨g, 0, none⟩) c.ts.length A.tc) := (B0.out.cell lBw).trans Y1.out
  have n2 : u.cell? ⟨M, 2, none⟩ = some (.int .i64 ((j : Int) + 1)) := K0.out.cell 2
  go_cut [6] (fun tv wx => tv = .pointer (some ⟨g, j * 7, none⟩) ∧ Hid (Below u.heap.size u wx))
  case first =>
    go_region_held3 (fun w' => w'.cell? ⟨B, 1, none⟩ = some (.slice (some ⟨g, 0, none⟩) c.ts.length A.tc) ∧ w'.cell? ⟨M, 2, none⟩ = some (.int .i64 ((j : Int) + 1))) (go_keep) (fail)
    go_wp2_with fail
    go_meet
    exact ⟨rfl, hide1 (Below.refl _ _).drew⟩
  case rest =>
    obtain ⟨rfl, DC⟩ := hcut
    have HVC := hide1 (HVU.out.kept DC.out)
    have KC := hide1 (K0.out.below DC.out lMu)
    have KH := hide1 (K1.out.below DC.out lHu)
    have BC := hide1 (B0.out.trans (DC.out.mono B0.out.size))
    clear b1 n2 HVU
    generalize wc = u2 at *
    have lM2 : M < u2.heap.size := KC.out.lt
    have lH2 : H < u2.heap.size := KH.out.lt
    have lB2 : B < u2.heap.size := HVC.out.b.lt
    have n0 : u2.cell? ⟨M, 0, none⟩ = some (.int .i64 4) := KC.out.cell 0
    have n1 : u2.cell? ⟨M, 1, none⟩ = some (.int .i64 m.f) := KC.out.cell 1
    have n2 : u2.cell? ⟨M, 2, none⟩ = some (.int .i64 ((j : Int) + 1)) := KC.out.cell 2
    have n3 : u2.cell? ⟨M, 3, none⟩ = some (.int .i64 m.b) := KC.out.cell 3
    have n4 : u2.cell? ⟨M, 4, none⟩ = some (.int .i64 m.t) := KC.out.cell 4
    have n5 : u2.cell? ⟨M, 5, none⟩ = some (.string m.v) := KC.out.cell 5
    go_wp2_with fail
    refine (CW.out u2 BC.out).mono ?_
    rintro e w3 ⟨rfl, hb3⟩
    have D3 := hide1 hb3
    have B3 := hide1 (BC.out.trans (hb3.mono BC.out.size))
    have HV3 := hide1 (HVC.out.kept hb3)
    have K3 := hide1 (KC.out.below hb3 lM2)
    have H3 := hide1 (KH.out.below hb3 lH2)
    have R3 := hide1 ((FrB.refl A B w).below B3.out)
    clear hb3 n0 n1 n2 n3 n4 n5 CW HVC KC KH
    cases wb
    · go_wp2
      go_ret
      exact ⟨rfl, A, HV3.out, R3.out⟩
    · have lM3 : M < w3.heap.size := K3.out.lt
      have lH3 : H < w3.heap.size := H3.out.lt
      have lB3 : B < w3.heap.size := HV3.out.b.lt
      have n0 : w3.cell? ⟨M, 0, none⟩ = some (.int .i64 4) := K3.out.cell 0
      have n1 : w3.cell? ⟨M, 1, none⟩ = some (.int .i64 m.f) := K3.out.cell 1
      have n2 : w3.cell? ⟨M, 2, none⟩ = some (.int .i64 ((j : Int) + 1)) := K3.out.cell 2
      have n3 : w3.cell? ⟨M, 3, none⟩ = some (.int .i64 m.b) := K3.out.cell 3
      have n4 : w3.cell? ⟨M, 4, none⟩ = some (.int .i64 m.t) := K3.out.cell 4
      have n5 : w3.cell? ⟨M, 5, none⟩ = some (.string m.v) := K3.out.cell 5
      have f2 : w3.cell? ⟨H, 4, none⟩ = some (.func (.func 107) #[] #[]) := H3.out.cell 4
      have b0 : w3.cell? ⟨B, 0, none⟩ = some (.slice A.va c.vs.length A.vc) := HV3.out.cells.1
      have CH := hide1 (fun w' (hb : Below w3.heap.size w3 w') => implHearT_any c m A B base g j c.vs.length t w' (HV3.out.kept hb) HTA.out HT.out nv htk2)
      obtain ⟨rr, hrr⟩ : ∃ r, hearTk t.y m.f c.vs.length = r := ⟨_, rfl⟩
      have HRR := hide1 hrr
      rw [HK.out, HOO.out] at CH
      go_upto_region 5 with fail
      go_cut [7, 8] (fun av cv wx => ∃ (a : Option Addr) (q ca : Nat), av = .slice none 0 0 ∧ cv = .slice a q ca ∧ ∃ A', q = (hearTk t.y m.f c.vs.length).2.length ∧ Hid (RdG txE 1 wx a (hearTk t.y m.f c.vs.length).2) ∧ Hid (∀ x, a = some x → x.block ≠ B ∧ ¬ InA A' x.block) ∧ Hid (VaO base wx B A' { c with ts := c.ts.set j (hearTk t.y m.f c.vs.length).1 }) ∧ Hid (FrB A B w3 A' wx))
      case first =>
        go_region_with (go_at_call 107; refine (CH.out _ (by go_grown)).mono ?_; rintro e w4 ⟨a4, q4, c4, rfl, A4, h41, h42, h43, h44, h45⟩; have Z := hide1 (And.intro h41 (And.intro h42 (And.intro h43 (And.intro h44 h45)))); clear h41 h42 h43 h44 h45 n0 n1 n2 n3 n4 n5 f2 b0)
        all_goals
          go_wp2_with fail
          go_meet
          exact ⟨a4, q4, c4, rfl, rfl, A4, Z.out.1, hide1 Z.out.2.1, hide1 Z.out.2.2.1, hide1 Z.out.2.2.2.1, hide1 ((show FrB A B w3 A w3.drew from (FrB.refl _ _ _).below (Below.refl _ _).drew).trans Z.out.2.2.2.2)⟩
      case rest =>
        obtain ⟨a, q, ca, rfl, rfl, A4, rfl, RA, NX, HV4, R4⟩ := hcut
        have HLQ := hide1 (show (hearTk t.y m.f c.vs.length).2.length ≤ 1000 by unfold hearTk; split <;> simp)
        rw [hrr] at RA HV4 HLQ ⊢
        clear hrr n0 n1 n2 n3 n4 n5 f2 b0 CH
        obtain ⟨ry, rl⟩ := rr
        dsimp only at RA HV4 HLQ ⊢
        have hlq := HLQ.out
        have z2 := HV4.out.cells.2.2.1
        have zf : wc.frozen? ⟨B, 2, none⟩ = false := HV4.out.b.froz 2
        dsimp only at z2
        go_upto_region 7 with (at_builtin; (refine wpList_sayN HV4.out (Below.refl _ _) rfl (.tmp 41) (.tmp 42) rfl rfl none 0 0 [] rfl rfl (RdG.nil _ _) (show c.ns.length + _ ≤ 1048576 by omega) ?_; intro b5 c5 w5 hs5; have S5 := hide1 hs5; clear hs5 z2 zf; have z2 : w5.cell? ⟨B, 2, none⟩ = some (.slice A4.na c.ns.length A4.nc) := S5.out.b.cell 2; have zf : w5.frozen? ⟨B, 2, none⟩ = false := S5.out.b.froz 2))
        have HV6 := hide1 S5.out.v
        have R6 := hide1 S5.out.f
        dsimp only at HV6 R6 ⊢
        generalize w5.setCell ⟨B, 2, none⟩ (.slice b5 (c.ns.length + ([] : List Nt).length) c5) = w6 at HV6 R6 ⊢
        clear z2 zf S5
        have z3 := HV6.out.cells.2.2.2
        have zg : w6.frozen? ⟨B, 3, none⟩ = false := HV6.out.b.froz 3
        dsimp only at z3
        have RX := hide1 (R6.out.rd RA.out (fun x hx => ⟨(NX.out x hx).2, (NX.out x hx).1⟩))
        go_upto_region 8 with (at_builtin; (refine wpList_sayC HV6.out (Below.refl _ _) rfl (.tmp 50) (.tmp 51) rfl rfl a rl.length ca rl rfl rfl RX.out (show c.ch.length + _ ≤ 1048576 by omega) ?_; intro b7 c7 w7 hs7; have S7 := hide1 hs7; clear hs7 z3 zg; have z3 : w7.cell? ⟨B, 3, none⟩ = some (.slice A4.ca c.ch.length A4.cc) := S7.out.b.cell 3; have zg : w7.frozen? ⟨B, 3, none⟩ = false := S7.out.b.froz 3))
        have HV8 := hide1 S7.out.v
        have R8 := hide1 S7.out.f
        dsimp only at HV8 R8 ⊢
        generalize w7.setCell ⟨B, 3, none⟩ (.slice b7 (c.ch.length + rl.length) c7) = w8 at HV8 R8 ⊢
        rw [List.append_nil] at HV8
        clear z3 zg S7
        go_wp2
        go_ret
        exact ⟨rfl, _, by rw [HRR.out]; exact HV8.out, R3.out.trans (R4.out.trans (R6.out.trans R8.out))⟩

end Go.Proofs.Ytgehdgmllilmgaa
