/- GroupNew answers as its model at every argument; it writes into no argument, and its answer is its own. -/
import Derived.Test.YtmfpgnoeemjhiaaRows
import Derived.ProofKit
import Derived.OpenShut
import Derived.ShutString
import Derived.ChangeOld
import Derived.Test.YtmfpgnoeemjhiaaVX
import Derived.Test.YtmfpgnoeemjhiaaGX
import Derived.Test.YtmfpgnoeemjhiaaRowL
namespace Go.Proofs.Ytmfpgnoeemjhiaa
open Go.ChangeShapes Go.WideShapes Go.ChangeAt Go.RowKit
open Go.ChangeMaps (open_string shut_string)
set_option linter.unusedVariables false
set_option maxRecDepth 100000 in
set_option maxHeartbeats 4000000 in
theorem walk_FnExactGroupNew (ao : Option Addr) (L : List Vw) (ca : Nat) (w : World) (hR : RdVs w ao L) (hl : L.length ≤ maxLen) (hw : ∀ s ∈ L, s.l.length ≤ maxLen) :
    Calls Try.prog 4 #[.slice ao L.length ca] w fun e w' => e = .returned (.bool true) ∧ Below w.heap.size w w' := by
  have hl9 : L.length ≤ 9223372036854775807 := by unfold maxLen at hl; omega
  have CZ := hide1 (szIntSS_sum ao L ca 1048576 w (Nat.le_refl _) hl9 (fun x hx => by have h1 := hw x hx; unfold maxLen at h1; omega) hR)
  have HR := hide1 hR
  clear hR hw hl hl9
  go_enter Try.func4, Try.ntmps4
  go_wp2_with fail
  refine CZ.out.mono ?_
  rintro e wz ⟨hz, hbz⟩
  clear CZ
  rcases hz with rfl | ⟨r, rfl, hr1, hr2, hr3, hr4⟩
  · go_wp2
    go_ret
    exact ⟨rfl, hbz⟩
  · have qr : ¬ ((r : Int) < 0) := by omega
    have qr2 : decide ((r : Int) < 0) = false := decide_eq_false qr
    have HZ := hide1 hr3
    have HM := hide1 hr4
    have CT := hide1 (fun W (hb : Below w.heap.size w W) => toIntSS_own ao L ca W hr2 HZ.out (HR.out.later hb))
    have HV := hide1 (show ∀ (M : List Vw), M.map (·.l) = L.map (·.l) → M.length = L.length ∧ (∀ x ∈ M, x.l.length ≤ 1048576) ∧ sumV M M.length ≤ 1048576 from fun M hm => by
      have e1 : M.length = L.length := by have := congrArg List.length hm; simpa using this
      refine ⟨e1, fun x hx => ?_, ?_⟩
      · have h2 : x.l ∈ L.map (·.l) := by rw [← hm]; exact List.mem_map_of_mem hx
        obtain ⟨y, hy, e2⟩ := List.mem_map.mp h2
        rw [← e2]
        exact HZ.out y hy
      · have h3 := HM.out
        have e4 : sumV M M.length = sumV L L.length := by
          unfold sumV
          rw [List.take_length, List.take_length]
          have e5 := congrArg (fun z => (z.map List.length).sum) hm
          simpa [List.map_map, Function.comp_def] using e5
        omega)
    obtain ⟨vs, hvs⟩ : ∃ vs, vs = L.map (·.l) := ⟨_, rfl⟩
    have HW := hide1 (show ∀ (M : List Vw), M.map (·.l) = vsR vs → M.length ≤ 1048576 ∧ (∀ x ∈ M, x.l.length ≤ 1048576) ∧ sumV M M.length ≤ 1048576 from fun M hm => by
      unfold vsR at hm
      split at hm
      · rw [hvs] at hm
        obtain ⟨h1, h2, h3⟩ := HV.out M hm
        exact ⟨by omega, h2, h3⟩
      · have e : M = [] := by cases M with | nil => rfl | cons a l => simp at hm
        subst e
        exact ⟨by simp, by simp, by simp [sumV]⟩)
    have CS := hide1 (show ∀ (W : World) (b : Option Addr) (c : Nat) (M : List Vw), M.map (·.l) = L.map (·.l) → RdVs W b M → Calls Try.prog 10 #[.slice b L.length c] W fun e w' => (∃ (vb : Option Addr) (vc : Nat) (N : List Vw) (mb : Option Addr) (mc : Nat), e = .returned (.tuple #[.agg #[.slice vb N.length vc, .slice mb (msR vs).length mc, .slice none 0 0, .slice none 0 0], .bool (decide (okViews vs))]) ∧ Hid (N.map (·.l) = vsR vs) ∧ GpR w' vb N mb (msR vs)) ∧ Below W.heap.size W w' from fun W b c M hm h => by
      obtain ⟨e1, e2, _⟩ := HV.out M hm
      have h9 := specGroupNew_any b M c W (by omega) e2 h
      rw [e1, hm, ← hvs] at h9
      exact h9.mono (fun e w' ⟨⟨vb, vc, N, mb, mc, h1, h2, h3⟩, h4⟩ => ⟨⟨vb, vc, N, mb, mc, h1, hide1 h2, h3⟩, h4⟩))
    have CI := hide1 (show ∀ (W : World) (b : Option Addr) (c : Nat) (M : List Vw), M.map (·.l) = L.map (·.l) → RdVs W b M → Calls Try.prog 12 #[.slice b L.length c] W fun e w' => (∃ (vb : Option Addr) (vc : Nat) (N : List Vw) (mb : Option Addr) (mc : Nat), e = .returned (.tuple #[.agg #[.slice vb N.length vc, .slice mb (msR vs).length mc, .slice none 0 0, .slice none 0 0], .bool (decide (okViews vs))]) ∧ Hid (N.map (·.l) = vsR vs) ∧ GpO w' W.heap.size vb vc N mb mc (msR vs)) ∧ Below W.heap.size W w' from fun W b c M hm h => by
      obtain ⟨e1, e2, _⟩ := HV.out M hm
      have h9 := implGroupNew_any b M c W (by omega) e2 h
      rw [e1, hm, ← hvs] at h9
      exact h9.mono (fun e w' ⟨⟨vb, vc, N, mb, mc, h1, h2, h3⟩, h4⟩ => ⟨⟨vb, vc, N, mb, mc, h1, hide1 h2, h3⟩, h4⟩))
    have CE := hide1 (show ∀ (W : World) (b b' : Option Addr) (c c' : Nat) (M M' : List Vw), M.map (·.l) = L.map (·.l) → M'.map (·.l) = L.map (·.l) → RdVs W b M → RdVs W b' M' → Calls Try.prog 14 #[.slice b L.length c, .slice b' L.length c'] W fun e w' => e = .returned (.bool true) ∧ Below W.heap.size W w' from fun W b b' c c' M M' hm hm' h h' => by
      obtain ⟨e1, e2, _⟩ := HV.out M hm
      have h9 := eqIntSS_same b b' M M' c c' W (by omega) e2 (hm.trans hm'.symm) h h'
      rw [e1] at h9
      exact h9)
    have CM := hide1 (show ∀ (W : World) (B : Nat) (b : Option Addr) (c : Nat) (M : List Vw), M.map (·.l) = L.map (·.l) → B ≤ W.heap.size → OwnVs W B b c M → Calls Try.prog 15 #[.slice b L.length c, .int .i64 1] W fun e w' => (∃ q : Nat, e = .returned (.int .i64 (q : Int))) ∧ Below B W w' ∧ (∀ g, (∀ x ∈ M, (Value.slice x.a x.l.length x.c).ownBlock ≠ some g) → g < W.heap.size → w'.heap[g]? = W.heap[g]?) from fun W B b c M hm hB h => by
      obtain ⟨e1, e2, e3⟩ := HV.out M hm
      have h9 := markIntSS_own b M c B W (by omega) e2 e3 hB h
      rw [e1] at h9
      exact h9)
    have QE := hide1 (show ∀ (W : World) (vb vb' mb mb' : Option Addr) (vc vc' mc mc' : Nat) (N N' : List Vw), N.map (·.l) = vsR vs → N'.map (·.l) = vsR vs → GpR W vb N mb (msR vs) → GpR W vb' N' mb' (msR vs) → Calls Try.prog 13 #[.agg #[.slice vb N.length vc, .slice mb (msR vs).length mc, .slice none 0 0, .slice none 0 0], .agg #[.slice vb' N'.length vc', .slice mb' (msR vs).length mc', .slice none 0 0, .slice none 0 0]] W fun e w' => e = .returned (.bool true) ∧ Below W.heap.size W w' from fun W vb vb' mb mb' vc vc' mc mc' N N' hm hm' h h' => by
      obtain ⟨e1, e2, _⟩ := HW.out N hm
      exact eqGroup_same vb vb' mb mb' vc vc' mc mc' N N' (msR vs) W e1 e2 (hm.trans hm'.symm) (ms_len vs) (ms_noR vs) h h')
    have QM := hide1 (show ∀ (W : World) (B : Nat) (vb mb : Option Addr) (vc mc : Nat) (N : List Vw), N.map (·.l) = vsR vs → B ≤ W.heap.size → GpO W B vb vc N mb mc (msR vs) → Calls Try.prog 16 #[.agg #[.slice vb N.length vc, .slice mb (msR vs).length mc, .slice none 0 0, .slice none 0 0], .int .i64 1] W fun e w' => e = .returned (.int .i64 (mkQ N (msR vs) : Int)) ∧ GpK w' vb N mb (msR vs) ∧ Below B W w' ∧ (∀ g, OffG vb vc N mb mc (msR vs) g → g < W.heap.size → w'.heap[g]? = W.heap[g]?) from fun W B vb mb vc mc N hm hB h => by
      obtain ⟨e1, e2, e3⟩ := HW.out N hm
      exact markGroup_any vb mb vc mc B N (msR vs) W e1 e2 e3 (ms_len vs) (ms_noR vs) hB h)
    have QH := hide1 (show ∀ (W : World) (vb mb : Option Addr) (vc mc : Nat) (N : List Vw), N.map (·.l) = vsR vs → GpK W vb N mb (msR vs) → Calls Try.prog 17 #[.agg #[.slice vb N.length vc, .slice mb (msR vs).length mc, .slice none 0 0, .slice none 0 0], .int .i64 1] W fun e w' => e = .returned (.int .i64 (mkQ N (msR vs) : Int)) ∧ Below W.heap.size W w' from fun W vb mb vc mc N hm h => by
      obtain ⟨e1, e2, e3⟩ := HW.out N hm
      exact heldGroup_any vb mb vc mc N (msR vs) W e1 e2 e3 (ms_len vs) h)
    generalize decide (okViews vs) = gq at *
    have qg : (gq != gq) = false := by cases gq <;> rfl
    obtain ⟨ml, hml⟩ : ∃ z, z = msR vs := ⟨_, rfl⟩
    obtain ⟨vr, hvr⟩ : ∃ z, z = vsR vs := ⟨_, rfl⟩
    rw [← hml, ← hvr] at CS CI QE QM QH
    clear hml hvr hvs hr3 hr4 HW
    have E_0 := hide1 (hbz)
    clear hbz
    go_wp2_with fail
    refine (CT.out wz E_0.out).mono ?_
    rintro e w1 ⟨⟨Tb, Tc, TM, rfl, Tm, hO⟩, hb⟩
    have Th := hide1 Tm
    clear Tm
    have sT : wz.heap.size ≤ w1.heap.size := hb.size
    have E_1 := hide1 (E_0.out.trans ((hb).mono E_0.out.size))
    clear E_0
    have OT_1 := hide1 (hO)
    clear hb hO
    go_wp2_with fail
    refine (CS.out w1 Tb Tc TM Th.out OT_1.out.rd).mono ?_
    rintro e w2 ⟨⟨Wv, Wd, WN, Wm, We, rfl, Wh, hR9⟩, hb⟩
    have E_2 := hide1 (E_1.out.trans ((hb).mono E_1.out.size))
    have OT_2 := hide1 (OT_1.out.later (hb))
    clear E_1 OT_1
    have RW_2 := hide1 (hR9)
    clear hb hR9
    have FB := hide1 (And.intro (BlkA.new w2 35 (#[.slice Wv WN.length Wd, .slice Wm ml.length We, .slice none 0 0, .slice none 0 0])) ((Below.refl w2.heap.size w2).alloc (Nat.le_refl _) (.cells (#[.slice Wv WN.length Wd, .slice Wm ml.length We, .slice none 0 0, .slice none 0 0]) 35)))
    go_upto_region 6 with fail
    generalize (w2.alloc (.cells (#[.slice Wv WN.length Wd, .slice Wm ml.length We, .slice none 0 0, .slice none 0 0]) 35)) = u2 at FB ⊢
    obtain ⟨G4, hG4⟩ : ∃ G, G = w2.heap.size := ⟨_, rfl⟩
    have KB := hide1 FB.out.1
    rw [← hG4] at KB ⊢
    have zG4 : w2.heap.size ≤ G4 := by omega
    have E_3 := hide1 (E_2.out.trans ((FB.out.2).mono E_2.out.size))
    have OT_3 := hide1 (OT_2.out.later (FB.out.2))
    have RW_3 := hide1 (RW_2.out.later (FB.out.2))
    clear E_2 OT_2 RW_2
    have B4_3 := hide1 (KB.out)
    clear KB FB hG4
    have l4 : G4 < u2.heap.size := B4_3.out.lt
    have RWu := hide1 (fun W (hb : Below u2.heap.size u2 W) => RW_3.out.later hb)
    clear RW_3
    have EU_3 := hide1 (Below.refl u2.heap.size u2)
    have hE2 : w.heap.size ≤ u2.heap.size := E_3.out.size
    go_wp2_with fail
    refine (CT.out u2 E_3.out).mono ?_
    rintro e w3 ⟨⟨Xb, Xc, XM, rfl, Xm, hO⟩, hb⟩
    have Xh := hide1 Xm
    clear Xm
    have sX : u2.heap.size ≤ w3.heap.size := hb.size
    have E_4 := hide1 (E_3.out.trans ((hb).mono E_3.out.size))
    have OT_4 := hide1 (OT_3.out.later (hb))
    have B4_4 := hide1 (B4_3.out.below (hb) B4_3.out.lt)
    have EU_4 := hide1 (EU_3.out.trans ((hb).mono EU_3.out.size))
    clear E_3 OT_3 B4_3 EU_3
    have OX_4 := hide1 (hO)
    clear hb hO
    have OFX := hide1 (fun g (h : g < u2.heap.size ∨ w3.heap.size ≤ g) x (hx : x ∈ XM) (e : (Value.slice x.a x.l.length x.c).ownBlock = some g) => (show False by have h2 := (OX_4.out.r x hx).lt g e; omega))
    go_wp2_with fail
    refine (CI.out w3 Xb Xc XM Xh.out OX_4.out.rd).mono ?_
    rintro e w4 ⟨⟨Pv, Pd, PN, Pm, Pe, rfl, Ph, hR9⟩, hb⟩
    have s4 : w3.heap.size ≤ w4.heap.size := hb.size
    have E_5 := hide1 (E_4.out.trans ((hb).mono E_4.out.size))
    have OT_5 := hide1 (OT_4.out.later (hb))
    have B4_5 := hide1 (B4_4.out.below (hb) B4_4.out.lt)
    have EU_5 := hide1 (EU_4.out.trans ((hb).mono EU_4.out.size))
    have OX_5 := hide1 (OX_4.out.later (hb))
    clear E_4 OT_4 B4_4 EU_4 OX_4
    have OP_5 := hide1 (hR9)
    clear hb hR9
    have OFP := hide1 (fun g (h : g < w3.heap.size ∨ w4.heap.size ≤ g) => OP_5.out.off h)
    have FB := hide1 (And.intro (BlkA.new w4 35 (#[.slice Pv PN.length Pd, .slice Pm ml.length Pe, .slice none 0 0, .slice none 0 0])) ((Below.refl w4.heap.size w4).alloc (Nat.le_refl _) (.cells (#[.slice Pv PN.length Pd, .slice Pm ml.length Pe, .slice none 0 0, .slice none 0 0]) 35)))
    go_upto_region 8 with fail
    generalize (w4.alloc (.cells (#[.slice Pv PN.length Pd, .slice Pm ml.length Pe, .slice none 0 0, .slice none 0 0]) 35)) = u4 at FB ⊢
    obtain ⟨G6, hG6⟩ : ∃ G, G = w4.heap.size := ⟨_, rfl⟩
    have KB := hide1 FB.out.1
    rw [← hG6] at KB ⊢
    have zG6 : w4.heap.size ≤ G6 := by omega
    have E_6 := hide1 (E_5.out.trans ((FB.out.2).mono E_5.out.size))
    have OT_6 := hide1 (OT_5.out.later (FB.out.2))
    have B4_6 := hide1 (B4_5.out.below (FB.out.2) B4_5.out.lt)
    have EU_6 := hide1 (EU_5.out.trans ((FB.out.2).mono EU_5.out.size))
    have OX_6 := hide1 (OX_5.out.later (FB.out.2))
    have OP_6 := hide1 (OP_5.out.later (FB.out.2))
    clear E_5 OT_5 B4_5 EU_5 OX_5 OP_5
    have B6_6 := hide1 (KB.out)
    clear KB FB hG6
    have p0 : u4.cell? ⟨G6, 0, none⟩ = some (.slice Pv PN.length Pd) := B6_6.out.cell 0 rfl
    have p1 : u4.cell? ⟨G6, 1, none⟩ = some (.slice Pm ml.length Pe) := B6_6.out.cell 1 rfl
    have p2 : u4.cell? ⟨G6, 2, none⟩ = some (.slice none 0 0) := B6_6.out.cell 2 rfl
    have p3 : u4.cell? ⟨G6, 3, none⟩ = some (.slice none 0 0) := B6_6.out.cell 3 rfl
    have r0 : u4.cell? ⟨G4, 0, none⟩ = some (.slice Wv WN.length Wd) := B4_6.out.cell 0 rfl
    have r1 : u4.cell? ⟨G4, 1, none⟩ = some (.slice Wm ml.length We) := B4_6.out.cell 1 rfl
    have r2 : u4.cell? ⟨G4, 2, none⟩ = some (.slice none 0 0) := B4_6.out.cell 2 rfl
    have r3 : u4.cell? ⟨G4, 3, none⟩ = some (.slice none 0 0) := B4_6.out.cell 3 rfl
    go_wp2_with fail
    refine (QE.out u4 Pv Wv Pm Wm Pd Wd Pe We PN WN Ph.out Wh.out OP_6.out.rd (RWu.out u4 EU_6.out)).mono ?_
    rintro e w5 ⟨rfl, hb⟩
    clear p0 p1 p2 p3
    clear r0 r1 r2 r3
    have sw5 : u4.heap.size ≤ w5.heap.size := hb.size
    have E_7 := hide1 (E_6.out.trans ((hb).mono E_6.out.size))
    have OT_7 := hide1 (OT_6.out.later (hb))
    have B4_7 := hide1 (B4_6.out.below (hb) B4_6.out.lt)
    have EU_7 := hide1 (EU_6.out.trans ((hb).mono EU_6.out.size))
    have OX_7 := hide1 (OX_6.out.later (hb))
    have OP_7 := hide1 (OP_6.out.later (hb))
    have B6_7 := hide1 (B6_6.out.below (hb) B6_6.out.lt)
    clear E_6 OT_6 B4_6 EU_6 OX_6 OP_6 B6_6
    clear hb
    go_wp2_with fail
    refine (CT.out w5 E_7.out).mono ?_
    rintro e w6 ⟨⟨Yb, Yc, YM, rfl, Ym, hO⟩, hb⟩
    have Yh := hide1 Ym
    clear Ym
    have sY : w5.heap.size ≤ w6.heap.size := hb.size
    have E_8 := hide1 (E_7.out.trans ((hb).mono E_7.out.size))
    have OT_8 := hide1 (OT_7.out.later (hb))
    have B4_8 := hide1 (B4_7.out.below (hb) B4_7.out.lt)
    have EU_8 := hide1 (EU_7.out.trans ((hb).mono EU_7.out.size))
    have OX_8 := hide1 (OX_7.out.later (hb))
    have OP_8 := hide1 (OP_7.out.later (hb))
    have B6_8 := hide1 (B6_7.out.below (hb) B6_7.out.lt)
    clear E_7 OT_7 B4_7 EU_7 OX_7 OP_7 B6_7
    have OY_8 := hide1 (hO)
    clear hb hO
    go_wp2_with fail
    refine (CE.out w6 Xb Yb Xc Yc XM YM Xh.out Yh.out OX_8.out.rd OY_8.out.rd).mono ?_
    rintro e w7 ⟨rfl, hb⟩
    have E_9 := hide1 (E_8.out.trans ((hb).mono E_8.out.size))
    have OT_9 := hide1 (OT_8.out.later (hb))
    have B4_9 := hide1 (B4_8.out.below (hb) B4_8.out.lt)
    have EU_9 := hide1 (EU_8.out.trans ((hb).mono EU_8.out.size))
    have OX_9 := hide1 (OX_8.out.later (hb))
    have OP_9 := hide1 (OP_8.out.later (hb))
    have B6_9 := hide1 (B6_8.out.below (hb) B6_8.out.lt)
    have OY_9 := hide1 (OY_8.out.later (hb))
    clear E_8 OT_8 B4_8 EU_8 OX_8 OP_8 B6_8 OY_8
    clear hb
    have l6 : G6 < w7.heap.size := B6_9.out.lt
    have s7 : u2.heap.size ≤ w7.heap.size := by omega
    go_wp2_with fail
    refine (CM.out w7 u2.heap.size Xb Xc XM Xh.out s7 OX_9.out).mono ?_
    rintro e w9 ⟨⟨q9, rfl⟩, hB9, hF9⟩
    have mk0 : ¬ ((q9 : Int) < 0) := by omega
    have mk1 : decide ((q9 : Int) < 0) = false := decide_eq_false mk0
    have s9 : w7.heap.size ≤ w9.heap.size := by have := hB9.size; omega
    have E_10 := hide1 (E_9.out.trans (hB9.mono hE2))
    have B4_10 := hide1 (show BlkA w9 G4 35 (#[.slice Wv WN.length Wd, .slice Wm ml.length We, .slice none 0 0, .slice none 0 0]) from (hF9 G4 (OFX.out G4 (.inl l4)) B4_9.out.lt).trans B4_9.out)
    have B6_10 := hide1 (show BlkA w9 G6 35 (#[.slice Pv PN.length Pd, .slice Pm ml.length Pe, .slice none 0 0, .slice none 0 0]) from (hF9 G6 (OFX.out G6 (.inr (by omega))) B6_9.out.lt).trans B6_9.out)
    have EU_10 := hide1 (EU_9.out.trans hB9)
    have OP_10 := hide1 (GpO.heap OP_9.out s9 (fun g h1 h2 => hF9 g (fun x hx e => OFX.out g (.inr h1) x hx e) h2))
    clear hB9 hF9 E_9 OT_9 B4_9 EU_9 OX_9 OP_9 B6_9 OY_9
    have p0 : w9.cell? ⟨G6, 0, none⟩ = some (.slice Pv PN.length Pd) := B6_10.out.cell 0 rfl
    have p1 : w9.cell? ⟨G6, 1, none⟩ = some (.slice Pm ml.length Pe) := B6_10.out.cell 1 rfl
    have p2 : w9.cell? ⟨G6, 2, none⟩ = some (.slice none 0 0) := B6_10.out.cell 2 rfl
    have p3 : w9.cell? ⟨G6, 3, none⟩ = some (.slice none 0 0) := B6_10.out.cell 3 rfl
    have r0 : w9.cell? ⟨G4, 0, none⟩ = some (.slice Wv WN.length Wd) := B4_10.out.cell 0 rfl
    have r1 : w9.cell? ⟨G4, 1, none⟩ = some (.slice Wm ml.length We) := B4_10.out.cell 1 rfl
    have r2 : w9.cell? ⟨G4, 2, none⟩ = some (.slice none 0 0) := B4_10.out.cell 2 rfl
    have r3 : w9.cell? ⟨G4, 3, none⟩ = some (.slice none 0 0) := B4_10.out.cell 3 rfl
    go_wp2_with fail
    refine (QE.out w9 Pv Wv Pm Wm Pd Wd Pe We PN WN Ph.out Wh.out OP_10.out.rd (RWu.out w9 EU_10.out)).mono ?_
    rintro e w10 ⟨rfl, hb⟩
    clear p0 p1 p2 p3
    clear r0 r1 r2 r3
    have sw10 : w9.heap.size ≤ w10.heap.size := hb.size
    have E_11 := hide1 (E_10.out.trans ((hb).mono E_10.out.size))
    have B4_11 := hide1 (B4_10.out.below (hb) B4_10.out.lt)
    have EU_11 := hide1 (EU_10.out.trans ((hb).mono EU_10.out.size))
    have OP_11 := hide1 (OP_10.out.later (hb))
    have B6_11 := hide1 (B6_10.out.below (hb) B6_10.out.lt)
    clear E_10 B4_10 EU_10 OP_10 B6_10
    clear hb
    have p0 : w10.cell? ⟨G6, 0, none⟩ = some (.slice Pv PN.length Pd) := B6_11.out.cell 0 rfl
    have p1 : w10.cell? ⟨G6, 1, none⟩ = some (.slice Pm ml.length Pe) := B6_11.out.cell 1 rfl
    have p2 : w10.cell? ⟨G6, 2, none⟩ = some (.slice none 0 0) := B6_11.out.cell 2 rfl
    have p3 : w10.cell? ⟨G6, 3, none⟩ = some (.slice none 0 0) := B6_11.out.cell 3 rfl
    go_wp2_with fail
    refine (QM.out w10 w3.heap.size Pv Pm Pd Pe PN Ph.out (by omega) OP_11.out).mono ?_
    rintro e w11 ⟨rfl, hK9, hB9, hF9⟩
    clear p0 p1 p2 p3
    have E_12 := hide1 (E_11.out.trans (hB9.mono (by omega)))
    have B4_12 := hide1 (show BlkA w11 G4 35 (#[.slice Wv WN.length Wd, .slice Wm ml.length We, .slice none 0 0, .slice none 0 0]) from (hF9 G4 (OFP.out G4 (.inl (by omega))) B4_11.out.lt).trans B4_11.out)
    have B6_12 := hide1 (show BlkA w11 G6 35 (#[.slice Pv PN.length Pd, .slice Pm ml.length Pe, .slice none 0 0, .slice none 0 0]) from (hF9 G6 (OFP.out G6 (.inr (by omega))) B6_11.out.lt).trans B6_11.out)
    have EU_12 := hide1 (EU_11.out.trans (hB9.mono (by omega)))
    have KP_12 := hide1 hK9
    clear hB9 hF9 hK9 E_11 B4_11 EU_11 OP_11 B6_11
    have qq : ((mkQ PN ml : Int) != (mkQ PN ml : Int)) = false := by simp
    have qn : ¬ ((mkQ PN ml : Int) < 0) := by omega
    have p0 : w11.cell? ⟨G6, 0, none⟩ = some (.slice Pv PN.length Pd) := B6_12.out.cell 0 rfl
    have p1 : w11.cell? ⟨G6, 1, none⟩ = some (.slice Pm ml.length Pe) := B6_12.out.cell 1 rfl
    have p2 : w11.cell? ⟨G6, 2, none⟩ = some (.slice none 0 0) := B6_12.out.cell 2 rfl
    have p3 : w11.cell? ⟨G6, 3, none⟩ = some (.slice none 0 0) := B6_12.out.cell 3 rfl
    go_wp2_with fail
    refine (QH.out w11 Pv Pm Pd Pe PN Ph.out KP_12.out).mono ?_
    rintro e w12 ⟨rfl, hb⟩
    clear p0 p1 p2 p3
    have E_13 := hide1 (E_12.out.trans ((hb).mono E_12.out.size))
    have B4_13 := hide1 (B4_12.out.below (hb) B4_12.out.lt)
    have EU_13 := hide1 (EU_12.out.trans ((hb).mono EU_12.out.size))
    have B6_13 := hide1 (B6_12.out.below (hb) B6_12.out.lt)
    have KP_13 := hide1 (KP_12.out.later (hb))
    clear E_12 B4_12 EU_12 B6_12 KP_12
    clear hb
    go_wp2_with fail
    refine (CT.out w12 E_13.out).mono ?_
    rintro e w13 ⟨⟨Vb, Vc, VM, rfl, Vm, hO⟩, hb⟩
    have Vh := hide1 Vm
    clear Vm
    have sV : w12.heap.size ≤ w13.heap.size := hb.size
    have E_14 := hide1 (E_13.out.trans ((hb).mono E_13.out.size))
    have B4_14 := hide1 (B4_13.out.below (hb) B4_13.out.lt)
    have EU_14 := hide1 (EU_13.out.trans ((hb).mono EU_13.out.size))
    have B6_14 := hide1 (B6_13.out.below (hb) B6_13.out.lt)
    have KP_14 := hide1 (KP_13.out.later (hb))
    clear E_13 B4_13 EU_13 B6_13 KP_13
    have OV_14 := hide1 (hO)
    clear hb hO
    go_wp2_with fail
    refine (CI.out w13 Vb Vc VM Vh.out OV_14.out.rd).mono ?_
    rintro e w14 ⟨⟨Hv, Hd, HN, Hm, He, rfl, Hh, hR9⟩, hb⟩
    have E_15 := hide1 (E_14.out.trans ((hb).mono E_14.out.size))
    have B4_15 := hide1 (B4_14.out.below (hb) B4_14.out.lt)
    have EU_15 := hide1 (EU_14.out.trans ((hb).mono EU_14.out.size))
    have B6_15 := hide1 (B6_14.out.below (hb) B6_14.out.lt)
    have KP_15 := hide1 (KP_14.out.later (hb))
    have OV_15 := hide1 (OV_14.out.later (hb))
    clear E_14 B4_14 EU_14 B6_14 KP_14 OV_14
    have OH_15 := hide1 (hR9)
    clear hb hR9
    have FB := hide1 (And.intro (BlkA.new w14 35 (#[.slice Hv HN.length Hd, .slice Hm ml.length He, .slice none 0 0, .slice none 0 0])) ((Below.refl w14.heap.size w14).alloc (Nat.le_refl _) (.cells (#[.slice Hv HN.length Hd, .slice Hm ml.length He, .slice none 0 0, .slice none 0 0]) 35)))
    go_upto_region 25 with fail
    generalize (w14.alloc (.cells (#[.slice Hv HN.length Hd, .slice Hm ml.length He, .slice none 0 0, .slice none 0 0]) 35)) = u14 at FB ⊢
    obtain ⟨G7, hG7⟩ : ∃ G, G = w14.heap.size := ⟨_, rfl⟩
    have KB := hide1 FB.out.1
    rw [← hG7] at KB ⊢
    have zG7 : w14.heap.size ≤ G7 := by omega
    have E_16 := hide1 (E_15.out.trans ((FB.out.2).mono E_15.out.size))
    have B4_16 := hide1 (B4_15.out.below (FB.out.2) B4_15.out.lt)
    have EU_16 := hide1 (EU_15.out.trans ((FB.out.2).mono EU_15.out.size))
    have B6_16 := hide1 (B6_15.out.below (FB.out.2) B6_15.out.lt)
    have KP_16 := hide1 (KP_15.out.later (FB.out.2))
    have OV_16 := hide1 (OV_15.out.later (FB.out.2))
    have OH_16 := hide1 (OH_15.out.later (FB.out.2))
    clear E_15 B4_15 EU_15 B6_15 KP_15 OV_15 OH_15
    have B7_16 := hide1 (KB.out)
    clear KB FB hG7
    have p0 : u14.cell? ⟨G7, 0, none⟩ = some (.slice Hv HN.length Hd) := B7_16.out.cell 0 rfl
    have p1 : u14.cell? ⟨G7, 1, none⟩ = some (.slice Hm ml.length He) := B7_16.out.cell 1 rfl
    have p2 : u14.cell? ⟨G7, 2, none⟩ = some (.slice none 0 0) := B7_16.out.cell 2 rfl
    have p3 : u14.cell? ⟨G7, 3, none⟩ = some (.slice none 0 0) := B7_16.out.cell 3 rfl
    have r0 : u14.cell? ⟨G4, 0, none⟩ = some (.slice Wv WN.length Wd) := B4_16.out.cell 0 rfl
    have r1 : u14.cell? ⟨G4, 1, none⟩ = some (.slice Wm ml.length We) := B4_16.out.cell 1 rfl
    have r2 : u14.cell? ⟨G4, 2, none⟩ = some (.slice none 0 0) := B4_16.out.cell 2 rfl
    have r3 : u14.cell? ⟨G4, 3, none⟩ = some (.slice none 0 0) := B4_16.out.cell 3 rfl
    go_wp2_with fail
    refine (QE.out u14 Hv Wv Hm Wm Hd Wd He We HN WN Hh.out Wh.out OH_16.out.rd (RWu.out u14 EU_16.out)).mono ?_
    rintro e w15 ⟨rfl, hb⟩
    clear p0 p1 p2 p3
    clear r0 r1 r2 r3
    have sw15 : u14.heap.size ≤ w15.heap.size := hb.size
    have E_17 := hide1 (E_16.out.trans ((hb).mono E_16.out.size))
    have B4_17 := hide1 (B4_16.out.below (hb) B4_16.out.lt)
    have EU_17 := hide1 (EU_16.out.trans ((hb).mono EU_16.out.size))
    have B6_17 := hide1 (B6_16.out.below (hb) B6_16.out.lt)
    have KP_17 := hide1 (KP_16.out.later (hb))
    have OV_17 := hide1 (OV_16.out.later (hb))
    have OH_17 := hide1 (OH_16.out.later (hb))
    have B7_17 := hide1 (B7_16.out.below (hb) B7_16.out.lt)
    clear E_16 B4_16 EU_16 B6_16 KP_16 OV_16 OH_16 B7_16
    clear hb
    have p0 : w15.cell? ⟨G6, 0, none⟩ = some (.slice Pv PN.length Pd) := B6_17.out.cell 0 rfl
    have p1 : w15.cell? ⟨G6, 1, none⟩ = some (.slice Pm ml.length Pe) := B6_17.out.cell 1 rfl
    have p2 : w15.cell? ⟨G6, 2, none⟩ = some (.slice none 0 0) := B6_17.out.cell 2 rfl
    have p3 : w15.cell? ⟨G6, 3, none⟩ = some (.slice none 0 0) := B6_17.out.cell 3 rfl
    go_wp2_with fail
    refine (QH.out w15 Pv Pm Pd Pe PN Ph.out KP_17.out).mono ?_
    rintro e w16 ⟨rfl, hb⟩
    clear p0 p1 p2 p3
    have E_18 := hide1 (E_17.out.trans ((hb).mono E_17.out.size))
    have B4_18 := hide1 (B4_17.out.below (hb) B4_17.out.lt)
    have EU_18 := hide1 (EU_17.out.trans ((hb).mono EU_17.out.size))
    have B6_18 := hide1 (B6_17.out.below (hb) B6_17.out.lt)
    have KP_18 := hide1 (KP_17.out.later (hb))
    have OV_18 := hide1 (OV_17.out.later (hb))
    have OH_18 := hide1 (OH_17.out.later (hb))
    have B7_18 := hide1 (B7_17.out.below (hb) B7_17.out.lt)
    clear E_17 B4_17 EU_17 B6_17 KP_17 OV_17 OH_17 B7_17
    clear hb
    go_wp2
    go_ret
    exact ⟨rfl, E_18.out⟩

set_option maxRecDepth 100000 in
theorem lifted_FnExactGroupNew (os : Os) (started : os.Started) (H : Type) (enc : TypeId × Value → H) :
    ReturnsInHanded {} Try.checked os 4 .any (Rows.fnExactGroupNewSpec.pre6 enc Try.prog Try.f4 Rows.fnExactGroupNewRow.domain false) (Rows.fnExactGroupNewSpec.post enc Try.prog Try.f4 false true false false) := by
  refine returnsInHanded_of_change (C := Try.checked) (show ownKnob Try.prog.godebug = none by kernel_rfl) started (by kernel_rfl) Try.func4
    (ChangeSpec.witness6 (enc := enc) (C := Try.checked) false ⟨#[], #[.slice none 0 0], []⟩ 8 (by kernel_rfl) (by kernel_rfl) (by kernel_rfl) (by kernel_rfl)) ?_
  intro W base args ds gs before hval0 hW hcnd _
  have hval : ∀ (j : Nat) t v, Try.f4.params[j]? = some t → args[j]? = some v → Value.okWide Try.prog W .any base t v := hval0
  have hW' := hW
  obtain ⟨p, q, hA0, hV, rfl, hfz, hnd⟩ := hW
  have hA : DataW.TrodAll enc Try.prog W 0 (fun _ => true) true Try.f4.params.toList args.toList ds p := hA0
  rw [Try.params4] at hA hval
  obtain ⟨v0, vs0, d0, ds0, p0, q0, hargs, rfl, rfl, h0, r0⟩ := trodAll_cons hA
  obtain ⟨rfl, rfl, rfl⟩ := trodAll_nil r0
  obtain rfl : args = #[v0] := by cases args; simp_all
  obtain ⟨rfl, rfl⟩ := trodVars_none hV
  have k0 := h0
  have lt0 : ∀ x ∈ p0, x.block < W.heap.size := by obtain ⟨m, hm⟩ := k0; exact DataW.trod_lt m _ _ _ hm
  obtain ⟨ao0, l0, ca0, rfl, hR0, hl0, hw0⟩ := open_views (hval 0 29 v0 rfl rfl) h0
  clear hA0 hval0
  try simp only [List.append_nil] at hW'
  refine (walk_FnExactGroupNew ao0 l0 ca0 W hR0 hl0 hw0).mono fun e W' ⟨he, bel⟩ => ?_
  subst he
  exact ⟨_, rfl, _, _, _, [], _, [], hW', trodAll_mk1 (shut_bool Try.underlying4 _), (trodAll_cons_mk (Below.trod (show laidOutB Try.prog = true by kernel_rfl) (by kernel_rfl) (of_decide_eq_true (by kernel_rfl)) k0 bel lt0) trodAll_mk0), rfl, bel.frame _, fun h => by cases h⟩

theorem proved_FnExactGroupNew : Rows.FnExactGroupNewSaid :=
  OpenClaim.holds_of_wide 4 Try.f4 rfl rfl rfl rfl rfl rfl rfl ⟨rfl, rfl, rfl, rfl, rfl⟩ rfl rfl rfl rfl rfl (by kernel_rfl) Try.func4 (by kernel_rfl)
    (of_decide_eq_true (by kernel_rfl)) (by unfold Func.isWrapper; first | (rw [if_pos (by decide +kernel)]; kernel_rfl) | (rw [if_neg (by decide +kernel)]; exact ⟨rfl, rfl⟩))
    (fun os started H enc _ => lifted_FnExactGroupNew os started H enc)
#print axioms proved_FnExactGroupNew
end Go.Proofs.Ytmfpgnoeemjhiaa
