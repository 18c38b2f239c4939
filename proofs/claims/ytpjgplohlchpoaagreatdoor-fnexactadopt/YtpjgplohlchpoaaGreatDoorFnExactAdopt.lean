/- Adopt answers as its model at every argument, the library's variable errors.errorType being as the program's text lays it (the card ties it to the text of a pruned copy of the project); it writes into no argument, and its answer is its own. -/
import Derived.Test.YtpjgplohlchpoaaGreatDoorCards
import Derived.Test.YtpjgplohlchpoaaGreatDoorTie
import Derived.ProofKit
import Derived.LaidMore
import Derived.OpenShut
import Derived.ShutString
import Derived.ChangeOld
import Derived.Stop.Joined
import Derived.Stop.LaidErr
import Derived.SevenTiedAt
import Derived.Test.YtpjgplohlchpoaaGreatDoorUBA
import Derived.Test.YtpjgplohlchpoaaGreatDoorUAM
namespace Go.Proofs.YtpjgplohlchpoaaGreatDoor
open Go.ChangeShapes Go.WideShapes Go.ChangeAt Go.RowKit
open Go.ChangeMaps (open_string shut_string)
set_option linter.unusedVariables false

theorem rtA : (Tryz.prog.cutTypes.find? (·.1 == "internal/reflectlite.rtype")).map (·.2) = some 129 := by kernel_rfl
theorem oneRowA : ((List.range Tryz.prog.types.size).filter fun t => Tryz.prog.rowNamed t [101, 114, 114, 111, 114]) = [69] := by kernel_rfl
theorem of_laid_FnExactAdopt {W : World} (h : laidMetH Tryz.prog Rows.fnExactAdoptRow.laid W) : TabE W := by
  have h' : laidMet Tryz.prog [] W ∧ handlesMet Tryz.prog Rows.fnExactAdoptRow.laid W := h
  obtain ⟨name, u, ty, e1, e2, e3, e4, e5⟩ := h'.2 _ (List.mem_singleton.2 rfl)
  have en : name = [101, 114, 114, 111, 114] := (Option.some.inj e1).symm
  subst en
  obtain rfl := Option.some.inj (rtA.symm.trans e2)
  have hm : ty ∈ (List.range Tryz.prog.types.size).filter fun t => Tryz.prog.rowNamed t [101, 114, 114, 111, 114] := List.mem_filter.2 ⟨List.mem_range.2 e3, e4⟩
  rw [oneRowA] at hm
  obtain rfl := List.mem_singleton.1 hm
  have hh : typeHandle Tryz.prog 69 = .pointer (some ⟨1, 69, none⟩) := by kernel_rfl
  rw [hh] at e5
  have h9 := World.var?_cell (show Tryz.prog.globalNamed "errors.errorType" = some 0 by kernel_rfl) e5 0
  unfold TabE
  simpa using h9

set_option maxRecDepth 100000 in
set_option maxHeartbeats 16000000 in
theorem walk_FnExactAdopt (m : Mb) (A : MA) (vo : Option Addr) (L : List Vw) (vc : Nat) (e : Int) (w : World) (hR : RdMb w m A) (hw : WfMb m) (hRv : RdVs w vo L) (hlv : L.length ≤ maxLen) (hwv : ∀ s ∈ L, s.l.length ≤ maxLen) (he : (Lit.int .i64 e).wf = true) (ht : TabE w) :
    Calls Tryz.prog 3 #[mbV m A, .slice vo L.length vc, .int .i64 e] w fun r w' => r = .returned (.bool true) ∧ Below w.heap.size w w' := by
  have HR := hide1 hR
  have HV := hide1 hRv
  have tz : 0 < w.heap.size := World.block_lt_of_cell? w _ ht
  have HT := hide1 (fun W (hb : Below w.heap.size w W) => (show TabE W from (hb.cell (p := ⟨0, 0, none⟩) tz).trans ht))
  have mx : maxLen ≤ 9223372036854775807 := by unfold maxLen; omega
  have CZ := hide1 (fun W (hb : Below w.heap.size w W) => (show Calls Tryz.prog 4 #[.agg (mbA m A), .int .i64 1048576] W _ from szMember_any m A 1048576 W (Nat.le_refl _) (Nat.le_trans hw.wl mx) (Nat.le_trans hw.il mx) (Nat.le_trans hw.ll mx) ⟨Nat.le_trans hw.it.1 mx, Nat.le_trans hw.it.2.1 mx⟩ (HR.out.later hb) (fun i h => by have h1 := hw.is _ (List.getElem_mem h); exact ⟨Nat.le_trans h1.1 mx, Nat.le_trans h1.2.1 mx⟩)))
  have CZV := hide1 (fun W (hb : Below w.heap.size w W) (r : Nat) (hr : r ≤ 1048576) => szIntSS_sum vo L vc r W hr (Nat.le_trans hlv mx) (fun x hx => Nat.le_trans (hwv x hx) mx) (HV.out.later hb))
  clear hR hw hRv hlv hwv mx ht tz
  obtain ⟨R, hRR⟩ : ∃ R, R = adopt m (L.map (·.l)) e := ⟨_, rfl⟩
  have HRR := hide1 hRR
  clear hRR
  have SM := hide1 (show SmA R.1 R.2.1 from by rw [HRR.out]; exact ado_small _ _ _)
  rw [mbV_A]
  go_enter Tryz.func3, Tryz.ntmps3
  have EW := hide1 (Below.refl w.heap.size w)
  have FB := hide1 (And.intro (BlkA.new w 29 (mbA m A)) ((Below.refl w.heap.size w).alloc (Nat.le_refl _) (.cells (mbA m A) 29)))
  go_upto_region 1 with fail
  generalize (w.alloc (.cells (mbA m A) 29)) = u0 at FB ⊢
  obtain ⟨G0, hG0⟩ : ∃ G, G = w.heap.size := ⟨_, rfl⟩
  have B0 := hide1 FB.out.1
  have Du0 := hide1 FB.out.2
  rw [← hG0] at B0 ⊢
  have zG0 : w.heap.size ≤ G0 := by omega
  have lG0 : G0 < u0.heap.size := B0.out.lt
  have su0 : w.heap.size ≤ u0.heap.size := Du0.out.size
  clear FB hG0
  have EW1 := hide1 (EW.out.trans (Du0.out))
  clear EW
  go_wp2_with (refine wpList_load_rowG rfl 29 _ rfl G0 rfl 29 (mbA m A) _ B0.out Tryz.underlying29 rfl sizeMbL ?_)
  refine (CZ.out u0 EW1.out).mono ?_
  rintro rr wz ⟨hz, hbz⟩
  have sz0 : u0.heap.size ≤ wz.heap.size := hbz.size
  have EW := hide1 (EW1.out.trans (hbz.mono (by omega)))
  have B0z := hide1 (B0.out.below hbz B0.out.lt)
  clear CZ EW1 B0 hbz
  rcases hz with rfl | ⟨r, rfl, hr1, hr2, hr3, hr4, hr5⟩
  · go_wp2
    go_ret
    exact ⟨rfl, EW.out⟩
  · have qr : ¬ ((r : Int) < 0) := by omega
    have qr2 : decide ((r : Int) < 0) = false := decide_eq_false qr
    have HZ := hide1 (show ∀ x ∈ m.is, x.k.size ≤ 1048576 ∧ x.v.size ≤ 1048576 from fun e he => by obtain ⟨j, hj, rfl⟩ := List.getElem_of_mem he; exact hr3 j hj)
    have SZ := hide1 hr2
    have rle : r ≤ 1048576 := hr1
    have CT := hide1 (fun W (hb : Below w.heap.size w W) => toMb_A m A W SZ.out (HR.out.later hb))
    clear hr3 hr2 hr4 hr5 hr1
    go_wp2_with fail
    refine (CZV.out wz EW.out r rle).mono ?_
    rintro rr wy ⟨hz, hbz⟩
    have sz1 : wz.heap.size ≤ wy.heap.size := hbz.size
    have EW2 := hide1 (EW.out.trans (hbz.mono (by omega)))
    have B0 := hide1 (B0z.out.below hbz B0z.out.lt)
    clear CZV EW B0z hbz
    rcases hz with rfl | ⟨r2, rfl, hr1, hr2, hr3, hr4⟩
    · go_wp2
      go_ret
      exact ⟨rfl, EW2.out⟩
    · have qs : ¬ ((r2 : Int) < 0) := by omega
      have qs2 : decide ((r2 : Int) < 0) = false := decide_eq_false qs
      have HZV := hide1 hr3
      have HMV := hide1 hr4
      have CTV := hide1 (fun W (hb : Below w.heap.size w W) => toIntSS_own vo L vc W (Nat.le_trans hr2 rle) HZV.out (HV.out.later hb))
      have HVV := hide1 (show ∀ (M : List Vw), M.map (·.l) = L.map (·.l) → M.length = L.length ∧ (∀ x ∈ M, x.l.length ≤ 1048576) ∧ sumV M M.length ≤ 1048576 from fun M hm => by
        have e1 : M.length = L.length := by have := congrArg List.length hm; simpa using this
        refine ⟨e1, fun x hx => ?_, ?_⟩
        · have h2 : x.l ∈ L.map (·.l) := by rw [← hm]; exact List.mem_map_of_mem hx
          obtain ⟨y, hy, e2⟩ := List.mem_map.mp h2
          rw [← e2]
          exact HZV.out y hy
        · have h3 := HMV.out
          have e4 : sumV M M.length = sumV L L.length := by
            unfold sumV
            rw [List.take_length, List.take_length]
            have e5 := congrArg (fun z => (z.map List.length).sum) hm
            simpa [List.map_map, Function.comp_def] using e5
          omega)
      have CS := hide1 (show ∀ (W : World) (T : MA) (b : Option Addr) (c : Nat) (M : List Vw), RdMb W m T → M.map (·.l) = L.map (·.l) → RdVs W b M → Calls Tryz.prog 6 #[.agg (mbA m T), .slice b L.length c, .int .i64 e] W fun r w' => (∃ (B : MA) (b : Option Addr) (c : Nat) (D : List Mv), r = .returned (.tuple #[.agg (mbA R.1 B), .slice b R.2.1.length c, .bool R.2.2]) ∧ RdA w' R.1 R.2.1 B b D) ∧ Below W.heap.size W w' from fun W T b c M hT hm h => by
        obtain ⟨e1, e2, _⟩ := HVV.out M hm
        have h9 := specAdopt_any m T b M c e W he SZ.out hT (by omega) e2 h
        unfold AdoR at h9
        rw [e1, hm, ← HRR.out] at h9
        exact h9.mono (fun r w' hh => by
          obtain ⟨⟨B, b, c, D, h1, h2, h3, h4⟩, h5⟩ := hh
          exact ⟨⟨B, b, c, D, by rw [h1, len_ml h2], ⟨h3, h4, h2⟩⟩, h5⟩))
      have CI := hide1 (show ∀ (W : World) (T : MA) (b : Option Addr) (c : Nat) (M : List Vw), RdMb W m T → M.map (·.l) = L.map (·.l) → RdVs W b M → TabE W → Calls Tryz.prog 9 #[.agg (mbA m T), .slice b L.length c, .int .i64 e] W fun r w' => (∃ (B : MA) (b : Option Addr) (c : Nat) (D : List Mv), r = .returned (.tuple #[.agg (mbA R.1 B), .slice b R.2.1.length c, .bool R.2.2]) ∧ OwA W.heap.size w' R.1 R.2.1 B b c D) ∧ Below W.heap.size W w' from fun W T b c M hT hm h ht => by
        obtain ⟨e1, e2, _⟩ := HVV.out M hm
        have h9 := implAdopt_any m T b M c e W SZ.out HZ.out hT (by omega) e2 h ht
        unfold AdoO at h9
        rw [e1, hm, ← HRR.out] at h9
        exact h9.mono (fun r w' hh => by
          obtain ⟨⟨B, b, c, D, h1, h2, h3, h4, h6⟩, h5⟩ := hh
          exact ⟨⟨B, b, c, D, by rw [h1, len_ml h2], ⟨h5.size, h3, h4, h2, h6⟩⟩, h5⟩))
      have CE := hide1 (show ∀ (W : World) (b b' : Option Addr) (c c' : Nat) (M M' : List Vw), M.map (·.l) = L.map (·.l) → M'.map (·.l) = L.map (·.l) → RdVs W b M → RdVs W b' M' → Calls Tryz.prog 12 #[.slice b L.length c, .slice b' L.length c'] W fun e w' => e = .returned (.bool true) ∧ Below W.heap.size W w' from fun W b b' c c' M M' hm hm' h h' => by
        obtain ⟨e1, e2, _⟩ := HVV.out M hm
        have h9 := eqIntSS_same b b' M M' c c' W (by omega) e2 (hm.trans hm'.symm) h h'
        rw [e1] at h9
        exact h9)
      have mkl : mkN m 1 ≤ 16777216 := by have h1 := SZ.out.wl; have h2 := SZ.out.il; have h3 := SZ.out.ll; unfold mkN; omega
      have CMV := hide1 (show ∀ (W : World) (B : Nat) (b : Option Addr) (c : Nat) (M : List Vw), M.map (·.l) = L.map (·.l) → B ≤ W.heap.size → OwnVs W B b c M → Calls Tryz.prog 14 #[.slice b L.length c, .int .i64 (mkN m 1 : Int)] W fun e w' => (∃ q : Nat, e = .returned (.int .i64 (q : Int))) ∧ Below B W w' ∧ (∀ g, (∀ x ∈ M, (Value.slice x.a x.l.length x.c).ownBlock ≠ some g) → g < W.heap.size → w'.heap[g]? = W.heap[g]?) from fun W B b c M hm hB h => by
        obtain ⟨e1, e2, e3⟩ := HVV.out M hm
        have h9 := markIntSS_from (mkN m 1) mkl b M c B W (by omega) e2 e3 hB h
        rw [e1] at h9
        exact h9)
      have QE := hide1 (fun (W : World) (B B' : MA) (h : RdMb W R.1 B) (h' : RdMb W R.1 B') => eqMb_A R.1 B B' W SM.out.sz h h')
      have QD := hide1 (fun (W : World) (B B' : MA) (b b' : Option Addr) (c c' : Nat) (D D' : List Mv) (h : RdA W R.1 R.2.1 B b D) (h' : RdA W R.1 R.2.1 B' b' D') => eqD_law (m2 := R.1) SM.out B B' b b' c c' D D' W h h')
      have QM1 := hide1 (fun S B b c D W h => markA1 SM.out S B b c D W h)
      have QM2 := hide1 (fun S B b c D W h => markA2 SM.out S B b c D W h)
      have QH1 := hide1 (fun B b D W h => heldA1 SM.out B b D W h)
      have QH2 := hide1 (fun B b c D W h => heldA2 SM.out B b c D W h)
      clear hr1 hr2 hr3 hr4 he
      obtain ⟨m', ms, ok⟩ := R
      dsimp only at CS CI QE QD QM1 QM2 QH1 QH2
      have qg : (ok != ok) = false := by cases ok <;> rfl
      clear SM HRR HVV HZV HMV HR HV
      go_wp2_with (refine wpList_load_rowG rfl 29 _ rfl G0 rfl 29 (mbA m A) _ B0.out Tryz.underlying29 rfl sizeMbL ?_)
      refine (CT.out wy EW2.out).mono ?_
      rintro rr w1 ⟨T, rfl, hO, hb⟩
      have sw1 : wy.heap.size ≤ w1.heap.size := hb.size
      have OT := hide1 hO
      have Dw1 := hide1 hb
      clear hO hb
      have EW3 := hide1 (EW2.out.trans (Dw1.out.mono (by omega)))
      go_wp2_with fail
      refine (CTV.out w1 EW3.out).mono ?_
      rintro rr w2 ⟨⟨Vb, Vc, VM, rfl, Vm, hO⟩, hb⟩
      have Vh := hide1 Vm
      have sw2 : w1.heap.size ≤ w2.heap.size := hb.size
      have OV := hide1 hO
      have Dw2 := hide1 hb
      clear hO hb Vm
      have EW4 := hide1 (EW3.out.trans (Dw2.out.mono (by omega)))
      go_wp2_with fail
      refine (CS.out w2 T Vb Vc VM (OT.out.rd.later Dw2.out) Vh.out OV.out.rd).mono ?_
      rintro rr w3 ⟨⟨WB, Wb, Wc, WD, rfl, hW⟩, hb⟩
      have sw3 : w2.heap.size ≤ w3.heap.size := hb.size
      have RW := hide1 hW
      have EW5 := hide1 (EW4.out.trans (hb.mono (by omega)))
      have B03 := hide1 ((((B0.out.below Dw1.out B0.out.lt).below Dw2.out (by omega))).below hb (by omega))
      clear hb hW EW2 EW3 EW4 OT OV B0 Dw1 Dw2
      have FB := hide1 (And.intro (BlkA.new w3 38 (mbA m' WB)) ((Below.refl w3.heap.size w3).alloc (Nat.le_refl _) (.cells (mbA m' WB) 38)))
      go_upto_region 9 with (refine wpList_store_row rfl 38 _ _ rfl w3.heap.size (mbA m' WB) rfl rfl 38 _ (heap_alloc_last _ _) sizeMb rfl (oneMb _ _) ?_; rw [World.setRow_alloc_new])
      generalize (w3.alloc (.cells (mbA m' WB) 38)) = u2 at FB ⊢
      obtain ⟨G4, hG4⟩ : ∃ G, G = w3.heap.size := ⟨_, rfl⟩
      have B4 := hide1 FB.out.1
      have Du2 := hide1 FB.out.2
      rw [← hG4] at B4 ⊢
      have zG4 : w3.heap.size ≤ G4 := by omega
      have lG4 : G4 < u2.heap.size := B4.out.lt
      have su2 : w3.heap.size ≤ u2.heap.size := Du2.out.size
      clear FB hG4
      have RWu := hide1 (RW.out.later Du2.out)
      have B0u := hide1 (B03.out.below Du2.out B03.out.lt)
      have EWu := hide1 (EW5.out.trans (Du2.out.mono (by omega)))
      have lG0 : G0 < u2.heap.size := B0u.out.lt
      have swu : w.heap.size ≤ u2.heap.size := EWu.out.size
      clear RW B03 EW5 Du2
      have FW := hide1 (fun W (hb : Below u2.heap.size u2 W) => EWu.out.trans (hb.mono swu))
      have F0 := hide1 (fun W (hb : Below u2.heap.size u2 W) => B0u.out.below hb lG0)
      have F4 := hide1 (fun W (hb : Below u2.heap.size u2 W) => B4.out.below hb lG4)
      have FR := hide1 (fun W (hb : Below u2.heap.size u2 W) => RWu.out.later hb)
      have EU := hide1 (Below.refl u2.heap.size u2)
      clear EWu B0u B4 RWu
      have FWu := hide1 (FW.out u2 EU.out)
      go_wp2_with (refine wpList_load_rowG rfl 29 _ rfl G0 rfl 29 (mbA m A) _ (F0.out _ EU.out) Tryz.underlying29 rfl sizeMbL ?_)
      refine (CT.out u2 FWu.out).mono ?_
      rintro rr w4 ⟨X, rfl, hO, hb⟩
      have sw4 : u2.heap.size ≤ w4.heap.size := hb.size
      have OX := hide1 hO
      have Dw4 := hide1 hb
      clear hO hb
      have OffX0 := hide1 (fun g (h : w4.heap.size ≤ g) => OX.out.off (.inr h))
      have EU4 := hide1 (Dw4.out)
      clear FWu EU
      have FB := hide1 (And.intro (BlkA.new w4 38 (mbA m X)) ((Below.refl w4.heap.size w4).alloc (Nat.le_refl _) (.cells (mbA m X) 38)))
      go_upto_region 10 with (refine wpList_store_row rfl 38 _ _ rfl w4.heap.size (mbA m X) rfl rfl 38 _ (heap_alloc_last _ _) sizeMb rfl (oneMb _ _) ?_; rw [World.setRow_alloc_new])
      generalize (w4.alloc (.cells (mbA m X) 38)) = u3 at FB ⊢
      obtain ⟨G5, hG5⟩ : ∃ G, G = w4.heap.size := ⟨_, rfl⟩
      have B5 := hide1 FB.out.1
      have Du3 := hide1 FB.out.2
      rw [← hG5] at B5 ⊢
      have zG5 : w4.heap.size ≤ G5 := by omega
      have lG5 : G5 < u3.heap.size := B5.out.lt
      have su3 : w4.heap.size ≤ u3.heap.size := Du3.out.size
      clear FB hG5
      have EU3 := hide1 (EU4.out.trans (Du3.out.mono (by omega)))
      have OX3 := hide1 (OX.out.later Du3.out)
      clear EU4 OX
      have FW3 := hide1 (FW.out u3 EU3.out)
      go_wp2_with fail
      refine (CTV.out u3 FW3.out).mono ?_
      rintro rr w5 ⟨⟨Zb, Zc, ZM, rfl, Zm, hO⟩, hb⟩
      have Zh := hide1 Zm
      have sw5 : u3.heap.size ≤ w5.heap.size := hb.size
      have OZ := hide1 hO
      have Dw5 := hide1 hb
      clear hO hb Zm
      have OffZ0 := hide1 (show ∀ g, w5.heap.size ≤ g → ∀ x ∈ ZM, (Value.slice x.a x.l.length x.c).ownBlock ≠ some g from fun g hg x hx e => by have := ((OZ.out.r x hx).lt g e).2; omega)
      have EU5 := hide1 (EU3.out.trans (Dw5.out.mono (by omega)))
      have OX5 := hide1 (OX3.out.later Dw5.out)
      have B55 := hide1 (B5.out.below Dw5.out B5.out.lt)
      clear EU3 OX3 B5 FW3
      go_wp2_with (refine wpList_load_rowG rfl 38 _ rfl G5 rfl 38 (mbA m X) _ B55.out Tryz.underlying38 rfl sizeMb ?_)
      refine (CI.out w5 X Zb Zc ZM OX5.out.rd Zh.out OZ.out.rd (HT.out _ (FW.out w5 EU5.out))).mono ?_
      rintro rr w6 ⟨⟨PB, Pb, Pc, PD, rfl, hP⟩, hb⟩
      have sw6 : w5.heap.size ≤ w6.heap.size := hb.size
      have OP := hide1 hP
      have OPm := hide1 (fun g (h : InM m' PB g) => (OP.out.r.ltM h).2)
      have OPd := hide1 (fun g (h : InD Pb Pc PD g) => (OP.out.d.lt h).2)
      have EU6 := hide1 (EU5.out.trans (hb.mono (by omega)))
      have OX6 := hide1 (OX5.out.later hb)
      have B56 := hide1 (B55.out.below hb B55.out.lt)
      have OZ6 := hide1 (OZ.out.later hb)
      clear hb hP EU5 OX5 B55 OZ
      have FB := hide1 (And.intro (BlkA.new w6 38 (mbA m' PB)) ((Below.refl w6.heap.size w6).alloc (Nat.le_refl _) (.cells (mbA m' PB) 38)))
      go_upto_region 12 with (refine wpList_store_row rfl 38 _ _ rfl w6.heap.size (mbA m' PB) rfl rfl 38 _ (heap_alloc_last _ _) sizeMb rfl (oneMb _ _) ?_; rw [World.setRow_alloc_new])
      generalize (w6.alloc (.cells (mbA m' PB) 38)) = u4 at FB ⊢
      obtain ⟨G6, hG6⟩ : ∃ G, G = w6.heap.size := ⟨_, rfl⟩
      have B6 := hide1 FB.out.1
      have Du4 := hide1 FB.out.2
      rw [← hG6] at B6 ⊢
      have zG6 : w6.heap.size ≤ G6 := by omega
      have lG6 : G6 < u4.heap.size := B6.out.lt
      have su4 : w6.heap.size ≤ u4.heap.size := Du4.out.size
      clear FB hG6
      have EU7 := hide1 (EU6.out.trans (Du4.out.mono (by omega)))
      have OX7 := hide1 (OX6.out.later Du4.out)
      have OZ7 := hide1 (OZ6.out.later Du4.out)
      have OP7 := hide1 (OP.out.later Du4.out)
      have B57 := hide1 (B56.out.below Du4.out B56.out.lt)
      have lG5 : G5 < u4.heap.size := B57.out.lt
      clear EU6 OX6 OZ6 OP B56 Du4
      have F5 := hide1 (fun W (hb : Below u4.heap.size u4 W) => B57.out.below hb lG5)
      have F6 := hide1 (fun W (hb : Below u4.heap.size u4 W) => B6.out.below hb lG6)
      have FX := hide1 (fun W (hb : Below u4.heap.size u4 W) => OX7.out.later hb)
      have FZ := hide1 (fun W (hb : Below u4.heap.size u4 W) => OZ7.out.later hb)
      have FP := hide1 (fun W (hb : Below u4.heap.size u4 W) => OP7.out.later hb)
      have EV := hide1 (Below.refl u4.heap.size u4)
      have EU := EU7
      clear B57 B6 OX7 OZ7 OP7 EU7
      go_wp2_with (first | (refine wpList_load_rowG rfl 38 _ rfl G6 rfl 38 (mbA m' PB) _ (F6.out _ EV.out) Tryz.underlying38 rfl sizeMb ?_) | (refine wpList_load_rowG rfl 38 _ rfl G4 rfl 38 (mbA m' WB) _ (F4.out _ EU.out) Tryz.underlying38 rfl sizeMb ?_))
      refine (QE.out u4 PB WB ((FP.out _ EV.out).rd.r) ((FR.out _ EU.out).r)).mono ?_
      rintro rr w7 ⟨rfl, hb⟩
      have sw7 : u4.heap.size ≤ w7.heap.size := hb.size
      have EU_1 := hide1 (EU.out.trans (hb.mono (by omega)))
      clear EU
      have EU := EU_1
      clear EU_1
      have EV_1 := hide1 (EV.out.trans (hb.mono (by omega)))
      clear EV
      have EV := EV_1
      clear EV_1
      clear hb
      go_wp2_with fail
      refine (QD.out w7 PB WB Pb Wb Pc Wc PD WD ((FP.out _ EV.out).rd) (FR.out _ EU.out)).mono ?_
      rintro rr w8 ⟨rfl, hb⟩
      have sw8 : w7.heap.size ≤ w8.heap.size := hb.size
      have EU_2 := hide1 (EU.out.trans (hb.mono (by omega)))
      clear EU
      have EU := EU_2
      clear EU_2
      have EV_2 := hide1 (EV.out.trans (hb.mono (by omega)))
      clear EV
      have EV := EV_2
      clear EV_2
      clear hb
      go_upto_region 14 with fail
      have RX := hide1 (FX.out _ EV.out).rd
      have BX5 := hide1 (F5.out _ EV.out)
      have BX0 := hide1 (F0.out _ EU.out)
      have CT4 := hide1 (fun w' (hb : Below w8.heap.size w8 w') => CT.out w' (FW.out w' (EU.out.trans (hb.mono (by omega)))))
      have ZS := hide1 (fun w' (D : Below w8.heap.size w8 w') => (show (Instr.loadAt 38 (.pointer (some ⟨G5, 0, none⟩))).run Tryz.prog w' = .ok (.agg (mbA m X)) w' ∧ (Instr.loadAt 29 (.pointer (some ⟨G0, 0, none⟩))).run Tryz.prog w' = .ok (.agg (mbA m A)) w' from ⟨(BX5.out.below D BX5.out.lt).load Tryz.underlying38 rfl sizeMb, (BX0.out.below D BX0.out.lt).load Tryz.underlying29 rfl sizeMbL⟩))
      go_wp2
      refine wp_region_held_drew (S := fun w' => (Instr.loadAt 38 (.pointer (some ⟨G5, 0, none⟩))).run Tryz.prog w' = .ok (.agg (mbA m X)) w' ∧ (Instr.loadAt 29 (.pointer (some ⟨G0, 0, none⟩))).run Tryz.prog w' = .ok (.agg (mbA m A)) w') rfl (ZS.out _ (by go_grown)) (fun hS0 => ?_)
      refine wpAnyH_take (i := 0) (oi := _) (v := .agg (mbA m X)) rfl (by kernel_rfl) (by kernel_rfl) (by kernel_rfl) (fun _ _ _ h => h) (yieldsIf_loadA (by rfl) 38 (.tmp 11) rfl G5 rfl (mbA m X) (fun w h => h.1)) hS0 ?_
      refine wpAnyH_take (i := 1) (oi := _) (v := .agg (mbA m A)) rfl (by kernel_rfl) (by kernel_rfl) (by kernel_rfl) (fun _ _ _ h => h) (yieldsIf_loadA (by rfl) 29 (.tmp 3) rfl G0 rfl (mbA m A) (fun w h => h.2)) hS0 ?_
      refine wpAnyH_ready (rs := [2]) (by kernel_rfl) (by simp) (AllReadyH.cons rfl (fun K hK => ?_) AllReadyH.nil)
      go_simp
      go_at_call 7
      refine (CT4.out _ (by go_grown)).mono ?_
      rintro rr w9 ⟨Y7, rfl, ho7, hb7⟩
      have D7 : Hid (Below w8.heap.size w8 w9) := (show Below w8.heap.size w8 _ by go_grown).trans hb7
      have CE7 := hide1 (eqMb_A m X Y7 w9 SZ.out (RX.out.later D7.out) ho7.rd)
      clear ho7
      go_simp
      refine hK.out _ _ (ZS.out _ D7.out) (fun hS7 => ?_)
      clear hK K
      refine wpAnyH_ready (rs := [3]) (by kernel_rfl) (by simp) (AllReadyH.cons rfl (fun K hK => ?_) AllReadyH.nil)
      go_simp
      go_at_call 10
      refine CE7.out.mono ?_
      rintro rr w10 ⟨rfl, hb8⟩
      have D8 : Hid (Below w8.heap.size w8 w10) := D7.out.trans (hb8.mono D7.out.size)
      clear hb8
      go_simp
      refine hK.out _ _ (ZS.out _ D8.out) (fun hS8 => ?_)
      clear hK K
      refine wpAnyH_ready (rs := [4]) (by kernel_rfl) (by simp) (AllReadyH.cons rfl (fun K hK => ?_) AllReadyH.nil)
      go_simp
      refine hK.out _ _ (ZS.out _ D8.out) (fun hS9 => ?_)
      clear hK K hS0 hS7 hS8 hS9
      refine wpAnyH_done (by kernel_rfl) ?_ _
      have hb := D8.out
      clear ZS CT4 CE7 D7 hb7 RX BX5 BX0 D8
      have sw10 : w8.heap.size ≤ w10.heap.size := hb.size
      have EU_3 := hide1 (EU.out.trans (hb.mono (by omega)))
      clear EU
      have EU := EU_3
      clear EU_3
      have EV_3 := hide1 (EV.out.trans (hb.mono (by omega)))
      clear EV
      have EV := EV_3
      clear EV_3
      clear hb
      have FWa := hide1 (FW.out w10 EU.out)
      go_wp2_with fail
      refine (CTV.out w10 FWa.out).mono ?_
      rintro rr w11 ⟨⟨Yb, Yc, YM, rfl, Ym, hO⟩, hb⟩
      have Yh := hide1 Ym
      have sw11 : w10.heap.size ≤ w11.heap.size := hb.size
      have OY := hide1 hO
      have Dw11 := hide1 hb
      clear hO hb Ym
      have hb := Dw11.out
      clear FWa
      have EU_4 := hide1 (EU.out.trans (hb.mono (by omega)))
      clear EU
      have EU := EU_4
      clear EU_4
      have EV_4 := hide1 (EV.out.trans (hb.mono (by omega)))
      clear EV
      have EV := EV_4
      clear EV_4
      clear hb Dw11
      go_wp2_with fail
      refine (CE.out w11 Zb Yb Zc Yc ZM YM Zh.out Yh.out (FZ.out _ EV.out).rd OY.out.rd).mono ?_
      rintro rr w12 ⟨rfl, hb⟩
      have sw12 : w11.heap.size ≤ w12.heap.size := hb.size
      have EU_5 := hide1 (EU.out.trans (hb.mono (by omega)))
      clear EU
      have EU := EU_5
      clear EU_5
      have EV_5 := hide1 (EV.out.trans (hb.mono (by omega)))
      clear EV
      have EV := EV_5
      clear EV_5
      clear hb
      clear OY
      have SG := hide1 (show w5.heap.size ≤ w12.heap.size from by omega)
      have CM := hide1 (markMb_A m X 1 u2.heap.size w12 SZ.out (by omega) (by omega) (by omega) (FX.out _ EV.out))
      have OFX := hide1 (fun g (h : w4.heap.size ≤ g) => OffX0.out g h)
      have mk0 : ¬ ((mkN m 1 : Int) < 0) := by omega
      go_wp2_with (refine wpList_load_rowG rfl 38 _ rfl G5 rfl 38 (mbA m X) _ (F5.out _ EV.out) Tryz.underlying38 rfl sizeMb ?_)
      refine (CM.out).mono ?_
      rintro rr w13 ⟨rfl, _, hb, hF⟩
      have s13 : w12.heap.size ≤ w13.heap.size := hb.size
      have hFX := hide1 hF
      have EU13 := hide1 (EU.out.trans hb)
      have B613 := hide1 (hF _ _ _ (F6.out _ EV.out) (OFX.out G6 (by omega)))
      have OP13 := hide1 ((FP.out _ EV.out).offB s13 (fun g h1 _ t cs hc => hF g t cs hc (OFX.out g (by omega))))
      have OZ13 := hide1 ((FZ.out _ EV.out).offB s13 (fun g h1 _ t cs hc => hF g t cs hc (OFX.out g (by omega))))
      clear hF hb CM EV F5 F6 FX FZ FP EU hFX
      go_wp2_with fail
      refine (CMV.out w13 u3.heap.size Zb Zc ZM Zh.out (by omega) OZ13.out).mono ?_
      rintro rr w14 ⟨⟨q9, rfl⟩, hb, hF⟩
      have s14 : w13.heap.size ≤ w14.heap.size := hb.size
      have OFZ := hide1 (show ∀ g, w5.heap.size ≤ g → ∀ x ∈ ZM, (Value.slice x.a x.l.length x.c).ownBlock ≠ some g from OffZ0.out)
      have EU := hide1 (EU13.out.trans (hb.mono (by omega)))
      have B614 := hide1 (show BlkA w14 G6 38 (mbA m' PB) from (hF G6 (OFZ.out G6 (by omega)) B613.out.lt).trans B613.out)
      have OP14 := hide1 (OP13.out.off s14 (fun g h1 h2 => hF g (OFZ.out g h1) h2))
      have mq0 : ¬ ((q9 : Int) < 0) := by omega
      have mq1 : decide ((q9 : Int) < 0) = false := decide_eq_false mq0
      clear hb hF OZ13 EU13 B613 OP13
      have lG6b : G6 < w14.heap.size := B614.out.lt
      have F6 := hide1 (fun W (hb : Below w14.heap.size w14 W) => B614.out.below hb lG6b)
      have FP := hide1 (fun W (hb : Below w14.heap.size w14 W) => OP14.out.later hb)
      have EV := hide1 (Below.refl w14.heap.size w14)
      clear B614 OP14
      go_wp2_with (first | (refine wpList_load_rowG rfl 38 _ rfl G6 rfl 38 (mbA m' PB) _ (F6.out _ EV.out) Tryz.underlying38 rfl sizeMb ?_) | (refine wpList_load_rowG rfl 38 _ rfl G4 rfl 38 (mbA m' WB) _ (F4.out _ EU.out) Tryz.underlying38 rfl sizeMb ?_))
      refine (QE.out w14 PB WB ((FP.out _ EV.out).rd.r) ((FR.out _ EU.out).r)).mono ?_
      rintro rr w15 ⟨rfl, hb⟩
      have sw15 : w14.heap.size ≤ w15.heap.size := hb.size
      have EU_6 := hide1 (EU.out.trans (hb.mono (by omega)))
      clear EU
      have EU := EU_6
      clear EU_6
      have EV_6 := hide1 (EV.out.trans (hb.mono (by omega)))
      clear EV
      have EV := EV_6
      clear EV_6
      clear hb
      go_wp2_with fail
      refine (QD.out w15 PB WB Pb Wb Pc Wc PD WD ((FP.out _ EV.out).rd) (FR.out _ EU.out)).mono ?_
      rintro rr w16 ⟨rfl, hb⟩
      have sw16 : w15.heap.size ≤ w16.heap.size := hb.size
      have EU_7 := hide1 (EU.out.trans (hb.mono (by omega)))
      clear EU
      have EU := EU_7
      clear EU_7
      have EV_7 := hide1 (EV.out.trans (hb.mono (by omega)))
      clear EV
      have EV := EV_7
      clear EV_7
      clear hb
      go_wp2_with (refine wpList_load_rowG rfl 38 _ rfl G6 rfl 38 (mbA m' PB) _ (F6.out _ EV.out) Tryz.underlying38 rfl sizeMb ?_)
      refine (QM1.out w5.heap.size PB Pb Pc PD w16 (FP.out _ EV.out)).mono ?_
      rintro rr w17 ⟨rfl, hM, hb, hF⟩
      have s17 : w16.heap.size ≤ w17.heap.size := hb.size
      have M17 := hide1 hM
      have EU17 := hide1 (EU.out.trans (hb.mono (by omega)))
      have B617 := hide1 (hF _ _ _ (F6.out _ EV.out) (fun h => by have := (OPm.out G6 h); omega))
      clear hM hb hF EU EV F6 FP
      go_wp2_with fail
      refine (QM2.out w5.heap.size PB Pb Pc PD w17 M17.out).mono ?_
      rintro rr w18 ⟨rfl, hM, hb, hF⟩
      have s18 : w17.heap.size ≤ w18.heap.size := hb.size
      have EU := hide1 (EU17.out.trans (hb.mono (by omega)))
      have B618 := hide1 (show BlkA w18 G6 38 (mbA m' PB) from (hF G6 B617.out.lt (fun h => by have := OPd.out G6 h; omega)).trans B617.out)
      have lG6c : G6 < w18.heap.size := B618.out.lt
      have M18 := hide1 hM
      have F6 := hide1 (fun W (hb : Below w18.heap.size w18 W) => B618.out.below hb lG6c)
      have FM := hide1 (fun W (hb : Below w18.heap.size w18 W) => M18.out.later hb)
      have EV := hide1 (Below.refl w18.heap.size w18)
      clear hM hb hF EU17 M17 B617 B618 M18
      obtain ⟨n1, hn1⟩ : ∃ n, n = mkN m' 1 := ⟨_, rfl⟩
      obtain ⟨n2, hn2⟩ : ∃ n, n = mkK (mkN m' 1) PD := ⟨_, rfl⟩
      have QHa := hide1 (fun W (h : MkA2 W m' ms PB Pb PD) => (show Calls Tryz.prog 16 #[.agg (mbA m' PB), .int .i64 1] W fun r w' => r = .returned (.int .i64 (n1 : Int)) ∧ Below W.heap.size W w' from by rw [hn1]; exact QH1.out PB Pb PD W h))
      have QHb := hide1 (fun W (h : MkA2 W m' ms PB Pb PD) => (show Calls Tryz.prog 17 #[.slice Pb ms.length Pc, .int .i64 (n1 : Int)] W fun r w' => r = .returned (.int .i64 (n2 : Int)) ∧ Below W.heap.size W w' from by rw [hn1, hn2]; exact QH2.out PB Pb Pc PD W h))
      rw [← hn2]
      clear QH1 QH2 QM1 QM2 hn1 hn2
      have a1 : ¬ ((n1 : Int) < 0) := by omega
      have a2 : ¬ ((n2 : Int) < 0) := by omega
      have a3 : ((n2 : Int) != (n2 : Int)) = false := by simp
      go_wp2_with (refine wpList_load_rowG rfl 38 _ rfl G6 rfl 38 (mbA m' PB) _ (F6.out _ EV.out) Tryz.underlying38 rfl sizeMb ?_)
      refine (QHa.out w18 (FM.out _ EV.out)).mono ?_
      rintro rr w19 ⟨rfl, hb⟩
      have sw19 : w18.heap.size ≤ w19.heap.size := hb.size
      have EU_8 := hide1 (EU.out.trans (hb.mono (by omega)))
      clear EU
      have EU := EU_8
      clear EU_8
      have EV_8 := hide1 (EV.out.trans (hb.mono (by omega)))
      clear EV
      have EV := EV_8
      clear EV_8
      clear hb
      go_wp2_with fail
      refine (QHb.out w19 (FM.out _ EV.out)).mono ?_
      rintro rr w20 ⟨rfl, hb⟩
      have sw20 : w19.heap.size ≤ w20.heap.size := hb.size
      have EU_9 := hide1 (EU.out.trans (hb.mono (by omega)))
      clear EU
      have EU := EU_9
      clear EU_9
      have EV_9 := hide1 (EV.out.trans (hb.mono (by omega)))
      clear EV
      have EV := EV_9
      clear EV_9
      clear hb
      have FWb := hide1 (FW.out w20 EU.out)
      go_wp2_with (refine wpList_load_rowG rfl 29 _ rfl G0 rfl 29 (mbA m A) _ (F0.out _ EU.out) Tryz.underlying29 rfl sizeMbL ?_)
      refine (CT.out w20 FWb.out).mono ?_
      rintro rr w21 ⟨S, rfl, hO, hb⟩
      have sw21 : w20.heap.size ≤ w21.heap.size := hb.size
      have OS := hide1 hO
      have Dw21 := hide1 hb
      clear hO hb
      have hb := Dw21.out
      clear FWb
      have EU_10 := hide1 (EU.out.trans (hb.mono (by omega)))
      clear EU
      have EU := EU_10
      clear EU_10
      have EV_10 := hide1 (EV.out.trans (hb.mono (by omega)))
      clear EV
      have EV := EV_10
      clear EV_10
      clear hb Dw21
      have FWb := hide1 (FW.out w21 EU.out)
      go_wp2_with fail
      refine (CTV.out w21 FWb.out).mono ?_
      rintro rr w22 ⟨⟨Qb, Qc, QM, rfl, Qm, hO⟩, hb⟩
      have Qh := hide1 Qm
      have sw22 : w21.heap.size ≤ w22.heap.size := hb.size
      have OQ := hide1 hO
      have Dw22 := hide1 hb
      clear hO hb Qm
      have hb := Dw22.out
      have OS2 := hide1 (OS.out.later hb)
      clear FWb OS
      have EU_11 := hide1 (EU.out.trans (hb.mono (by omega)))
      clear EU
      have EU := EU_11
      clear EU_11
      have EV_11 := hide1 (EV.out.trans (hb.mono (by omega)))
      clear EV
      have EV := EV_11
      clear EV_11
      clear hb Dw22
      go_wp2_with fail
      refine (CI.out w22 S Qb Qc QM OS2.out.rd Qh.out OQ.out.rd (HT.out _ (FW.out w22 EU.out))).mono ?_
      rintro rr w23 ⟨⟨HB, Hb, Hc, HD, rfl, hP⟩, hb⟩
      have OH := hide1 hP
      clear hP OS2 OQ
      have sw23 : w22.heap.size ≤ w23.heap.size := hb.size
      have EU_12 := hide1 (EU.out.trans (hb.mono (by omega)))
      clear EU
      have EU := EU_12
      clear EU_12
      have EV_12 := hide1 (EV.out.trans (hb.mono (by omega)))
      clear EV
      have EV := EV_12
      clear EV_12
      clear hb
      have FB := hide1 (And.intro (BlkA.new w23 38 (mbA m' HB)) ((Below.refl w23.heap.size w23).alloc (Nat.le_refl _) (.cells (mbA m' HB) 38)))
      go_upto_region 36 with (refine wpList_store_row rfl 38 _ _ rfl w23.heap.size (mbA m' HB) rfl rfl 38 _ (heap_alloc_last _ _) sizeMb rfl (oneMb _ _) ?_; rw [World.setRow_alloc_new])
      generalize (w23.alloc (.cells (mbA m' HB) 38)) = u5 at FB ⊢
      obtain ⟨G7, hG7⟩ : ∃ G, G = w23.heap.size := ⟨_, rfl⟩
      have B7 := hide1 FB.out.1
      have Du5 := hide1 FB.out.2
      rw [← hG7] at B7 ⊢
      have zG7 : w23.heap.size ≤ G7 := by omega
      have lG7 : G7 < u5.heap.size := B7.out.lt
      have su5 : w23.heap.size ≤ u5.heap.size := Du5.out.size
      clear FB hG7
      have hb := Du5.out
      have OH5 := hide1 (OH.out.later hb)
      clear OH Du5
      have EU_13 := hide1 (EU.out.trans (hb.mono (by omega)))
      clear EU
      have EU := EU_13
      clear EU_13
      have EV_13 := hide1 (EV.out.trans (hb.mono (by omega)))
      clear EV
      have EV := EV_13
      clear EV_13
      clear hb
      go_wp2_with (first | (refine wpList_load_rowG rfl 38 _ rfl G7 rfl 38 (mbA m' HB) _ B7.out Tryz.underlying38 rfl sizeMb ?_) | (refine wpList_load_rowG rfl 38 _ rfl G4 rfl 38 (mbA m' WB) _ (F4.out _ EU.out) Tryz.underlying38 rfl sizeMb ?_))
      refine (QE.out u5 HB WB (OH5.out.rd.r) ((FR.out _ EU.out).r)).mono ?_
      rintro rr w24 ⟨rfl, hb⟩
      have OH6 := hide1 (OH5.out.later hb)
      clear OH5
      have sw24 : u5.heap.size ≤ w24.heap.size := hb.size
      have EU_14 := hide1 (EU.out.trans (hb.mono (by omega)))
      clear EU
      have EU := EU_14
      clear EU_14
      have EV_14 := hide1 (EV.out.trans (hb.mono (by omega)))
      clear EV
      have EV := EV_14
      clear EV_14
      clear hb
      go_wp2_with fail
      refine (QD.out w24 HB WB Hb Wb Hc Wc HD WD (OH6.out.rd) (FR.out _ EU.out)).mono ?_
      rintro rr w25 ⟨rfl, hb⟩
      have sw25 : w24.heap.size ≤ w25.heap.size := hb.size
      have EU_15 := hide1 (EU.out.trans (hb.mono (by omega)))
      clear EU
      have EU := EU_15
      clear EU_15
      have EV_15 := hide1 (EV.out.trans (hb.mono (by omega)))
      clear EV
      have EV := EV_15
      clear EV_15
      clear hb
      go_wp2_with (refine wpList_load_rowG rfl 38 _ rfl G6 rfl 38 (mbA m' PB) _ (F6.out _ EV.out) Tryz.underlying38 rfl sizeMb ?_)
      refine (QHa.out w25 (FM.out _ EV.out)).mono ?_
      rintro rr w26 ⟨rfl, hb⟩
      have sw26 : w25.heap.size ≤ w26.heap.size := hb.size
      have EU_16 := hide1 (EU.out.trans (hb.mono (by omega)))
      clear EU
      have EU := EU_16
      clear EU_16
      have EV_16 := hide1 (EV.out.trans (hb.mono (by omega)))
      clear EV
      have EV := EV_16
      clear EV_16
      clear hb
      go_wp2_with fail
      refine (QHb.out w26 (FM.out _ EV.out)).mono ?_
      rintro rr w27 ⟨rfl, hb⟩
      have sw27 : w26.heap.size ≤ w27.heap.size := hb.size
      have EU_17 := hide1 (EU.out.trans (hb.mono (by omega)))
      clear EU
      have EU := EU_17
      clear EU_17
      have EV_17 := hide1 (EV.out.trans (hb.mono (by omega)))
      clear EV
      have EV := EV_17
      clear EV_17
      clear hb
      go_wp2
      go_ret
      exact ⟨rfl, FW.out _ EU.out⟩

noncomputable def laidWorld (os : Os) : World :=
  let w0 := World.holding Tryz.prog os ⟨#[], #[], []⟩
  { w0 with heap := w0.heap.modify 0 fun
      | .cells _ t frozen => .cells #[.iface 129 (.agg #[.pointer (some ⟨1, 69, none⟩)])] t frozen
      | o => o }
theorem laidWorld_met (os : Os) (args : Array Value) : laidMetH Tryz.prog Rows.fnExactAdoptRow.laid ((laidWorld os).forCall (fun _ _ => 0) ⟨#[], args, []⟩).memory :=
  laidMetH_of_parts (laidMet_nil _ _) (by kernel_rfl)

set_option maxRecDepth 100000 in
theorem lifted_FnExactAdopt (os : Os) (started : os.Started) (H : Type) (enc : TypeId × Value → H) :
    ReturnsInHanded {} Tryz.checked os 3 .any (fun w args => (Rows.fnExactAdoptSpec.pre enc Tryz.prog Tryz.f3 [] false w args ∧ laidMetH Tryz.prog Rows.fnExactAdoptRow.laid w) ∧ sizedMet enc Tryz.prog Tryz.f3 (OpenSpec.ofChange Rows.fnExactAdoptSpec) false w args)
      (Rows.fnExactAdoptSpec.post enc Tryz.prog Tryz.f3 false true false false) := by
  refine returnsInHanded_of_change_and (C := Tryz.checked) (X := fun w _ => laidMetH Tryz.prog Rows.fnExactAdoptRow.laid w) (fun _ _ _ hh h => h.of_heap hh) (show ownKnob Tryz.prog.godebug = none by kernel_rfl) started (by kernel_rfl) Tryz.func3
    (ChangeSpec.witness_at (enc := enc) (C := Tryz.checked) (os := os) (X := fun w _ => laidMetH Tryz.prog Rows.fnExactAdoptRow.laid w) false (laidWorld os) #[.agg #[.int .i64 0, .int .i64 0, .bool false, .bool false, .bool false, .bool false, .slice none 0 0, .slice none 0 0, .int .i64 0, .int .i64 0, .int .i64 0, .int .i64 0, .string ByteArray.empty, .string ByteArray.empty, .int .i64 0, .slice none 0 0], .slice none 0 0, .int .i64 0] 8 rfl (by kernel_rfl) (by kernel_rfl) (by kernel_rfl) (by kernel_rfl) (by kernel_rfl) (laidWorld_met os _)) ?_
  intro W base args ds gs before hval0 hW _ _ hL _
  have hval : ∀ (j : Nat) t v, Tryz.f3.params[j]? = some t → args[j]? = some v → Value.okWide Tryz.prog W .any base t v := hval0
  have hW' := hW
  obtain ⟨p, q, hA0, hV, rfl, hfz, hnd⟩ := hW
  have hA : DataW.TrodAll enc Tryz.prog W 0 (fun _ => true) true Tryz.f3.params.toList args.toList ds p := hA0
  rw [Tryz.params3] at hA hval
  obtain ⟨v0, vs0, d0, ds0, p0, q0, hargs, rfl, rfl, h0, r0⟩ := trodAll_cons hA
  obtain ⟨v1, vs1, d1, ds1, p1, q1, rfl, rfl, rfl, h1, r1⟩ := trodAll_cons r0
  obtain ⟨v2, vs2, d2, ds2, p2, q2, rfl, rfl, rfl, h2, r2⟩ := trodAll_cons r1
  obtain ⟨rfl, rfl, rfl⟩ := trodAll_nil r2
  obtain rfl : args = #[v0, v1, v2] := by cases args; simp_all
  obtain ⟨rfl, rfl⟩ := trodVars_none hV
  have k0 := h0
  have lt0 : ∀ x ∈ p0, x.block < W.heap.size := by obtain ⟨m, hm⟩ := k0; exact DataW.trod_lt m _ _ _ hm
  obtain ⟨mb0, A0, rfl, hR0, hW0⟩ := open_member (hval 0 29 v0 rfl rfl) h0
  have k1 := h1
  have lt1 : ∀ x ∈ p1, x.block < W.heap.size := by obtain ⟨m, hm⟩ := k1; exact DataW.trod_lt m _ _ _ hm
  obtain ⟨ao1, l1, ca1, rfl, hR1, hl1, hw1⟩ := open_views (hval 1 30 v1 rfl rfl) h1
  obtain ⟨a2, rfl, rfl, rfl, w2⟩ := open_int Tryz.underlying3 (hval 2 3 v2 rfl rfl) h2
  have hX := of_laid_FnExactAdopt hL
  clear hA0 hval0 hL
  try simp only [List.append_nil] at hW'
  refine (walk_FnExactAdopt mb0 A0 ao1 l1 ca1 a2 W hR0 hW0 hR1 hl1 hw1 w2 hX).mono fun e W' ⟨he, bel⟩ => ?_
  subst he
  exact ⟨_, rfl, _, _, _, [], _, [], hW', trodAll_mk1 (shut_bool Tryz.underlying4 _), (trodAll_cons_mk (Below.trod (show laidOutB Tryz.prog = true by kernel_rfl) (by kernel_rfl) (of_decide_eq_true (by kernel_rfl)) k0 bel lt0) (trodAll_cons_mk (Below.trod (show laidOutB Tryz.prog = true by kernel_rfl) (by kernel_rfl) (of_decide_eq_true (by kernel_rfl)) k1 bel lt1) (trodAll_cons_mk (shut_int Tryz.underlying3 w2) trodAll_mk0))), rfl, bel.frame _, fun h => by cases h⟩

theorem row_FnExactAdopt : Rows.FnExactAdoptSaid :=
  OpenClaim.holds_of_wide 3 Tryz.f3 rfl rfl rfl rfl rfl rfl rfl ⟨rfl, rfl, rfl, rfl, rfl⟩ rfl rfl rfl rfl rfl (by kernel_rfl) Tryz.func3 (by kernel_rfl)
    (of_decide_eq_true (by kernel_rfl)) (by unfold Func.isWrapper; first | (rw [if_pos (by decide +kernel)]; kernel_rfl) | (rw [if_neg (by decide +kernel)]; exact ⟨rfl, rfl⟩))
    (fun os started H enc _ => lifted_FnExactAdopt os started H enc)

theorem proved_FnExactAdopt : Rows.FnExactAdoptCardSaid :=
  Claim7.holds_tied_plain_at .later [] Rows.fnExactAdoptCard.laidKinds true Rows.fnExactAdoptCard.stood.harness true
    row_FnExactAdopt (fun _ h => by cases h) (by kernel_rfl) (fun _ h => by cases h) fnExactAdopt_row_tie rfl ⟨rfl, rfl⟩ (by kernel_rfl) rfl
    (fun f fn hf hfn => by
      obtain rfl : f = 3 := Option.some.inj ((show Tryz.prog.funcNamed Tryz.f3.name = some 3 by kernel_rfl).symm.trans hf) |>.symm
      obtain rfl : fn = Tryz.f3 := (Option.some.inj (Tryz.func3.symm.trans hfn)).symm
      exact ⟨by kernel_rfl, fun j t ht => by
        rw [Tryz.params3] at ht
        have hm : t ∈ ([29, 30, 3] : List TypeId) := by simpa using Array.mem_of_getElem? ht
        have hall : (([29, 30, 3] : List TypeId).all fun u => !Tryz.prog.wantsStandIn u) = true := by kernel_rfl
        exact (show Tryz.prog.wantsStandIn t = false by simpa using List.all_eq_true.1 hall t hm)⟩)
    (by kernel_rfl)
#print axioms proved_FnExactAdopt
end Go.Proofs.YtpjgplohlchpoaaGreatDoor
