/- MemberNew answers as its model at every argument; it writes into no argument, and its answer is its own. -/
import Derived.Test.YtgmiohmglffidaaRows
import Derived.ProofKit
import Derived.OpenShut
import Derived.ShutString
import Derived.ChangeOld
import Derived.Test.YtgmiohmglffidaaToVo
import Derived.Test.YtgmiohmglffidaaMkMb
import Derived.Test.YtgmiohmglffidaaMbN
import Derived.Test.YtgmiohmglffidaaRowL
namespace Go.Proofs.Ytgmiohmglffidaa
open Go.ChangeShapes Go.WideShapes Go.ChangeAt Go.RowKit
open Go.ChangeMaps (open_string shut_string)
set_option linter.unusedVariables false
theorem new_bare (id : Int) (vs : List (List Int)) : ∃ (i e : Int) (f b l s : Bool), (newMb id vs).1 = bareB i e f b l s := by
  unfold newMb
  split
  · exact ⟨_, _, _, _, _, _, rfl⟩
  · exact ⟨0, 0, false, false, false, false, rfl⟩
set_option maxRecDepth 100000 in
set_option maxHeartbeats 4000000 in
theorem walk_FnExactMemberNew (id : Int) (ao : Option Addr) (L : List Vw) (ca : Nat) (w : World) (hid : (Lit.int .i64 id).wf = true) (hR : RdVs w ao L) (hl : L.length ≤ maxLen) (hw : ∀ s ∈ L, s.l.length ≤ maxLen) :
    Calls Try.prog 3 #[.int .i64 id, .slice ao L.length ca] w fun e w' => e = .returned (.bool true) ∧ Below w.heap.size w w' := by
  have hl9 : L.length ≤ 9223372036854775807 := by unfold maxLen at hl; omega
  have CZ := hide1 (szIntSS_sum ao L ca 1048576 w (Nat.le_refl _) hl9 (fun x hx => by have h1 := hw x hx; unfold maxLen at h1; omega) hR)
  have HR := hide1 hR
  clear hR hw hl hl9
  go_enter Try.func3, Try.ntmps3
  go_wp2_with fail
  refine CZ.out.mono ?_
  rintro e wz ⟨hz, hbz⟩
  clear CZ
  rcases hz with rfl | ⟨r, rfl, hr1, hr2, hr3, hr4⟩
  · go_wp2
    go_ret
    exact ⟨rfl, hbz⟩
  · have qr : ¬ ((r : Int) < 0) := by omega
    have qr2 : decide ((r : Int) < 0) = false := decide_eq_false qr
    have HZ := hide1 hr3
    have HM := hide1 hr4
    have CT := hide1 (fun W (hb : Below w.heap.size w W) => toIntSS_own ao L ca W hr2 HZ.out (HR.out.later hb))
    have HV := hide1 (show ∀ (M : List Vw), M.map (·.l) = L.map (·.l) → M.length = L.length ∧ (∀ x ∈ M, x.l.length ≤ 1048576) ∧ sumV M M.length ≤ 1048576 from fun M hm => by
      have e1 : M.length = L.length := by have := congrArg List.length hm; simpa using this
      refine ⟨e1, fun x hx => ?_, ?_⟩
      · have h2 : x.l ∈ L.map (·.l) := by rw [← hm]; exact List.mem_map_of_mem hx
        obtain ⟨y, hy, e2⟩ := List.mem_map.mp h2
        rw [← e2]
        exact HZ.out y hy
      · have h3 := HM.out
        have e4 : sumV M M.length = sumV L L.length := by
          unfold sumV
          rw [List.take_length, List.take_length]
          have e5 := congrArg (fun z => (z.map List.length).sum) hm
          simpa [List.map_map, Function.comp_def] using e5
        omega)
    obtain ⟨bi, be, bf, bb, bl, bs, hbare⟩ := new_bare id (L.map (·.l))
    obtain ⟨gq, hgq⟩ : ∃ g, g = (newMb id (L.map (·.l))).2 := ⟨_, rfl⟩
    have CS := hide1 (show ∀ (W : World) (b : Option Addr) (c : Nat) (M : List Vw), M.map (·.l) = L.map (·.l) → RdVs W b M → Calls Try.prog 7 #[.int .i64 id, .slice b L.length c] W fun e w' => e = .returned (.tuple #[.agg (mbA (bareB bi be bf bb bl bs) noMA), .bool gq]) ∧ Below W.heap.size W w' from fun W b c M hm h => by
      obtain ⟨e1, e2, _⟩ := HV.out M hm
      have h9 := specMemberNew_any id b M c W (by omega) e2 h
      rw [e1, hm, hbare, ← hgq] at h9
      exact h9)
    have CI := hide1 (show ∀ (W : World) (b : Option Addr) (c : Nat) (M : List Vw), M.map (·.l) = L.map (·.l) → RdVs W b M → Calls Try.prog 9 #[.int .i64 id, .slice b L.length c] W fun e w' => e = .returned (.tuple #[.agg (mbA (bareB bi be bf bb bl bs) noMA), .bool gq]) ∧ Below W.heap.size W w' from fun W b c M hm h => by
      obtain ⟨e1, e2, _⟩ := HV.out M hm
      have h9 := implMemberNew_any id b M c W (by omega) e2 h
      rw [e1, hm, hbare, ← hgq] at h9
      exact h9)
    have CE := hide1 (show ∀ (W : World) (b b' : Option Addr) (c c' : Nat) (M M' : List Vw), M.map (·.l) = L.map (·.l) → M'.map (·.l) = L.map (·.l) → RdVs W b M → RdVs W b' M' → Calls Try.prog 11 #[.slice b L.length c, .slice b' L.length c'] W fun e w' => e = .returned (.bool true) ∧ Below W.heap.size W w' from fun W b b' c c' M M' hm hm' h h' => by
      obtain ⟨e1, e2, _⟩ := HV.out M hm
      have h9 := eqIntSS_same b b' M M' c c' W (by omega) e2 (hm.trans hm'.symm) h h'
      rw [e1] at h9
      exact h9)
    have CM := hide1 (show ∀ (W : World) (B : Nat) (b : Option Addr) (c : Nat) (M : List Vw), M.map (·.l) = L.map (·.l) → B ≤ W.heap.size → OwnVs W B b c M → Calls Try.prog 12 #[.slice b L.length c, .int .i64 1] W fun e w' => (∃ q : Nat, e = .returned (.int .i64 (q : Int))) ∧ Below B W w' ∧ (∀ g, (∀ x ∈ M, (Value.slice x.a x.l.length x.c).ownBlock ≠ some g) → g < W.heap.size → w'.heap[g]? = W.heap[g]?) from fun W B b c M hm hB h => by
      obtain ⟨e1, e2, e3⟩ := HV.out M hm
      have h9 := markIntSS_own b M c B W (by omega) e2 e3 hB h
      rw [e1] at h9
      exact h9)
    have qg : (gq != gq) = false := by cases gq <;> rfl
    clear hbare hgq hr3 hr4
    have QE := hide1 (fun W => (show Calls Try.prog 10 #[.agg (mbA (bareB bi be bf bb bl bs) noMA), .agg (mbA (bareB bi be bf bb bl bs) noMA)] W fun r w' => r = .returned (.bool true) ∧ Below W.heap.size W w' from eqBare_any bi be bf bb bl bs W))
    have QM := hide1 (fun W => (show Calls Try.prog 13 #[.agg (mbA (bareB bi be bf bb bl bs) noMA), .int .i64 1] W fun r w' => r = .returned (.int .i64 1) ∧ (∀ g t cs, Blk W g t cs → Blk w' g t cs) ∧ Below W.heap.size W w' from markBare_any bi be bf bb bl bs W))
    have QH := hide1 (fun W => (show Calls Try.prog 14 #[.agg (mbA (bareB bi be bf bb bl bs) noMA), .int .i64 1] W fun r w' => r = .returned (.int .i64 1) ∧ Below W.heap.size W w' from heldBare_any bi be bf bb bl bs W))
    have ONE := hide1 (oneMb (bareB bi be bf bb bl bs) noMA)
    have LEN : (mbA (bareB bi be bf bb bl bs) noMA).size = 16 := rfl
    generalize mbA (bareB bi be bf bb bl bs) noMA = FB9 at *
    have SZF : (Try.prog.info? 31).map (·.size) = some FB9.size := by rw [LEN]; exact sizeMb
    have HLEN := hide1 LEN
    have HSZF := hide1 SZF
    clear LEN SZF
    have E_0 := hide1 (hbz)
    clear hbz
    go_wp2_with fail
    refine (CT.out wz E_0.out).mono ?_
    rintro e w1 ⟨⟨Tb, Tc, TM, rfl, Tm, hO⟩, hb⟩
    have Th := hide1 Tm
    clear Tm
    have sT : wz.heap.size ≤ w1.heap.size := hb.size
    have E_1 := hide1 (E_0.out.trans ((hb).mono E_0.out.size))
    clear E_0
    have OT_1 := hide1 (hO)
    clear hb hO
    go_wp2_with fail
    refine (CS.out w1 Tb Tc TM Th.out OT_1.out.rd).mono ?_
    rintro e w2 ⟨rfl, hb⟩
    have E_2 := hide1 (E_1.out.trans ((hb).mono E_1.out.size))
    have OT_2 := hide1 (OT_1.out.later (hb))
    clear E_1 OT_1
    clear hb
    have FB := hide1 (And.intro (BlkA.new w2 31 (FB9)) ((Below.refl w2.heap.size w2).alloc (Nat.le_refl _) (.cells (FB9) 31)))
    go_upto_region 6 with (refine wpList_store_row rfl 31 _ _ rfl w2.heap.size FB9 rfl rfl 31 _ (heap_alloc_last _ _) HSZF.out (by rw [HLEN.out]; rfl) ONE.out ?_; rw [World.setRow_alloc_new])
    generalize (w2.alloc (.cells (FB9) 31)) = u2 at FB ⊢
    obtain ⟨G4, hG4⟩ : ∃ G, G = w2.heap.size := ⟨_, rfl⟩
    have KB := hide1 FB.out.1
    rw [← hG4] at KB ⊢
    have zG4 : w2.heap.size ≤ G4 := by omega
    have E_3 := hide1 (E_2.out.trans ((FB.out.2).mono E_2.out.size))
    have OT_3 := hide1 (OT_2.out.later (FB.out.2))
    clear E_2 OT_2
    have B4_3 := hide1 (KB.out)
    clear KB FB hG4
    have hE2 : w.heap.size ≤ u2.heap.size := by have := E_3.out.size; omega
    have l4 : G4 < u2.heap.size := B4_3.out.lt
    go_wp2_with fail
    refine (CT.out u2 E_3.out).mono ?_
    rintro e w3 ⟨⟨Xb, Xc, XM, rfl, Xm, hO⟩, hb⟩
    have Xh := hide1 Xm
    clear Xm
    have sX : u2.heap.size ≤ w3.heap.size := hb.size
    have E_4 := hide1 (E_3.out.trans ((hb).mono E_3.out.size))
    have OT_4 := hide1 (OT_3.out.later (hb))
    have B4_4 := hide1 (B4_3.out.below (hb) B4_3.out.lt)
    clear E_3 OT_3 B4_3
    have OX_4 := hide1 (hO)
    clear hb hO
    have OFX := hide1 (fun g (h : g < u2.heap.size ∨ w3.heap.size ≤ g) x (hx : x ∈ XM) (e : (Value.slice x.a x.l.length x.c).ownBlock = some g) => (show False by have h2 := (OX_4.out.r x hx).lt g e; omega))
    go_wp2_with fail
    refine (CI.out w3 Xb Xc XM Xh.out OX_4.out.rd).mono ?_
    rintro e w4 ⟨rfl, hb⟩
    have s4 : w3.heap.size ≤ w4.heap.size := hb.size
    have E_5 := hide1 (E_4.out.trans ((hb).mono E_4.out.size))
    have OT_5 := hide1 (OT_4.out.later (hb))
    have B4_5 := hide1 (B4_4.out.below (hb) B4_4.out.lt)
    have OX_5 := hide1 (OX_4.out.later (hb))
    clear E_4 OT_4 B4_4 OX_4
    clear hb
    have FB := hide1 (And.intro (BlkA.new w4 31 (FB9)) ((Below.refl w4.heap.size w4).alloc (Nat.le_refl _) (.cells (FB9) 31)))
    go_upto_region 8 with (refine wpList_store_row rfl 31 _ _ rfl w4.heap.size FB9 rfl rfl 31 _ (heap_alloc_last _ _) HSZF.out (by rw [HLEN.out]; rfl) ONE.out ?_; rw [World.setRow_alloc_new])
    generalize (w4.alloc (.cells (FB9) 31)) = u4 at FB ⊢
    obtain ⟨G6, hG6⟩ : ∃ G, G = w4.heap.size := ⟨_, rfl⟩
    have KB := hide1 FB.out.1
    rw [← hG6] at KB ⊢
    have zG6 : w4.heap.size ≤ G6 := by omega
    have E_6 := hide1 (E_5.out.trans ((FB.out.2).mono E_5.out.size))
    have OT_6 := hide1 (OT_5.out.later (FB.out.2))
    have B4_6 := hide1 (B4_5.out.below (FB.out.2) B4_5.out.lt)
    have OX_6 := hide1 (OX_5.out.later (FB.out.2))
    clear E_5 OT_5 B4_5 OX_5
    have B6_6 := hide1 (KB.out)
    clear KB FB hG6
    go_wp2_with (first | (refine wpList_load_row rfl 31 _ rfl G6 rfl 31 FB9 (0, 0) _ B6_6.out Try.underlying31 rfl HSZF.out ?_) | (refine wpList_load_row rfl 31 _ rfl G4 rfl 31 FB9 (0, 0) _ B4_6.out Try.underlying31 rfl HSZF.out ?_))
    refine (QE.out u4).mono ?_
    rintro e w5 ⟨rfl, hb⟩
    have E_7 := hide1 (E_6.out.trans ((hb).mono E_6.out.size))
    have OT_7 := hide1 (OT_6.out.later (hb))
    have B4_7 := hide1 (B4_6.out.below (hb) B4_6.out.lt)
    have OX_7 := hide1 (OX_6.out.later (hb))
    have B6_7 := hide1 (B6_6.out.below (hb) B6_6.out.lt)
    clear E_6 OT_6 B4_6 OX_6 B6_6
    clear hb
    go_wp2_with fail
    refine (CT.out w5 E_7.out).mono ?_
    rintro e w6 ⟨⟨Yb, Yc, YM, rfl, Ym, hO⟩, hb⟩
    have Yh := hide1 Ym
    clear Ym
    have sY : w5.heap.size ≤ w6.heap.size := hb.size
    have E_8 := hide1 (E_7.out.trans ((hb).mono E_7.out.size))
    have OT_8 := hide1 (OT_7.out.later (hb))
    have B4_8 := hide1 (B4_7.out.below (hb) B4_7.out.lt)
    have OX_8 := hide1 (OX_7.out.later (hb))
    have B6_8 := hide1 (B6_7.out.below (hb) B6_7.out.lt)
    clear E_7 OT_7 B4_7 OX_7 B6_7
    have OY_8 := hide1 (hO)
    clear hb hO
    go_wp2_with fail
    refine (CE.out w6 Xb Yb Xc Yc XM YM Xh.out Yh.out OX_8.out.rd OY_8.out.rd).mono ?_
    rintro e w7 ⟨rfl, hb⟩
    have E_9 := hide1 (E_8.out.trans ((hb).mono E_8.out.size))
    have OT_9 := hide1 (OT_8.out.later (hb))
    have B4_9 := hide1 (B4_8.out.below (hb) B4_8.out.lt)
    have OX_9 := hide1 (OX_8.out.later (hb))
    have B6_9 := hide1 (B6_8.out.below (hb) B6_8.out.lt)
    have OY_9 := hide1 (OY_8.out.later (hb))
    clear E_8 OT_8 B4_8 OX_8 B6_8 OY_8
    clear hb
    have l6 : G6 < w7.heap.size := B6_9.out.lt
    have s7 : u2.heap.size ≤ w7.heap.size := by omega
    go_wp2_with fail
    refine (CM.out w7 u2.heap.size Xb Xc XM Xh.out s7 OX_9.out).mono ?_
    rintro e w9 ⟨⟨q9, rfl⟩, hB9, hF9⟩
    have mk0 : ¬ ((q9 : Int) < 0) := by omega
    have mk1 : decide ((q9 : Int) < 0) = false := decide_eq_false mk0
    skip
    have E_10 := hide1 (E_9.out.trans (hB9.mono hE2))
    have B4_10 := hide1 (show BlkA w9 G4 31 FB9 from (hF9 G4 (OFX.out G4 (.inl l4)) B4_9.out.lt).trans B4_9.out)
    have B6_10 := hide1 (show BlkA w9 G6 31 FB9 from (hF9 G6 (OFX.out G6 (.inr (by omega))) B6_9.out.lt).trans B6_9.out)
    clear hB9 hF9 E_9 OT_9 B4_9 OX_9 B6_9 OY_9
    go_wp2_with (first | (refine wpList_load_rowG rfl 31 _ rfl G6 rfl 31 FB9 _ B6_10.out Try.underlying31 rfl HSZF.out ?_) | (refine wpList_load_rowG rfl 31 _ rfl G4 rfl 31 FB9 _ B4_10.out Try.underlying31 rfl HSZF.out ?_))
    refine (QE.out w9).mono ?_
    rintro e w10 ⟨rfl, hb⟩
    have E_11 := hide1 (E_10.out.trans ((hb).mono E_10.out.size))
    have B4_11 := hide1 (B4_10.out.below (hb) B4_10.out.lt)
    have B6_11 := hide1 (B6_10.out.below (hb) B6_10.out.lt)
    clear E_10 B4_10 B6_10
    clear hb
    go_wp2_with (refine wpList_load_row rfl 31 _ rfl G6 rfl 31 FB9 (0, 0) _ B6_11.out Try.underlying31 rfl HSZF.out ?_)
    refine (QM.out w10).mono ?_
    rintro e w11 ⟨rfl, hF, hb⟩
    have E_12 := hide1 (E_11.out.trans ((hb).mono E_11.out.size))
    have B4_12 := hide1 (B4_11.out.below (hb) B4_11.out.lt)
    have B6_12 := hide1 (B6_11.out.below (hb) B6_11.out.lt)
    clear E_11 B4_11 B6_11
    clear hb hF
    go_wp2_with (refine wpList_load_row rfl 31 _ rfl G6 rfl 31 FB9 (0, 0) _ B6_12.out Try.underlying31 rfl HSZF.out ?_)
    refine (QH.out w11).mono ?_
    rintro e w12 ⟨rfl, hb⟩
    have E_13 := hide1 (E_12.out.trans ((hb).mono E_12.out.size))
    have B4_13 := hide1 (B4_12.out.below (hb) B4_12.out.lt)
    have B6_13 := hide1 (B6_12.out.below (hb) B6_12.out.lt)
    clear E_12 B4_12 B6_12
    clear hb
    have q11 : ((1 : Int) != 1) = false := rfl
    go_wp2_with fail
    refine (CT.out w12 E_13.out).mono ?_
    rintro e w13 ⟨⟨Vb, Vc, VM, rfl, Vm, hO⟩, hb⟩
    have Vh := hide1 Vm
    clear Vm
    have sV : w12.heap.size ≤ w13.heap.size := hb.size
    have E_14 := hide1 (E_13.out.trans ((hb).mono E_13.out.size))
    have B4_14 := hide1 (B4_13.out.below (hb) B4_13.out.lt)
    have B6_14 := hide1 (B6_13.out.below (hb) B6_13.out.lt)
    clear E_13 B4_13 B6_13
    have OV_14 := hide1 (hO)
    clear hb hO
    go_wp2_with fail
    refine (CI.out w13 Vb Vc VM Vh.out OV_14.out.rd).mono ?_
    rintro e w14 ⟨rfl, hb⟩
    have E_15 := hide1 (E_14.out.trans ((hb).mono E_14.out.size))
    have B4_15 := hide1 (B4_14.out.below (hb) B4_14.out.lt)
    have B6_15 := hide1 (B6_14.out.below (hb) B6_14.out.lt)
    have OV_15 := hide1 (OV_14.out.later (hb))
    clear E_14 B4_14 B6_14 OV_14
    clear hb
    have FB := hide1 (And.intro (BlkA.new w14 31 (FB9)) ((Below.refl w14.heap.size w14).alloc (Nat.le_refl _) (.cells (FB9) 31)))
    go_upto_region 25 with (refine wpList_store_row rfl 31 _ _ rfl w14.heap.size FB9 rfl rfl 31 _ (heap_alloc_last _ _) HSZF.out (by rw [HLEN.out]; rfl) ONE.out ?_; rw [World.setRow_alloc_new])
    generalize (w14.alloc (.cells (FB9) 31)) = u14 at FB ⊢
    obtain ⟨G7, hG7⟩ : ∃ G, G = w14.heap.size := ⟨_, rfl⟩
    have KB := hide1 FB.out.1
    rw [← hG7] at KB ⊢
    have zG7 : w14.heap.size ≤ G7 := by omega
    have E_16 := hide1 (E_15.out.trans ((FB.out.2).mono E_15.out.size))
    have B4_16 := hide1 (B4_15.out.below (FB.out.2) B4_15.out.lt)
    have B6_16 := hide1 (B6_15.out.below (FB.out.2) B6_15.out.lt)
    have OV_16 := hide1 (OV_15.out.later (FB.out.2))
    clear E_15 B4_15 B6_15 OV_15
    have B7_16 := hide1 (KB.out)
    clear KB FB hG7
    go_wp2_with (first | (refine wpList_load_row rfl 31 _ rfl G7 rfl 31 FB9 (0, 0) _ B7_16.out Try.underlying31 rfl HSZF.out ?_) | (refine wpList_load_row rfl 31 _ rfl G4 rfl 31 FB9 (0, 0) _ B4_16.out Try.underlying31 rfl HSZF.out ?_))
    refine (QE.out u14).mono ?_
    rintro e w15 ⟨rfl, hb⟩
    have E_17 := hide1 (E_16.out.trans ((hb).mono E_16.out.size))
    have B4_17 := hide1 (B4_16.out.below (hb) B4_16.out.lt)
    have B6_17 := hide1 (B6_16.out.below (hb) B6_16.out.lt)
    have OV_17 := hide1 (OV_16.out.later (hb))
    have B7_17 := hide1 (B7_16.out.below (hb) B7_16.out.lt)
    clear E_16 B4_16 B6_16 OV_16 B7_16
    clear hb
    go_wp2_with (refine wpList_load_row rfl 31 _ rfl G6 rfl 31 FB9 (0, 0) _ B6_17.out Try.underlying31 rfl HSZF.out ?_)
    refine (QH.out w15).mono ?_
    rintro e w16 ⟨rfl, hb⟩
    have E_18 := hide1 (E_17.out.trans ((hb).mono E_17.out.size))
    have B4_18 := hide1 (B4_17.out.below (hb) B4_17.out.lt)
    have B6_18 := hide1 (B6_17.out.below (hb) B6_17.out.lt)
    have OV_18 := hide1 (OV_17.out.later (hb))
    have B7_18 := hide1 (B7_17.out.below (hb) B7_17.out.lt)
    clear E_17 B4_17 B6_17 OV_17 B7_17
    clear hb
    go_wp2
    go_ret
    exact ⟨rfl, E_18.out⟩

set_option maxRecDepth 100000 in
theorem lifted_FnExactMemberNew (os : Os) (started : os.Started) (H : Type) (enc : TypeId × Value → H) :
    ReturnsInHanded {} Try.checked os 3 .any (Rows.fnExactMemberNewSpec.pre6 enc Try.prog Try.f3 Rows.fnExactMemberNewRow.domain false) (Rows.fnExactMemberNewSpec.post enc Try.prog Try.f3 false true false false) := by
  refine returnsInHanded_of_change (C := Try.checked) (show ownKnob Try.prog.godebug = none by kernel_rfl) started (by kernel_rfl) Try.func3
    (ChangeSpec.witness6 (enc := enc) (C := Try.checked) false ⟨#[], #[.int .i64 0, .slice none 0 0], []⟩ 8 (by kernel_rfl) (by kernel_rfl) (by kernel_rfl) (by kernel_rfl)) ?_
  intro W base args ds gs before hval0 hW hcnd _
  have hval : ∀ (j : Nat) t v, Try.f3.params[j]? = some t → args[j]? = some v → Value.okWide Try.prog W .any base t v := hval0
  have hW' := hW
  obtain ⟨p, q, hA0, hV, rfl, hfz, hnd⟩ := hW
  have hA : DataW.TrodAll enc Try.prog W 0 (fun _ => true) true Try.f3.params.toList args.toList ds p := hA0
  rw [Try.params3] at hA hval
  obtain ⟨v0, vs0, d0, ds0, p0, q0, hargs, rfl, rfl, h0, r0⟩ := trodAll_cons hA
  obtain ⟨v1, vs1, d1, ds1, p1, q1, rfl, rfl, rfl, h1, r1⟩ := trodAll_cons r0
  obtain ⟨rfl, rfl, rfl⟩ := trodAll_nil r1
  obtain rfl : args = #[v0, v1] := by cases args; simp_all
  obtain ⟨rfl, rfl⟩ := trodVars_none hV
  obtain ⟨a0, rfl, rfl, rfl, w0⟩ := open_int Try.underlying3 (hval 0 3 v0 rfl rfl) h0
  have k1 := h1
  have lt1 : ∀ x ∈ p1, x.block < W.heap.size := by obtain ⟨m, hm⟩ := k1; exact DataW.trod_lt m _ _ _ hm
  obtain ⟨ao1, l1, ca1, rfl, hR1, hl1, hw1⟩ := open_views (hval 1 22 v1 rfl rfl) h1
  clear hA0 hval0
  try simp only [List.append_nil] at hW'
  refine (walk_FnExactMemberNew a0 ao1 l1 ca1 W w0 hR1 hl1 hw1).mono fun e W' ⟨he, bel⟩ => ?_
  subst he
  exact ⟨_, rfl, _, _, _, [], _, [], hW', trodAll_mk1 (shut_bool Try.underlying4 _), (trodAll_cons_mk (shut_int Try.underlying3 w0) (trodAll_cons_mk (Below.trod (show laidOutB Try.prog = true by kernel_rfl) (by kernel_rfl) (of_decide_eq_true (by kernel_rfl)) k1 bel lt1) trodAll_mk0)), rfl, bel.frame _, fun h => by cases h⟩

theorem proved_FnExactMemberNew : Rows.FnExactMemberNewSaid :=
  OpenClaim.holds_of_wide 3 Try.f3 rfl rfl rfl rfl rfl rfl rfl ⟨rfl, rfl, rfl, rfl, rfl⟩ rfl rfl rfl rfl rfl (by kernel_rfl) Try.func3 (by kernel_rfl)
    (of_decide_eq_true (by kernel_rfl)) (by unfold Func.isWrapper; first | (rw [if_pos (by decide +kernel)]; kernel_rfl) | (rw [if_neg (by decide +kernel)]; exact ⟨rfl, rfl⟩))
    (fun os started H enc _ => lifted_FnExactMemberNew os started H enc)
#print axioms proved_FnExactMemberNew
end Go.Proofs.Ytgmiohmglffidaa
