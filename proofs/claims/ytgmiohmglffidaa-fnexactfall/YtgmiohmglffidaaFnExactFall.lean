/- Fall answers as its model at every argument; it writes into no argument, and its answer is its own. -/
import Derived.Test.YtgmiohmglffidaaRows
import Derived.ProofKit
import Derived.OpenShut
import Derived.ShutString
import Derived.ChangeOld
import Derived.Test.YtgmiohmglffidaaToMb
import Derived.Test.YtgmiohmglffidaaMkMb
import Derived.Test.YtgmiohmglffidaaMbS
import Derived.Test.YtgmiohmglffidaaMbI
import Derived.Test.YtgmiohmglffidaaRowL
namespace Go.Proofs.Ytgmiohmglffidaa
open Go.ChangeShapes Go.WideShapes Go.ChangeAt Go.RowKit
open Go.ChangeMaps (open_string shut_string)
set_option linter.unusedVariables false
set_option maxRecDepth 100000 in
set_option maxHeartbeats 4000000 in
theorem walk_FnExactFall (m : Mb) (A : MA) (w : World) (hR : RdMb w m A) (hw : WfMb m) :
    Calls Try.prog 5 #[mbV m A] w fun e w' => e = .returned (.bool true) ∧ Below w.heap.size w w' := by
  have HR := hide1 hR
  have mx : maxLen ≤ 9223372036854775807 := by unfold maxLen; omega
  have CZ := hide1 (fun W (hb : Below w.heap.size w W) => (show Calls Try.prog 15 #[.agg (mbA m A), .int .i64 1048576] W _ from szMember_any m A 1048576 W (Nat.le_refl _) (Nat.le_trans hw.wl mx) (Nat.le_trans hw.il mx) (Nat.le_trans hw.ll mx) ⟨Nat.le_trans hw.it.1 mx, Nat.le_trans hw.it.2.1 mx⟩ (HR.out.later hb) (fun i h => by have h1 := hw.is _ (List.getElem_mem h); exact ⟨Nat.le_trans h1.1 mx, Nat.le_trans h1.2.1 mx⟩)))
  clear hR hw mx
  rw [mbV_A]
  go_enter Try.func5, Try.ntmps5
  have E_0 := hide1 (Below.refl w.heap.size w)
  have FB := hide1 (And.intro (BlkA.new w 44 (mbA m A)) ((Below.refl w.heap.size w).alloc (Nat.le_refl _) (.cells (mbA m A) 44)))
  go_upto_region 1 with fail
  generalize (w.alloc (.cells (mbA m A) 44)) = u0 at FB ⊢
  obtain ⟨G0, hG0⟩ : ∃ G, G = w.heap.size := ⟨_, rfl⟩
  have KB := hide1 FB.out.1
  rw [← hG0] at KB ⊢
  have zG0 : w.heap.size ≤ G0 := by omega
  have E_1 := hide1 (E_0.out.trans ((FB.out.2).mono E_0.out.size))
  clear E_0
  have B0_1 := hide1 (KB.out)
  clear KB FB hG0
  go_wp2_with (refine wpList_load_row rfl 44 _ rfl G0 rfl 44 (mbA m A) (0, 0) _ B0_1.out Try.underlying44 rfl sizeMbL ?_)
  refine (CZ.out u0 E_1.out).mono ?_
  rintro e wz ⟨hz, hbz⟩
  clear CZ
  have E_2 := hide1 (E_1.out.trans ((hbz).mono E_1.out.size))
  have B0_2 := hide1 (B0_1.out.below (hbz) B0_1.out.lt)
  clear E_1 B0_1
  clear hbz
  rcases hz with rfl | ⟨r, rfl, hr1, hr2, hr3, hr4, hr5⟩
  · go_wp2
    go_ret
    exact ⟨rfl, E_2.out⟩
  · have qr : ¬ ((r : Int) < 0) := by omega
    have qr2 : decide ((r : Int) < 0) = false := decide_eq_false qr
    have HZ := hide1 (show ∀ x ∈ m.is, x.k.size ≤ 1048576 ∧ x.v.size ≤ 1048576 from fun e he => by obtain ⟨j, hj, rfl⟩ := List.getElem_of_mem he; exact hr3 j hj)
    have SZ := hide1 hr2
    have CT := hide1 (fun W (hb : Below w.heap.size w W) => toMb_A m A W SZ.out (HR.out.later hb))
    clear hr3 hr2 hr4 hr5
    have CS := hide1 (fun W (b : MA) => (show Calls Try.prog 19 #[.agg (mbA m b)] W fun e w' => e = .returned (.agg (mbA (bareB m.id m.ep true false false false) noMA)) ∧ Below W.heap.size W w' from specFall_any m b W))
    have CI := hide1 (fun W (b : MA) => (show Calls Try.prog 20 #[.agg (mbA m b)] W fun e w' => e = .returned (.agg (mbA (bareB m.id m.ep true false false false) noMA)) ∧ Below W.heap.size W w' from implFall_any m b W))
    have QE := hide1 (fun W => (show Calls Try.prog 10 #[.agg (mbA (bareB m.id m.ep true false false false) noMA), .agg (mbA (bareB m.id m.ep true false false false) noMA)] W fun r w' => r = .returned (.bool true) ∧ Below W.heap.size W w' from eqBare_any m.id m.ep true false false false W))
    have QM := hide1 (fun W => (show Calls Try.prog 13 #[.agg (mbA (bareB m.id m.ep true false false false) noMA), .int .i64 1] W fun r w' => r = .returned (.int .i64 1) ∧ (∀ g t cs, Blk W g t cs → Blk w' g t cs) ∧ Below W.heap.size W w' from markBare_any m.id m.ep true false false false W))
    have QH := hide1 (fun W => (show Calls Try.prog 14 #[.agg (mbA (bareB m.id m.ep true false false false) noMA), .int .i64 1] W fun r w' => r = .returned (.int .i64 1) ∧ Below W.heap.size W w' from heldBare_any m.id m.ep true false false false W))
    have ONE := hide1 (oneMb (bareB m.id m.ep true false false false) noMA)
    have LEN : (mbA (bareB m.id m.ep true false false false) noMA).size = 16 := rfl
    generalize mbA (bareB m.id m.ep true false false false) noMA = FB9 at *
    have SZF : (Try.prog.info? 31).map (·.size) = some FB9.size := by rw [LEN]; exact sizeMb
    have HLEN := hide1 LEN
    have HSZF := hide1 SZF
    clear LEN SZF
    go_wp2_with (refine wpList_load_row rfl 44 _ rfl G0 rfl 44 (mbA m A) (0, 0) _ B0_2.out Try.underlying44 rfl sizeMbL ?_)
    refine (CT.out wz E_2.out).mono ?_
    rintro e w1 ⟨T, rfl, hO, hb⟩
    have sT : wz.heap.size ≤ w1.heap.size := hb.size
    have E_3 := hide1 (E_2.out.trans ((hb).mono E_2.out.size))
    have B0_3 := hide1 (B0_2.out.below (hb) B0_2.out.lt)
    clear E_2 B0_2
    have OT_3 := hide1 (hO)
    clear hb hO
    go_wp2_with fail
    refine (CS.out w1 T).mono ?_
    rintro e w2 ⟨rfl, hb⟩
    have E_4 := hide1 (E_3.out.trans ((hb).mono E_3.out.size))
    have B0_4 := hide1 (B0_3.out.below (hb) B0_3.out.lt)
    have OT_4 := hide1 (OT_3.out.later (hb))
    clear E_3 B0_3 OT_3
    clear hb
    have FB := hide1 (And.intro (BlkA.new w2 31 (FB9)) ((Below.refl w2.heap.size w2).alloc (Nat.le_refl _) (.cells (FB9) 31)))
    go_upto_region 6 with (refine wpList_store_row rfl 31 _ _ rfl w2.heap.size FB9 rfl rfl 31 _ (heap_alloc_last _ _) HSZF.out (by rw [HLEN.out]; rfl) ONE.out ?_; rw [World.setRow_alloc_new])
    generalize (w2.alloc (.cells (FB9) 31)) = u2 at FB ⊢
    obtain ⟨G4, hG4⟩ : ∃ G, G = w2.heap.size := ⟨_, rfl⟩
    have KB := hide1 FB.out.1
    rw [← hG4] at KB ⊢
    have zG4 : w2.heap.size ≤ G4 := by omega
    have E_5 := hide1 (E_4.out.trans ((FB.out.2).mono E_4.out.size))
    have B0_5 := hide1 (B0_4.out.below (FB.out.2) B0_4.out.lt)
    have OT_5 := hide1 (OT_4.out.later (FB.out.2))
    clear E_4 B0_4 OT_4
    have B4_5 := hide1 (KB.out)
    clear KB FB hG4
    have l4 : G4 < u2.heap.size := B4_5.out.lt
    have l0 : G0 < u2.heap.size := B0_5.out.lt
    go_wp2_with (refine wpList_load_row rfl 44 _ rfl G0 rfl 44 (mbA m A) (0, 0) _ B0_5.out Try.underlying44 rfl sizeMbL ?_)
    refine (CT.out u2 E_5.out).mono ?_
    rintro e w3 ⟨X, rfl, hO, hb⟩
    have sX : u2.heap.size ≤ w3.heap.size := hb.size
    have E_6 := hide1 (E_5.out.trans ((hb).mono E_5.out.size))
    have B0_6 := hide1 (B0_5.out.below (hb) B0_5.out.lt)
    have OT_6 := hide1 (OT_5.out.later (hb))
    have B4_6 := hide1 (B4_5.out.below (hb) B4_5.out.lt)
    clear E_5 B0_5 OT_5 B4_5
    have OX_6 := hide1 (hO)
    clear hb hO
    have OFX := hide1 (fun g (h : g < u2.heap.size ∨ w3.heap.size ≤ g) => OX_6.out.off h)
    have l3 : G4 < w3.heap.size := B4_6.out.lt
    have FB := hide1 (And.intro (BlkA.new w3 31 (mbA m X)) ((Below.refl w3.heap.size w3).alloc (Nat.le_refl _) (.cells (mbA m X) 31)))
    go_upto_region 7 with (refine wpList_store_row rfl 31 _ _ rfl w3.heap.size (mbA m X) rfl rfl 31 _ (heap_alloc_last _ _) sizeMb rfl (oneMb m X) ?_; rw [World.setRow_alloc_new])
    generalize (w3.alloc (.cells (mbA m X) 31)) = u3 at FB ⊢
    obtain ⟨G5, hG5⟩ : ∃ G, G = w3.heap.size := ⟨_, rfl⟩
    have KB := hide1 FB.out.1
    rw [← hG5] at KB ⊢
    have zG5 : w3.heap.size ≤ G5 := by omega
    have E_7 := hide1 (E_6.out.trans ((FB.out.2).mono E_6.out.size))
    have B0_7 := hide1 (B0_6.out.below (FB.out.2) B0_6.out.lt)
    have OT_7 := hide1 (OT_6.out.later (FB.out.2))
    have B4_7 := hide1 (B4_6.out.below (FB.out.2) B4_6.out.lt)
    have OX_7 := hide1 (OX_6.out.later (FB.out.2))
    clear E_6 B0_6 OT_6 B4_6 OX_6
    have B5_7 := hide1 (KB.out)
    clear KB FB hG5
    go_wp2_with (refine wpList_load_row rfl 31 _ rfl G5 rfl 31 (mbA m X) (0, 0) _ B5_7.out Try.underlying31 rfl sizeMb ?_)
    refine (CI.out u3 X).mono ?_
    rintro e w4 ⟨rfl, hb⟩
    have E_8 := hide1 (E_7.out.trans ((hb).mono E_7.out.size))
    have B0_8 := hide1 (B0_7.out.below (hb) B0_7.out.lt)
    have OT_8 := hide1 (OT_7.out.later (hb))
    have B4_8 := hide1 (B4_7.out.below (hb) B4_7.out.lt)
    have OX_8 := hide1 (OX_7.out.later (hb))
    have B5_8 := hide1 (B5_7.out.below (hb) B5_7.out.lt)
    clear E_7 B0_7 OT_7 B4_7 OX_7 B5_7
    clear hb
    have l5 : G5 < w4.heap.size := B5_8.out.lt
    have FB := hide1 (And.intro (BlkA.new w4 31 (FB9)) ((Below.refl w4.heap.size w4).alloc (Nat.le_refl _) (.cells (FB9) 31)))
    go_upto_region 8 with (refine wpList_store_row rfl 31 _ _ rfl w4.heap.size FB9 rfl rfl 31 _ (heap_alloc_last _ _) HSZF.out (by rw [HLEN.out]; rfl) ONE.out ?_; rw [World.setRow_alloc_new])
    generalize (w4.alloc (.cells (FB9) 31)) = u4 at FB ⊢
    obtain ⟨G6, hG6⟩ : ∃ G, G = w4.heap.size := ⟨_, rfl⟩
    have KB := hide1 FB.out.1
    rw [← hG6] at KB ⊢
    have zG6 : w4.heap.size ≤ G6 := by omega
    have E_9 := hide1 (E_8.out.trans ((FB.out.2).mono E_8.out.size))
    have B0_9 := hide1 (B0_8.out.below (FB.out.2) B0_8.out.lt)
    have OT_9 := hide1 (OT_8.out.later (FB.out.2))
    have B4_9 := hide1 (B4_8.out.below (FB.out.2) B4_8.out.lt)
    have OX_9 := hide1 (OX_8.out.later (FB.out.2))
    have B5_9 := hide1 (B5_8.out.below (FB.out.2) B5_8.out.lt)
    clear E_8 B0_8 OT_8 B4_8 OX_8 B5_8
    have B6_9 := hide1 (KB.out)
    clear KB FB hG6
    go_wp2_with (first | (refine wpList_load_row rfl 31 _ rfl G6 rfl 31 FB9 (0, 0) _ B6_9.out Try.underlying31 rfl HSZF.out ?_) | (refine wpList_load_row rfl 31 _ rfl G4 rfl 31 FB9 (0, 0) _ B4_9.out Try.underlying31 rfl HSZF.out ?_))
    refine (QE.out u4).mono ?_
    rintro e w5 ⟨rfl, hb⟩
    have E_10 := hide1 (E_9.out.trans ((hb).mono E_9.out.size))
    have B0_10 := hide1 (B0_9.out.below (hb) B0_9.out.lt)
    have OT_10 := hide1 (OT_9.out.later (hb))
    have B4_10 := hide1 (B4_9.out.below (hb) B4_9.out.lt)
    have OX_10 := hide1 (OX_9.out.later (hb))
    have B5_10 := hide1 (B5_9.out.below (hb) B5_9.out.lt)
    have B6_10 := hide1 (B6_9.out.below (hb) B6_9.out.lt)
    clear E_9 B0_9 OT_9 B4_9 OX_9 B5_9 B6_9
    clear hb
    go_upto_region 10 with fail
    have RX := hide1 OX_10.out.rd
    have CT4 := hide1 (fun w' (hb : Below w5.heap.size w5 w') => toMb_A m A w' SZ.out (HR.out.later (E_10.out.trans (hb.mono E_10.out.size))))
    have ZS := hide1 (fun w' (D : Below w5.heap.size w5 w') => (show (Instr.loadAt 31 (.pointer (some ⟨G5, 0, none⟩))).run Try.prog w' = .ok (.agg (mbA m X)) w' ∧ (Instr.loadAt 44 (.pointer (some ⟨G0, 0, none⟩))).run Try.prog w' = .ok (.agg (mbA m A)) w' from ⟨(B5_10.out.below D B5_10.out.lt).load Try.underlying31 rfl sizeMb, (B0_10.out.below D B0_10.out.lt).load Try.underlying44 rfl sizeMbL⟩))
    go_wp2
    refine wp_region_held_drew (S := fun w' => (Instr.loadAt 31 (.pointer (some ⟨G5, 0, none⟩))).run Try.prog w' = .ok (.agg (mbA m X)) w' ∧ (Instr.loadAt 44 (.pointer (some ⟨G0, 0, none⟩))).run Try.prog w' = .ok (.agg (mbA m A)) w') rfl (ZS.out _ (by go_grown)) (fun hS0 => ?_)
    refine wpAnyH_take (i := 0) (oi := _) (v := .agg (mbA m X)) rfl (by kernel_rfl) (by kernel_rfl) (by kernel_rfl) (fun _ _ _ h => h) (yieldsIf_loadA (by rfl) 31 (.tmp 5) rfl G5 rfl (mbA m X) (fun w h => h.1)) hS0 ?_
    refine wpAnyH_take (i := 1) (oi := _) (v := .agg (mbA m A)) rfl (by kernel_rfl) (by kernel_rfl) (by kernel_rfl) (fun _ _ _ h => h) (yieldsIf_loadA (by rfl) 44 (.tmp 1) rfl G0 rfl (mbA m A) (fun w h => h.2)) hS0 ?_
    refine wpAnyH_ready (rs := [2]) (by kernel_rfl) (by simp) (AllReadyH.cons rfl (fun K hK => ?_) AllReadyH.nil)
    go_simp
    go_at_call 17
    refine (CT4.out _ (by go_grown)).mono ?_
    rintro e w7 ⟨Y7, rfl, ho7, hb7⟩
    have D7 : Hid (Below w5.heap.size w5 w7) := (show Below w5.heap.size w5 _ by go_grown).trans hb7
    have CE := hide1 (eqMb_A m X Y7 w7 SZ.out (RX.out.later D7.out) ho7.rd)
    clear ho7
    go_simp
    refine hK.out _ _ (ZS.out _ D7.out) (fun hS7 => ?_)
    clear hK K
    refine wpAnyH_ready (rs := [3]) (by kernel_rfl) (by simp) (AllReadyH.cons rfl (fun K hK => ?_) AllReadyH.nil)
    go_simp
    go_at_call 10
    refine CE.out.mono ?_
    rintro e w8 ⟨rfl, hb8⟩
    have D8 : Hid (Below w5.heap.size w5 w8) := D7.out.trans (hb8.mono D7.out.size)
    clear hb8
    go_simp
    refine hK.out _ _ (ZS.out _ D8.out) (fun hS8 => ?_)
    clear hK K
    refine wpAnyH_ready (rs := [4]) (by kernel_rfl) (by simp) (AllReadyH.cons rfl (fun K hK => ?_) AllReadyH.nil)
    go_simp
    refine hK.out _ _ (ZS.out _ D8.out) (fun hS9 => ?_)
    clear hK K hS0 hS7 hS8 hS9
    refine wpAnyH_done (by kernel_rfl) ?_ _
    clear ZS CT4 CE D7 hb7 RX
    have E_11 := hide1 (E_10.out.trans ((D8.out).mono E_10.out.size))
    have B0_11 := hide1 (B0_10.out.below (D8.out) B0_10.out.lt)
    have OT_11 := hide1 (OT_10.out.later (D8.out))
    have B4_11 := hide1 (B4_10.out.below (D8.out) B4_10.out.lt)
    have OX_11 := hide1 (OX_10.out.later (D8.out))
    have B5_11 := hide1 (B5_10.out.below (D8.out) B5_10.out.lt)
    have B6_11 := hide1 (B6_10.out.below (D8.out) B6_10.out.lt)
    clear E_10 B0_10 OT_10 B4_10 OX_10 B5_10 B6_10
    clear D8
    go_upto_region 13 with fail
    have l8 : G5 < w8.heap.size := B5_11.out.lt
    have OXh := hide1 OX_11.out
    have CM := hide1 (markMb_A m X 1 u2.heap.size w8 SZ.out (by omega) (by omega) (by omega) OXh.out)
    have mk0 : ¬ ((mkN m 1 : Int) < 0) := by omega
    have mk1 : decide ((mkN m 1 : Int) < 0) = false := decide_eq_false mk0
    go_wp2_with (refine wpList_load_row rfl 31 _ rfl G5 rfl 31 (mbA m X) (0, 0) _ B5_11.out Try.underlying31 rfl sizeMb ?_)
    refine (CM.out).mono ?_
    rintro e w9 ⟨rfl, hO9, hB9, hF9⟩
    have E_12 := hide1 (E_11.out.trans (hB9.mono (by omega)))
    have B0_12 := hide1 (hF9 _ _ _ B0_11.out (OFX.out G0 (.inl l0)))
    have B4_12 := hide1 (hF9 _ _ _ B4_11.out (OFX.out G4 (.inl l4)))
    have B6_12 := hide1 (hF9 _ _ _ B6_11.out (OFX.out G6 (.inr (by omega))))
    clear CM hO9 hB9 hF9 OXh E_11 B0_11 OT_11 B4_11 OX_11 B5_11 B6_11
    go_wp2_with (first | (refine wpList_load_rowG rfl 31 _ rfl G6 rfl 31 FB9 _ B6_12.out Try.underlying31 rfl HSZF.out ?_) | (refine wpList_load_rowG rfl 31 _ rfl G4 rfl 31 FB9 _ B4_12.out Try.underlying31 rfl HSZF.out ?_))
    refine (QE.out w9).mono ?_
    rintro e w10 ⟨rfl, hb⟩
    have E_13 := hide1 (E_12.out.trans ((hb).mono E_12.out.size))
    have B0_13 := hide1 (B0_12.out.below (hb) B0_12.out.lt)
    have B4_13 := hide1 (B4_12.out.below (hb) B4_12.out.lt)
    have B6_13 := hide1 (B6_12.out.below (hb) B6_12.out.lt)
    clear E_12 B0_12 B4_12 B6_12
    clear hb
    go_upto_region 17 with fail
    go_wp2_with (refine wpList_load_row rfl 31 _ rfl G6 rfl 31 FB9 (0, 0) _ B6_13.out Try.underlying31 rfl HSZF.out ?_)
    refine (QM.out w10).mono ?_
    rintro e w11 ⟨rfl, hF, hb⟩
    have E_14 := hide1 (E_13.out.trans ((hb).mono E_13.out.size))
    have B0_14 := hide1 (B0_13.out.below (hb) B0_13.out.lt)
    have B4_14 := hide1 (B4_13.out.below (hb) B4_13.out.lt)
    have B6_14 := hide1 (B6_13.out.below (hb) B6_13.out.lt)
    clear E_13 B0_13 B4_13 B6_13
    clear hb hF
    go_wp2_with (refine wpList_load_row rfl 31 _ rfl G6 rfl 31 FB9 (0, 0) _ B6_14.out Try.underlying31 rfl HSZF.out ?_)
    refine (QH.out w11).mono ?_
    rintro e w12 ⟨rfl, hb⟩
    have E_15 := hide1 (E_14.out.trans ((hb).mono E_14.out.size))
    have B0_15 := hide1 (B0_14.out.below (hb) B0_14.out.lt)
    have B4_15 := hide1 (B4_14.out.below (hb) B4_14.out.lt)
    have B6_15 := hide1 (B6_14.out.below (hb) B6_14.out.lt)
    clear E_14 B0_14 B4_14 B6_14
    clear hb
    have q11 : ((1 : Int) != 1) = false := rfl
    go_wp2_with (refine wpList_load_row rfl 44 _ rfl G0 rfl 44 (mbA m A) (0, 0) _ B0_15.out Try.underlying44 rfl sizeMbL ?_)
    refine (CT.out w12 E_15.out).mono ?_
    rintro e w13 ⟨Y, rfl, hO, hb⟩
    have sY : w12.heap.size ≤ w13.heap.size := hb.size
    have E_16 := hide1 (E_15.out.trans ((hb).mono E_15.out.size))
    have B0_16 := hide1 (B0_15.out.below (hb) B0_15.out.lt)
    have B4_16 := hide1 (B4_15.out.below (hb) B4_15.out.lt)
    have B6_16 := hide1 (B6_15.out.below (hb) B6_15.out.lt)
    clear E_15 B0_15 B4_15 B6_15
    have OY_16 := hide1 (hO)
    clear hb hO
    go_wp2_with fail
    refine (CI.out w13 Y).mono ?_
    rintro e w14 ⟨rfl, hb⟩
    have E_17 := hide1 (E_16.out.trans ((hb).mono E_16.out.size))
    have B0_17 := hide1 (B0_16.out.below (hb) B0_16.out.lt)
    have B4_17 := hide1 (B4_16.out.below (hb) B4_16.out.lt)
    have B6_17 := hide1 (B6_16.out.below (hb) B6_16.out.lt)
    have OY_17 := hide1 (OY_16.out.later (hb))
    clear E_16 B0_16 B4_16 B6_16 OY_16
    clear hb
    have FB := hide1 (And.intro (BlkA.new w14 31 (FB9)) ((Below.refl w14.heap.size w14).alloc (Nat.le_refl _) (.cells (FB9) 31)))
    go_upto_region 25 with (refine wpList_store_row rfl 31 _ _ rfl w14.heap.size FB9 rfl rfl 31 _ (heap_alloc_last _ _) HSZF.out (by rw [HLEN.out]; rfl) ONE.out ?_; rw [World.setRow_alloc_new])
    generalize (w14.alloc (.cells (FB9) 31)) = u14 at FB ⊢
    obtain ⟨G7, hG7⟩ : ∃ G, G = w14.heap.size := ⟨_, rfl⟩
    have KB := hide1 FB.out.1
    rw [← hG7] at KB ⊢
    have zG7 : w14.heap.size ≤ G7 := by omega
    have E_18 := hide1 (E_17.out.trans ((FB.out.2).mono E_17.out.size))
    have B0_18 := hide1 (B0_17.out.below (FB.out.2) B0_17.out.lt)
    have B4_18 := hide1 (B4_17.out.below (FB.out.2) B4_17.out.lt)
    have B6_18 := hide1 (B6_17.out.below (FB.out.2) B6_17.out.lt)
    have OY_18 := hide1 (OY_17.out.later (FB.out.2))
    clear E_17 B0_17 B4_17 B6_17 OY_17
    have B7_18 := hide1 (KB.out)
    clear KB FB hG7
    go_wp2_with (first | (refine wpList_load_row rfl 31 _ rfl G7 rfl 31 FB9 (0, 0) _ B7_18.out Try.underlying31 rfl HSZF.out ?_) | (refine wpList_load_row rfl 31 _ rfl G4 rfl 31 FB9 (0, 0) _ B4_18.out Try.underlying31 rfl HSZF.out ?_))
    refine (QE.out u14).mono ?_
    rintro e w15 ⟨rfl, hb⟩
    have E_19 := hide1 (E_18.out.trans ((hb).mono E_18.out.size))
    have B0_19 := hide1 (B0_18.out.below (hb) B0_18.out.lt)
    have B4_19 := hide1 (B4_18.out.below (hb) B4_18.out.lt)
    have B6_19 := hide1 (B6_18.out.below (hb) B6_18.out.lt)
    have OY_19 := hide1 (OY_18.out.later (hb))
    have B7_19 := hide1 (B7_18.out.below (hb) B7_18.out.lt)
    clear E_18 B0_18 B4_18 B6_18 OY_18 B7_18
    clear hb
    go_upto_region 28 with fail
    go_wp2_with (refine wpList_load_row rfl 31 _ rfl G6 rfl 31 FB9 (0, 0) _ B6_19.out Try.underlying31 rfl HSZF.out ?_)
    refine (QH.out w15).mono ?_
    rintro e w16 ⟨rfl, hb⟩
    have E_20 := hide1 (E_19.out.trans ((hb).mono E_19.out.size))
    have B0_20 := hide1 (B0_19.out.below (hb) B0_19.out.lt)
    have B4_20 := hide1 (B4_19.out.below (hb) B4_19.out.lt)
    have B6_20 := hide1 (B6_19.out.below (hb) B6_19.out.lt)
    have OY_20 := hide1 (OY_19.out.later (hb))
    have B7_20 := hide1 (B7_19.out.below (hb) B7_19.out.lt)
    clear E_19 B0_19 B4_19 B6_19 OY_19 B7_19
    clear hb
    go_wp2
    go_ret
    exact ⟨rfl, E_20.out⟩

set_option maxRecDepth 100000 in
theorem lifted_FnExactFall (os : Os) (started : os.Started) (H : Type) (enc : TypeId × Value → H) :
    ReturnsInHanded {} Try.checked os 5 .any (Rows.fnExactFallSpec.pre6 enc Try.prog Try.f5 Rows.fnExactFallRow.domain false) (Rows.fnExactFallSpec.post enc Try.prog Try.f5 false true false false) := by
  refine returnsInHanded_of_change (C := Try.checked) (show ownKnob Try.prog.godebug = none by kernel_rfl) started (by kernel_rfl) Try.func5
    (ChangeSpec.witness6 (enc := enc) (C := Try.checked) false ⟨#[], #[.agg #[.int .i64 0, .int .i64 0, .bool false, .bool false, .bool false, .bool false, .slice none 0 0, .slice none 0 0, .int .i64 0, .int .i64 0, .int .i64 0, .int .i64 0, .string ByteArray.empty, .string ByteArray.empty, .int .i64 0, .slice none 0 0]], []⟩ 8 (by kernel_rfl) (by kernel_rfl) (by kernel_rfl) (by kernel_rfl)) ?_
  intro W base args ds gs before hval0 hW hcnd _
  have hval : ∀ (j : Nat) t v, Try.f5.params[j]? = some t → args[j]? = some v → Value.okWide Try.prog W .any base t v := hval0
  have hW' := hW
  obtain ⟨p, q, hA0, hV, rfl, hfz, hnd⟩ := hW
  have hA : DataW.TrodAll enc Try.prog W 0 (fun _ => true) true Try.f5.params.toList args.toList ds p := hA0
  rw [Try.params5] at hA hval
  obtain ⟨v0, vs0, d0, ds0, p0, q0, hargs, rfl, rfl, h0, r0⟩ := trodAll_cons hA
  obtain ⟨rfl, rfl, rfl⟩ := trodAll_nil r0
  obtain rfl : args = #[v0] := by cases args; simp_all
  obtain ⟨rfl, rfl⟩ := trodVars_none hV
  have k0 := h0
  have lt0 : ∀ x ∈ p0, x.block < W.heap.size := by obtain ⟨m, hm⟩ := k0; exact DataW.trod_lt m _ _ _ hm
  obtain ⟨mb0, A0, rfl, hR0, hW0⟩ := open_member (hval 0 44 v0 rfl rfl) h0
  clear hA0 hval0
  try simp only [List.append_nil] at hW'
  refine (walk_FnExactFall mb0 A0 W hR0 hW0).mono fun e W' ⟨he, bel⟩ => ?_
  subst he
  exact ⟨_, rfl, _, _, _, [], _, [], hW', trodAll_mk1 (shut_bool Try.underlying4 _), (trodAll_cons_mk (Below.trod (show laidOutB Try.prog = true by kernel_rfl) (by kernel_rfl) (of_decide_eq_true (by kernel_rfl)) k0 bel lt0) trodAll_mk0), rfl, bel.frame _, fun h => by cases h⟩

theorem proved_FnExactFall : Rows.FnExactFallSaid :=
  OpenClaim.holds_of_wide 5 Try.f5 rfl rfl rfl rfl rfl rfl rfl ⟨rfl, rfl, rfl, rfl, rfl⟩ rfl rfl rfl rfl rfl (by kernel_rfl) Try.func5 (by kernel_rfl)
    (of_decide_eq_true (by kernel_rfl)) (by unfold Func.isWrapper; first | (rw [if_pos (by decide +kernel)]; kernel_rfl) | (rw [if_neg (by decide +kernel)]; exact ⟨rfl, rfl⟩))
    (fun os started H enc _ => lifted_FnExactFall os started H enc)
#print axioms proved_FnExactFall
end Go.Proofs.Ytgmiohmglffidaa
