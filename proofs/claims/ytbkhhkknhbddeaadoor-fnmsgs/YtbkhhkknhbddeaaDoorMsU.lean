/- The model's MsgText. -/
import Derived.Test.YtbkhhkknhbddeaaDoorMsT
namespace Go.Proofs.YtbkhhkknhbddeaaDoor
open Go.RowKit
set_option linter.unusedVariables false

set_option maxRecDepth 100000 in
set_option maxHeartbeats 4000000 in
theorem specMsgText_any (k f o e n : Int) (l : List Im) (a : Option Addr) (ca : Nat) (w : World) (hl : l.length ≤ 1048576) (hA : RdG imC 3 w a l) :
    Calls Tryd.prog 17 #[.agg #[.int .i64 k, .int .i64 f, .int .i64 o, .int .i64 e, .int .i64 n, .slice a l.length ca]] w fun r w' => r = .returned (msgV ⟨k, f, o, e, n, l⟩) ∧ Below w.heap.size w w' := by
  have HA := hide1 hA
  have F0 := hide1 (And.intro (Blk.new w 26 #[.int .i64 k, .int .i64 f, .int .i64 o, .int .i64 e, .int .i64 n, .slice a l.length ca]) ((Below.refl w.heap.size w).alloc (Nat.le_refl _) (.cells #[.int .i64 k, .int .i64 f, .int .i64 o, .int .i64 e, .int .i64 n, .slice a l.length ca] 26)))
  have CM := hide1 (fun v (hb : Below w.heap.size w v) => specMsgOk_any k f o e n l a ca v hl (HA.out.later hb))
  clear hA
  by_cases ok : okMs ⟨k, f, o, e, n, l⟩
  · rw [decide_eq_true ok] at CM
    have hl12 : l.length ≤ 12 := ok.2.2.2.2.2.1.2.2
    have RES := hide1 (seal_ms ok)
    have hn0 : 0 ≤ n ∧ n ≤ 1000000000 := ok.2.2.2.2.1
    have CK := hide1 (fun v => l13Byte_any k (by have := ok.1; dsimp only at this; omega) v)
    have CF := hide1 (fun v => l13Byte_any f (by have := ok.2.1; dsimp only at this; omega) v)
    have CO := hide1 (fun v => l13Byte_any o (by have := ok.2.2.1; dsimp only at this; omega) v)
    have CE := hide1 (fun v => l13Byte_any e (by have := ok.2.2.2.1; dsimp only at this; omega) v)
    have CN := hide1 (fun v => l01Var_any n.toNat v (by omega))
    rw [show ((n.toNat : Nat) : Int) = n by omega] at CN
    have CL := hide1 (fun v => l01Var_any l.length v (by omega))
    have HOK := hide1 ok
    have T0 := hide1 (tx13_zero ⟨k, f, o, e, n, l⟩)
    dsimp only at T0
    have e1 : (⟨(varB n.toNat).toArray⟩ : ByteArray) = bA (varB n.toNat) := rfl
    have e2 : (⟨(varB l.length).toArray⟩ : ByteArray) = bA (varB l.length) := rfl
    rw [e1] at CN
    rw [e2] at CL
    have z1 : (bA (oneB k)).size = 1 := bA_size _
    have z2 : (bA (oneB f)).size = 1 := bA_size _
    have z3 : (bA (oneB o)).size = 1 := bA_size _
    have z4 : (bA (oneB e)).size = 1 := bA_size _
    have z5 : (bA (varB n.toNat)).size ≤ 10 := by rw [bA_size]; exact varB_length _
    have z6 : (bA (varB l.length)).size ≤ 10 := by rw [bA_size]; exact varB_length _
    generalize bA (oneB k) = b1 at CK T0 z1
    generalize bA (oneB f) = b2 at CF T0 z2
    generalize bA (oneB o) = b3 at CO T0 z3
    generalize bA (oneB e) = b4 at CE T0 z4
    generalize bA (varB n.toNat) = b5 at CN T0 z5
    generalize bA (varB l.length) = b6 at CL T0 z6
    clear ok e1 e2
    obtain ⟨M, hM⟩ : ∃ M : Ms, M = ⟨k, f, o, e, n, l⟩ := ⟨_, rfl⟩
    have HMl := hide1 (show M.is = l by rw [hM])
    rw [← hM] at T0 RES HOK
    have RES2 := hide1 (show msgV ⟨k, f, o, e, n, l⟩ = sealV (tx13 M l.length) by rw [← hM, ← RES.out, HMl.out])
    rw [RES2.out]
    clear RES RES2 hM
    have CS := hide1 (fun v => specSealed_any (tx13 M l.length) (by have := tx13_size HOK.out l.length; omega) v)
    go_enter Tryd.func17, Tryd.ntmps17
    go_upto_region 1 with fail
    generalize (w.alloc (.cells #[.int .i64 k, .int .i64 f, .int .i64 o, .int .i64 e, .int .i64 n, .slice a l.length ca] 26)) = u at F0 ⊢
    obtain ⟨X, hX⟩ : ∃ X, X = w.heap.size := ⟨_, rfl⟩
    have KX := hide1 F0.out.1
    rw [← hX] at KX ⊢
    have E0 := hide1 F0.out.2
    have lX : X < u.heap.size := KX.out.lt
    have lwu : w.heap.size ≤ u.heap.size := E0.out.size
    clear F0 hX
    have y0 : u.cell? ⟨X, 0, none⟩ = some (.int .i64 k) := KX.out.cell 0
    have y1 : u.cell? ⟨X, 1, none⟩ = some (.int .i64 f) := KX.out.cell 1
    have y2 : u.cell? ⟨X, 2, none⟩ = some (.int .i64 o) := KX.out.cell 2
    have y3 : u.cell? ⟨X, 3, none⟩ = some (.int .i64 e) := KX.out.cell 3
    have y4 : u.cell? ⟨X, 4, none⟩ = some (.int .i64 n) := KX.out.cell 4
    have y5 : u.cell? ⟨X, 5, none⟩ = some (.slice a l.length ca) := KX.out.cell 5
    go_wp2_with fail
    refine (CM.out u E0.out).mono ?_
    rintro r w1 ⟨rfl, hb1⟩
    have K1 := hide1 (KX.out.below hb1 lX)
    have B1 := hide1 (E0.out.trans (hb1.mono lwu))
    clear hb1 y0 y1 y2 y3 y4 y5
    have g0 : ∀ n' : Gr w1, n'.w.cell? ⟨X, 0, none⟩ = some (.int .i64 k) := fun n' => n'.cell (K1.out.cell 0)
    have g1 : ∀ n' : Gr w1, n'.w.cell? ⟨X, 1, none⟩ = some (.int .i64 f) := fun n' => n'.cell (K1.out.cell 1)
    have g2 : ∀ n' : Gr w1, n'.w.cell? ⟨X, 2, none⟩ = some (.int .i64 o) := fun n' => n'.cell (K1.out.cell 2)
    have g3 : ∀ n' : Gr w1, n'.w.cell? ⟨X, 3, none⟩ = some (.int .i64 e) := fun n' => n'.cell (K1.out.cell 3)
    have g4 : ∀ n' : Gr w1, n'.w.cell? ⟨X, 4, none⟩ = some (.int .i64 n) := fun n' => n'.cell (K1.out.cell 4)
    have g5 : ∀ n' : Gr w1, n'.w.cell? ⟨X, 5, none⟩ = some (.slice a l.length ca) := fun n' => n'.cell (K1.out.cell 5)
    go_upto_region 3 with fail
    refine wp_region_grown (by kernel_rfl) (by kernel_rfl) ?_
    (repeat (first | go_big_quiet_skip | (go_big_quiet_want; go_big_quiet_op; first | go_big_quiet_on | go_big_quiet_call ((first | (go_at_call 43; first | with_reducible exact quiet_grown (CK.out _) | with_reducible exact quiet_grown (CF.out _) | with_reducible exact quiet_grown (CO.out _) | with_reducible exact quiet_grown (CE.out _)) | (go_at_call 44; first | with_reducible exact quiet_grown (CN.out _) | with_reducible exact quiet_grown (CL.out _)))))))
    refine wpQuiet_nil ?_
    rintro w3 ⟨n3, rfl⟩
    have B3 := hide1 (B1.out.trans (n3.b.mono B1.out.size))
    have K3 := hide1 (K1.out.below n3.b K1.out.lt)
    clear g0 g1 g2 g3 g4 g5
    generalize n3.w = w3 at B3 K3 ⊢
    rw [← T0.out]
    go_wp2
    go_loopw [4, 5] (fun tv iv wr => ∃ i : Nat, i ≤ l.length ∧ tv = .string (tx13 M i) ∧ iv = .int .i64 (i : Int) ∧ Hid (Below w3.heap.size w3 wr)) (fun _ iv _ => l.length - (intOf iv).toNat)
    case atStart => exact ⟨0, Nat.zero_le _, rfl, rfl, hide1 (Below.refl _ _)⟩
    case round =>
      obtain ⟨i, hi, rfl, rfl, BB⟩ := hrel
      have KR := hide1 (K3.out.below BB.out K3.out.lt)
      have BW := hide1 (B3.out.trans (BB.out.mono B3.out.size))
      have y5 : wr.cell? ⟨X, 5, none⟩ = some (.slice a l.length ca) := KR.out.cell 5
      by_cases hlt : i < l.length
      · have k1 : (i : Int) < (l.length : Int) := by omega
        have k0 : (0 : Int) ≤ (i : Int) := by omega
        obtain ⟨b, q, rfl, hb, hc⟩ := HA.out i hlt
        have c0 : wr.cell? ⟨b, q + i * 3, none⟩ = some (.string l[i].k) := (BW.out.cell (p := ⟨b, q + i * 3, none⟩) hb).trans (hc 0 (by omega))
        have c1 : wr.cell? ⟨b, q + i * 3 + 1, none⟩ = some (.string l[i].v) := (BW.out.cell (p := ⟨b, q + i * 3 + 1, none⟩) hb).trans (hc 1 (by omega))
        have c2 : wr.cell? ⟨b, q + i * 3 + 2, none⟩ = some (.int .i64 l[i].n) := (BW.out.cell (p := ⟨b, q + i * 3 + 2, none⟩) hb).trans (hc 2 (by omega))
        have hok : okIm l[i] := HOK.out.2.2.2.2.2.1.1 _ (by rw [HMl.out]; exact List.getElem_mem hlt)
        have NEXT := hide1 (show tx13 M (i + 1) = ((tx13 M i ++ (bA (varB l[i].k.size) ++ l[i].k)) ++ (bA (varB l[i].v.size) ++ l[i].v)) ++ bA (varB l[i].n.toNat) by
          rw [tx13_next M i (by rw [HMl.out]; exact hlt), imB_parts]
          simp only [HMl.out, ByteArray.append_assoc])
        have hT := tx13_size HOK.out i
        generalize l[i] = s at *
        obtain ⟨⟨ok1, ok2⟩, ok3, ok4, ok5⟩ := hok
        have SK := hide1 (fun v => l13Short_any s.k (by omega) v)
        have SV := hide1 (fun v => l13Short_any s.v (by omega) v)
        have SN := hide1 (fun v => l01Var_any s.n.toNat v (by omega))
        rw [show ((s.n.toNat : Nat) : Int) = s.n by omega] at SN
        have e3 : (⟨(varB s.n.toNat).toArray⟩ : ByteArray) = bA (varB s.n.toNat) := rfl
        rw [e3] at SN
        have u1 : (bA (varB s.k.size) ++ s.k).size ≤ 30 := by rw [ByteArray.size_append, bA_size]; have := varB_length s.k.size; omega
        have u2 : (bA (varB s.v.size) ++ s.v).size ≤ 40 := by rw [ByteArray.size_append, bA_size]; have := varB_length s.v.size; omega
        have u3 : (bA (varB s.n.toNat)).size ≤ 10 := by rw [bA_size]; exact varB_length _
        generalize bA (varB s.k.size) ++ s.k = Kb at SK NEXT u1
        generalize bA (varB s.v.size) ++ s.v = Vb at SV NEXT u2
        generalize bA (varB s.n.toNat) = Nb at SN NEXT u3
        generalize tx13 M i = T at hT NEXT ⊢
        clear e3 ok1 ok2 ok3 ok4 ok5 hc
        have g5 : ∀ n' : Gr wr, n'.w.cell? ⟨X, 5, none⟩ = some (.slice (some ⟨b, q, none⟩) l.length ca) := fun n' => n'.cell y5
        have d0 : ∀ n' : Gr wr, n'.w.cell? ⟨b, q + i * 3, none⟩ = some (.string s.k) := fun n' => n'.cell c0
        have d1 : ∀ n' : Gr wr, n'.w.cell? ⟨b, q + i * 3 + 1, none⟩ = some (.string s.v) := fun n' => n'.cell c1
        have d2 : ∀ n' : Gr wr, n'.w.cell? ⟨b, q + i * 3 + 2, none⟩ = some (.int .i64 s.n) := fun n' => n'.cell c2
        go_upto_region 7 with fail
        refine wp_region_grown (by kernel_rfl) (by kernel_rfl) ?_
        (repeat (first | go_big_quiet_skip | (go_big_quiet_want; go_big_quiet_op; first | go_big_quiet_on | go_big_quiet_call ((first | (go_at_call 45; first | with_reducible exact quiet_grown (SK.out _) | with_reducible exact quiet_grown (SV.out _)) | (go_at_call 44; with_reducible exact quiet_grown (SN.out _)))))))
        refine wpQuiet_nil ?_
        rintro w4 ⟨n4, rfl⟩
        have B4 := hide1 (BB.out.trans (n4.b.mono BB.out.size))
        clear g5 d0 d1 d2
        generalize n4.w = w4 at B4 ⊢
        rw [← NEXT.out]
        go_wp2
        go_roundw
        case rel => exact ⟨i + 1, by omega, rfl, by go_num, B4⟩
        case measure => simp [intOf]; omega
      · obtain rfl : i = l.length := by omega
        have k1 : ¬ ((l.length : Int) < (l.length : Int)) := by omega
        obtain ⟨r, hr⟩ : ∃ r, sealV (tx13 M l.length) = r := ⟨_, rfl⟩
        have HV : ∃ x y, sealV (tx13 M l.length) = .tuple #[x, y] := by unfold sealV; split <;> exact ⟨_, _, rfl⟩
        obtain ⟨x9, y9, hv9⟩ := HV
        have HV9 := hide1 hv9
        rw [hv9] at CS
        clear hv9 hr
        go_wp2_with fail
        refine (CS.out _).mono ?_
        rintro r w5 ⟨rfl, hb5⟩
        have B5 := hide1 (BW.out.trans (hb5.mono BW.out.size))
        clear hb5
        go_wp2
        go_ret2
        exact ⟨by rw [HV9.out]; rfl, B5.out⟩
  · rw [decide_eq_false ok] at CM
    have RES := hide1 (show msgV ⟨k, f, o, e, n, l⟩ = .tuple #[.string ⟨#[]⟩, .bool false] by unfold msgV; rw [if_neg ok])
    rw [RES.out]
    clear ok RES
    go_enter Tryd.func17, Tryd.ntmps17
    go_upto_region 1 with fail
    generalize (w.alloc (.cells #[.int .i64 k, .int .i64 f, .int .i64 o, .int .i64 e, .int .i64 n, .slice a l.length ca] 26)) = u at F0 ⊢
    have y0 : u.cell? ⟨w.heap.size, 0, none⟩ = some (.int .i64 k) := F0.out.1.cell 0
    have y1 : u.cell? ⟨w.heap.size, 1, none⟩ = some (.int .i64 f) := F0.out.1.cell 1
    have y2 : u.cell? ⟨w.heap.size, 2, none⟩ = some (.int .i64 o) := F0.out.1.cell 2
    have y3 : u.cell? ⟨w.heap.size, 3, none⟩ = some (.int .i64 e) := F0.out.1.cell 3
    have y4 : u.cell? ⟨w.heap.size, 4, none⟩ = some (.int .i64 n) := F0.out.1.cell 4
    have y5 : u.cell? ⟨w.heap.size, 5, none⟩ = some (.slice a l.length ca) := F0.out.1.cell 5
    go_wp2_with fail
    refine (CM.out u F0.out.2).mono ?_
    rintro r w1 ⟨rfl, hb1⟩
    have B1 := hide1 (F0.out.2.trans (hb1.mono F0.out.2.size))
    clear hb1
    go_wp2
    go_ret2
    exact ⟨rfl, B1.out⟩
end Go.Proofs.YtbkhhkknhbddeaaDoor
