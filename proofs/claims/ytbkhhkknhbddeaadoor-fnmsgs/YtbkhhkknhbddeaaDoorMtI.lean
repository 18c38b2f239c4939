/- The program's MsgText. -/
import Derived.Test.YtbkhhkknhbddeaaDoorMsT
import Derived.Test.YtbkhhkknhbddeaaDoorMoI
namespace Go.Proofs.YtbkhhkknhbddeaaDoor
open Go.RowKit
set_option linter.unusedVariables false

theorem shortV_bA {s : ByteArray} (h : s.size ≤ 20000) : shortV s = .tuple #[.string (bA (varB s.size) ++ s), .bool true] := by unfold shortV; rw [if_pos h]; rfl
set_option maxRecDepth 100000 in
set_option maxHeartbeats 1000000 in
theorem itemText_any (x : Im) (hx : okIm x) (w : World) :
    Calls Tryd.prog 25 #[.agg #[.string x.k, .string x.v, .int .i64 x.n]] w fun e w' => e = .returned (.string (bA (imB x))) ∧ Below w.heap.size w w' := by
  have RES := hide1 (imB_parts x)
  obtain ⟨k, v, n⟩ := x
  obtain ⟨⟨h1, h2⟩, h3, h4, h5⟩ := hx
  dsimp only at h1 h2 h3 h4 h5 RES ⊢
  rw [RES.out]
  have CK := hide1 (fun w => implShort_any k w (by omega))
  have CV := hide1 (fun w => implShort_any v w (by omega))
  have CN := hide1 (fun w => implVarText_any n w)
  rw [shortV_bA (by omega)] at CK CV
  rw [varText_yes (by omega) (by omega), show (⟨(varB n.toNat).toArray⟩ : ByteArray) = bA (varB n.toNat) from rfl] at CN
  have u1 : (bA (varB k.size) ++ k).size ≤ 30 := by rw [ByteArray.size_append, bA_size]; have := varB_length k.size; omega
  have u2 : (bA (varB v.size) ++ v).size ≤ 40 := by rw [ByteArray.size_append, bA_size]; have := varB_length v.size; omega
  have u3 : (bA (varB n.toNat)).size ≤ 10 := by rw [bA_size]; exact varB_length _
  generalize bA (varB k.size) ++ k = Kb at CK u1 ⊢
  generalize bA (varB v.size) ++ v = Vb at CV u2 ⊢
  generalize bA (varB n.toNat) = Nb at CN u3 ⊢
  clear RES
  have F0 := hide1 (And.intro (Blk.new w 51 #[.string k, .string v, .int .i64 n]) ((Below.refl w.heap.size w).alloc (Nat.le_refl _) (.cells #[.string k, .string v, .int .i64 n] 51)))
  go_enter Tryd.func25, Tryd.ntmps25
  go_upto_region 1 with fail
  generalize (w.alloc (.cells #[.string k, .string v, .int .i64 n] 51)) = u at F0 ⊢
  obtain ⟨X, hX⟩ : ∃ X, X = w.heap.size := ⟨_, rfl⟩
  have KX := hide1 F0.out.1
  rw [← hX] at KX ⊢
  have E0 := hide1 F0.out.2
  have lX : X < u.heap.size := KX.out.lt
  clear F0 hX
  have y0 : u.cell? ⟨X, 0, none⟩ = some (.string k) := KX.out.cell 0
  go_wp2_with fail
  refine (CK.out _).mono ?_
  rintro e w1 ⟨rfl, hb1⟩
  have y1 : w1.cell? ⟨X, 1, none⟩ = some (.string v) := (KX.out.below hb1 lX).cell 1
  have B1 := hide1 hb1
  clear y0 hb1
  go_wp2_with fail
  refine (CV.out _).mono ?_
  rintro e w2 ⟨rfl, hb2⟩
  have B2 := hide1 (B1.out.trans (hb2.mono B1.out.size))
  have y2 : w2.cell? ⟨X, 2, none⟩ = some (.int .i64 n) := (KX.out.below B2.out lX).cell 2
  clear y1 hb2
  go_wp2_with fail
  refine (CN.out _).mono ?_
  rintro e w3 ⟨rfl, hb3⟩
  have B3 := hide1 (E0.out.trans ((B2.out.trans (hb3.mono B2.out.size)).mono E0.out.size))
  clear y2 hb3
  go_wp2
  go_ret
  exact ⟨rfl, B3.out⟩
theorem four_head (k f o e : Int) (h1 : 0 ≤ k ∧ k ≤ 255) (h2 : 0 ≤ f ∧ f ≤ 255) (h3 : 0 ≤ o ∧ o ≤ 255) (h4 : 0 ≤ e ∧ e ≤ 255) : (#[Value.int .u8 k, .int .u8 f, .int .u8 o, .int .u8 e] : Array Value).toList = bc (oneB k ++ (oneB f ++ (oneB o ++ oneB e))) := by
  simp [bc, oneB, UInt8.toNat_ofNat']; omega
theorem tx13_zero2 (m : Ms) : tx13 m 0 = (bA (oneB m.k ++ (oneB m.f ++ (oneB m.o ++ oneB m.e))) ++ bA (varB m.n.toNat)) ++ bA (varB m.is.length) := by
  rw [tx13_zero, ← bA_app, ← bA_app, ← bA_app]
  simp only [ByteArray.append_assoc]
set_option maxRecDepth 100000 in
set_option maxHeartbeats 4000000 in
theorem implMsgText_any (k f o e n : Int) (l : List Im) (a : Option Addr) (ca : Nat) (w : World) (hl : l.length ≤ 1048576) (hz : ∀ x ∈ l, x.k.size ≤ 1048576 ∧ x.v.size ≤ 1048576) (hA : RdG imC 3 w a l) (ht : Tabs w) :
    Calls Tryd.prog 8 #[.agg #[.int .i64 k, .int .i64 f, .int .i64 o, .int .i64 e, .int .i64 n, .slice a l.length ca]] w fun r w' => r = .returned (msgV ⟨k, f, o, e, n, l⟩) ∧ Below w.heap.size w w' := by
  have HA := hide1 hA
  have HT := hide1 ht
  have F0 := hide1 (And.intro (Blk.new w 26 #[.int .i64 k, .int .i64 f, .int .i64 o, .int .i64 e, .int .i64 n, .slice a l.length ca]) ((Below.refl w.heap.size w).alloc (Nat.le_refl _) (.cells #[.int .i64 k, .int .i64 f, .int .i64 o, .int .i64 e, .int .i64 n, .slice a l.length ca] 26)))
  have CM := hide1 (fun v (hb : Below w.heap.size w v) => implMsgOk_any k f o e n l a ca v hl hz (HA.out.later hb))
  clear hA hz ht
  by_cases ok : okMs ⟨k, f, o, e, n, l⟩
  · rw [decide_eq_true ok] at CM
    have hl12 : l.length ≤ 12 := ok.2.2.2.2.2.1.2.2
    have RES := hide1 (seal_ms ok)
    have hn0 : 0 ≤ n ∧ n ≤ 1000000000 := ok.2.2.2.2.1
    have ck : 0 ≤ k ∧ k ≤ 255 := by have := ok.1; dsimp only at this; omega
    have cf : 0 ≤ f ∧ f ≤ 255 := by have := ok.2.1; dsimp only at this; omega
    have co : 0 ≤ o ∧ o ≤ 255 := by have := ok.2.2.1; dsimp only at this; omega
    have ce : 0 ≤ e ∧ e ≤ 255 := by have := ok.2.2.2.1; dsimp only at this; omega
    have CV := hide1 (fun v => conv_lit v 22 9 5 Tryd.underlying22 Tryd.underlying5 Tryd.underlying9 (oneB k ++ (oneB f ++ (oneB o ++ oneB e))) 4 rfl _ (four_head k f o e ck cf co ce))
    have CN := hide1 (fun v => implVarText_any n v)
    have CL := hide1 (fun v => implVarText_any (l.length : Int) v)
    rw [varText_yes (by omega) (by omega), show (⟨(varB n.toNat).toArray⟩ : ByteArray) = bA (varB n.toNat) from rfl] at CN
    rw [varText_yes (by omega) (by omega), Int.toNat_natCast, show (⟨(varB l.length).toArray⟩ : ByteArray) = bA (varB l.length) from rfl] at CL
    have HOK := hide1 ok
    have T0 := hide1 (tx13_zero2 ⟨k, f, o, e, n, l⟩)
    dsimp only at T0
    have e1 : (⟨(oneB k ++ (oneB f ++ (oneB o ++ oneB e))).toArray⟩ : ByteArray) = bA (oneB k ++ (oneB f ++ (oneB o ++ oneB e))) := rfl
    rw [e1] at CV
    have z1 : (bA (oneB k ++ (oneB f ++ (oneB o ++ oneB e)))).size = 4 := bA_size _
    have z5 : (bA (varB n.toNat)).size ≤ 10 := by rw [bA_size]; exact varB_length _
    have z6 : (bA (varB l.length)).size ≤ 10 := by rw [bA_size]; exact varB_length _
    generalize bA (oneB k ++ (oneB f ++ (oneB o ++ oneB e))) = b1 at CV T0 z1
    generalize bA (varB n.toNat) = b5 at CN T0 z5
    generalize bA (varB l.length) = b6 at CL T0 z6
    clear ok e1
    obtain ⟨M, hM⟩ : ∃ M : Ms, M = ⟨k, f, o, e, n, l⟩ := ⟨_, rfl⟩
    have HMl := hide1 (show M.is = l by rw [hM])
    rw [← hM] at T0 RES HOK
    have RES2 := hide1 (show msgV ⟨k, f, o, e, n, l⟩ = sealV (tx13 M l.length) by rw [← hM, ← RES.out, HMl.out])
    rw [RES2.out]
    clear RES RES2 hM
    have CS := hide1 (fun v hv => implSealed_any (tx13 M l.length) (by have := tx13_size HOK.out l.length; omega) v hv)
    obtain ⟨ck1, ck2⟩ := ck
    obtain ⟨cf1, cf2⟩ := cf
    obtain ⟨co1, co2⟩ := co
    obtain ⟨ce1, ce2⟩ := ce
    go_enter Tryd.func8, Tryd.ntmps8
    go_upto_region 1 with fail
    generalize (w.alloc (.cells #[.int .i64 k, .int .i64 f, .int .i64 o, .int .i64 e, .int .i64 n, .slice a l.length ca] 26)) = u at F0 ⊢
    obtain ⟨X, hX⟩ : ∃ X, X = w.heap.size := ⟨_, rfl⟩
    have KX := hide1 F0.out.1
    rw [← hX] at KX ⊢
    have E0 := hide1 F0.out.2
    have lX : X < u.heap.size := KX.out.lt
    have lwu : w.heap.size ≤ u.heap.size := E0.out.size
    clear F0 hX
    have y0 : u.cell? ⟨X, 0, none⟩ = some (.int .i64 k) := KX.out.cell 0
    have y1 : u.cell? ⟨X, 1, none⟩ = some (.int .i64 f) := KX.out.cell 1
    have y2 : u.cell? ⟨X, 2, none⟩ = some (.int .i64 o) := KX.out.cell 2
    have y3 : u.cell? ⟨X, 3, none⟩ = some (.int .i64 e) := KX.out.cell 3
    have y4 : u.cell? ⟨X, 4, none⟩ = some (.int .i64 n) := KX.out.cell 4
    have y5 : u.cell? ⟨X, 5, none⟩ = some (.slice a l.length ca) := KX.out.cell 5
    go_wp2_with fail
    refine (CM.out u E0.out).mono ?_
    rintro r w1 ⟨rfl, hb1⟩
    have B1 := hide1 hb1
    clear y0 y1 y2 y3 y4 y5 hb1
    have y4 : w1.cell? ⟨X, 4, none⟩ = some (.int .i64 n) := (KX.out.below B1.out lX).cell 4
    go_wp2_with fail
    refine (CN.out _).mono ?_
    rintro r w2 ⟨rfl, hb2⟩
    have B2 := hide1 (B1.out.trans (hb2.mono B1.out.size))
    clear y4 hb2
    have y5 : w2.cell? ⟨X, 5, none⟩ = some (.slice a l.length ca) := (KX.out.below B2.out lX).cell 5
    go_wp2_with fail
    refine (CL.out _).mono ?_
    rintro r w3 ⟨rfl, hb3⟩
    have B3 := hide1 (B2.out.trans (hb3.mono B2.out.size))
    have K3 := hide1 (KX.out.below B3.out lX)
    clear y5 hb3
    have y0 : w3.cell? ⟨X, 0, none⟩ = some (.int .i64 k) := K3.out.cell 0
    have y1 : w3.cell? ⟨X, 1, none⟩ = some (.int .i64 f) := K3.out.cell 1
    have y2 : w3.cell? ⟨X, 2, none⟩ = some (.int .i64 o) := K3.out.cell 2
    have y3 : w3.cell? ⟨X, 3, none⟩ = some (.int .i64 e) := K3.out.cell 3
    have hcv := CV.out w3
    have D4 := hide1 ((Below.refl w3.heap.size w3).alloc (Nat.le_refl _) (.cells #[.int .u8 k, .int .u8 f, .int .u8 o, .int .u8 e] 5))
    go_upto_region 6 with fail
    generalize (w3.alloc (.cells #[.int .u8 k, .int .u8 f, .int .u8 o, .int .u8 e] 5)) = w4 at D4 ⊢
    rw [← T0.out]
    have B4 := hide1 (E0.out.trans ((B3.out.trans (D4.out.mono B3.out.size)).mono lwu))
    have y5 : w4.cell? ⟨X, 5, none⟩ = some (.slice a l.length ca) := (K3.out.below D4.out K3.out.lt).cell 5
    clear y0 y1 y2 y3 hcv D4
    go_wp2
    go_loopw [8, 48] (fun tv iv wr => ∃ i : Nat, i ≤ l.length ∧ tv = .string (tx13 M i) ∧ iv = .int .i64 (i : Int) ∧ Hid (Below w4.heap.size w4 wr)) (fun _ iv _ => l.length - (intOf iv).toNat)
    case atStart => exact ⟨0, Nat.zero_le _, rfl, rfl, hide1 (Below.refl _ _)⟩
    case round =>
      obtain ⟨i, hi, rfl, rfl, BB⟩ := hrel
      have BW := hide1 (B4.out.trans (BB.out.mono B4.out.size))
      by_cases hlt : i < l.length
      · have k1 : (i : Int) < (l.length : Int) := by omega
        have k0 : (0 : Int) ≤ (i : Int) := by omega
        obtain ⟨b, q, rfl, hb, hc⟩ := HA.out i hlt
        have c0 : wr.cell? ⟨b, q + i * 3, none⟩ = some (.string l[i].k) := (BW.out.cell (p := ⟨b, q + i * 3, none⟩) hb).trans (hc 0 (by omega))
        have c1 : wr.cell? ⟨b, q + i * 3 + 1, none⟩ = some (.string l[i].v) := (BW.out.cell (p := ⟨b, q + i * 3 + 1, none⟩) hb).trans (hc 1 (by omega))
        have c2 : wr.cell? ⟨b, q + i * 3 + 2, none⟩ = some (.int .i64 l[i].n) := (BW.out.cell (p := ⟨b, q + i * 3 + 2, none⟩) hb).trans (hc 2 (by omega))
        have hok : okIm l[i] := HOK.out.2.2.2.2.2.1.1 _ (by rw [HMl.out]; exact List.getElem_mem hlt)
        have NEXT := hide1 (show tx13 M (i + 1) = tx13 M i ++ bA (imB l[i]) by rw [tx13_next M i (by rw [HMl.out]; exact hlt)]; simp only [HMl.out])
        have hT := tx13_size HOK.out i
        have CT := hide1 (fun v => itemText_any l[i] hok v)
        have u1 : (bA (imB l[i])).size ≤ 60 := by rw [bA_size]; exact imB_len hok
        generalize l[i] = s at *
        generalize bA (imB s) = Ib at CT NEXT u1
        generalize tx13 M i = T at hT NEXT ⊢
        clear hc hok
        have FX := hide1 (And.intro (Blk.new wr 51 #[.string s.k, .string s.v, .int .i64 s.n]) ((Below.refl wr.heap.size wr).alloc (Nat.le_refl _) (.cells #[.string s.k, .string s.v, .int .i64 s.n] 51)))
        go_upto_region 9 with fail
        generalize (wr.alloc (.cells #[.string s.k, .string s.v, .int .i64 s.n] 51)) = v at FX ⊢
        have x0 : v.cell? ⟨wr.heap.size, 0, none⟩ = some (.string s.k) := FX.out.1.cell 0
        have x1 : v.cell? ⟨wr.heap.size, 1, none⟩ = some (.string s.v) := FX.out.1.cell 1
        have x2 : v.cell? ⟨wr.heap.size, 2, none⟩ = some (.int .i64 s.n) := FX.out.1.cell 2
        have BV := hide1 (BB.out.trans (FX.out.2.mono BB.out.size))
        clear c0 c1 c2
        go_wp2_with fail
        refine (CT.out _).mono ?_
        rintro r w5 ⟨rfl, hb5⟩
        have B5 := hide1 (BV.out.trans (hb5.mono BV.out.size))
        clear hb5
        go_wp2
        go_roundw
        case rel => exact ⟨i + 1, by omega, by rw [NEXT.out], by go_num, B5⟩
        case measure => simp [intOf]; omega
      · obtain rfl : i = l.length := by omega
        have k1 : ¬ ((l.length : Int) < (l.length : Int)) := by omega
        have HV : ∃ x y, sealV (tx13 M l.length) = .tuple #[x, y] := by unfold sealV; split <;> exact ⟨_, _, rfl⟩
        obtain ⟨x9, y9, hv9⟩ := HV
        have HV9 := hide1 hv9
        rw [hv9] at CS
        clear hv9
        go_wp2_with fail
        refine (CS.out _ (HT.out.later BW.out)).mono ?_
        rintro r w5 ⟨rfl, hb5⟩
        have B5 := hide1 (BW.out.trans (hb5.mono BW.out.size))
        clear hb5
        go_wp2
        go_ret2
        exact ⟨by rw [HV9.out]; rfl, B5.out⟩
  · rw [decide_eq_false ok] at CM
    have RES := hide1 (show msgV ⟨k, f, o, e, n, l⟩ = .tuple #[.string ⟨#[]⟩, .bool false] by unfold msgV; rw [if_neg ok])
    rw [RES.out]
    clear ok RES
    go_enter Tryd.func8, Tryd.ntmps8
    go_upto_region 1 with fail
    generalize (w.alloc (.cells #[.int .i64 k, .int .i64 f, .int .i64 o, .int .i64 e, .int .i64 n, .slice a l.length ca] 26)) = u at F0 ⊢
    have y0 : u.cell? ⟨w.heap.size, 0, none⟩ = some (.int .i64 k) := F0.out.1.cell 0
    have y1 : u.cell? ⟨w.heap.size, 1, none⟩ = some (.int .i64 f) := F0.out.1.cell 1
    have y2 : u.cell? ⟨w.heap.size, 2, none⟩ = some (.int .i64 o) := F0.out.1.cell 2
    have y3 : u.cell? ⟨w.heap.size, 3, none⟩ = some (.int .i64 e) := F0.out.1.cell 3
    have y4 : u.cell? ⟨w.heap.size, 4, none⟩ = some (.int .i64 n) := F0.out.1.cell 4
    have y5 : u.cell? ⟨w.heap.size, 5, none⟩ = some (.slice a l.length ca) := F0.out.1.cell 5
    go_wp2_with fail
    refine (CM.out u F0.out.2).mono ?_
    rintro r w1 ⟨rfl, hb1⟩
    have B1 := hide1 (F0.out.2.trans (hb1.mono F0.out.2.size))
    clear hb1
    go_wp2
    go_ret2
    exact ⟨rfl, B1.out⟩
end Go.Proofs.YtbkhhkknhbddeaaDoor
