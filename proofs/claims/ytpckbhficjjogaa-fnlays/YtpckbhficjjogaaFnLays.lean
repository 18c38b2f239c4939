/- What is laid in a drawn place is found by its handle, all else stays; lifted, the place is free again, and the handle is none, whatever is laid there: whatever is drawn. -/
import Derived.Test.YtpckbhficjjogaaRows
import Derived.ProofKit
import Derived.OpenShut
import Derived.ShutString
import Derived.ChangeOld
import Derived.Test.YtpckbhficjjogaaLawB
namespace Go.Proofs.Ytpckbhficjjogaa
open Go.ChangeShapes Go.WideShapes Go.ChangeAt Go.RowKit
open Go.ChangeMaps (open_string shut_string)
set_option linter.unusedVariables false

set_option maxRecDepth 100000 in
set_option maxHeartbeats 4000000 in
theorem walk_FnLays (a : Option Addr) (len cap : Nat) (w : World) (hr : RowB w a len) :
    Calls Try.prog 3 #[.slice a len cap] w fun e w' => e = .returned (.bool true) ∧ Below w.heap.size w w' := by
  by_cases hbig : len ≤ 1048576
  · have CB := hide1 (big3_no a len cap w hbig)
    have CD := hide1 (drawRight_any w a len cap (hr.code hbig))
    clear hr
    go_enter Try.func3, Try.ntmps3
    go_wp2_with fail
    refine CB.out.mono ?_
    rintro e w1 ⟨rfl, rfl⟩
    go_wp2_with fail
    refine CD.out.mono ?_
    rintro e w1 ⟨b, c, l, f, ky, vl, rfl, hok, hfit, hown, hb1⟩
    have n24 := hok.most
    have n1 := hok.least
    have HFIT := hide1 hfit
    have F1 : Hid (Var (w1.alloc (.cells #[.slice (some ⟨b, 0, none⟩) l.length c, .int .i64 f] 26)) w1.heap.size b c l f ∧ Below w.heap.size w (w1.alloc (.cells #[.slice (some ⟨b, 0, none⟩) l.length c, .int .i64 f] 26))) :=
      ⟨Var.new f rfl hown, hb1.alloc hb1.size _⟩
    clear hown hb1 CB CD hfit
    go_upto_region 4 with fail
    generalize (w1.alloc (.cells #[.slice (some ⟨b, 0, none⟩) l.length c, .int .i64 f] 26)) = w2 at F1 ⊢
    generalize w1.heap.size = A at F1 ⊢
    obtain ⟨VA, BW⟩ := F1.out
    have v0 := VA.v0
    have v1 := VA.v1
    have VA := hide1 VA
    have BW := hide1 BW
    clear F1
    rcases hok.free with rfl | ⟨k, rfl, hk, hku⟩
    · have CY := hide1 (kLayNo (ca := c) (ky := ky) (vl := vl) n24 VA.out.rd)
      have HOK := hide1 hok
      have HFU := hide1 (full_used hok)
      clear hok
      go_wp2_with fail
      refine CY.out.mono ?_
      rintro e w3 ⟨rfl, hb3⟩
      have F3 : Hid (Var (w3.alloc (.cells #[.slice none 0 0, .int .i64 0] 26)) A b c l (-1) ∧ Blk (w3.alloc (.cells #[.slice none 0 0, .int .i64 0] 26)) w3.heap.size 26 [.slice none 0 0, .int .i64 0] ∧ Below w.heap.size w (w3.alloc (.cells #[.slice none 0 0, .int .i64 0] 26))) :=
        ⟨VA.out.later (hb3.alloc hb3.size _), Blk.new w3 _ _, (BW.out.trans (hb3.mono BW.out.size)).alloc (by have := BW.out.size; have := hb3.size; omega) _⟩
      clear CY hb3 VA BW v0 v1
      go_upto_region 5 with fail
      generalize (w3.alloc (.cells #[.slice none 0 0, .int .i64 0] 26)) = w4 at F3 ⊢
      generalize w3.heap.size = A1 at F3 ⊢
      obtain ⟨V4, K4, B4⟩ := F3.out
      have KK := hide1 (And.intro V4.v0 V4.v1)
      have LA := V4.blk.lt
      have CU := hide1 (fun w' (hb : Below w4.heap.size w4 w') => kUsed (ca := c) (w := w') HOK.out (V4.rd.later hb))
      have CO := hide1 (fun w' (hb : Below w4.heap.size w4 w') => kOk (ca := c) (w := w') HOK.out (V4.rd.later hb))
      rw [HFU.out] at CU
      have V4 := hide1 V4
      have K4 := hide1 K4
      have B4 := hide1 B4
      have qu : decide ((l.length : Int) < (l.length : Int)) = false := by simp
      clear F3
      go_region_held3 (fun w' => w'.cell? ⟨A, 0, none⟩ = some (.slice (some ⟨b, 0, none⟩) l.length c) ∧ w'.cell? ⟨A, 1, none⟩ = some (.int .i64 (-1))) (first | exact ⟨(HBc.cell LA).trans KK.out.1, (HBc.cell LA).trans KK.out.2⟩ | exact KK.out) ((first | (go_at_call 16; refine (CU.out w4.drew (Below.refl _ _).drew).mono ?_; rintro e wk ⟨rfl, hbk⟩; have HBc : Below w4.heap.size w4 wk := (Below.refl _ _).drew.trans hbk) | (go_at_call 17; refine (CO.out _ HBc).mono ?_; rintro e wk2 ⟨rfl, hbk⟩; have HBc : Below w4.heap.size w4 wk2 := HBc.trans (hbk.mono HBc.size))))
      have z0 : wk2.cell? ⟨A1, 0, none⟩ = some (.slice none 0 0) := (HBc.cell K4.out.lt).trans (K4.out.cell 0)
      have B5 := hide1 (B4.out.trans (HBc.mono B4.out.size))
      go_wp2
      go_ret
      exact ⟨rfl, B5.out⟩
    · have HOK := hide1 hok
      have CY := hide1 (kLay (ca := c) hok VA.out.rd hk HFIT.out)
      obtain ⟨M1, hM1⟩ : ∃ M1, M1 = l.set k ⟨l[k].gen, true, ky, vl, 0⟩ := ⟨_, rfl⟩
      have nM1 : M1.length = l.length := by rw [hM1, List.length_set]
      have hk1 : k < M1.length := by omega
      obtain ⟨nx, hnx⟩ : ∃ nx, nx = l[k].next := ⟨_, rfl⟩
      obtain ⟨M2, hM2⟩ : ∃ M2, M2 = M1.set k (lifted M1[k] nx) := ⟨_, rfl⟩
      have nM2 : M2.length = l.length := by rw [hM2, List.length_set, nM1]
      have hk2 : k < M2.length := by omega
      obtain ⟨M3, hM3⟩ : ∃ M3, M3 = M2.set k ⟨M2[k].gen, true, ⟨#[97, 103, 97, 105, 110]⟩, ⟨#[120]⟩, 0⟩ := ⟨_, rfl⟩
      have nM3 : M3.length = l.length := by rw [hM3, List.length_set, nM2]
      obtain ⟨n3, hn3⟩ : ∃ n3, n3 = M2[k].next := ⟨_, rfl⟩
      have FX := hide1 (laid_facts hok hk HFIT.out hnx hM1 hk1 hM2 hk2 (k3 := ⟨#[97, 103, 97, 105, 110]⟩) (v3 := ⟨#[120]⟩) ⟨by decide, by decide, by decide⟩ hM3 hn3)
      obtain ⟨p1, p2, _, _⟩ := hok.hnd_in hk
      have HP := hide1 (And.intro p1 p2)
      rw [← hnx, ← hM1] at CY
      have NN := hide1 (And.intro nM1 (And.intro nM2 nM3))
      have HM2 := hide1 hM2
      have HM3 := hide1 hM3
      have HN3 := hide1 hn3
      generalize hnd l k = hv at *
      clear hok p1 p2 hM1 hM2 hM3 hnx hn3 hku
      go_wp2_with fail
      refine CY.out.mono ?_
      rintro e w3 ⟨b1, c1, rfl, hown3, hb3⟩
      have F3 : Hid (Var (w3.alloc (.cells #[.slice (some ⟨b1, 0, none⟩) l.length c1, .int .i64 nx] 26)) A b c l (k : Int) ∧ Var (w3.alloc (.cells #[.slice (some ⟨b1, 0, none⟩) l.length c1, .int .i64 nx] 26)) w3.heap.size b1 c1 M1 nx ∧ Below w.heap.size w (w3.alloc (.cells #[.slice (some ⟨b1, 0, none⟩) l.length c1, .int .i64 nx] 26))) :=
        ⟨VA.out.later (hb3.alloc hb3.size _), Var.new nx nM1.symm hown3, (BW.out.trans (hb3.mono BW.out.size)).alloc (by have := BW.out.size; have := hb3.size; omega) _⟩
      clear CY hown3 hb3 VA BW v0 v1
      go_upto_region 5 with fail
      generalize (w3.alloc (.cells #[.slice (some ⟨b1, 0, none⟩) l.length c1, .int .i64 nx] 26)) = w4 at F3 ⊢
      generalize w3.heap.size = A1 at F3 ⊢
      obtain ⟨V4, U4, B4⟩ := F3.out
      have KK := hide1 (And.intro V4.v0 V4.v1)
      have LA := V4.blk.lt
      have CU := hide1 (fun w' (hb : Below w4.heap.size w4 w') => kUsed (ca := c) (w := w') HOK.out (V4.rd.later hb))
      have CO := hide1 (fun w' (hb : Below w4.heap.size w4 w') => kOk (ca := c) (w := w') HOK.out (V4.rd.later hb))
      have V4 := hide1 V4
      have U4 := hide1 U4
      have B4 := hide1 B4
      have HUL := hide1 FX.out.2.2.2.2.2.2.2.2.2
      generalize hul : usedN l l.length = ul at *
      have qu : (ul : Int) < (l.length : Int) := by have := HUL.out.1; omega
      have ul24 : Hid (ul < l.length) := HUL.out.1
      clear F3
      go_region_held3 (fun w' => w'.cell? ⟨A, 0, none⟩ = some (.slice (some ⟨b, 0, none⟩) l.length c) ∧ w'.cell? ⟨A, 1, none⟩ = some (.int .i64 (k : Int))) (first | exact ⟨(HBc.cell LA).trans KK.out.1, (HBc.cell LA).trans KK.out.2⟩ | exact KK.out) ((first | (go_at_call 16; refine (CU.out w4.drew (Below.refl _ _).drew).mono ?_; rintro e wk ⟨rfl, hbk⟩; have HBc : Below w4.heap.size w4 wk := (Below.refl _ _).drew.trans hbk) | (go_at_call 17; refine (CO.out _ HBc).mono ?_; rintro e wk2 ⟨rfl, hbk⟩; have HBc : Below w4.heap.size w4 wk2 := HBc.trans (hbk.mono HBc.size))))
      have V5 := hide1 (V4.out.later HBc)
      have U5 := hide1 (U4.out.later HBc)
      have B5 := hide1 (B4.out.trans (HBc.mono B4.out.size))
      clear CU CO KK LA V4 U4 B4
      have u0 := U5.out.v0
      rw [NN.out.1] at u0
      have u1 := U5.out.v1
      have CL := hide1 (kLook (ca := c1) U5.out.rd hk1 FX.out.2.1 HP.out.2)
      rw [NN.out.1, FX.out.2.2.1, FX.out.2.2.2.1] at CL
      go_wp2_with fail
      refine CL.out.mono ?_
      rintro e w6 ⟨rfl, hb6⟩
      have V6 := hide1 (V5.out.later hb6)
      have U6 := hide1 (U5.out.later hb6)
      have B6 := hide1 (B5.out.trans (hb6.mono B5.out.size))
      clear CL hb6 V5 U5 B5 u0 u1 HBc
      have u0 := U6.out.v0
      rw [NN.out.1] at u0
      have u1 := U6.out.v1
      have CF := hide1 (kLift (ca := c1) U6.out.rd hk1 FX.out.2.1 HP.out.2)
      rw [NN.out.1, ← HM2.out] at CF
      go_wp2_with fail
      refine CF.out.mono ?_
      rintro e w7 ⟨b2, c2, rfl, hown7, hb7⟩
      have F7 : Hid (Var (w7.alloc (.cells #[.slice (some ⟨b2, 0, none⟩) l.length c2, .int .i64 (k : Int)] 26)) A b c l (k : Int) ∧ Var (w7.alloc (.cells #[.slice (some ⟨b2, 0, none⟩) l.length c2, .int .i64 (k : Int)] 26)) A1 b1 c1 M1 nx ∧ Var (w7.alloc (.cells #[.slice (some ⟨b2, 0, none⟩) l.length c2, .int .i64 (k : Int)] 26)) w7.heap.size b2 c2 M2 (k : Int) ∧ Below w.heap.size w (w7.alloc (.cells #[.slice (some ⟨b2, 0, none⟩) l.length c2, .int .i64 (k : Int)] 26))) :=
        ⟨V6.out.later (hb7.alloc hb7.size _), U6.out.later (hb7.alloc hb7.size _), Var.new (k : Int) nM2.symm hown7, (B6.out.trans (hb7.mono B6.out.size)).alloc (by have := B6.out.size; have := hb7.size; omega) _⟩
      clear CF hown7 hb7 V6 U6 B6 u0 u1
      go_upto_region 11 with fail
      generalize (w7.alloc (.cells #[.slice (some ⟨b2, 0, none⟩) l.length c2, .int .i64 (k : Int)] 26)) = w8 at F7 ⊢
      generalize w7.heap.size = A2 at F7 ⊢
      obtain ⟨V8, U8, T8, B8⟩ := F7.out
      have V8 := hide1 V8
      have U8 := hide1 U8
      have T8 := hide1 T8
      have B8 := hide1 B8
      have t0 := T8.out.v0
      rw [NN.out.2.1] at t0
      have t1 := T8.out.v1
      have CN := hide1 (kLookNo (ca := c2) (f := (k : Int)) (h := hv) (by rw [NN.out.2.1]; exact n24) T8.out.rd FX.out.2.2.2.2.2.1 (by have := HP.out.1; omega) HP.out.2)
      rw [NN.out.2.1] at CN
      clear F7
      go_wp2_with fail
      refine CN.out.mono ?_
      rintro e w9 ⟨rfl, hb9⟩
      have V9 := hide1 (V8.out.later hb9)
      have U9 := hide1 (U8.out.later hb9)
      have T9 := hide1 (T8.out.later hb9)
      have B9 := hide1 (B8.out.trans (hb9.mono B8.out.size))
      clear CN hb9 V8 U8 T8 B8 t0 t1
      have t0 := T9.out.v0
      rw [NN.out.2.1] at t0
      have t1 := T9.out.v1
      have CZ := hide1 (kLay (ca := c2) FX.out.2.2.2.2.1 T9.out.rd hk2 (ky := ⟨#[97, 103, 97, 105, 110]⟩) (vl := ⟨#[120]⟩) ⟨by decide, by decide, by decide⟩)
      rw [NN.out.2.1, ← HM3.out, ← HN3.out] at CZ
      have HNE := hide1 FX.out.2.2.2.2.2.2.2.2.1
      generalize hnd M2 k = h2 at *
      go_wp2_with fail
      refine CZ.out.mono ?_
      rintro e w10 ⟨b3, c3, rfl, hown10, hb10⟩
      have F10 : Hid (Var (w10.alloc (.cells #[.slice (some ⟨b3, 0, none⟩) l.length c3, .int .i64 n3] 26)) A b c l (k : Int) ∧ Var (w10.alloc (.cells #[.slice (some ⟨b3, 0, none⟩) l.length c3, .int .i64 n3] 26)) A1 b1 c1 M1 nx ∧ Var (w10.alloc (.cells #[.slice (some ⟨b3, 0, none⟩) l.length c3, .int .i64 n3] 26)) A2 b2 c2 M2 (k : Int) ∧ Var (w10.alloc (.cells #[.slice (some ⟨b3, 0, none⟩) l.length c3, .int .i64 n3] 26)) w10.heap.size b3 c3 M3 n3 ∧ Below w.heap.size w (w10.alloc (.cells #[.slice (some ⟨b3, 0, none⟩) l.length c3, .int .i64 n3] 26))) :=
        ⟨V9.out.later (hb10.alloc hb10.size _), U9.out.later (hb10.alloc hb10.size _), T9.out.later (hb10.alloc hb10.size _), Var.new n3 nM3.symm hown10, (B9.out.trans (hb10.mono B9.out.size)).alloc (by have := B9.out.size; have := hb10.size; omega) _⟩
      clear CZ hown10 hb10 V9 U9 T9 B9 t0 t1
      go_upto_region 13 with fail
      generalize (w10.alloc (.cells #[.slice (some ⟨b3, 0, none⟩) l.length c3, .int .i64 n3] 26)) = w11 at F10 ⊢
      generalize w10.heap.size = A3 at F10 ⊢
      obtain ⟨V11, U11, T11, S11, B11⟩ := F10.out
      have V11 := hide1 V11
      have U11 := hide1 U11
      have T11 := hide1 T11
      have S11 := hide1 S11
      have B11 := hide1 B11
      have s0 := S11.out.v0
      rw [NN.out.2.2] at s0
      have s1 := S11.out.v1
      have CS := hide1 (kLookNo (ca := c3) (f := n3) (h := hv) (by rw [NN.out.2.2]; exact n24) S11.out.rd FX.out.2.2.2.2.2.2.2.1 (by have := HP.out.1; omega) HP.out.2)
      rw [NN.out.2.2] at CS
      clear F10
      go_wp2_with fail
      refine CS.out.mono ?_
      rintro e w12 ⟨rfl, hb12⟩
      have V12 := hide1 (V11.out.later hb12)
      have U12 := hide1 (U11.out.later hb12)
      have T12 := hide1 (T11.out.later hb12)
      have S12 := hide1 (S11.out.later hb12)
      have B12 := hide1 (B11.out.trans (hb12.mono B11.out.size))
      clear CS hb12 V11 U11 T11 S11 B11 s0 s1
      have KK : Hid (w12.cell? ⟨A, 0, none⟩ = some (.slice (some ⟨b, 0, none⟩) l.length c) ∧ w12.cell? ⟨A, 1, none⟩ = some (.int .i64 (k : Int)) ∧ w12.cell? ⟨A1, 0, none⟩ = some (.slice (some ⟨b1, 0, none⟩) l.length c1) ∧ w12.cell? ⟨A1, 1, none⟩ = some (.int .i64 nx) ∧ w12.cell? ⟨A2, 0, none⟩ = some (.slice (some ⟨b2, 0, none⟩) l.length c2) ∧ w12.cell? ⟨A2, 1, none⟩ = some (.int .i64 (k : Int)) ∧ w12.cell? ⟨A3, 0, none⟩ = some (.slice (some ⟨b3, 0, none⟩) l.length c3) ∧ w12.cell? ⟨A3, 1, none⟩ = some (.int .i64 n3)) := by
        have x1 := U12.out.v0
        have x2 := T12.out.v0
        have x3 := S12.out.v0
        rw [NN.out.1] at x1
        rw [NN.out.2.1] at x2
        rw [NN.out.2.2] at x3
        exact ⟨V12.out.v0, V12.out.v1, x1, U12.out.v1, x2, T12.out.v1, x3, S12.out.v1⟩
      have L0 := V12.out.blk.lt
      have L1 := U12.out.blk.lt
      have L2 := T12.out.blk.lt
      have L3 := S12.out.blk.lt
      have C1 := hide1 (fun w' (hb : Below w12.heap.size w12 w') => kOk (ca := c1) (w := w') FX.out.1 (U12.out.rd.later hb))
      have C2 := hide1 (fun w' (hb : Below w12.heap.size w12 w') => kOk (ca := c2) (w := w') FX.out.2.2.2.2.1 (T12.out.rd.later hb))
      have C3 := hide1 (fun w' (hb : Below w12.heap.size w12 w') => kOk (ca := c3) (w := w') FX.out.2.2.2.2.2.2.1 (S12.out.rd.later hb))
      have C4 := hide1 (fun w' (hb : Below w12.heap.size w12 w') => kUsed (ca := c1) (w := w') FX.out.1 (U12.out.rd.later hb))
      have C5 := hide1 (fun w' (hb : Below w12.heap.size w12 w') => kUsed (ca := c) (w := w') HOK.out (V12.out.rd.later hb))
      have C6 := hide1 (fun w' (hb : Below w12.heap.size w12 w') => kUsed (ca := c2) (w := w') FX.out.2.2.2.2.1 (T12.out.rd.later hb))
      rw [NN.out.1] at C1 C4
      rw [NN.out.2.1] at C2 C6
      rw [NN.out.2.2] at C3
      rw [HUL.out.2.1] at C4
      rw [HUL.out.2.2] at C6
      rw [hul] at C5
      have ulx := ul24.out
      have qk : (ky.toList == ky.toList) = true := by simp
      have qv : (vl.toList == vl.toList) = true := by simp
      have qn : (h2 != hv) = true := by simpa using HNE.out
      rw [show ((ul + 1 : Nat) : Int) = (ul : Int) + 1 by omega] at C4
      have qw : IntKind.i64.wrap ((ul : Int) + 1) = (ul : Int) + 1 := IntWalk.i64_in _ ⟨by omega, by omega⟩
      have qa : ((ul : Int) + 1 == (ul : Int) + 1) = true := by simp
      have qb : ((ul : Int) == (ul : Int)) = true := by simp
      have HBc : Below w12.heap.size w12 w12.drew := (Below.refl _ _).drew
      clear FX HUL HNE hul
      go_upto_region 14 with fail
      go_region_held3 (fun w' => w'.cell? ⟨A, 0, none⟩ = some (.slice (some ⟨b, 0, none⟩) l.length c) ∧ w'.cell? ⟨A, 1, none⟩ = some (.int .i64 (k : Int)) ∧ w'.cell? ⟨A1, 0, none⟩ = some (.slice (some ⟨b1, 0, none⟩) l.length c1) ∧ w'.cell? ⟨A1, 1, none⟩ = some (.int .i64 nx) ∧ w'.cell? ⟨A2, 0, none⟩ = some (.slice (some ⟨b2, 0, none⟩) l.length c2) ∧ w'.cell? ⟨A2, 1, none⟩ = some (.int .i64 (k : Int)) ∧ w'.cell? ⟨A3, 0, none⟩ = some (.slice (some ⟨b3, 0, none⟩) l.length c3) ∧ w'.cell? ⟨A3, 1, none⟩ = some (.int .i64 n3)) (first | exact ⟨(HBc.cell L0).trans KK.out.1, (HBc.cell L0).trans KK.out.2.1, (HBc.cell L1).trans KK.out.2.2.1, (HBc.cell L1).trans KK.out.2.2.2.1, (HBc.cell L2).trans KK.out.2.2.2.2.1, (HBc.cell L2).trans KK.out.2.2.2.2.2.1, (HBc.cell L3).trans KK.out.2.2.2.2.2.2.1, (HBc.cell L3).trans KK.out.2.2.2.2.2.2.2⟩ | exact KK.out) ((first | (go_at_call_of 17 (Value.agg #[.slice (some ⟨b1, 0, none⟩) l.length c1, .int .i64 nx]); refine (C1.out _ HBc).mono ?_; rintro e wk ⟨rfl, hbk⟩; have HBc : Below w12.heap.size w12 wk := HBc.trans (hbk.mono HBc.size)) | (go_at_call_of 17 (Value.agg #[.slice (some ⟨b2, 0, none⟩) l.length c2, .int .i64 (k : Int)]); refine (C2.out _ HBc).mono ?_; rintro e wk ⟨rfl, hbk⟩; have HBc : Below w12.heap.size w12 wk := HBc.trans (hbk.mono HBc.size)) | (go_at_call_of 17 (Value.agg #[.slice (some ⟨b3, 0, none⟩) l.length c3, .int .i64 n3]); refine (C3.out _ HBc).mono ?_; rintro e wk ⟨rfl, hbk⟩; have HBc : Below w12.heap.size w12 wk := HBc.trans (hbk.mono HBc.size)) | (go_at_call_of 16 (Value.agg #[.slice (some ⟨b1, 0, none⟩) l.length c1, .int .i64 nx]); refine (C4.out _ HBc).mono ?_; rintro e wk ⟨rfl, hbk⟩; have HBc : Below w12.heap.size w12 wk := HBc.trans (hbk.mono HBc.size)) | (go_at_call_of 16 (Value.agg #[.slice (some ⟨b, 0, none⟩) l.length c, .int .i64 (k : Int)]); refine (C5.out _ HBc).mono ?_; rintro e wk ⟨rfl, hbk⟩; have HBc : Below w12.heap.size w12 wk := HBc.trans (hbk.mono HBc.size)) | (go_at_call_of 16 (Value.agg #[.slice (some ⟨b2, 0, none⟩) l.length c2, .int .i64 (k : Int)]); refine (C6.out _ HBc).mono ?_; rintro e wk ⟨rfl, hbk⟩; have HBc : Below w12.heap.size w12 wk := HBc.trans (hbk.mono HBc.size))))
      go_wp2
      go_ret
      exact ⟨rfl, B12.out.trans (HBc.mono B12.out.size)⟩
  · have CB := hide1 (big3_yes a len cap w hbig)
    go_enter Try.func3, Try.ntmps3
    go_wp2_with fail
    refine CB.out.mono ?_
    rintro e w1 ⟨rfl, rfl⟩
    go_wp2
    go_ret
    exact ⟨rfl, Below.refl _ _⟩

set_option maxRecDepth 100000 in
theorem lifted_FnLays (os : Os) (started : os.Started) (H : Type) (enc : TypeId × Value → H) :
    ReturnsInHanded {} Try.checked os 3 .any (Rows.fnLaysSpec.pre6 enc Try.prog Try.f3 Rows.fnLaysRow.domain false) (Rows.fnLaysSpec.post enc Try.prog Try.f3 false true false false) := by
  refine returnsInHanded_of_change (C := Try.checked) (show ownKnob Try.prog.godebug = none by kernel_rfl) started (by kernel_rfl) Try.func3
    (ChangeSpec.witness6 (enc := enc) (C := Try.checked) false ⟨#[], #[.slice none 0 0], []⟩ 8 (by kernel_rfl) (by kernel_rfl) (by kernel_rfl) (by kernel_rfl)) ?_
  intro W base args ds gs before hval0 hW hcnd _
  have hval : ∀ (j : Nat) t v, Try.f3.params[j]? = some t → args[j]? = some v → Value.okWide Try.prog W .any base t v := hval0
  have hW' := hW
  obtain ⟨p, q, hA0, hV, rfl, hfz, hnd⟩ := hW
  have hA : DataW.TrodAll enc Try.prog W 0 (fun _ => true) true Try.f3.params.toList args.toList ds p := hA0
  rw [Try.params3] at hA hval
  obtain ⟨v0, d0, rfl, rfl, h0⟩ := trodAll_one hA
  obtain ⟨rfl, rfl⟩ := trodVars_none hV
  obtain ⟨a0, len0, cap0, rfl⟩ := okWide_slice Try.underlying22 (hval 0 22 v0 rfl rfl)
  have k0 := h0
  have lt0 : ∀ x ∈ p, x.block < W.heap.size := by obtain ⟨m, hm⟩ := k0; exact DataW.trod_lt m _ _ _ hm
  have r0 : RowB W a0 len0 := by
    obtain ⟨fuel, hf⟩ := h0
    rcases open_ints Try.underlying22 Try.underlying5 (by kernel_rfl) hf with ⟨hcs, _⟩ | ⟨x, l, c, zs, hcs, _, hl, hm, hz, _, hcell, hwz⟩
    · simp [Value.cells] at hcs
      obtain ⟨rfl, rfl, rfl⟩ := hcs
      exact fun j hj => absurd hj (Nat.not_lt_zero _)
    · simp [Value.cells] at hcs
      obtain ⟨rfl, rfl, rfl⟩ := hcs
      exact rowB_of hl (by simpa using hz) hcell (fun n hn => bounds_u8 (hwz n hn))
  clear hA0 hval0
  refine (walk_FnLays a0 len0 cap0 W r0).mono fun e W' ⟨he, bel⟩ => ?_
  subst he
  exact ⟨_, rfl, _, _, _, [], _, [], hW', trodAll_mk1 (shut_bool Try.underlying4 _), trodAll_mk1 (Below.trod (show laidOutB Try.prog = true by kernel_rfl) (by kernel_rfl) (of_decide_eq_true (by kernel_rfl)) k0 bel lt0), rfl, bel.frame _, fun h => by cases h⟩

theorem proved_FnLays : Rows.FnLaysSaid :=
  OpenClaim.holds_of_wide 3 Try.f3 rfl rfl rfl rfl rfl rfl rfl ⟨rfl, rfl, rfl, rfl, rfl⟩ rfl rfl rfl rfl rfl (by kernel_rfl) Try.func3 (by kernel_rfl)
    (of_decide_eq_true (by kernel_rfl)) (by unfold Func.isWrapper; first | (rw [if_pos (by decide +kernel)]; kernel_rfl) | (rw [if_neg (by decide +kernel)]; exact ⟨rfl, rfl⟩))
    (fun os started H enc _ => lifted_FnLays os started H enc)
#print axioms proved_FnLays
end Go.Proofs.Ytpckbhficjjogaa
