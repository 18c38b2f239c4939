/- Drawn right messages come back from their bytes; with one byte turned they are refused; drawn bytes that are one are the bytes of it; the program's table of half bytes being as its text lays it (the card ties it to the text of a pruned copy of the project). -/
import Derived.Test.YtbkhhkknhbddeaaDoorCards
import Derived.Test.YtbkhhkknhbddeaaDoorTie
import Derived.ProofKit
import Derived.LaidMore
import Derived.OpenShut
import Derived.ShutString
import Derived.ChangeOld
import Derived.Stop.Joined
import Derived.Stop.LaidErr
import Derived.SevenTiedAt
import Derived.OpenVars
import Derived.ChangeVars
import Derived.Deep.RegionWith
import Derived.Test.YtbkhhkknhbddeaaDoorDrX
import Derived.Test.YtbkhhkknhbddeaaDoorRdO
import Derived.Test.YtbkhhkknhbddeaaDoorMtI
namespace Go.Proofs.YtbkhhkknhbddeaaDoor
open Go.ChangeShapes Go.WideShapes Go.ChangeAt Go.RowKit
open Go.ChangeMaps (open_string shut_string)
set_option linter.unusedVariables false

/-- '[]byte(s)': its cells. -/
theorem conv_bytes {P : Program} (w : World) (src dst e : TypeId) (s : ByteArray) (hs : P.underlying src = some .string) (hd : P.underlying dst = some (.slice e)) (he : P.underlying e = some (.int .u8)) :
    ∃ cap w1, (convert src dst (.string s)).run P w = .ok (.slice (some ⟨w.heap.size, 0, none⟩) s.size cap) w1 ∧ Below w.heap.size w w1 ∧ w.heap.size < w1.heap.size ∧
      (∀ j, j < s.size → w1.cell? ⟨w.heap.size, j, none⟩ = some (.int .u8 (byt s j : Int))) ∧ (∀ j, j < s.size → w1.frozen? ⟨w.heap.size, j, none⟩ = false) := by
  have key : ∀ j, j < s.size → (bytesRow s (grownCap w s.size 0 e))[j]? = some (.int .u8 (byt s j : Int)) := by
    intro j hj
    have hj' : j < s.data.size := hj
    have := bytesRow_at s (grownCap w s.size 0 e) j hj'
    rw [this, ← get_byt s j hj]
    rfl
  refine ⟨_, _, run_bytes_of_string w src dst e s hs hd he, (Below.refl _ _).drew.alloc (Nat.le_refl _) _, ?_, ?_, ?_⟩
  · rw [World.size_alloc]; show w.heap.size < w.heap.size + 1; omega
  · intro j hj
    exact (World.cell?_alloc_mark w.drew _ _ _ j).trans (key j hj)
  · intro j hj
    have hlt : j < (bytesRow s (grownCap w s.size 0 e)).size := (Array.getElem?_eq_some_iff.1 (key j hj)).1
    refine (World.frozen?_alloc_mark w.drew _ _ _ _ j).trans ?_
    simp; omega

theorem of_laid_FnMsgs {W : World} (h : laidMetH Tryd.prog Rows.fnMsgsRow.laid W) : Tabs W := by
  rw [MakeChecks.laidMetH_plain _ _ _ (by kernel_rfl)] at h
  exact Lib.tabIs_of_head gTabs (by kernel_rfl) Tryd.underlying111 Tryd.underlying75 (by kernel_rfl) (by kernel_rfl) h

set_option maxRecDepth 100000 in
set_option maxHeartbeats 8000000 in
theorem walk_FnMsgs (a : Option Addr) (len cap : Nat) (w : World) (hr : RowB w a len) (ht : Tabs w) :
    Calls Tryd.prog 3 #[.slice a len cap] w fun e w' => e = .returned (.bool true) ∧ Below w.heap.size w w' := by
  by_cases hl : len ≤ 1048576
  · have HC := hide1 (hr.code hl)
    have HT := hide1 ht
    clear hr ht
    go_enter Tryd.func3, Tryd.ntmps3
    go_wp2_with fail
    refine (bigI_no a len cap w hl).mono ?_
    rintro e9 w0 ⟨rfl, rfl⟩
    go_wp2_with fail
    refine (drawMT_any w a len cap HC.out).mono ?_
    rintro e9 w1 ⟨⟨k, f, o, e, n, l, b, c, rfl, hsz, hl20, ho⟩, hb⟩
    have SZ := hide1 (show ∀ x ∈ l, x.k.size ≤ 1048576 ∧ x.v.size ≤ 1048576 from fun x hx => by have := hsz x hx; omega)
    have E_0 := hide1 (hb)
    have R_0 := hide1 (rdG_of_own encIm.len ho rfl)
    clear hb ho hsz
    have FB := hide1 (And.intro (Blk.new w1 26 #[.int .i64 k, .int .i64 f, .int .i64 o, .int .i64 e, .int .i64 n, .slice b l.length c]) ((Below.refl w1.heap.size w1).alloc (Nat.le_refl _) (.cells #[.int .i64 k, .int .i64 f, .int .i64 o, .int .i64 e, .int .i64 n, .slice b l.length c] 26)))
    go_upto_region 4 with fail
    generalize (w1.alloc (.cells #[.int .i64 k, .int .i64 f, .int .i64 o, .int .i64 e, .int .i64 n, .slice b l.length c] 26)) = u1 at FB ⊢
    obtain ⟨G1, hG1⟩ : ∃ G, G = w1.heap.size := ⟨_, rfl⟩
    have KB := hide1 FB.out.1
    rw [← hG1] at KB ⊢
    have E_1 := hide1 (E_0.out.trans ((FB.out.2).mono E_0.out.size))
    have R_1 := hide1 (R_0.out.later (FB.out.2))
    clear E_0 R_0
    have A_1 := hide1 (KB.out)
    clear KB FB hG1
    have CI := hide1 (fun W (h : RdG imC 3 W b l) (hT : Tabs W) => implMsgText_any k f o e n l b c W (by omega) SZ.out h hT)
    have CO := hide1 (fun W (h : RdG imC 3 W b l) => implMsgOk_any k f o e n l b c W (by omega) SZ.out h)
    have CP := hide1 (fun W (h : RdG imC 3 W b l) => specMsgOk_any k f o e n l b c W (by omega) h)
    have CD := hide1 (fun W (hb : Below w.heap.size w W) => drawRM_any W a len cap (codeI (HC.out.below hb (Nat.le_refl _)) hb.size))
    have CQ := hide1 (fun W (hb : Below w.heap.size w W) => drawPl_any W a len cap (codeI (HC.out.below hb (Nat.le_refl _)) hb.size))
    have x0 : u1.cell? ⟨G1, 0, none⟩ = some (.int .i64 k) := A_1.out.cell 0
    have x1 : u1.cell? ⟨G1, 1, none⟩ = some (.int .i64 f) := A_1.out.cell 1
    have x2 : u1.cell? ⟨G1, 2, none⟩ = some (.int .i64 o) := A_1.out.cell 2
    have x3 : u1.cell? ⟨G1, 3, none⟩ = some (.int .i64 e) := A_1.out.cell 3
    have x4 : u1.cell? ⟨G1, 4, none⟩ = some (.int .i64 n) := A_1.out.cell 4
    have x5 : u1.cell? ⟨G1, 5, none⟩ = some (.slice b l.length c) := A_1.out.cell 5
    by_cases ok : okMs ⟨k, f, o, e, n, l⟩
    rotate_left
    · have hv : msgV ⟨k, f, o, e, n, l⟩ = .tuple #[.string ⟨#[]⟩, .bool false] := by unfold msgV; rw [if_neg ok]
      rw [hv] at CI
      rw [decide_eq_false ok] at CO CP
      clear hv
      go_wp2_with fail
      refine (CI.out u1 R_1.out (HT.out.later E_1.out)).mono ?_
      rintro e w2 ⟨rfl, hb⟩
      clear x0 x1 x2 x3 x4 x5
      have E_2 := hide1 (E_1.out.trans ((hb).mono E_1.out.size))
      have R_2 := hide1 (R_1.out.later (hb))
      have A_2 := hide1 (A_1.out.below (hb) A_1.out.lt)
      clear E_1 R_1 A_1
      clear hb
      have CR := hide1 (fun W (hT : Tabs W) => implReadMsg_any ⟨#[]⟩ W (Nat.zero_le _) hT)
      rw [rd_empty] at CR
      unfold msA at CR
      dsimp only [Option.getD, Option.isSome, zeroMs, List.length_nil] at CR
      go_wp2_with fail
      refine (CR.out w2 (HT.out.later E_2.out)).mono ?_
      rintro e w3 ⟨⟨xb, xc, rfl, hox⟩, hb⟩
      have E_3 := hide1 (E_2.out.trans ((hb).mono E_2.out.size))
      have R_3 := hide1 (R_2.out.later (hb))
      have A_3 := hide1 (A_2.out.below (hb) A_2.out.lt)
      clear E_2 R_2 A_2
      clear hb hox
      have FB := hide1 (And.intro (Blk.new w3 26 #[.int .i64 0, .int .i64 0, .int .i64 0, .int .i64 0, .int .i64 0, .slice xb 0 xc]) ((Below.refl w3.heap.size w3).alloc (Nat.le_refl _) (.cells #[.int .i64 0, .int .i64 0, .int .i64 0, .int .i64 0, .int .i64 0, .slice xb 0 xc] 26)))
      go_upto_region 6 with fail
      generalize (w3.alloc (.cells #[.int .i64 0, .int .i64 0, .int .i64 0, .int .i64 0, .int .i64 0, .slice xb 0 xc] 26)) = u3 at FB ⊢
      obtain ⟨G2, hG2⟩ : ∃ G, G = w3.heap.size := ⟨_, rfl⟩
      have KB := hide1 FB.out.1
      rw [← hG2] at KB ⊢
      have E_4 := hide1 (E_3.out.trans ((FB.out.2).mono E_3.out.size))
      have R_4 := hide1 (R_3.out.later (FB.out.2))
      have A_4 := hide1 (A_3.out.below (FB.out.2) A_3.out.lt)
      clear E_3 R_3 A_3
      clear KB FB hG2
      have x0 : u3.cell? ⟨G1, 0, none⟩ = some (.int .i64 k) := A_4.out.cell 0
      have x1 : u3.cell? ⟨G1, 1, none⟩ = some (.int .i64 f) := A_4.out.cell 1
      have x2 : u3.cell? ⟨G1, 2, none⟩ = some (.int .i64 o) := A_4.out.cell 2
      have x3 : u3.cell? ⟨G1, 3, none⟩ = some (.int .i64 e) := A_4.out.cell 3
      have x4 : u3.cell? ⟨G1, 4, none⟩ = some (.int .i64 n) := A_4.out.cell 4
      have x5 : u3.cell? ⟨G1, 5, none⟩ = some (.slice b l.length c) := A_4.out.cell 5
      go_wp2_with fail
      refine (CP.out u3 R_4.out).mono ?_
      rintro e w4 ⟨rfl, hb⟩
      clear x0 x1 x2 x3 x4 x5
      have E_5 := hide1 (E_4.out.trans ((hb).mono E_4.out.size))
      have R_5 := hide1 (R_4.out.later (hb))
      have A_5 := hide1 (A_4.out.below (hb) A_4.out.lt)
      clear E_4 R_4 A_4
      clear hb
      have x0 : w4.cell? ⟨G1, 0, none⟩ = some (.int .i64 k) := A_5.out.cell 0
      have x1 : w4.cell? ⟨G1, 1, none⟩ = some (.int .i64 f) := A_5.out.cell 1
      have x2 : w4.cell? ⟨G1, 2, none⟩ = some (.int .i64 o) := A_5.out.cell 2
      have x3 : w4.cell? ⟨G1, 3, none⟩ = some (.int .i64 e) := A_5.out.cell 3
      have x4 : w4.cell? ⟨G1, 4, none⟩ = some (.int .i64 n) := A_5.out.cell 4
      have x5 : w4.cell? ⟨G1, 5, none⟩ = some (.slice b l.length c) := A_5.out.cell 5
      go_wp2_with fail
      refine (CO.out w4 R_5.out).mono ?_
      rintro e w5 ⟨rfl, hb⟩
      clear x0 x1 x2 x3 x4 x5
      have E_6 := hide1 (E_5.out.trans ((hb).mono E_5.out.size))
      have R_6 := hide1 (R_5.out.later (hb))
      have A_6 := hide1 (A_5.out.below (hb) A_5.out.lt)
      clear E_5 R_5 A_5
      clear hb
      go_wp2_with fail
      refine (CD.out w5 E_6.out).mono ?_
      rintro e wa ⟨⟨t, rfl, ht⟩, hb⟩
      have E_7 := hide1 (E_6.out.trans ((hb).mono E_6.out.size))
      have R_7 := hide1 (R_6.out.later (hb))
      have A_7 := hide1 (A_6.out.below (hb) A_6.out.lt)
      clear E_6 R_6 A_6
      clear hb
      have CX := hide1 (fun W (hT : Tabs W) => implReadMsg_any t W (by omega) hT)
      have CY := hide1 (fun W => specReadMsg_any t W (by omega))
      unfold msA at CX CY
      have AGN : ∃ (z : ByteArray) (g : Bool), msgV ((rdM t).getD zeroMs) = .tuple #[.string z, .bool g] ∧ ((rdM t).isSome = true → z = t) := by
        cases e9 : rdM t with
        | none => exact ⟨⟨#[]⟩, false, by unfold msgV; rw [if_neg (fun h => by have := h.1.1; revert this; decide)], fun h => by cases h⟩
        | some y => exact ⟨t, true, msg_of_rd e9, fun _ => rfl⟩
      obtain ⟨z9, g9, hv9, hz9⟩ := AGN
      have hyl : ((rdM t).getD zeroMs).is.length ≤ 12 ∧ ∀ x ∈ ((rdM t).getD zeroMs).is, x.k.size ≤ 1048576 ∧ x.v.size ≤ 1048576 := by
        cases e9 : rdM t with
        | none => exact ⟨Nat.zero_le _, fun x hx => by simp [zeroMs] at hx⟩
        | some y =>
          have h1 := (rdM_back e9).2.1.2.2.2.2.2.1
          exact ⟨h1.2.2, fun x hx => by have h2 := h1.1 x hx; have h3 := h2.1.2; have h4 := h2.2.1; omega⟩
      generalize (rdM t).getD zeroMs = Y at *
      generalize (rdM t).isSome = may at *
      obtain ⟨yk, yf, yo, ye, yn, yl⟩ := Y
      dsimp only at CX CY hyl
      go_wp2_with fail
      refine (CX.out wa (HT.out.later E_7.out)).mono ?_
      rintro e wb ⟨⟨yb, yc, rfl, hoy⟩, hb⟩
      have E_8 := hide1 (E_7.out.trans ((hb).mono E_7.out.size))
      have R_8 := hide1 (R_7.out.later (hb))
      have A_8 := hide1 (A_7.out.below (hb) A_7.out.lt)
      clear E_7 R_7 A_7
      have Y_8 := hide1 (rdG_of_own encIm.len hoy rfl)
      clear hb hoy
      have FB := hide1 (And.intro (Blk.new wb 26 #[.int .i64 yk, .int .i64 yf, .int .i64 yo, .int .i64 ye, .int .i64 yn, .slice yb yl.length yc]) ((Below.refl wb.heap.size wb).alloc (Nat.le_refl _) (.cells #[.int .i64 yk, .int .i64 yf, .int .i64 yo, .int .i64 ye, .int .i64 yn, .slice yb yl.length yc] 26)))
      go_upto_region 10 with fail
      generalize (wb.alloc (.cells #[.int .i64 yk, .int .i64 yf, .int .i64 yo, .int .i64 ye, .int .i64 yn, .slice yb yl.length yc] 26)) = ub at FB ⊢
      obtain ⟨G3, hG3⟩ : ∃ G, G = wb.heap.size := ⟨_, rfl⟩
      have KB := hide1 FB.out.1
      rw [← hG3] at KB ⊢
      have E_9 := hide1 (E_8.out.trans ((FB.out.2).mono E_8.out.size))
      have R_9 := hide1 (R_8.out.later (FB.out.2))
      have A_9 := hide1 (A_8.out.below (FB.out.2) A_8.out.lt)
      have Y_9 := hide1 (Y_8.out.later (FB.out.2))
      clear E_8 R_8 A_8 Y_8
      have C3_9 := hide1 (KB.out)
      clear KB FB hG3
      go_wp2_with fail
      refine (CY.out ub).mono ?_
      rintro e wc ⟨⟨vb, vc, rfl, hov⟩, hb⟩
      have E_10 := hide1 (E_9.out.trans ((hb).mono E_9.out.size))
      have R_10 := hide1 (R_9.out.later (hb))
      have A_10 := hide1 (A_9.out.below (hb) A_9.out.lt)
      have Y_10 := hide1 (Y_9.out.later (hb))
      have C3_10 := hide1 (C3_9.out.below (hb) C3_9.out.lt)
      clear E_9 R_9 A_9 Y_9 C3_9
      clear hb hov
      have FB := hide1 (And.intro (Blk.new wc 26 #[.int .i64 yk, .int .i64 yf, .int .i64 yo, .int .i64 ye, .int .i64 yn, .slice vb yl.length vc]) ((Below.refl wc.heap.size wc).alloc (Nat.le_refl _) (.cells #[.int .i64 yk, .int .i64 yf, .int .i64 yo, .int .i64 ye, .int .i64 yn, .slice vb yl.length vc] 26)))
      go_upto_region 11 with fail
      generalize (wc.alloc (.cells #[.int .i64 yk, .int .i64 yf, .int .i64 yo, .int .i64 ye, .int .i64 yn, .slice vb yl.length vc] 26)) = uc at FB ⊢
      obtain ⟨G4, hG4⟩ : ∃ G, G = wc.heap.size := ⟨_, rfl⟩
      have KB := hide1 FB.out.1
      rw [← hG4] at KB ⊢
      have E_11 := hide1 (E_10.out.trans ((FB.out.2).mono E_10.out.size))
      have R_11 := hide1 (R_10.out.later (FB.out.2))
      have A_11 := hide1 (A_10.out.below (FB.out.2) A_10.out.lt)
      have Y_11 := hide1 (Y_10.out.later (FB.out.2))
      have C3_11 := hide1 (C3_10.out.below (FB.out.2) C3_10.out.lt)
      clear E_10 R_10 A_10 Y_10 C3_10
      have C4_11 := hide1 (KB.out)
      clear KB FB hG4
      have c0 : uc.cell? ⟨G3, 0, none⟩ = some (.int .i64 yk) := C3_11.out.cell 0
      have c1 : uc.cell? ⟨G3, 1, none⟩ = some (.int .i64 yf) := C3_11.out.cell 1
      have c2 : uc.cell? ⟨G3, 2, none⟩ = some (.int .i64 yo) := C3_11.out.cell 2
      have c3 : uc.cell? ⟨G3, 3, none⟩ = some (.int .i64 ye) := C3_11.out.cell 3
      have c4 : uc.cell? ⟨G3, 4, none⟩ = some (.int .i64 yn) := C3_11.out.cell 4
      have c5 : uc.cell? ⟨G3, 5, none⟩ = some (.slice yb yl.length yc) := C3_11.out.cell 5
      have CZ := hide1 (implMsgText_any yk yf yo ye yn yl yb yc uc (by omega) hyl.2 Y_11.out (HT.out.later E_11.out))
      rw [hv9] at CZ
      go_wp2_with fail
      refine (CZ.out).mono ?_
      rintro e wd ⟨rfl, hb⟩
      clear c0 c1 c2 c3 c4 c5
      have E_12 := hide1 (E_11.out.trans ((hb).mono E_11.out.size))
      have R_12 := hide1 (R_11.out.later (hb))
      have A_12 := hide1 (A_11.out.below (hb) A_11.out.lt)
      have Y_12 := hide1 (Y_11.out.later (hb))
      have C3_12 := hide1 (C3_11.out.below (hb) C3_11.out.lt)
      have C4_12 := hide1 (C4_11.out.below (hb) C4_11.out.lt)
      clear E_11 R_11 A_11 Y_11 C3_11 C4_11
      clear hb CZ hv9
      have qm : (may != may) = false := by cases may <;> rfl
      have qm2 : (may == may) = true := by cases may <;> rfl
      cases may
      · clear hz9
        have qs : (z9.toList != z9.toList) = false := by simp
        have qs2 : (z9.toList == z9.toList) = true := by simp
        go_wp2
        go_ret
        exact ⟨rfl, E_12.out⟩
      · obtain rfl := hz9 rfl
        have qs : (z9.toList != z9.toList) = false := by simp
        have qs2 : (z9.toList == z9.toList) = true := by simp
        go_wp2
        go_ret
        exact ⟨rfl, E_12.out⟩
    · have hv : msgV ⟨k, f, o, e, n, l⟩ = .tuple #[.string (sealS (bA (msB ⟨k, f, o, e, n, l⟩))), .bool true] := by unfold msgV; rw [if_pos ok]
      have hrd := rd_of_msg ok
      have hS : (sealS (bA (msB ⟨k, f, o, e, n, l⟩))).size ≤ 582 ∧ 4 ≤ (sealS (bA (msB ⟨k, f, o, e, n, l⟩))).size := by
        have h1 := msB_size ok
        have h2 := sealS_size (bA (msB ⟨k, f, o, e, n, l⟩))
        have h3 : (bA (msB ⟨k, f, o, e, n, l⟩)).size = (msB ⟨k, f, o, e, n, l⟩).length := by unfold bA; simp [ByteArray.size]
        omega
      have TURN := hide1 (fun (t : ByteArray) (i : Nat) (b : UInt8) h1 h2 h3 => rd_turned (m := ⟨k, f, o, e, n, l⟩) (t := t) (i := i) (b := b) h1 h2 h3)
      generalize sealS (bA (msB ⟨k, f, o, e, n, l⟩)) = S at hv hrd hS TURN
      rw [hv] at CI
      rw [decide_eq_true ok] at CO CP
      clear hv ok
      go_wp2_with fail
      refine (CI.out u1 R_1.out (HT.out.later E_1.out)).mono ?_
      rintro e w2 ⟨rfl, hb⟩
      clear x0 x1 x2 x3 x4 x5
      have E_2 := hide1 (E_1.out.trans ((hb).mono E_1.out.size))
      have R_2 := hide1 (R_1.out.later (hb))
      have A_2 := hide1 (A_1.out.below (hb) A_1.out.lt)
      clear E_1 R_1 A_1
      clear hb
      have CR := hide1 (fun W (hT : Tabs W) => implReadMsg_any S W (by omega) hT)
      rw [hrd] at CR
      unfold msA at CR
      dsimp only [Option.getD, Option.isSome] at CR
      go_wp2_with fail
      refine (CR.out w2 (HT.out.later E_2.out)).mono ?_
      rintro e w3 ⟨⟨xb, xc, rfl, hox⟩, hb⟩
      have E_3 := hide1 (E_2.out.trans ((hb).mono E_2.out.size))
      have R_3 := hide1 (R_2.out.later (hb))
      have A_3 := hide1 (A_2.out.below (hb) A_2.out.lt)
      clear E_2 R_2 A_2
      have X_3 := hide1 (rdG_of_own encIm.len hox rfl)
      clear hb hox hrd
      have FB := hide1 (And.intro (Blk.new w3 26 #[.int .i64 k, .int .i64 f, .int .i64 o, .int .i64 e, .int .i64 n, .slice xb l.length xc]) ((Below.refl w3.heap.size w3).alloc (Nat.le_refl _) (.cells #[.int .i64 k, .int .i64 f, .int .i64 o, .int .i64 e, .int .i64 n, .slice xb l.length xc] 26)))
      go_upto_region 6 with fail
      generalize (w3.alloc (.cells #[.int .i64 k, .int .i64 f, .int .i64 o, .int .i64 e, .int .i64 n, .slice xb l.length xc] 26)) = u3 at FB ⊢
      obtain ⟨G2, hG2⟩ : ∃ G, G = w3.heap.size := ⟨_, rfl⟩
      have KB := hide1 FB.out.1
      rw [← hG2] at KB ⊢
      have E_4 := hide1 (E_3.out.trans ((FB.out.2).mono E_3.out.size))
      have R_4 := hide1 (R_3.out.later (FB.out.2))
      have A_4 := hide1 (A_3.out.below (FB.out.2) A_3.out.lt)
      have X_4 := hide1 (X_3.out.later (FB.out.2))
      clear E_3 R_3 A_3 X_3
      have B_4 := hide1 (KB.out)
      clear KB FB hG2
      have x0 : u3.cell? ⟨G1, 0, none⟩ = some (.int .i64 k) := A_4.out.cell 0
      have x1 : u3.cell? ⟨G1, 1, none⟩ = some (.int .i64 f) := A_4.out.cell 1
      have x2 : u3.cell? ⟨G1, 2, none⟩ = some (.int .i64 o) := A_4.out.cell 2
      have x3 : u3.cell? ⟨G1, 3, none⟩ = some (.int .i64 e) := A_4.out.cell 3
      have x4 : u3.cell? ⟨G1, 4, none⟩ = some (.int .i64 n) := A_4.out.cell 4
      have x5 : u3.cell? ⟨G1, 5, none⟩ = some (.slice b l.length c) := A_4.out.cell 5
      go_wp2_with fail
      refine (CP.out u3 R_4.out).mono ?_
      rintro e w4 ⟨rfl, hb⟩
      clear x0 x1 x2 x3 x4 x5
      have E_5 := hide1 (E_4.out.trans ((hb).mono E_4.out.size))
      have R_5 := hide1 (R_4.out.later (hb))
      have A_5 := hide1 (A_4.out.below (hb) A_4.out.lt)
      have X_5 := hide1 (X_4.out.later (hb))
      have B_5 := hide1 (B_4.out.below (hb) B_4.out.lt)
      clear E_4 R_4 A_4 X_4 B_4
      clear hb
      have x0 : w4.cell? ⟨G1, 0, none⟩ = some (.int .i64 k) := A_5.out.cell 0
      have x1 : w4.cell? ⟨G1, 1, none⟩ = some (.int .i64 f) := A_5.out.cell 1
      have x2 : w4.cell? ⟨G1, 2, none⟩ = some (.int .i64 o) := A_5.out.cell 2
      have x3 : w4.cell? ⟨G1, 3, none⟩ = some (.int .i64 e) := A_5.out.cell 3
      have x4 : w4.cell? ⟨G1, 4, none⟩ = some (.int .i64 n) := A_5.out.cell 4
      have x5 : w4.cell? ⟨G1, 5, none⟩ = some (.slice b l.length c) := A_5.out.cell 5
      go_wp2_with fail
      refine (CO.out w4 R_5.out).mono ?_
      rintro e w5 ⟨rfl, hb⟩
      clear x0 x1 x2 x3 x4 x5
      have E_6 := hide1 (E_5.out.trans ((hb).mono E_5.out.size))
      have R_6 := hide1 (R_5.out.later (hb))
      have A_6 := hide1 (A_5.out.below (hb) A_5.out.lt)
      have X_6 := hide1 (X_5.out.later (hb))
      have B_6 := hide1 (B_5.out.below (hb) B_5.out.lt)
      clear E_5 R_5 A_5 X_5 B_5
      clear hb
      have x0 : w5.cell? ⟨G1, 0, none⟩ = some (.int .i64 k) := A_6.out.cell 0
      have x1 : w5.cell? ⟨G1, 1, none⟩ = some (.int .i64 f) := A_6.out.cell 1
      have x2 : w5.cell? ⟨G1, 2, none⟩ = some (.int .i64 o) := A_6.out.cell 2
      have x3 : w5.cell? ⟨G1, 3, none⟩ = some (.int .i64 e) := A_6.out.cell 3
      have x4 : w5.cell? ⟨G1, 4, none⟩ = some (.int .i64 n) := A_6.out.cell 4
      have x5 : w5.cell? ⟨G1, 5, none⟩ = some (.slice b l.length c) := A_6.out.cell 5
      have y0 : w5.cell? ⟨G2, 0, none⟩ = some (.int .i64 k) := B_6.out.cell 0
      have y1 : w5.cell? ⟨G2, 1, none⟩ = some (.int .i64 f) := B_6.out.cell 1
      have y2 : w5.cell? ⟨G2, 2, none⟩ = some (.int .i64 o) := B_6.out.cell 2
      have y3 : w5.cell? ⟨G2, 3, none⟩ = some (.int .i64 e) := B_6.out.cell 3
      have y4 : w5.cell? ⟨G2, 4, none⟩ = some (.int .i64 n) := B_6.out.cell 4
      have y5 : w5.cell? ⟨G2, 5, none⟩ = some (.slice xb l.length xc) := B_6.out.cell 5
      have qk : (k != k) = false := by simp
      have qf : (f != f) = false := by simp
      have qo : (o != o) = false := by simp
      have qe : (e != e) = false := by simp
      have qn : (n != n) = false := by simp
      go_wp2_with fail
      refine (sameIm_same xb b l xc c w5 (by omega) X_6.out R_6.out).mono ?_
      rintro e w6 ⟨rfl, hb⟩
      clear x0 x1 x2 x3 x4 x5 y0 y1 y2 y3 y4 y5
      have E_7 := hide1 (E_6.out.trans ((hb).mono E_6.out.size))
      have R_7 := hide1 (R_6.out.later (hb))
      have A_7 := hide1 (A_6.out.below (hb) A_6.out.lt)
      have X_7 := hide1 (X_6.out.later (hb))
      have B_7 := hide1 (B_6.out.below (hb) B_6.out.lt)
      clear E_6 R_6 A_6 X_6 B_6
      clear hb qk qf qo qe qn
      clear A_7
      clear B_7
      clear R_7
      clear X_7
      go_wp2_with fail
      refine (CD.out w6 E_7.out).mono ?_
      rintro e wa ⟨⟨t, rfl, ht⟩, hb⟩
      have E_8 := hide1 (E_7.out.trans ((hb).mono E_7.out.size))
      clear E_7
      clear hb
      have CX := hide1 (fun W (hT : Tabs W) => implReadMsg_any t W (by omega) hT)
      have CY := hide1 (fun W => specReadMsg_any t W (by omega))
      unfold msA at CX CY
      have AGN : ∃ (z : ByteArray) (g : Bool), msgV ((rdM t).getD zeroMs) = .tuple #[.string z, .bool g] ∧ ((rdM t).isSome = true → z = t) := by
        cases e9 : rdM t with
        | none => exact ⟨⟨#[]⟩, false, by unfold msgV; rw [if_neg (fun h => by have := h.1.1; revert this; decide)], fun h => by cases h⟩
        | some y => exact ⟨t, true, msg_of_rd e9, fun _ => rfl⟩
      obtain ⟨z9, g9, hv9, hz9⟩ := AGN
      have hyl : ((rdM t).getD zeroMs).is.length ≤ 12 ∧ ∀ x ∈ ((rdM t).getD zeroMs).is, x.k.size ≤ 1048576 ∧ x.v.size ≤ 1048576 := by
        cases e9 : rdM t with
        | none => exact ⟨Nat.zero_le _, fun x hx => by simp [zeroMs] at hx⟩
        | some y =>
          have h1 := (rdM_back e9).2.1.2.2.2.2.2.1
          exact ⟨h1.2.2, fun x hx => by have h2 := h1.1 x hx; have h3 := h2.1.2; have h4 := h2.2.1; omega⟩
      generalize (rdM t).getD zeroMs = Y at *
      generalize (rdM t).isSome = may at *
      obtain ⟨yk, yf, yo, ye, yn, yl⟩ := Y
      dsimp only at CX CY hyl
      go_wp2_with fail
      refine (CX.out wa (HT.out.later E_8.out)).mono ?_
      rintro e wb ⟨⟨yb, yc, rfl, hoy⟩, hb⟩
      have E_9 := hide1 (E_8.out.trans ((hb).mono E_8.out.size))
      clear E_8
      have Y_9 := hide1 (rdG_of_own encIm.len hoy rfl)
      clear hb hoy
      have FB := hide1 (And.intro (Blk.new wb 26 #[.int .i64 yk, .int .i64 yf, .int .i64 yo, .int .i64 ye, .int .i64 yn, .slice yb yl.length yc]) ((Below.refl wb.heap.size wb).alloc (Nat.le_refl _) (.cells #[.int .i64 yk, .int .i64 yf, .int .i64 yo, .int .i64 ye, .int .i64 yn, .slice yb yl.length yc] 26)))
      go_upto_region 10 with fail
      generalize (wb.alloc (.cells #[.int .i64 yk, .int .i64 yf, .int .i64 yo, .int .i64 ye, .int .i64 yn, .slice yb yl.length yc] 26)) = ub at FB ⊢
      obtain ⟨G3, hG3⟩ : ∃ G, G = wb.heap.size := ⟨_, rfl⟩
      have KB := hide1 FB.out.1
      rw [← hG3] at KB ⊢
      have E_10 := hide1 (E_9.out.trans ((FB.out.2).mono E_9.out.size))
      have Y_10 := hide1 (Y_9.out.later (FB.out.2))
      clear E_9 Y_9
      have C3_10 := hide1 (KB.out)
      clear KB FB hG3
      go_wp2_with fail
      refine (CY.out ub).mono ?_
      rintro e wc ⟨⟨vb, vc, rfl, hov⟩, hb⟩
      have E_11 := hide1 (E_10.out.trans ((hb).mono E_10.out.size))
      have Y_11 := hide1 (Y_10.out.later (hb))
      have C3_11 := hide1 (C3_10.out.below (hb) C3_10.out.lt)
      clear E_10 Y_10 C3_10
      clear hb hov
      have FB := hide1 (And.intro (Blk.new wc 26 #[.int .i64 yk, .int .i64 yf, .int .i64 yo, .int .i64 ye, .int .i64 yn, .slice vb yl.length vc]) ((Below.refl wc.heap.size wc).alloc (Nat.le_refl _) (.cells #[.int .i64 yk, .int .i64 yf, .int .i64 yo, .int .i64 ye, .int .i64 yn, .slice vb yl.length vc] 26)))
      go_upto_region 11 with fail
      generalize (wc.alloc (.cells #[.int .i64 yk, .int .i64 yf, .int .i64 yo, .int .i64 ye, .int .i64 yn, .slice vb yl.length vc] 26)) = uc at FB ⊢
      obtain ⟨G4, hG4⟩ : ∃ G, G = wc.heap.size := ⟨_, rfl⟩
      have KB := hide1 FB.out.1
      rw [← hG4] at KB ⊢
      have E_12 := hide1 (E_11.out.trans ((FB.out.2).mono E_11.out.size))
      have Y_12 := hide1 (Y_11.out.later (FB.out.2))
      have C3_12 := hide1 (C3_11.out.below (FB.out.2) C3_11.out.lt)
      clear E_11 Y_11 C3_11
      have C4_12 := hide1 (KB.out)
      clear KB FB hG4
      have c0 : uc.cell? ⟨G3, 0, none⟩ = some (.int .i64 yk) := C3_12.out.cell 0
      have c1 : uc.cell? ⟨G3, 1, none⟩ = some (.int .i64 yf) := C3_12.out.cell 1
      have c2 : uc.cell? ⟨G3, 2, none⟩ = some (.int .i64 yo) := C3_12.out.cell 2
      have c3 : uc.cell? ⟨G3, 3, none⟩ = some (.int .i64 ye) := C3_12.out.cell 3
      have c4 : uc.cell? ⟨G3, 4, none⟩ = some (.int .i64 yn) := C3_12.out.cell 4
      have c5 : uc.cell? ⟨G3, 5, none⟩ = some (.slice yb yl.length yc) := C3_12.out.cell 5
      have CZ := hide1 (implMsgText_any yk yf yo ye yn yl yb yc uc (by omega) hyl.2 Y_12.out (HT.out.later E_12.out))
      rw [hv9] at CZ
      go_wp2_with fail
      refine (CZ.out).mono ?_
      rintro e wd ⟨rfl, hb⟩
      clear c0 c1 c2 c3 c4 c5
      have E_13 := hide1 (E_12.out.trans ((hb).mono E_12.out.size))
      have Y_13 := hide1 (Y_12.out.later (hb))
      have C3_13 := hide1 (C3_12.out.below (hb) C3_12.out.lt)
      have C4_13 := hide1 (C4_12.out.below (hb) C4_12.out.lt)
      clear E_12 Y_12 C3_12 C4_12
      clear hb CZ hv9
      have qm : (may != may) = false := by cases may <;> rfl
      have qm2 : (may == may) = true := by cases may <;> rfl
      cases may
      · clear hz9
        have qs : (z9.toList != z9.toList) = false := by simp
        go_wp2_with fail
        refine (CQ.out wd E_13.out).mono ?_
        rintro e we ⟨xs, p, pc, hx12, hxl, rfl, hp1, hp2, kx, hb⟩
        have B4 := hide1 (E_13.out.trans (hb.mono E_13.out.size))
        clear hb E_13 Y_13 C3_13 C4_13
        obtain ⟨x0, hx0⟩ : ∃ x : Nat, x = xs[0]'(by omega) := ⟨_, rfl⟩
        obtain ⟨x1, hx1⟩ : ∃ x : Nat, x = xs[1]'(by omega) := ⟨_, rfl⟩
        have k0 : we.cell? ⟨p, 0, none⟩ = some (.int .i64 (x0 : Int)) := by rw [hx0]; exact kx 0 (by omega)
        have k1 : we.cell? ⟨p, 1, none⟩ = some (.int .i64 (x1 : Int)) := by rw [hx1]; exact kx 1 (by omega)
        have h0 : x0 < 10000 := by rw [hx0]; exact hxl _ (List.getElem_mem _)
        have h1 : x1 < 10000 := by rw [hx1]; exact hxl _ (List.getElem_mem _)
        clear kx hxl hx0 hx1
        obtain ⟨cp, w5, r5, hb5, hsz5, hcell, hfro⟩ := conv_bytes (P := Tryd.prog) we 9 22 5 S Tryd.underlying9 Tryd.underlying22 Tryd.underlying5
        have B5 := hide1 (B4.out.trans (hb5.mono B4.out.size))
        have k2 := (hb5.cell (p := ⟨p, 0, none⟩) hp2).trans k0
        have k3 := (hb5.cell (p := ⟨p, 1, none⟩) hp2).trans k1
        have hg4 := hide1 (B4.out.size)
        have hpg : ¬ p = we.heap.size := by omega
        generalize we.heap.size = gb at *
        have hti : x0 % S.size < S.size := Nat.mod_lt _ (by omega)
        have hrem : (x0 : Int) % (S.size : Int) = ((x0 % S.size : Nat) : Int) := by rw [Int.natCast_emod]
        have hz : ((S.size : Int) == 0) = false := beq_eq_false_iff_ne.2 (by omega)
        have x2 := hcell (x0 % S.size) hti
        have f2 := hfro (x0 % S.size) hti
        have HCELL := hide1 hcell
        generalize x0 % S.size = i at *
        have hv := byt_le S i
        obtain ⟨d, hd⟩ : ∃ d : Nat, d = 1 + x1 % 255 := ⟨_, rfl⟩
        have q1 : (x1 : Int) % 255 = (d : Int) - 1 := by omega
        have q2 : IntKind.i64.wrap (1 + ((d : Int) - 1)) = (d : Int) := by rw [IntWalk.i64_in _ ⟨by omega, by omega⟩]; omega
        have q3 : IntKind.u8.wrap (d : Int) = (d : Int) := by rw [IntKind.wrap_u8']; omega
        have q4 := u8_xor_nat (byt S i) d (by omega) (by omega)
        have hyne : byt S i ^^^ d ≠ byt S i := xor_ne (by omega)
        have hyl2 : byt S i ^^^ d < 256 := Nat.xor_lt_two_pow (n := 8) (by omega) (by omega)
        have HD := hide1 hd
        generalize hy : byt S i ^^^ d = y at *
        have hi' : (i : Int) < (S.size : Int) := by omega
        clear hcell hfro hb5 k0 k1 hd
        go_wp2
        go_region
        obtain ⟨b8, hbe, hbn⟩ := byte_of y (by omega)
        obtain ⟨l8, hl8⟩ : ∃ l : List UInt8, l = S.data.toList.set i b8 := ⟨_, rfl⟩
        have hll : l8.length = S.size := by rw [hl8, List.length_set, len_data]
        have hcv := run_convert_bytes_back (P := Tryd.prog) ((w5.setCell ⟨gb, i, none⟩ (.int .u8 (y : Int))).drew) 22 9 5 ⟨gb, 0, none⟩ cp l8 Tryd.underlying22 Tryd.underlying5 Tryd.underlying9 (by
          intro j hj
          rw [Addr.add_lit, Nat.zero_add]
          show (w5.setCell ⟨gb, i, none⟩ (.int .u8 (y : Int))).cell? ⟨gb, j, none⟩ = _
          have hj2 : j < S.size := by omega
          have hjl : j < S.data.toList.length := by rw [len_data]; exact hj2
          subst hl8
          by_cases hji : j = i
          · subst hji
            rw [World.cell?_setCell_same (w := w5) (a := ⟨gb, j, none⟩) (h := HCELL.out j hj2), List.getElem_set_self, hbn]
          · rw [World.cell?_setCell_other (w := w5) (a := ⟨gb, i, none⟩) (b := ⟨gb, j, none⟩) (h := fun h => hji (by injection h with _ h2 _; exact h2.symm)), HCELL.out j hj2, List.getElem_set_ne (fun h => hji h.symm)]
            unfold byt
            rw [List.getElem?_eq_getElem hjl]
            rfl)
        rw [hll] at hcv
        have hno := TURN.out ⟨l8.toArray⟩ i b8 hti (by
          intro h
          have : byt S i = y := by unfold byt; rw [h]; exact hbn
          exact hyne this.symm) hl8
        have hts2 : (⟨l8.toArray⟩ : ByteArray).size ≤ 1048576 := by show l8.toArray.size ≤ _; rw [List.size_toArray]; omega
        have B6 := hide1 ((B5.out.setCell (p := ⟨gb, i, none⟩) hg4.out (.int .u8 (y : Int))).drew)
        have CU := hide1 (implReadMsg_any ⟨l8.toArray⟩ _ hts2 (HT.out.later B6.out))
        rw [hno] at CU
        unfold msA at CU
        dsimp only [Option.getD, Option.isSome, zeroMs, List.length_nil] at CU
        generalize ({ data := l8.toArray } : ByteArray) = t' at hcv CU
        clear hno hl8 hll HCELL hbe hbn hts2
        go_wp2_with fail
        refine CU.out.mono ?_
        rintro e wf ⟨⟨ub9, uc9, rfl, ho9⟩, hb7⟩
        have B7 := hide1 (B6.out.trans (hb7.mono B6.out.size))
        clear hb7 ho9
        have FB := hide1 ((Below.refl wf.heap.size wf).alloc (Nat.le_refl _) (.cells #[.int .i64 0, .int .i64 0, .int .i64 0, .int .i64 0, .int .i64 0, .slice ub9 0 uc9] 26))
        go_wp2
        go_ret
        exact ⟨rfl, B7.out.trans (FB.out.mono B7.out.size)⟩
      · obtain rfl := hz9 rfl
        have qs : (z9.toList != z9.toList) = false := by simp
        go_wp2_with fail
        refine (CQ.out wd E_13.out).mono ?_
        rintro e we ⟨xs, p, pc, hx12, hxl, rfl, hp1, hp2, kx, hb⟩
        have B4 := hide1 (E_13.out.trans (hb.mono E_13.out.size))
        clear hb E_13 Y_13 C3_13 C4_13
        obtain ⟨x0, hx0⟩ : ∃ x : Nat, x = xs[0]'(by omega) := ⟨_, rfl⟩
        obtain ⟨x1, hx1⟩ : ∃ x : Nat, x = xs[1]'(by omega) := ⟨_, rfl⟩
        have k0 : we.cell? ⟨p, 0, none⟩ = some (.int .i64 (x0 : Int)) := by rw [hx0]; exact kx 0 (by omega)
        have k1 : we.cell? ⟨p, 1, none⟩ = some (.int .i64 (x1 : Int)) := by rw [hx1]; exact kx 1 (by omega)
        have h0 : x0 < 10000 := by rw [hx0]; exact hxl _ (List.getElem_mem _)
        have h1 : x1 < 10000 := by rw [hx1]; exact hxl _ (List.getElem_mem _)
        clear kx hxl hx0 hx1
        obtain ⟨cp, w5, r5, hb5, hsz5, hcell, hfro⟩ := conv_bytes (P := Tryd.prog) we 9 22 5 S Tryd.underlying9 Tryd.underlying22 Tryd.underlying5
        have B5 := hide1 (B4.out.trans (hb5.mono B4.out.size))
        have k2 := (hb5.cell (p := ⟨p, 0, none⟩) hp2).trans k0
        have k3 := (hb5.cell (p := ⟨p, 1, none⟩) hp2).trans k1
        have hg4 := hide1 (B4.out.size)
        have hpg : ¬ p = we.heap.size := by omega
        generalize we.heap.size = gb at *
        have hti : x0 % S.size < S.size := Nat.mod_lt _ (by omega)
        have hrem : (x0 : Int) % (S.size : Int) = ((x0 % S.size : Nat) : Int) := by rw [Int.natCast_emod]
        have hz : ((S.size : Int) == 0) = false := beq_eq_false_iff_ne.2 (by omega)
        have x2 := hcell (x0 % S.size) hti
        have f2 := hfro (x0 % S.size) hti
        have HCELL := hide1 hcell
        generalize x0 % S.size = i at *
        have hv := byt_le S i
        obtain ⟨d, hd⟩ : ∃ d : Nat, d = 1 + x1 % 255 := ⟨_, rfl⟩
        have q1 : (x1 : Int) % 255 = (d : Int) - 1 := by omega
        have q2 : IntKind.i64.wrap (1 + ((d : Int) - 1)) = (d : Int) := by rw [IntWalk.i64_in _ ⟨by omega, by omega⟩]; omega
        have q3 : IntKind.u8.wrap (d : Int) = (d : Int) := by rw [IntKind.wrap_u8']; omega
        have q4 := u8_xor_nat (byt S i) d (by omega) (by omega)
        have hyne : byt S i ^^^ d ≠ byt S i := xor_ne (by omega)
        have hyl2 : byt S i ^^^ d < 256 := Nat.xor_lt_two_pow (n := 8) (by omega) (by omega)
        have HD := hide1 hd
        generalize hy : byt S i ^^^ d = y at *
        have hi' : (i : Int) < (S.size : Int) := by omega
        clear hcell hfro hb5 k0 k1 hd
        go_wp2
        go_region
        obtain ⟨b8, hbe, hbn⟩ := byte_of y (by omega)
        obtain ⟨l8, hl8⟩ : ∃ l : List UInt8, l = S.data.toList.set i b8 := ⟨_, rfl⟩
        have hll : l8.length = S.size := by rw [hl8, List.length_set, len_data]
        have hcv := run_convert_bytes_back (P := Tryd.prog) ((w5.setCell ⟨gb, i, none⟩ (.int .u8 (y : Int))).drew) 22 9 5 ⟨gb, 0, none⟩ cp l8 Tryd.underlying22 Tryd.underlying5 Tryd.underlying9 (by
          intro j hj
          rw [Addr.add_lit, Nat.zero_add]
          show (w5.setCell ⟨gb, i, none⟩ (.int .u8 (y : Int))).cell? ⟨gb, j, none⟩ = _
          have hj2 : j < S.size := by omega
          have hjl : j < S.data.toList.length := by rw [len_data]; exact hj2
          subst hl8
          by_cases hji : j = i
          · subst hji
            rw [World.cell?_setCell_same (w := w5) (a := ⟨gb, j, none⟩) (h := HCELL.out j hj2), List.getElem_set_self, hbn]
          · rw [World.cell?_setCell_other (w := w5) (a := ⟨gb, i, none⟩) (b := ⟨gb, j, none⟩) (h := fun h => hji (by injection h with _ h2 _; exact h2.symm)), HCELL.out j hj2, List.getElem_set_ne (fun h => hji h.symm)]
            unfold byt
            rw [List.getElem?_eq_getElem hjl]
            rfl)
        rw [hll] at hcv
        have hno := TURN.out ⟨l8.toArray⟩ i b8 hti (by
          intro h
          have : byt S i = y := by unfold byt; rw [h]; exact hbn
          exact hyne this.symm) hl8
        have hts2 : (⟨l8.toArray⟩ : ByteArray).size ≤ 1048576 := by show l8.toArray.size ≤ _; rw [List.size_toArray]; omega
        have B6 := hide1 ((B5.out.setCell (p := ⟨gb, i, none⟩) hg4.out (.int .u8 (y : Int))).drew)
        have CU := hide1 (implReadMsg_any ⟨l8.toArray⟩ _ hts2 (HT.out.later B6.out))
        rw [hno] at CU
        unfold msA at CU
        dsimp only [Option.getD, Option.isSome, zeroMs, List.length_nil] at CU
        generalize ({ data := l8.toArray } : ByteArray) = t' at hcv CU
        clear hno hl8 hll HCELL hbe hbn hts2
        go_wp2_with fail
        refine CU.out.mono ?_
        rintro e wf ⟨⟨ub9, uc9, rfl, ho9⟩, hb7⟩
        have B7 := hide1 (B6.out.trans (hb7.mono B6.out.size))
        clear hb7 ho9
        have FB := hide1 ((Below.refl wf.heap.size wf).alloc (Nat.le_refl _) (.cells #[.int .i64 0, .int .i64 0, .int .i64 0, .int .i64 0, .int .i64 0, .slice ub9 0 uc9] 26))
        go_wp2
        go_ret
        exact ⟨rfl, B7.out.trans (FB.out.mono B7.out.size)⟩
  · go_enter Tryd.func3, Tryd.ntmps3
    go_wp2_with (go_at_call 6; refine (bigI_yes a len cap w (by omega)).mono ?_; rintro e w1 ⟨rfl, rfl⟩)
    go_ret
    exact ⟨rfl, Below.refl _ _⟩

theorem door_met_FnMsgs (os : Os) (args : Array Value) : laidMetH Tryd.prog Rows.fnMsgsRow.laid ((World.doorLaid Tryd.prog 14 os).forCall (fun _ _ => 0) ⟨#[], args, []⟩).memory :=
  laidMetH_of_parts3 (fuel := 8) (laidMet_of_run' 8 (by kernel_rfl) (by kernel_rfl)) (by kernel_rfl) (by kernel_rfl)

set_option maxRecDepth 100000 in
theorem lifted_FnMsgs (os : Os) (started : os.Started) (H : Type) (enc : TypeId × Value → H) :
    ReturnsInHanded {} Tryd.checked os 3 .any (fun w args => (Rows.fnMsgsSpec.pre enc Tryd.prog Tryd.f3 [] false w args ∧ laidMetH Tryd.prog Rows.fnMsgsRow.laid w) ∧ sizedMet enc Tryd.prog Tryd.f3 (OpenSpec.ofChange Rows.fnMsgsSpec) false w args)
      (Rows.fnMsgsSpec.post enc Tryd.prog Tryd.f3 false true false false) := by
  refine returnsInHanded_of_change_and (C := Tryd.checked) (X := fun w _ => laidMetH Tryd.prog Rows.fnMsgsRow.laid w) (fun _ _ _ hh h => h.of_heap hh) (show ownKnob Tryd.prog.godebug = none by kernel_rfl) started (by kernel_rfl) Tryd.func3
    (ChangeSpec.witness_shaped (enc := enc) (C := Tryd.checked) (os := os) (X := fun w _ => laidMetH Tryd.prog Rows.fnMsgsRow.laid w) false (World.doorLaid Tryd.prog 14 os) #[.slice none 0 0] 8 rfl (World.shaped_of_RefB (by kernel_rfl) (by kernel_rfl)) (by kernel_rfl) (by kernel_rfl) (by kernel_rfl) (door_met_FnMsgs os _)) ?_
  intro W base args ds gs before hval0 hW _ _ hL _
  have hval : ∀ (j : Nat) t v, Tryd.f3.params[j]? = some t → args[j]? = some v → Value.okWide Tryd.prog W .any base t v := hval0
  have hW' := hW
  obtain ⟨p, q, hA0, hV, rfl, hfz, hnd⟩ := hW
  have hA : DataW.TrodAll enc Tryd.prog W 0 (fun _ => true) true Tryd.f3.params.toList args.toList ds p := hA0
  rw [Tryd.params3] at hA hval
  obtain ⟨v0, d0, rfl, rfl, h0⟩ := trodAll_one hA
  obtain ⟨_, _, _, _, gd, _, rfl, _⟩ := trodVars_one hV
  obtain ⟨a0, len0, cap0, rfl⟩ := okWide_slice Tryd.underlying22 (hval 0 22 v0 rfl rfl)
  have k0 := h0
  have lt0 : ∀ x ∈ p, x.block < W.heap.size := by obtain ⟨m, hm⟩ := k0; exact DataW.trod_lt m _ _ _ hm
  have r0 : RowB W a0 len0 := by
    obtain ⟨fuel, hf⟩ := h0
    rcases Go.ChangeShapes.open_ints Tryd.underlying22 Tryd.underlying5 (by kernel_rfl) hf with ⟨hcs, _⟩ | ⟨x, l, c, zs, hcs, _, hl, hm, hz, _, hcell, hwz⟩
    · simp [Value.cells] at hcs
      obtain ⟨rfl, rfl, rfl⟩ := hcs
      exact fun j hj => absurd hj (Nat.not_lt_zero _)
    · simp [Value.cells] at hcs
      obtain ⟨rfl, rfl, rfl⟩ := hcs
      exact rowB_of hl (by simpa using hz) hcell (fun n hn => bounds_u8 (hwz n hn))
  have hX := of_laid_FnMsgs hL
  clear hA0 hval0
  refine (walk_FnMsgs a0 len0 cap0 W r0 hX).mono fun e W' ⟨he, bel⟩ => ?_
  subst he
  exact ⟨_, rfl, _, _, _, [], _, q, hW', trodAll_mk1 (shut_bool Tryd.underlying4 _), trodAll_mk1 (Below.trod (show laidOutB Tryd.prog = true by kernel_rfl) (by kernel_rfl) (of_decide_eq_true (by kernel_rfl)) k0 bel lt0), bel.trodVars (show laidOutB Tryd.prog = true by kernel_rfl) (by kernel_rfl) hV, bel.frame _, fun h => by cases h⟩

theorem row_FnMsgs : Rows.FnMsgsSaid :=
  OpenClaim.holds_of_wide 3 Tryd.f3 rfl rfl rfl rfl rfl rfl rfl ⟨rfl, rfl, rfl, rfl, rfl⟩ rfl rfl rfl rfl rfl (by kernel_rfl) Tryd.func3 (by kernel_rfl)
    (of_decide_eq_true (by kernel_rfl)) (by unfold Func.isWrapper; first | (rw [if_pos (by decide +kernel)]; kernel_rfl) | (rw [if_neg (by decide +kernel)]; exact ⟨rfl, rfl⟩))
    (fun os started H enc _ => lifted_FnMsgs os started H enc)

theorem proved_FnMsgs : Rows.FnMsgsCardSaid :=
  Claim7.holds_tied_plain_at .later [] Rows.fnMsgsCard.laidKinds true Rows.fnMsgsCard.stood.harness false
    row_FnMsgs (fun _ h => by cases h) (by kernel_rfl) (fun _ h => by cases h) fnMsgs_row_tie rfl ⟨rfl, rfl⟩ (by kernel_rfl) rfl
    (fun f fn hf hfn => by
      obtain rfl : f = 3 := Option.some.inj ((show Tryd.prog.funcNamed Tryd.f3.name = some 3 by kernel_rfl).symm.trans hf) |>.symm
      obtain rfl : fn = Tryd.f3 := (Option.some.inj (Tryd.func3.symm.trans hfn)).symm
      exact ⟨by kernel_rfl, fun j t ht => by
        rw [Tryd.params3] at ht
        have hm : t ∈ ([22] : List TypeId) := by simpa using Array.mem_of_getElem? ht
        have hall : (([22] : List TypeId).all fun u => !Tryd.prog.wantsStandIn u) = true := by kernel_rfl
        exact (show Tryd.prog.wantsStandIn t = false by simpa using List.all_eq_true.1 hall t hm)⟩)
    (by kernel_rfl)
#print axioms proved_FnMsgs
end Go.Proofs.YtbkhhkknhbddeaaDoor
