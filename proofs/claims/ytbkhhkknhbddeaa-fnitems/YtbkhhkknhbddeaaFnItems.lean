/- An item that is put into drawn items is there, unless one of its key is as new or newer; all else stays. -/
import Derived.Test.YtbkhhkknhbddeaaRows
import Derived.ProofKit
import Derived.OpenShut
import Derived.ShutString
import Derived.ChangeOld
import Derived.Deep.DeepCutAuto
import Derived.Test.YtbkhhkknhbddeaaDrawIm
import Derived.Test.YtbkhhkknhbddeaaImQ
import Derived.Test.YtbkhhkknhbddeaaBigI
import Derived.Test.YtbkhhkknhbddeaaImI
namespace Go.Proofs.Ytbkhhkknhbddeaa
open Go.ChangeShapes Go.WideShapes Go.ChangeAt Go.RowKit
open Go.ChangeMaps (open_string shut_string)
set_option linter.unusedVariables false
set_option maxRecDepth 100000 in
set_option maxHeartbeats 8000000 in
theorem walk_FnItems (a : Option Addr) (len cap : Nat) (w : World) (hr : RowB w a len) :
    Calls Try.prog 3 #[.slice a len cap] w fun e w' => e = .returned (.bool true) ∧ Below w.heap.size w w' := by
  by_cases hbig : len ≤ 1048576
  · have CB := hide1 (bigI_no a len cap w hbig)
    have CD := hide1 (drawIts_any w a len cap (hr.code hbig))
    clear hr
    go_enter Try.func3, Try.ntmps3
    go_wp2_with fail
    refine CB.out.mono ?_
    rintro e w1 ⟨rfl, rfl⟩
    clear CB
    go_wp2_with fail
    refine CD.out.mono ?_
    rintro e w1 ⟨⟨l, x, b, c, rfl, hol, hl5, hox, hR⟩, hb1⟩
    have PF0 := put_facts hol hox (by omega)
    have HOL := hide1 hol
    have HOX := hide1 hox
    have HR := hide1 hR
    have B1 := hide1 hb1
    have PLn := putI_len l x
    obtain ⟨n, hn⟩ : ∃ n, putI l x = n := ⟨_, rfl⟩
    rw [hn] at PF0 PLn
    have HN := hide1 hn
    have PF := hide1 PF0
    have ZL := hide1 (okIms_z hol)
    have ZN := hide1 (okIms_z PF0.ok)
    have ZX := hide1 (okIm_z hox)
    clear hb1 hR CD hol hox hn PF0
    have FB := hide1 (And.intro (Blk.new w1 26 #[.string x.k, .string x.v, .int .i64 x.n]) ((Below.refl w1.heap.size w1).alloc (Nat.le_refl _) (.cells #[.string x.k, .string x.v, .int .i64 x.n] 26)))
    go_upto_region 4 with fail
    generalize (w1.alloc (.cells #[.string x.k, .string x.v, .int .i64 x.n] 26)) = w2 at FB ⊢
    obtain ⟨X, hX⟩ : ∃ G, G = w1.heap.size := ⟨_, rfl⟩
    have XK := hide1 FB.out.1
    rw [← hX] at XK ⊢
    have lX : X < w2.heap.size := XK.out.lt
    have Ew2 := hide1 FB.out.2
    clear FB hX
    have R2 := hide1 (HR.out.later Ew2.out)
    have x0 : w2.cell? ⟨X, 0, none⟩ = some (.string x.k) := XK.out.cell 0
    have x1 : w2.cell? ⟨X, 1, none⟩ = some (.string x.v) := XK.out.cell 1
    have x2 : w2.cell? ⟨X, 2, none⟩ = some (.int .i64 x.n) := XK.out.cell 2
    have CP := hide1 (implPutItem_any b l c x w2 (by omega) ZL.out ZX.out R2.out)
    rw [HN.out] at CP
    go_wp2_with fail
    refine CP.out.mono ?_
    rintro e w3 ⟨⟨nb, nc, rfl, hO3⟩, hb3⟩
    have N3 := hide1 (rdG_of_own encIm.len hO3 rfl)
    have E3 := hide1 hb3
    clear hO3 hb3 CP x0 x1 x2
    have R3 := hide1 (R2.out.later E3.out)
    have x0 : w3.cell? ⟨X, 0, none⟩ = some (.string x.k) := (E3.out.cell (p := ⟨X, 0, none⟩) lX).trans (XK.out.cell 0)
    obtain ⟨old, hold⟩ : ∃ o, imOf l x.k = o := ⟨_, rfl⟩
    obtain ⟨now, hnow⟩ : ∃ o, imOf n x.k = o := ⟨_, rfl⟩
    have CO := hide1 (implItemOf_any b l c x.k w3 (by omega) ZL.out ZX.out.1 R3.out)
    rw [hold] at CO
    go_wp2_with fail
    refine CO.out.mono ?_
    rintro e w4 ⟨rfl, hb4⟩
    have E4 := hide1 (E3.out.trans (hb4.mono E3.out.size))
    have N4 := hide1 (N3.out.later hb4)
    have R4 := hide1 (R3.out.later hb4)
    clear hb4 CO x0 R3 N3 E3
    have FB := hide1 (And.intro (Blk.new w4 26 #[.string old.k, .string old.v, .int .i64 old.n]) ((Below.refl w4.heap.size w4).alloc (Nat.le_refl _) (.cells #[.string old.k, .string old.v, .int .i64 old.n] 26)))
    go_upto_region 6 with fail
    generalize (w4.alloc (.cells #[.string old.k, .string old.v, .int .i64 old.n] 26)) = w5 at FB ⊢
    obtain ⟨O, hO⟩ : ∃ G, G = w4.heap.size := ⟨_, rfl⟩
    have OK := hide1 FB.out.1
    rw [← hO] at OK ⊢
    have lO : O < w5.heap.size := OK.out.lt
    have Ew5 := hide1 FB.out.2
    clear FB hO
    have E5 := hide1 (E4.out.trans (Ew5.out.mono E4.out.size))
    have N5 := hide1 (N4.out.later Ew5.out)
    have R5 := hide1 (R4.out.later Ew5.out)
    have x0 : w5.cell? ⟨X, 0, none⟩ = some (.string x.k) := (E5.out.cell (p := ⟨X, 0, none⟩) lX).trans (XK.out.cell 0)
    have CW := hide1 (implItemOf_any nb n nc x.k w5 (by omega) ZN.out ZX.out.1 N5.out)
    rw [hnow] at CW
    clear E4 N4 R4
    go_wp2_with fail
    refine CW.out.mono ?_
    rintro e w6 ⟨rfl, hb6⟩
    have E6 := hide1 (E5.out.trans (hb6.mono E5.out.size))
    have N6 := hide1 (N5.out.later hb6)
    have R6 := hide1 (R5.out.later hb6)
    have OK6 := hide1 (OK.out.below hb6 lO)
    have lO6 : O < w6.heap.size := OK6.out.lt
    clear hb6 CW x0 N5 R5 E5 OK
    have FB := hide1 (And.intro (Blk.new w6 26 #[.string now.k, .string now.v, .int .i64 now.n]) ((Below.refl w6.heap.size w6).alloc (Nat.le_refl _) (.cells #[.string now.k, .string now.v, .int .i64 now.n] 26)))
    go_upto_region 7 with fail
    generalize (w6.alloc (.cells #[.string now.k, .string now.v, .int .i64 now.n] 26)) = w7 at FB ⊢
    obtain ⟨N, hN⟩ : ∃ G, G = w6.heap.size := ⟨_, rfl⟩
    have NK := hide1 FB.out.1
    rw [← hN] at NK ⊢
    have lN : N < w7.heap.size := NK.out.lt
    have Ew7 := hide1 FB.out.2
    clear FB hN
    have E7 := hide1 (E6.out.trans (Ew7.out.mono E6.out.size))
    have N7 := hide1 (N6.out.later Ew7.out)
    have R7 := hide1 (R6.out.later Ew7.out)
    have OK7 := hide1 (OK6.out.below Ew7.out lO6)
    have XK7 := hide1 (XK.out.below E7.out lX)
    have lO7 : O < w7.heap.size := OK7.out.lt
    have lX7 : X < w7.heap.size := XK7.out.lt
    clear E6 N6 R6 OK6
    have CK := hide1 (implItemsOk_any nb n nc w7 (by omega) ZN.out N7.out)
    rw [decide_eq_true PF.out.ok] at CK
    have HY := hide1 (show x.n ≤ old.n → now = old by rw [← hold, ← hnow]; exact PF.out.yes)
    have HNo := hide1 (show old.n < x.n → now = x by rw [← hold, ← hnow]; exact PF.out.no)
    have hgd := guardIm
    have BW := hide1 (show Below w.heap.size w w7 from (B1.out.trans (Ew2.out.mono B1.out.size)).trans (E7.out.mono (by have := B1.out.size; have := Ew2.out.size; omega)))
    clear hold hnow
    go_cut [5, 53] (fun nv dv wx => nv = .slice nb n.length nc ∧ dv = .bool false ∧ Hid (Below w7.heap.size w7 wx))
    case first =>
      by_cases cv : x.n ≤ old.n
      · have hno := HY.out cv
        have qv : decide (x.n ≤ old.n) = true := decide_eq_true cv
        have qv2 : decide (old.n < x.n) = false := decide_eq_false (by omega)
        have hqv : ∀ w, (Op.equalIn 10000 26 (.agg #[.string now.k, .string now.v, .int .i64 now.n]) (.agg #[.string old.k, .string old.v, .int .i64 old.n])).run Try.prog w = .ok true w := fun w => by rw [hno]; exact eqImV 9998 old.k old.v old.n w
        clear hno
        clear HY HNo
        go_wp2_with (go_at_call 13; refine CK.out.mono ?_; rintro e w8 ⟨rfl, hb8⟩; have Q8 := hide1 hb8; have x0 : w8.cell? ⟨X, 0, none⟩ = some (.string x.k) := (hb8.cell (p := ⟨X, 0, none⟩) lX7).trans (XK7.out.cell 0); have x1 : w8.cell? ⟨X, 1, none⟩ = some (.string x.v) := (hb8.cell (p := ⟨X, 1, none⟩) lX7).trans (XK7.out.cell 1); have x2 : w8.cell? ⟨X, 2, none⟩ = some (.int .i64 x.n) := (hb8.cell (p := ⟨X, 2, none⟩) lX7).trans (XK7.out.cell 2); have o0 : w8.cell? ⟨O, 0, none⟩ = some (.string old.k) := (hb8.cell (p := ⟨O, 0, none⟩) lO7).trans (OK7.out.cell 0); have o1 : w8.cell? ⟨O, 1, none⟩ = some (.string old.v) := (hb8.cell (p := ⟨O, 1, none⟩) lO7).trans (OK7.out.cell 1); have o2 : w8.cell? ⟨O, 2, none⟩ = some (.int .i64 old.n) := (hb8.cell (p := ⟨O, 2, none⟩) lO7).trans (OK7.out.cell 2); have n0 : w8.cell? ⟨N, 0, none⟩ = some (.string now.k) := (hb8.cell (p := ⟨N, 0, none⟩) lN).trans (NK.out.cell 0); have n1 : w8.cell? ⟨N, 1, none⟩ = some (.string now.v) := (hb8.cell (p := ⟨N, 1, none⟩) lN).trans (NK.out.cell 1); have n2 : w8.cell? ⟨N, 2, none⟩ = some (.int .i64 now.n) := (hb8.cell (p := ⟨N, 2, none⟩) lN).trans (NK.out.cell 2); clear hb8)
        go_meet
        exact ⟨rfl, rfl, Q8⟩
      · have hno := HNo.out (by omega)
        have qv : decide (x.n ≤ old.n) = false := decide_eq_false cv
        have qv2 : decide (old.n < x.n) = true := decide_eq_true (by omega)
        have hqv : ∀ w, (Op.equalIn 10000 26 (.agg #[.string now.k, .string now.v, .int .i64 now.n]) (.agg #[.string x.k, .string x.v, .int .i64 x.n])).run Try.prog w = .ok true w := fun w => by rw [hno]; exact eqImV 9998 x.k x.v x.n w
        clear hno
        clear HY HNo
        go_wp2_with (go_at_call 13; refine CK.out.mono ?_; rintro e w8 ⟨rfl, hb8⟩; have Q8 := hide1 hb8; have x0 : w8.cell? ⟨X, 0, none⟩ = some (.string x.k) := (hb8.cell (p := ⟨X, 0, none⟩) lX7).trans (XK7.out.cell 0); have x1 : w8.cell? ⟨X, 1, none⟩ = some (.string x.v) := (hb8.cell (p := ⟨X, 1, none⟩) lX7).trans (XK7.out.cell 1); have x2 : w8.cell? ⟨X, 2, none⟩ = some (.int .i64 x.n) := (hb8.cell (p := ⟨X, 2, none⟩) lX7).trans (XK7.out.cell 2); have o0 : w8.cell? ⟨O, 0, none⟩ = some (.string old.k) := (hb8.cell (p := ⟨O, 0, none⟩) lO7).trans (OK7.out.cell 0); have o1 : w8.cell? ⟨O, 1, none⟩ = some (.string old.v) := (hb8.cell (p := ⟨O, 1, none⟩) lO7).trans (OK7.out.cell 1); have o2 : w8.cell? ⟨O, 2, none⟩ = some (.int .i64 old.n) := (hb8.cell (p := ⟨O, 2, none⟩) lO7).trans (OK7.out.cell 2); have n0 : w8.cell? ⟨N, 0, none⟩ = some (.string now.k) := (hb8.cell (p := ⟨N, 0, none⟩) lN).trans (NK.out.cell 0); have n1 : w8.cell? ⟨N, 1, none⟩ = some (.string now.v) := (hb8.cell (p := ⟨N, 1, none⟩) lN).trans (NK.out.cell 1); have n2 : w8.cell? ⟨N, 2, none⟩ = some (.int .i64 now.n) := (hb8.cell (p := ⟨N, 2, none⟩) lN).trans (NK.out.cell 2); clear hb8)
        go_meet
        exact ⟨rfl, rfl, Q8⟩
    case rest =>
    obtain ⟨rfl, rfl, Q8⟩ := hcut
    clear CK HY HNo OK7 NK
    generalize wc = w8 at *
    go_wp2
    go_loopw [8] (fun iv wr => ∃ i : Nat, i ≤ l.length ∧ iv = .int .i64 (i : Int) ∧ Hid (Below w7.heap.size w7 wr)) (fun iv _ => l.length - (intOf iv).toNat)
    case atStart => exact ⟨0, Nat.zero_le _, rfl, Q8⟩
    case round =>
      obtain ⟨i, hi, rfl, BB⟩ := hrel
      by_cases hlt : i < l.length
      · have k1 : (i : Int) < (l.length : Int) := by omega
        obtain ⟨b9, o9, rfl, hb9, hc9⟩ := R7.out i hlt
        have y0 : wr.cell? ⟨b9, o9 + i * 3, none⟩ = some (.string l[i].k) := (BB.out.cell (p := ⟨b9, o9 + i * 3, none⟩) hb9).trans (hc9 0 (by omega))
        have y1 : wr.cell? ⟨b9, o9 + i * 3 + 1, none⟩ = some (.string l[i].v) := (BB.out.cell (p := ⟨b9, o9 + i * 3 + 1, none⟩) hb9).trans (hc9 1 (by omega))
        have y2 : wr.cell? ⟨b9, o9 + i * 3 + 2, none⟩ = some (.int .i64 l[i].n) := (BB.out.cell (p := ⟨b9, o9 + i * 3 + 2, none⟩) hb9).trans (hc9 2 (by omega))
        have x0 : wr.cell? ⟨X, 0, none⟩ = some (.string x.k) := (BB.out.cell (p := ⟨X, 0, none⟩) lX7).trans (XK7.out.cell 0)
        have hm := List.getElem_mem hlt
        have EL := hide1 (show ¬ l[i].k = x.k → imOf n l[i].k = l[i] from fun h => PF.out.el _ hm h)
        have CI := hide1 (fun w' (hb : Below w7.heap.size w7 w') => implItemOf_any nb n nc l[i].k w' (by omega) ZN.out (ZL.out _ hm).1 (N7.out.later hb))
        have lb9 : b9 < wr.heap.size := Nat.lt_of_lt_of_le hb9 BB.out.size
        have lX9 : X < wr.heap.size := Nat.lt_of_lt_of_le lX7 BB.out.size
        generalize l[i] = s at *
        clear hc9 hm
        by_cases ce : s.k = x.k
        · obtain ⟨q, q'⟩ := text_eq ce
          clear ce EL CI
          go_wp2_with fail
          go_quiet (fail)
          go_wp2
          go_roundw
          case rel => exact ⟨i + 1, by omega, by go_num, hide1 (below_drewN BB.out _)⟩
          case measure => simp [intOf]; omega
        · obtain ⟨q, q'⟩ := text_ne ce
          rw [EL.out ce] at CI
          have hqv : ∀ w, (Op.equalIn 10000 26 (.agg #[.string s.k, .string s.v, .int .i64 s.n]) (.agg #[.string s.k, .string s.v, .int .i64 s.n])).run Try.prog w = .ok true w := fun w => eqImV 9998 s.k s.v s.n w
          clear ce EL
          go_wp2_with fail
          go_region_held3 (fun w' => w'.cell? ⟨b9, o9 + i * 3, none⟩ = some (.string s.k) ∧ w'.cell? ⟨b9, o9 + i * 3 + 1, none⟩ = some (.string s.v) ∧ w'.cell? ⟨b9, o9 + i * 3 + 2, none⟩ = some (.int .i64 s.n) ∧ w'.cell? ⟨X, 0, none⟩ = some (.string x.k)) (first | go_keep | exact ⟨y0, y1, y2, x0⟩ | exact ⟨(hb2.cell lb9).trans y0, (hb2.cell lb9).trans y1, (hb2.cell lb9).trans y2, (hb2.cell lX9).trans x0⟩) ((go_at_call 12; refine (CI.out _ (BB.out.trans (show Below w7.heap.size wr _ by exact (Below.refl _ _).drew))).mono ?_; rintro e w9 ⟨rfl, hb2⟩))
          go_wp2
          go_roundw
          case rel => exact ⟨i + 1, by omega, by go_num, hide1 (BB.out.trans ((Below.refl _ _).drew.trans (hb2.mono BB.out.size)))⟩
          case measure => simp [intOf]; omega
      · obtain rfl : i = l.length := by omega
        have k1 : ¬ ((l.length : Int) < (l.length : Int)) := by omega
        have x0 : wr.cell? ⟨X, 0, none⟩ = some (.string x.k) := (BB.out.cell (p := ⟨X, 0, none⟩) lX7).trans (XK7.out.cell 0)
        have x1 : wr.cell? ⟨X, 1, none⟩ = some (.string x.v) := (BB.out.cell (p := ⟨X, 1, none⟩) lX7).trans (XK7.out.cell 1)
        have x2 : wr.cell? ⟨X, 2, none⟩ = some (.int .i64 x.n) := (BB.out.cell (p := ⟨X, 2, none⟩) lX7).trans (XK7.out.cell 2)
        have CP := hide1 (implPutItem_any nb n nc x wr (by omega) ZN.out ZX.out (N7.out.later BB.out))
        rw [PF.out.ag] at CP
        have CSp := hide1 (fun w' (hb : Below w7.heap.size w7 w') => specPutItem_any b l c x w' (by omega) (R7.out.later hb))
        rw [HN.out] at CSp
        go_wp2_with (first
          | (have := Q3.out; go_at_call 14; refine (sameIm_same nb sb n nc sc _ (by omega) (N7.out.later Q3.out) S3.out).mono ?_; rintro e v4 ⟨rfl, hv4⟩; have Q4 := hide1 (Q3.out.trans (hv4.mono Q3.out.size)); clear hv4)
          | (have := Q2.out; go_at_call 15; refine (CSp.out _ Q2.out).mono ?_; rintro e v3 ⟨⟨sb, sc, rfl, hs3, _⟩, hv3⟩; have Q3 := hide1 (Q2.out.trans (hv3.mono Q2.out.size)); have S3 := hide1 hs3; clear hv3 hs3)
          | (have := Q1.out; go_at_call 14; refine (sameIm_same pb nb n pc nc _ (by omega) P1.out (N7.out.later Q1.out)).mono ?_; rintro e v2 ⟨rfl, hv2⟩; have Q2 := hide1 (Q1.out.trans (hv2.mono Q1.out.size)); have x0 : v2.cell? ⟨X, 0, none⟩ = some (.string x.k) := (Q2.out.cell (p := ⟨X, 0, none⟩) lX7).trans (XK7.out.cell 0); have x1 : v2.cell? ⟨X, 1, none⟩ = some (.string x.v) := (Q2.out.cell (p := ⟨X, 1, none⟩) lX7).trans (XK7.out.cell 1); have x2 : v2.cell? ⟨X, 2, none⟩ = some (.int .i64 x.n) := (Q2.out.cell (p := ⟨X, 2, none⟩) lX7).trans (XK7.out.cell 2); clear hv2)
          | (go_at_call 11; refine CP.out.mono ?_; rintro e v1 ⟨⟨pb, pc, rfl, hp1⟩, hv1⟩; have Q1 := hide1 (BB.out.trans (hv1.mono BB.out.size)); have P1 := hide1 (rdG_of_own encIm.len hp1 rfl); clear hv1 hp1))
        go_ret
        exact ⟨rfl, BW.out.trans (Q4.out.mono BW.out.size)⟩
  · have CB := hide1 (bigI_yes a len cap w hbig)
    go_enter Try.func3, Try.ntmps3
    go_wp2_with fail
    refine CB.out.mono ?_
    rintro e w1 ⟨rfl, rfl⟩
    go_wp2
    go_ret
    exact ⟨rfl, Below.refl _ _⟩

set_option maxRecDepth 100000 in
theorem lifted_FnItems (os : Os) (started : os.Started) (H : Type) (enc : TypeId × Value → H) :
    ReturnsInHanded {} Try.checked os 3 .any (Rows.fnItemsSpec.pre6 enc Try.prog Try.f3 Rows.fnItemsRow.domain false) (Rows.fnItemsSpec.post enc Try.prog Try.f3 false true false false) := by
  refine returnsInHanded_of_change (C := Try.checked) (show ownKnob Try.prog.godebug = none by kernel_rfl) started (by kernel_rfl) Try.func3
    (ChangeSpec.witness6 (enc := enc) (C := Try.checked) false ⟨#[], #[.slice none 0 0], []⟩ 8 (by kernel_rfl) (by kernel_rfl) (by kernel_rfl) (by kernel_rfl)) ?_
  intro W base args ds gs before hval0 hW hcnd _
  have hval : ∀ (j : Nat) t v, Try.f3.params[j]? = some t → args[j]? = some v → Value.okWide Try.prog W .any base t v := hval0
  have hW' := hW
  obtain ⟨p, q, hA0, hV, rfl, hfz, hnd⟩ := hW
  have hA : DataW.TrodAll enc Try.prog W 0 (fun _ => true) true Try.f3.params.toList args.toList ds p := hA0
  rw [Try.params3] at hA hval
  obtain ⟨v0, d0, rfl, rfl, h0⟩ := trodAll_one hA
  obtain ⟨rfl, rfl⟩ := trodVars_none hV
  obtain ⟨a0, len0, cap0, rfl⟩ := okWide_slice Try.underlying22 (hval 0 22 v0 rfl rfl)
  have k0 := h0
  have lt0 : ∀ x ∈ p, x.block < W.heap.size := by obtain ⟨m, hm⟩ := k0; exact DataW.trod_lt m _ _ _ hm
  have r0 : RowB W a0 len0 := by
    obtain ⟨fuel, hf⟩ := h0
    rcases Go.ChangeShapes.open_ints Try.underlying22 Try.underlying5 (by kernel_rfl) hf with ⟨hcs, _⟩ | ⟨x, l, c, zs, hcs, _, hl, hm, hz, _, hcell, hwz⟩
    · simp [Value.cells] at hcs
      obtain ⟨rfl, rfl, rfl⟩ := hcs
      exact fun j hj => absurd hj (Nat.not_lt_zero _)
    · simp [Value.cells] at hcs
      obtain ⟨rfl, rfl, rfl⟩ := hcs
      exact rowB_of hl (by simpa using hz) hcell (fun n hn => bounds_u8 (hwz n hn))
  clear hA0 hval0
  refine (walk_FnItems a0 len0 cap0 W r0).mono fun e W' ⟨he, bel⟩ => ?_
  subst he
  exact ⟨_, rfl, _, _, _, [], _, [], hW', trodAll_mk1 (shut_bool Try.underlying4 _), trodAll_mk1 (Below.trod (show laidOutB Try.prog = true by kernel_rfl) (by kernel_rfl) (of_decide_eq_true (by kernel_rfl)) k0 bel lt0), rfl, bel.frame _, fun h => by cases h⟩

theorem proved_FnItems : Rows.FnItemsSaid :=
  OpenClaim.holds_of_wide 3 Try.f3 rfl rfl rfl rfl rfl rfl rfl ⟨rfl, rfl, rfl, rfl, rfl⟩ rfl rfl rfl rfl rfl (by kernel_rfl) Try.func3 (by kernel_rfl)
    (of_decide_eq_true (by kernel_rfl)) (by unfold Func.isWrapper; first | (rw [if_pos (by decide +kernel)]; kernel_rfl) | (rw [if_neg (by decide +kernel)]; exact ⟨rfl, rfl⟩))
    (fun os started H enc _ => lifted_FnItems os started H enc)
#print axioms proved_FnItems
end Go.Proofs.Ytbkhhkknhbddeaa
