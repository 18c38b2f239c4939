/- Members: the model's l14Ids, l14NoTask, MemberOk, Fall. -/
import Derived.Test.YtpjgplohlchpoaaGreatDoorUAH
import Derived.Test.YtpjgplohlchpoaaGreatDoorUAU
import Derived.Test.YtpjgplohlchpoaaGreatDoorUAP
import Derived.Deep.DeepCutAuto
namespace Go.Proofs.YtpjgplohlchpoaaGreatDoor
open Go.RowKit
set_option linter.unusedVariables false

def idTo (l : List Int) (i : Nat) : Prop := ∀ j (h : j < l.length), j < i → (1 ≤ l[j] ∧ l[j] ≤ 6) ∧ ∀ m (hm : m < l.length), m + 1 = j → l[m] < l[j]
theorem idTo_next {l : List Int} {i : Nat} (h : idTo l i) (hi : i < l.length) (h1 : 1 ≤ l[i] ∧ l[i] ≤ 6) (h2 : ∀ m (hm : m < l.length), m + 1 = i → l[m] < l[i]) : idTo l (i + 1) := fun j hj hlt => by
  by_cases c : j < i
  · exact h j hj c
  · have : j = i := (by omega)
    subst this
    exact ⟨h1, h2⟩
theorem asc_of {l : List Int} (h : ∀ i (hi : i + 1 < l.length), l[i] < l[i + 1]) : l.Pairwise (· < ·) := by
  rw [List.pairwise_iff_getElem]
  have key : ∀ d i (hj : i + d + 1 < l.length), l[i]'(by omega) < l[i + d + 1] := by
    intro d
    induction d with
    | zero => intro i hj; exact h i hj
    | succ d ih => intro i hj; exact Int.lt_trans (ih i (by omega)) (h (i + d + 1) (by omega))
  intro i j hi hj hij
  obtain ⟨d, rfl⟩ : ∃ d, j = i + d + 1 := ⟨j - i - 1, by omega⟩
  exact key d i hj
theorem idTo_all {l : List Int} (h : idTo l l.length) : okIds l := by
  refine ⟨fun x hx => ?_, asc_of (fun i hi => (h (i + 1) hi hi).2 i (by omega) rfl)⟩
  obtain ⟨j, hj, rfl⟩ := List.getElem_of_mem hx
  exact (h j hj hj).1
theorem ids_no {l : List Int} {i : Nat} (hi : i < l.length) (h : ¬ (1 ≤ l[i] ∧ l[i] ≤ 6)) : decide (okIds l) = false := decide_eq_false (fun e => h (e.1 _ (List.getElem_mem hi)))
theorem ids_no2 {l : List Int} {i m : Nat} (hi : i < l.length) (hm : m < l.length) (e : m + 1 = i) (h : ¬ l[m] < l[i]) : decide (okIds l) = false := decide_eq_false (fun o => h ((List.pairwise_iff_getElem.1 o.2) m i hm hi (by omega)))
set_option maxRecDepth 100000 in
set_option maxHeartbeats 4000000 in
theorem specIds_any (a : Option Addr) (l : List Int) (ca : Nat) (w : World) (hl : l.length ≤ 1048576) (hA : RdZ w a l) :
    Calls Tryz.prog 45 #[.slice a l.length ca] w fun e w' => e = .returned (.bool (decide (okIds l))) ∧ Below w.heap.size w w' := by
  have HA := hide1 hA
  clear hA
  go_enter Tryz.func45, Tryz.ntmps45
  go_wp2
  go_loopw [3] (fun iv wr => ∃ i : Nat, i ≤ l.length ∧ iv = .int .i64 (i : Int) ∧ Hid (idTo l i) ∧ Hid (Below w.heap.size w wr)) (fun iv _ => l.length - (intOf iv).toNat)
  case atStart => exact ⟨0, Nat.zero_le _, rfl, hide1 (fun j _ h => by omega), hide1 (Below.refl _ _)⟩
  case round =>
    obtain ⟨i, hi, rfl, HS, BB⟩ := hrel
    by_cases hlt : i < l.length
    · have k1 : (i : Int) < (l.length : Int) := by omega
      obtain ⟨b, o, hab, hb, hc⟩ := HA.out i hlt
      have x0 : wr.cell? ⟨b, o + i, none⟩ = some (.int .i64 l[i]) := (BB.out.cell (p := ⟨b, o + i, none⟩) hb).trans hc
      have NO := hide1 (fun h => ids_no hlt h)
      have YES := hide1 (fun h1 h2 => idTo_next HS.out hlt h1 h2)
      have PR := hide1 (fun m (hm : m < l.length) (e : m + 1 = i) => And.intro (fun h => ids_no2 hlt hm e h) (show wr.cell? ⟨b, o + m, none⟩ = some (.int .i64 l[m]) by obtain ⟨b', o', e', hb', hc'⟩ := HA.out m hm; rw [hab] at e'; injection e' with e'; injection e' with e1 e2; subst e1; subst e2; exact (BB.out.cell (p := ⟨_, _, none⟩) hb').trans hc'))
      have C1 := hide1 (fun w' => in_anyR l[i] 1 6 w')
      subst hab
      clear hc
      go_upto_region 4 with fail
      by_cases c1 : 1 ≤ l[i] ∧ l[i] ≤ 6
      · rw [in_yesI c1] at C1
        by_cases c4 : 0 < i
        · have q4 : decide ((0 : Int) < (i : Int)) = true := decide_eq_true (by omega)
          obtain ⟨m, hm⟩ : ∃ m, m + 1 = i := ⟨i - 1, by omega⟩
          have hml : m < l.length := by omega
          obtain ⟨P1, P2⟩ := PR.out m hml hm
          have YS := hide1 (fun (h : l[m] < l[i]) => YES.out c1 (fun m' hm' e' => by have : m' = m := (by omega); subst this; exact h))
          have P1h := hide1 P1
          have hsub : IntKind.i64.wrap ((i : Int) - 1) = (m : Int) := by rw [show (i : Int) - 1 = (m : Int) by omega]; exact IntWalk.i64_in _ ⟨by omega, by omega⟩
          have hsub2 : (i : Int) - 1 = (m : Int) := by omega
          have hm0 : (m : Int) < (l.length : Int) := by omega
          generalize l[m] = py at *
          generalize l[i] = ny at *
          clear P1 PR NO YES c1
          by_cases ct : py < ny
          · have qt : decide (ny ≤ py) = false := decide_eq_false (by omega)
            have CT := hide1 ct
            clear ct
            go_quiet ((go_at_call 23; (with_reducible exact Calls.quiet_of_same (C1.out _))))
            go_wp2
            go_roundw
            case rel => exact ⟨i + 1, by omega, by go_num, hide1 (YS.out CT.out), hide1 (below_drewN BB.out _)⟩
            case measure => simp [intOf]; omega
          · have qt : decide (ny ≤ py) = true := decide_eq_true (by omega)
            have RES := hide1 (P1h.out ct)
            clear ct
            go_quiet ((go_at_call 23; (with_reducible exact Calls.quiet_of_same (C1.out _))))
            go_wp2
            go_ret
            exact ⟨by rw [RES.out]; rfl, below_drewN BB.out _⟩
        · have q4 : decide ((0 : Int) < (i : Int)) = false := decide_eq_false (by omega)
          have YS := hide1 (YES.out c1 (fun m' hm' e' => by omega))
          generalize l[i] = ny at *
          clear PR NO YES c1
          go_quiet ((go_at_call 23; (with_reducible exact Calls.quiet_of_same (C1.out _))))
          go_wp2
          go_roundw
          case rel => exact ⟨i + 1, by omega, by go_num, YS, hide1 (below_drewN BB.out _)⟩
          case measure => simp [intOf]; omega
      · rw [in_noI c1] at C1
        have RES := hide1 (NO.out c1)
        generalize l[i] = ny at *
        clear PR NO YES c1
        go_quiet ((go_at_call 23; (with_reducible exact Calls.quiet_of_same (C1.out _))))
        go_wp2
        go_ret
        exact ⟨by rw [RES.out]; rfl, below_drewN BB.out _⟩
    · have k1 : ¬ (i : Int) < (l.length : Int) := by omega
      have he : i = l.length := by omega
      have RES := hide1 (show decide (okIds l) = true from decide_eq_true (idTo_all (by have := HS.out; rw [he] at this; exact this)))
      clear he
      go_wp2
      go_ret
      exact ⟨by rw [RES.out]; first | done | rfl, BB.out⟩
set_option maxRecDepth 100000 in
set_option maxHeartbeats 4000000 in
theorem specNoTask_any (t : Tk) (a : Option Addr) (ca : Nat) (w : World) (hl : t.lf.length ≤ 1048576) :
    Calls Tryz.prog 47 #[.agg #[.int .i64 t.op, .int .i64 t.cl, .int .i64 t.nu, .string t.it.k, .string t.it.v, .int .i64 t.it.n, .slice a t.lf.length ca]] w fun e w' => e = .returned (.bool (decide (noTk t))) ∧ Below w.heap.size w w' := by
  have F := hide1 ((Below.refl w.heap.size w).alloc (Nat.le_refl _) (.cells #[.int .i64 t.op, .int .i64 t.cl, .int .i64 t.nu, .string t.it.k, .string t.it.v, .int .i64 t.it.n, .slice a t.lf.length ca] 36))
  have QV := hide1 (fun w => eqIm_dec 9998 t.it zeroIm w)
  by_cases c0 : t.op = 0
  · have q0 : (t.op == 0) = true := by simp [c0]
    by_cases c1 : t.cl = 0
    · have q1 : (t.cl == 0) = true := by simp [c1]
      by_cases c2 : t.nu = 0
      · have q2 : (t.nu == 0) = true := by simp [c2]
        by_cases c3 : t.it = zeroIm
        · rw [decide_eq_true c3] at QV
          have qv : ∀ w, (Op.equalIn 10000 34 (.agg #[.string t.it.k, .string t.it.v, .int .i64 t.it.n]) (.agg #[.string ⟨#[]⟩, .string ⟨#[]⟩, .int .i64 0])).run Tryz.prog w = .ok true w := QV.out
          by_cases c4 : t.lf = []
          · have q4 : ((t.lf.length : Int) == 0) = true := by simp [c4]
            have RES := hide1 (show decide (noTk t) = true from decide_eq_true ⟨c0, c1, c2, c3, c4⟩)
            clear c0 c1 c2 c3 c4
            go_enter Tryz.func47, Tryz.ntmps47
            go_wp2
            go_ret
            exact ⟨by rw [RES.out]; first | rfl | simp_all, F.out⟩
          · have q4 : ((t.lf.length : Int) == 0) = false := by simp [c4]
            have RES := hide1 (show decide (noTk t) = false from decide_eq_false (fun h => c4 h.2.2.2.2))
            clear c0 c1 c2 c3 c4
            go_enter Tryz.func47, Tryz.ntmps47
            go_wp2
            go_ret
            exact ⟨by rw [RES.out]; first | rfl | simp_all, F.out⟩
        · rw [decide_eq_false c3] at QV
          have qv : ∀ w, (Op.equalIn 10000 34 (.agg #[.string t.it.k, .string t.it.v, .int .i64 t.it.n]) (.agg #[.string ⟨#[]⟩, .string ⟨#[]⟩, .int .i64 0])).run Tryz.prog w = .ok false w := QV.out
          have RES := hide1 (show decide (noTk t) = false from decide_eq_false (fun h => c3 h.2.2.2.1))
          clear c0 c1 c2 c3
          go_enter Tryz.func47, Tryz.ntmps47
          go_wp2
          go_ret
          exact ⟨by rw [RES.out]; first | rfl | simp_all, F.out⟩
      · have q2 : (t.nu == 0) = false := by simp [c2]
        have RES := hide1 (show decide (noTk t) = false from decide_eq_false (fun h => c2 h.2.2.1))
        clear c0 c1 c2
        go_enter Tryz.func47, Tryz.ntmps47
        go_wp2
        go_ret
        exact ⟨by rw [RES.out]; first | rfl | simp_all, F.out⟩
    · have q1 : (t.cl == 0) = false := by simp [c1]
      have RES := hide1 (show decide (noTk t) = false from decide_eq_false (fun h => c1 h.2.1))
      clear c0 c1
      go_enter Tryz.func47, Tryz.ntmps47
      go_wp2
      go_ret
      exact ⟨by rw [RES.out]; first | rfl | simp_all, F.out⟩
  · have q0 : (t.op == 0) = false := by simp [c0]
    have RES := hide1 (show decide (noTk t) = false from decide_eq_false (fun h => c0 h.1))
    clear c0
    go_enter Tryz.func47, Tryz.ntmps47
    go_wp2
    go_ret
    exact ⟨by rw [RES.out]; first | rfl | simp_all, F.out⟩
set_option maxRecDepth 100000 in
set_option maxHeartbeats 16000000 in
theorem specMemberOk_any (m : Mb) (A : MA) (w : World) (hl : SzMb m) (hA : RdMb w m A) :
    Calls Tryz.prog 21 #[mbV m A] w fun e w' => e = .returned (.bool (decide (okMb m))) ∧ Below w.heap.size w w' := by
  obtain ⟨id, ep, fe, ba, le, se, wa, is, cn, tk⟩ := m
  obtain ⟨hl1, hl2, hl3⟩ := hl
  obtain ⟨hr1, hr2, hr3⟩ := hA
  dsimp only at hl1 hl2 hl3 hr1 hr2 hr3
  unfold mbV
  dsimp only
  have F0 := hide1 (And.intro (Blk.new w 38 #[.int .i64 id, .int .i64 ep, .bool fe, .bool ba, .bool le, .bool se, .slice A.wa wa.length A.wc, .slice A.ia is.length A.ic, .int .i64 cn, .int .i64 tk.op, .int .i64 tk.cl, .int .i64 tk.nu, .string tk.it.k, .string tk.it.v, .int .i64 tk.it.n, .slice A.la tk.lf.length A.lc]) ((Below.refl w.heap.size w).alloc (Nat.le_refl _) (.cells #[.int .i64 id, .int .i64 ep, .bool fe, .bool ba, .bool le, .bool se, .slice A.wa wa.length A.wc, .slice A.ia is.length A.ic, .int .i64 cn, .int .i64 tk.op, .int .i64 tk.cl, .int .i64 tk.nu, .string tk.it.k, .string tk.it.v, .int .i64 tk.it.n, .slice A.la tk.lf.length A.lc] 38)))
  have C4 := hide1 (fun w' (hb : Below w.heap.size w w') => specIds_any A.wa wa A.wc w' hl1 (hr1.later hb))
  have C5 := hide1 (fun w' (hb : Below w.heap.size w w') => specIds_any A.la tk.lf A.lc w' hl3 (hr3.later hb))
  have C6 := hide1 (fun w' (hb : Below w.heap.size w w') => specItemsOk_any A.ia is A.ic w' (by omega) (hr2.later hb))
  have CT := hide1 (fun w' => specNoTask_any tk A.la A.lc w' hl3)
  have C0 := hide1 (fun w' => in_anyR id 1 6 w')
  have C1 := hide1 (fun w' => in_anyR ep 1 9 w')
  have C7 := hide1 (fun w' => in_anyR cn 0 900 w')
  have C8 := hide1 (fun w' => in_anyR tk.cl 0 1000 w')
  have C9 := hide1 (fun w' => in_anyR tk.nu 1 900 w')
  clear hr1 hr2 hr3
  go_enter Tryz.func21, Tryz.ntmps21
  simp only [List.append_eq, List.cons_append, List.nil_append]
  go_upto_region 1 with fail
  generalize (w.alloc (.cells #[.int .i64 id, .int .i64 ep, .bool fe, .bool ba, .bool le, .bool se, .slice A.wa wa.length A.wc, .slice A.ia is.length A.ic, .int .i64 cn, .int .i64 tk.op, .int .i64 tk.cl, .int .i64 tk.nu, .string tk.it.k, .string tk.it.v, .int .i64 tk.it.n, .slice A.la tk.lf.length A.lc] 38)) = u at F0 ⊢
  obtain ⟨X, hX⟩ : ∃ G, G = w.heap.size := ⟨_, rfl⟩
  have KX := hide1 F0.out.1
  rw [← hX] at KX ⊢
  have E0 := hide1 F0.out.2
  have lX : X < u.heap.size := KX.out.lt
  have sX : w.heap.size ≤ X := by omega
  clear F0 hX
  have y0 : u.cell? ⟨X, 0, none⟩ = some (.int .i64 id) := KX.out.cell 0
  have y1 : u.cell? ⟨X, 1, none⟩ = some (.int .i64 ep) := KX.out.cell 1
  have y2 : u.cell? ⟨X, 2, none⟩ = some (.bool fe) := KX.out.cell 2
  have y3 : u.cell? ⟨X, 3, none⟩ = some (.bool ba) := KX.out.cell 3
  have y4 : u.cell? ⟨X, 4, none⟩ = some (.bool le) := KX.out.cell 4
  have y5 : u.cell? ⟨X, 5, none⟩ = some (.bool se) := KX.out.cell 5
  have y6 : u.cell? ⟨X, 6, none⟩ = some (.slice A.wa wa.length A.wc) := KX.out.cell 6
  have y7 : u.cell? ⟨X, 7, none⟩ = some (.slice A.ia is.length A.ic) := KX.out.cell 7
  have y8 : u.cell? ⟨X, 8, none⟩ = some (.int .i64 cn) := KX.out.cell 8
  have y9 : u.cell? ⟨X, 9, none⟩ = some (.int .i64 tk.op) := KX.out.cell 9
  have y10 : u.cell? ⟨X, 10, none⟩ = some (.int .i64 tk.cl) := KX.out.cell 10
  have y11 : u.cell? ⟨X, 11, none⟩ = some (.int .i64 tk.nu) := KX.out.cell 11
  have y12 : u.cell? ⟨X, 12, none⟩ = some (.string tk.it.k) := KX.out.cell 12
  have y13 : u.cell? ⟨X, 13, none⟩ = some (.string tk.it.v) := KX.out.cell 13
  have y14 : u.cell? ⟨X, 14, none⟩ = some (.int .i64 tk.it.n) := KX.out.cell 14
  have y15 : u.cell? ⟨X, 15, none⟩ = some (.slice A.la tk.lf.length A.lc) := KX.out.cell 15
  have KZ := KX
  have EU := E0
  clear KX E0
  by_cases c0 : 1 ≤ id ∧ id ≤ 6
  · rw [in_yesI c0] at C0
    by_cases c1 : 1 ≤ ep ∧ ep ≤ 9
    · rw [in_yesI c1] at C1
      cases se with
      | true =>
        cases ba with
        | false =>
          have RES := hide1 (show decide (okMb ⟨id, ep, fe, false, le, true, wa, is, cn, tk⟩) = false from decide_eq_false (fun h => by have := (h.2.2.1 rfl).1; simp at this))
          go_wp2_with (first | (go_at_call 23; (first | (with_reducible refine (C0.out _).mono ?_) | (with_reducible refine (C1.out _).mono ?_) | (with_reducible refine (C7.out _).mono ?_) | (with_reducible refine (C8.out _).mono ?_) | (with_reducible refine (C9.out _).mono ?_)); rintro r ww ⟨rfl, rfl⟩) | (go_at_call 45; (first | (with_reducible refine (C4.out _ EU.out).mono ?_) | (with_reducible refine (C5.out _ EU.out).mono ?_)); rintro r w4 ⟨rfl, hb⟩; have KZ := hide1 (KZ.out.below hb KZ.out.lt); have EU := hide1 (EU.out.trans (hb.mono EU.out.size)); clear hb; have y5 : w4.cell? ⟨X, 5, none⟩ = some (.bool true) := KZ.out.cell 5; have y7 : w4.cell? ⟨X, 7, none⟩ = some (.slice A.ia is.length A.ic) := KZ.out.cell 7; have y8 : w4.cell? ⟨X, 8, none⟩ = some (.int .i64 cn) := KZ.out.cell 8; have y9 : w4.cell? ⟨X, 9, none⟩ = some (.int .i64 tk.op) := KZ.out.cell 9; have y10 : w4.cell? ⟨X, 10, none⟩ = some (.int .i64 tk.cl) := KZ.out.cell 10; have y11 : w4.cell? ⟨X, 11, none⟩ = some (.int .i64 tk.nu) := KZ.out.cell 11; have y12 : w4.cell? ⟨X, 12, none⟩ = some (.string tk.it.k) := KZ.out.cell 12; have y13 : w4.cell? ⟨X, 13, none⟩ = some (.string tk.it.v) := KZ.out.cell 13; have y14 : w4.cell? ⟨X, 14, none⟩ = some (.int .i64 tk.it.n) := KZ.out.cell 14; have y15 : w4.cell? ⟨X, 15, none⟩ = some (.slice A.la tk.lf.length A.lc) := KZ.out.cell 15) | (go_at_call 46; refine (C6.out _ EU.out).mono ?_; rintro r w6 ⟨rfl, hb⟩; clear C6; have KZ := hide1 (KZ.out.below hb KZ.out.lt); have EU := hide1 (EU.out.trans (hb.mono EU.out.size)); clear hb; have y5 : w6.cell? ⟨X, 5, none⟩ = some (.bool true) := KZ.out.cell 5; have y7 : w6.cell? ⟨X, 7, none⟩ = some (.slice A.ia is.length A.ic) := KZ.out.cell 7; have y8 : w6.cell? ⟨X, 8, none⟩ = some (.int .i64 cn) := KZ.out.cell 8; have y9 : w6.cell? ⟨X, 9, none⟩ = some (.int .i64 tk.op) := KZ.out.cell 9; have y10 : w6.cell? ⟨X, 10, none⟩ = some (.int .i64 tk.cl) := KZ.out.cell 10; have y11 : w6.cell? ⟨X, 11, none⟩ = some (.int .i64 tk.nu) := KZ.out.cell 11; have y12 : w6.cell? ⟨X, 12, none⟩ = some (.string tk.it.k) := KZ.out.cell 12; have y13 : w6.cell? ⟨X, 13, none⟩ = some (.string tk.it.v) := KZ.out.cell 13; have y14 : w6.cell? ⟨X, 14, none⟩ = some (.int .i64 tk.it.n) := KZ.out.cell 14; have y15 : w6.cell? ⟨X, 15, none⟩ = some (.slice A.la tk.lf.length A.lc) := KZ.out.cell 15))
          go_ret
          exact ⟨by rw [RES.out]; first | done | rfl, EU.out⟩
        | true =>
          cases le with
          | false =>
            have RES := hide1 (show decide (okMb ⟨id, ep, fe, true, false, true, wa, is, cn, tk⟩) = false from decide_eq_false (fun h => by have := (h.2.2.1 rfl).2.1; simp at this))
            go_wp2_with (first | (go_at_call 23; (first | (with_reducible refine (C0.out _).mono ?_) | (with_reducible refine (C1.out _).mono ?_) | (with_reducible refine (C7.out _).mono ?_) | (with_reducible refine (C8.out _).mono ?_) | (with_reducible refine (C9.out _).mono ?_)); rintro r ww ⟨rfl, rfl⟩) | (go_at_call 45; (first | (with_reducible refine (C4.out _ EU.out).mono ?_) | (with_reducible refine (C5.out _ EU.out).mono ?_)); rintro r w4 ⟨rfl, hb⟩; have KZ := hide1 (KZ.out.below hb KZ.out.lt); have EU := hide1 (EU.out.trans (hb.mono EU.out.size)); clear hb; have y5 : w4.cell? ⟨X, 5, none⟩ = some (.bool true) := KZ.out.cell 5; have y7 : w4.cell? ⟨X, 7, none⟩ = some (.slice A.ia is.length A.ic) := KZ.out.cell 7; have y8 : w4.cell? ⟨X, 8, none⟩ = some (.int .i64 cn) := KZ.out.cell 8; have y9 : w4.cell? ⟨X, 9, none⟩ = some (.int .i64 tk.op) := KZ.out.cell 9; have y10 : w4.cell? ⟨X, 10, none⟩ = some (.int .i64 tk.cl) := KZ.out.cell 10; have y11 : w4.cell? ⟨X, 11, none⟩ = some (.int .i64 tk.nu) := KZ.out.cell 11; have y12 : w4.cell? ⟨X, 12, none⟩ = some (.string tk.it.k) := KZ.out.cell 12; have y13 : w4.cell? ⟨X, 13, none⟩ = some (.string tk.it.v) := KZ.out.cell 13; have y14 : w4.cell? ⟨X, 14, none⟩ = some (.int .i64 tk.it.n) := KZ.out.cell 14; have y15 : w4.cell? ⟨X, 15, none⟩ = some (.slice A.la tk.lf.length A.lc) := KZ.out.cell 15) | (go_at_call 46; refine (C6.out _ EU.out).mono ?_; rintro r w6 ⟨rfl, hb⟩; clear C6; have KZ := hide1 (KZ.out.below hb KZ.out.lt); have EU := hide1 (EU.out.trans (hb.mono EU.out.size)); clear hb; have y5 : w6.cell? ⟨X, 5, none⟩ = some (.bool true) := KZ.out.cell 5; have y7 : w6.cell? ⟨X, 7, none⟩ = some (.slice A.ia is.length A.ic) := KZ.out.cell 7; have y8 : w6.cell? ⟨X, 8, none⟩ = some (.int .i64 cn) := KZ.out.cell 8; have y9 : w6.cell? ⟨X, 9, none⟩ = some (.int .i64 tk.op) := KZ.out.cell 9; have y10 : w6.cell? ⟨X, 10, none⟩ = some (.int .i64 tk.cl) := KZ.out.cell 10; have y11 : w6.cell? ⟨X, 11, none⟩ = some (.int .i64 tk.nu) := KZ.out.cell 11; have y12 : w6.cell? ⟨X, 12, none⟩ = some (.string tk.it.k) := KZ.out.cell 12; have y13 : w6.cell? ⟨X, 13, none⟩ = some (.string tk.it.v) := KZ.out.cell 13; have y14 : w6.cell? ⟨X, 14, none⟩ = some (.int .i64 tk.it.n) := KZ.out.cell 14; have y15 : w6.cell? ⟨X, 15, none⟩ = some (.slice A.la tk.lf.length A.lc) := KZ.out.cell 15))
            go_ret
            exact ⟨by rw [RES.out]; first | done | rfl, EU.out⟩
          | true =>
            by_cases cw : wa = []
            · have qw : decide ((0 : Int) < (wa.length : Int)) = false := by rw [cw]; rfl
              clear qw
              subst cw
              simp only [List.length_nil] at C4 KZ y6 ⊢
              cases fe with
              | true =>
                have RES := hide1 (show decide (okMb ⟨id, ep, true, true, true, true, [], is, cn, tk⟩) = false from decide_eq_false (fun h => by have := (h.2.2.2.1 rfl).1; simp at this))
                go_wp2_with (first | (go_at_call 23; (first | (with_reducible refine (C0.out _).mono ?_) | (with_reducible refine (C1.out _).mono ?_) | (with_reducible refine (C7.out _).mono ?_) | (with_reducible refine (C8.out _).mono ?_) | (with_reducible refine (C9.out _).mono ?_)); rintro r ww ⟨rfl, rfl⟩) | (go_at_call 45; (first | (with_reducible refine (C4.out _ EU.out).mono ?_) | (with_reducible refine (C5.out _ EU.out).mono ?_)); rintro r w4 ⟨rfl, hb⟩; have KZ := hide1 (KZ.out.below hb KZ.out.lt); have EU := hide1 (EU.out.trans (hb.mono EU.out.size)); clear hb; have y5 : w4.cell? ⟨X, 5, none⟩ = some (.bool true) := KZ.out.cell 5; have y7 : w4.cell? ⟨X, 7, none⟩ = some (.slice A.ia is.length A.ic) := KZ.out.cell 7; have y8 : w4.cell? ⟨X, 8, none⟩ = some (.int .i64 cn) := KZ.out.cell 8; have y9 : w4.cell? ⟨X, 9, none⟩ = some (.int .i64 tk.op) := KZ.out.cell 9; have y10 : w4.cell? ⟨X, 10, none⟩ = some (.int .i64 tk.cl) := KZ.out.cell 10; have y11 : w4.cell? ⟨X, 11, none⟩ = some (.int .i64 tk.nu) := KZ.out.cell 11; have y12 : w4.cell? ⟨X, 12, none⟩ = some (.string tk.it.k) := KZ.out.cell 12; have y13 : w4.cell? ⟨X, 13, none⟩ = some (.string tk.it.v) := KZ.out.cell 13; have y14 : w4.cell? ⟨X, 14, none⟩ = some (.int .i64 tk.it.n) := KZ.out.cell 14; have y15 : w4.cell? ⟨X, 15, none⟩ = some (.slice A.la tk.lf.length A.lc) := KZ.out.cell 15) | (go_at_call 46; refine (C6.out _ EU.out).mono ?_; rintro r w6 ⟨rfl, hb⟩; clear C6; have KZ := hide1 (KZ.out.below hb KZ.out.lt); have EU := hide1 (EU.out.trans (hb.mono EU.out.size)); clear hb; have y5 : w6.cell? ⟨X, 5, none⟩ = some (.bool true) := KZ.out.cell 5; have y7 : w6.cell? ⟨X, 7, none⟩ = some (.slice A.ia is.length A.ic) := KZ.out.cell 7; have y8 : w6.cell? ⟨X, 8, none⟩ = some (.int .i64 cn) := KZ.out.cell 8; have y9 : w6.cell? ⟨X, 9, none⟩ = some (.int .i64 tk.op) := KZ.out.cell 9; have y10 : w6.cell? ⟨X, 10, none⟩ = some (.int .i64 tk.cl) := KZ.out.cell 10; have y11 : w6.cell? ⟨X, 11, none⟩ = some (.int .i64 tk.nu) := KZ.out.cell 11; have y12 : w6.cell? ⟨X, 12, none⟩ = some (.string tk.it.k) := KZ.out.cell 12; have y13 : w6.cell? ⟨X, 13, none⟩ = some (.string tk.it.v) := KZ.out.cell 13; have y14 : w6.cell? ⟨X, 14, none⟩ = some (.int .i64 tk.it.n) := KZ.out.cell 14; have y15 : w6.cell? ⟨X, 15, none⟩ = some (.slice A.la tk.lf.length A.lc) := KZ.out.cell 15))
                go_ret
                exact ⟨by rw [RES.out]; first | done | rfl, EU.out⟩
              | false =>
                by_cases c4 : okIds []
                · rw [decide_eq_true c4] at C4
                  by_cases c5 : okIds tk.lf
                  · rw [decide_eq_true c5] at C5
                    by_cases c6 : okIms is
                    · rw [decide_eq_true c6] at C6
                      by_cases c7 : 0 ≤ cn ∧ cn ≤ 900
                      · rw [in_yesI c7] at C7
                        have OK := hide1 (show okTk tk true → okMb ⟨id, ep, false, true, true, true, [], is, cn, tk⟩ from fun h => ⟨c0, c1, (fun _ => ⟨rfl, rfl, rfl⟩), (fun e => by simp at e), c4, c5, c6, c7, h⟩)
                        clear c0 c1 c4 c5 c6 c7
                        go_upto_region 4 with (first | (go_at_call 23; (first | (with_reducible refine (C0.out _).mono ?_) | (with_reducible refine (C1.out _).mono ?_) | (with_reducible refine (C7.out _).mono ?_) | (with_reducible refine (C8.out _).mono ?_) | (with_reducible refine (C9.out _).mono ?_)); rintro r ww ⟨rfl, rfl⟩) | (go_at_call 45; (first | (with_reducible refine (C4.out _ EU.out).mono ?_) | (with_reducible refine (C5.out _ EU.out).mono ?_)); rintro r w4 ⟨rfl, hb⟩; have KZ := hide1 (KZ.out.below hb KZ.out.lt); have EU := hide1 (EU.out.trans (hb.mono EU.out.size)); clear hb; have y5 : w4.cell? ⟨X, 5, none⟩ = some (.bool true) := KZ.out.cell 5; have y7 : w4.cell? ⟨X, 7, none⟩ = some (.slice A.ia is.length A.ic) := KZ.out.cell 7; have y8 : w4.cell? ⟨X, 8, none⟩ = some (.int .i64 cn) := KZ.out.cell 8; have y9 : w4.cell? ⟨X, 9, none⟩ = some (.int .i64 tk.op) := KZ.out.cell 9; have y10 : w4.cell? ⟨X, 10, none⟩ = some (.int .i64 tk.cl) := KZ.out.cell 10; have y11 : w4.cell? ⟨X, 11, none⟩ = some (.int .i64 tk.nu) := KZ.out.cell 11; have y12 : w4.cell? ⟨X, 12, none⟩ = some (.string tk.it.k) := KZ.out.cell 12; have y13 : w4.cell? ⟨X, 13, none⟩ = some (.string tk.it.v) := KZ.out.cell 13; have y14 : w4.cell? ⟨X, 14, none⟩ = some (.int .i64 tk.it.n) := KZ.out.cell 14; have y15 : w4.cell? ⟨X, 15, none⟩ = some (.slice A.la tk.lf.length A.lc) := KZ.out.cell 15) | (go_at_call 46; refine (C6.out _ EU.out).mono ?_; rintro r w6 ⟨rfl, hb⟩; clear C6; have KZ := hide1 (KZ.out.below hb KZ.out.lt); have EU := hide1 (EU.out.trans (hb.mono EU.out.size)); clear hb; have y5 : w6.cell? ⟨X, 5, none⟩ = some (.bool true) := KZ.out.cell 5; have y7 : w6.cell? ⟨X, 7, none⟩ = some (.slice A.ia is.length A.ic) := KZ.out.cell 7; have y8 : w6.cell? ⟨X, 8, none⟩ = some (.int .i64 cn) := KZ.out.cell 8; have y9 : w6.cell? ⟨X, 9, none⟩ = some (.int .i64 tk.op) := KZ.out.cell 9; have y10 : w6.cell? ⟨X, 10, none⟩ = some (.int .i64 tk.cl) := KZ.out.cell 10; have y11 : w6.cell? ⟨X, 11, none⟩ = some (.int .i64 tk.nu) := KZ.out.cell 11; have y12 : w6.cell? ⟨X, 12, none⟩ = some (.string tk.it.k) := KZ.out.cell 12; have y13 : w6.cell? ⟨X, 13, none⟩ = some (.string tk.it.v) := KZ.out.cell 13; have y14 : w6.cell? ⟨X, 14, none⟩ = some (.int .i64 tk.it.n) := KZ.out.cell 14; have y15 : w6.cell? ⟨X, 15, none⟩ = some (.slice A.la tk.lf.length A.lc) := KZ.out.cell 15))
                        have FT := hide1 (And.intro (Blk.new ww 36 #[.int .i64 tk.op, .int .i64 tk.cl, .int .i64 tk.nu, .string tk.it.k, .string tk.it.v, .int .i64 tk.it.n, .slice A.la tk.lf.length A.lc]) ((Below.refl ww.heap.size ww).alloc (Nat.le_refl _) (.cells #[.int .i64 tk.op, .int .i64 tk.cl, .int .i64 tk.nu, .string tk.it.k, .string tk.it.v, .int .i64 tk.it.n, .slice A.la tk.lf.length A.lc] 36)))
                        generalize (ww.alloc (.cells #[.int .i64 tk.op, .int .i64 tk.cl, .int .i64 tk.nu, .string tk.it.k, .string tk.it.v, .int .i64 tk.it.n, .slice A.la tk.lf.length A.lc] 36)) = v at FT ⊢
                        obtain ⟨TB, hTB⟩ : ∃ G, G = ww.heap.size := ⟨_, rfl⟩
                        have KT := hide1 FT.out.1
                        rw [← hTB] at KT ⊢
                        have KW := hide1 (KZ.out.below FT.out.2 KZ.out.lt)
                        have EV := hide1 (EU.out.trans (FT.out.2.mono EU.out.size))
                        clear FT hTB KZ EU
                        have z0 : v.cell? ⟨TB, 0, none⟩ = some (.int .i64 tk.op) := KT.out.cell 0
                        have z1 : v.cell? ⟨TB, 1, none⟩ = some (.int .i64 tk.cl) := KT.out.cell 1
                        have z2 : v.cell? ⟨TB, 2, none⟩ = some (.int .i64 tk.nu) := KT.out.cell 2
                        have z3 : v.cell? ⟨TB, 3, none⟩ = some (.string tk.it.k) := KT.out.cell 3
                        have z4 : v.cell? ⟨TB, 4, none⟩ = some (.string tk.it.v) := KT.out.cell 4
                        have z5 : v.cell? ⟨TB, 5, none⟩ = some (.int .i64 tk.it.n) := KT.out.cell 5
                        have z6 : v.cell? ⟨TB, 6, none⟩ = some (.slice A.la tk.lf.length A.lc) := KT.out.cell 6
                        have y5 : v.cell? ⟨X, 5, none⟩ = some (.bool true) := KW.out.cell 5
                        have HN := hide1 (show ¬ okTk tk true → decide (okMb ⟨id, ep, false, true, true, true, [], is, cn, tk⟩) = false from fun h => decide_eq_false (fun e => h e.2.2.2.2.2.2.2.2))
                        by_cases d0 : noTk tk
                        · rw [decide_eq_true d0] at CT
                          have RES := hide1 (show decide (okMb ⟨id, ep, false, true, true, true, [], is, cn, tk⟩) = true from decide_eq_true (OK.out (.inl d0)))
                          clear OK HN
                          try clear d0
                          try clear d1
                          try clear d2
                          try clear d3
                          try clear e1
                          go_wp2_with (first | (go_at_call 47; refine (CT.out _).mono ?_; rintro r w8 ⟨rfl, hb8⟩; have KW := hide1 (KW.out.below hb8 KW.out.lt); have KT := hide1 (KT.out.below hb8 KT.out.lt); have EV := hide1 (EV.out.trans (hb8.mono EV.out.size)); clear hb8; have z0 : w8.cell? ⟨TB, 0, none⟩ = some (.int .i64 tk.op) := KT.out.cell 0; have z1 : w8.cell? ⟨TB, 1, none⟩ = some (.int .i64 tk.cl) := KT.out.cell 1; have z2 : w8.cell? ⟨TB, 2, none⟩ = some (.int .i64 tk.nu) := KT.out.cell 2; have y5 : w8.cell? ⟨X, 5, none⟩ = some (.bool true) := KW.out.cell 5) | (go_at_call 23; (first | (with_reducible refine (C8.out _).mono ?_) | (with_reducible refine (C9.out _).mono ?_)); rintro r wx ⟨rfl, rfl⟩))
                          go_ret
                          exact ⟨by rw [RES.out]; first | done | rfl, EV.out⟩
                        · rw [decide_eq_false d0] at CT
                          by_cases d1 : tk.op = 1
                          · have q1 : (tk.op == 1) = true := by simp [d1]
                            by_cases d2 : 0 ≤ tk.cl ∧ tk.cl ≤ 1000
                            · rw [in_yesI d2] at C8
                              by_cases d3 : 1 ≤ tk.nu ∧ tk.nu ≤ 900
                              · rw [in_yesI d3] at C9
                                have RES := hide1 (show decide (okMb ⟨id, ep, false, true, true, true, [], is, cn, tk⟩) = true from decide_eq_true (OK.out (.inr ⟨.inl d1, rfl, d2, d3⟩)))
                                clear OK HN
                                try clear d0
                                try clear d1
                                try clear d2
                                try clear d3
                                try clear e1
                                go_wp2_with (first | (go_at_call 47; refine (CT.out _).mono ?_; rintro r w8 ⟨rfl, hb8⟩; have KW := hide1 (KW.out.below hb8 KW.out.lt); have KT := hide1 (KT.out.below hb8 KT.out.lt); have EV := hide1 (EV.out.trans (hb8.mono EV.out.size)); clear hb8; have z0 : w8.cell? ⟨TB, 0, none⟩ = some (.int .i64 tk.op) := KT.out.cell 0; have z1 : w8.cell? ⟨TB, 1, none⟩ = some (.int .i64 tk.cl) := KT.out.cell 1; have z2 : w8.cell? ⟨TB, 2, none⟩ = some (.int .i64 tk.nu) := KT.out.cell 2; have y5 : w8.cell? ⟨X, 5, none⟩ = some (.bool true) := KW.out.cell 5) | (go_at_call 23; (first | (with_reducible refine (C8.out _).mono ?_) | (with_reducible refine (C9.out _).mono ?_)); rintro r wx ⟨rfl, rfl⟩))
                                go_ret
                                exact ⟨by rw [RES.out]; first | done | rfl, EV.out⟩
                              · rw [in_noI d3] at C9
                                have RES := hide1 (HN.out (fun e => by rcases e with e | e; exact d0 e; exact d3 e.2.2.2))
                                clear OK HN
                                try clear d0
                                try clear d1
                                try clear d2
                                try clear d3
                                try clear e1
                                go_wp2_with (first | (go_at_call 47; refine (CT.out _).mono ?_; rintro r w8 ⟨rfl, hb8⟩; have KW := hide1 (KW.out.below hb8 KW.out.lt); have KT := hide1 (KT.out.below hb8 KT.out.lt); have EV := hide1 (EV.out.trans (hb8.mono EV.out.size)); clear hb8; have z0 : w8.cell? ⟨TB, 0, none⟩ = some (.int .i64 tk.op) := KT.out.cell 0; have z1 : w8.cell? ⟨TB, 1, none⟩ = some (.int .i64 tk.cl) := KT.out.cell 1; have z2 : w8.cell? ⟨TB, 2, none⟩ = some (.int .i64 tk.nu) := KT.out.cell 2; have y5 : w8.cell? ⟨X, 5, none⟩ = some (.bool true) := KW.out.cell 5) | (go_at_call 23; (first | (with_reducible refine (C8.out _).mono ?_) | (with_reducible refine (C9.out _).mono ?_)); rintro r wx ⟨rfl, rfl⟩))
                                go_ret
                                exact ⟨by rw [RES.out]; first | done | rfl, EV.out⟩
                            · rw [in_noI d2] at C8
                              have RES := hide1 (HN.out (fun e => by rcases e with e | e; exact d0 e; exact d2 e.2.2.1))
                              clear OK HN
                              try clear d0
                              try clear d1
                              try clear d2
                              try clear d3
                              try clear e1
                              go_wp2_with (first | (go_at_call 47; refine (CT.out _).mono ?_; rintro r w8 ⟨rfl, hb8⟩; have KW := hide1 (KW.out.below hb8 KW.out.lt); have KT := hide1 (KT.out.below hb8 KT.out.lt); have EV := hide1 (EV.out.trans (hb8.mono EV.out.size)); clear hb8; have z0 : w8.cell? ⟨TB, 0, none⟩ = some (.int .i64 tk.op) := KT.out.cell 0; have z1 : w8.cell? ⟨TB, 1, none⟩ = some (.int .i64 tk.cl) := KT.out.cell 1; have z2 : w8.cell? ⟨TB, 2, none⟩ = some (.int .i64 tk.nu) := KT.out.cell 2; have y5 : w8.cell? ⟨X, 5, none⟩ = some (.bool true) := KW.out.cell 5) | (go_at_call 23; (first | (with_reducible refine (C8.out _).mono ?_) | (with_reducible refine (C9.out _).mono ?_)); rintro r wx ⟨rfl, rfl⟩))
                              go_ret
                              exact ⟨by rw [RES.out]; first | done | rfl, EV.out⟩
                          · have q1 : (tk.op == 1) = false := by simp [d1]
                            by_cases e1 : tk.op = 2
                            · have q2 : (tk.op == 2) = true := by simp [e1]
                              by_cases d2 : 0 ≤ tk.cl ∧ tk.cl ≤ 1000
                              · rw [in_yesI d2] at C8
                                by_cases d3 : 1 ≤ tk.nu ∧ tk.nu ≤ 900
                                · rw [in_yesI d3] at C9
                                  have RES := hide1 (show decide (okMb ⟨id, ep, false, true, true, true, [], is, cn, tk⟩) = true from decide_eq_true (OK.out (.inr ⟨.inr e1, rfl, d2, d3⟩)))
                                  clear OK HN
                                  try clear d0
                                  try clear d1
                                  try clear d2
                                  try clear d3
                                  try clear e1
                                  go_wp2_with (first | (go_at_call 47; refine (CT.out _).mono ?_; rintro r w8 ⟨rfl, hb8⟩; have KW := hide1 (KW.out.below hb8 KW.out.lt); have KT := hide1 (KT.out.below hb8 KT.out.lt); have EV := hide1 (EV.out.trans (hb8.mono EV.out.size)); clear hb8; have z0 : w8.cell? ⟨TB, 0, none⟩ = some (.int .i64 tk.op) := KT.out.cell 0; have z1 : w8.cell? ⟨TB, 1, none⟩ = some (.int .i64 tk.cl) := KT.out.cell 1; have z2 : w8.cell? ⟨TB, 2, none⟩ = some (.int .i64 tk.nu) := KT.out.cell 2; have y5 : w8.cell? ⟨X, 5, none⟩ = some (.bool true) := KW.out.cell 5) | (go_at_call 23; (first | (with_reducible refine (C8.out _).mono ?_) | (with_reducible refine (C9.out _).mono ?_)); rintro r wx ⟨rfl, rfl⟩))
                                  go_ret
                                  exact ⟨by rw [RES.out]; first | done | rfl, EV.out⟩
                                · rw [in_noI d3] at C9
                                  have RES := hide1 (HN.out (fun e => by rcases e with e | e; exact d0 e; exact d3 e.2.2.2))
                                  clear OK HN
                                  try clear d0
                                  try clear d1
                                  try clear d2
                                  try clear d3
                                  try clear e1
                                  go_wp2_with (first | (go_at_call 47; refine (CT.out _).mono ?_; rintro r w8 ⟨rfl, hb8⟩; have KW := hide1 (KW.out.below hb8 KW.out.lt); have KT := hide1 (KT.out.below hb8 KT.out.lt); have EV := hide1 (EV.out.trans (hb8.mono EV.out.size)); clear hb8; have z0 : w8.cell? ⟨TB, 0, none⟩ = some (.int .i64 tk.op) := KT.out.cell 0; have z1 : w8.cell? ⟨TB, 1, none⟩ = some (.int .i64 tk.cl) := KT.out.cell 1; have z2 : w8.cell? ⟨TB, 2, none⟩ = some (.int .i64 tk.nu) := KT.out.cell 2; have y5 : w8.cell? ⟨X, 5, none⟩ = some (.bool true) := KW.out.cell 5) | (go_at_call 23; (first | (with_reducible refine (C8.out _).mono ?_) | (with_reducible refine (C9.out _).mono ?_)); rintro r wx ⟨rfl, rfl⟩))
                                  go_ret
                                  exact ⟨by rw [RES.out]; first | done | rfl, EV.out⟩
                              · rw [in_noI d2] at C8
                                have RES := hide1 (HN.out (fun e => by rcases e with e | e; exact d0 e; exact d2 e.2.2.1))
                                clear OK HN
                                try clear d0
                                try clear d1
                                try clear d2
                                try clear d3
                                try clear e1
                                go_wp2_with (first | (go_at_call 47; refine (CT.out _).mono ?_; rintro r w8 ⟨rfl, hb8⟩; have KW := hide1 (KW.out.below hb8 KW.out.lt); have KT := hide1 (KT.out.below hb8 KT.out.lt); have EV := hide1 (EV.out.trans (hb8.mono EV.out.size)); clear hb8; have z0 : w8.cell? ⟨TB, 0, none⟩ = some (.int .i64 tk.op) := KT.out.cell 0; have z1 : w8.cell? ⟨TB, 1, none⟩ = some (.int .i64 tk.cl) := KT.out.cell 1; have z2 : w8.cell? ⟨TB, 2, none⟩ = some (.int .i64 tk.nu) := KT.out.cell 2; have y5 : w8.cell? ⟨X, 5, none⟩ = some (.bool true) := KW.out.cell 5) | (go_at_call 23; (first | (with_reducible refine (C8.out _).mono ?_) | (with_reducible refine (C9.out _).mono ?_)); rintro r wx ⟨rfl, rfl⟩))
                                go_ret
                                exact ⟨by rw [RES.out]; first | done | rfl, EV.out⟩
                            · have q2 : (tk.op == 2) = false := by simp [e1]
                              have RES := hide1 (HN.out (fun e => by rcases e with e | e; exact d0 e; exact e.1.elim d1 e1))
                              clear OK HN
                              try clear d0
                              try clear d1
                              try clear d2
                              try clear d3
                              try clear e1
                              go_wp2_with (first | (go_at_call 47; refine (CT.out _).mono ?_; rintro r w8 ⟨rfl, hb8⟩; have KW := hide1 (KW.out.below hb8 KW.out.lt); have KT := hide1 (KT.out.below hb8 KT.out.lt); have EV := hide1 (EV.out.trans (hb8.mono EV.out.size)); clear hb8; have z0 : w8.cell? ⟨TB, 0, none⟩ = some (.int .i64 tk.op) := KT.out.cell 0; have z1 : w8.cell? ⟨TB, 1, none⟩ = some (.int .i64 tk.cl) := KT.out.cell 1; have z2 : w8.cell? ⟨TB, 2, none⟩ = some (.int .i64 tk.nu) := KT.out.cell 2; have y5 : w8.cell? ⟨X, 5, none⟩ = some (.bool true) := KW.out.cell 5) | (go_at_call 23; (first | (with_reducible refine (C8.out _).mono ?_) | (with_reducible refine (C9.out _).mono ?_)); rintro r wx ⟨rfl, rfl⟩))
                              go_ret
                              exact ⟨by rw [RES.out]; first | done | rfl, EV.out⟩
                      · rw [in_noI c7] at C7
                        have RES := hide1 (show decide (okMb ⟨id, ep, false, true, true, true, [], is, cn, tk⟩) = false from decide_eq_false (fun h => c7 h.2.2.2.2.2.2.2.1))
                        go_wp2_with (first | (go_at_call 23; (first | (with_reducible refine (C0.out _).mono ?_) | (with_reducible refine (C1.out _).mono ?_) | (with_reducible refine (C7.out _).mono ?_) | (with_reducible refine (C8.out _).mono ?_) | (with_reducible refine (C9.out _).mono ?_)); rintro r ww ⟨rfl, rfl⟩) | (go_at_call 45; (first | (with_reducible refine (C4.out _ EU.out).mono ?_) | (with_reducible refine (C5.out _ EU.out).mono ?_)); rintro r w4 ⟨rfl, hb⟩; have KZ := hide1 (KZ.out.below hb KZ.out.lt); have EU := hide1 (EU.out.trans (hb.mono EU.out.size)); clear hb; have y5 : w4.cell? ⟨X, 5, none⟩ = some (.bool true) := KZ.out.cell 5; have y7 : w4.cell? ⟨X, 7, none⟩ = some (.slice A.ia is.length A.ic) := KZ.out.cell 7; have y8 : w4.cell? ⟨X, 8, none⟩ = some (.int .i64 cn) := KZ.out.cell 8; have y9 : w4.cell? ⟨X, 9, none⟩ = some (.int .i64 tk.op) := KZ.out.cell 9; have y10 : w4.cell? ⟨X, 10, none⟩ = some (.int .i64 tk.cl) := KZ.out.cell 10; have y11 : w4.cell? ⟨X, 11, none⟩ = some (.int .i64 tk.nu) := KZ.out.cell 11; have y12 : w4.cell? ⟨X, 12, none⟩ = some (.string tk.it.k) := KZ.out.cell 12; have y13 : w4.cell? ⟨X, 13, none⟩ = some (.string tk.it.v) := KZ.out.cell 13; have y14 : w4.cell? ⟨X, 14, none⟩ = some (.int .i64 tk.it.n) := KZ.out.cell 14; have y15 : w4.cell? ⟨X, 15, none⟩ = some (.slice A.la tk.lf.length A.lc) := KZ.out.cell 15) | (go_at_call 46; refine (C6.out _ EU.out).mono ?_; rintro r w6 ⟨rfl, hb⟩; clear C6; have KZ := hide1 (KZ.out.below hb KZ.out.lt); have EU := hide1 (EU.out.trans (hb.mono EU.out.size)); clear hb; have y5 : w6.cell? ⟨X, 5, none⟩ = some (.bool true) := KZ.out.cell 5; have y7 : w6.cell? ⟨X, 7, none⟩ = some (.slice A.ia is.length A.ic) := KZ.out.cell 7; have y8 : w6.cell? ⟨X, 8, none⟩ = some (.int .i64 cn) := KZ.out.cell 8; have y9 : w6.cell? ⟨X, 9, none⟩ = some (.int .i64 tk.op) := KZ.out.cell 9; have y10 : w6.cell? ⟨X, 10, none⟩ = some (.int .i64 tk.cl) := KZ.out.cell 10; have y11 : w6.cell? ⟨X, 11, none⟩ = some (.int .i64 tk.nu) := KZ.out.cell 11; have y12 : w6.cell? ⟨X, 12, none⟩ = some (.string tk.it.k) := KZ.out.cell 12; have y13 : w6.cell? ⟨X, 13, none⟩ = some (.string tk.it.v) := KZ.out.cell 13; have y14 : w6.cell? ⟨X, 14, none⟩ = some (.int .i64 tk.it.n) := KZ.out.cell 14; have y15 : w6.cell? ⟨X, 15, none⟩ = some (.slice A.la tk.lf.length A.lc) := KZ.out.cell 15))
                        go_ret
                        exact ⟨by rw [RES.out]; first | done | rfl, EU.out⟩
                    · rw [decide_eq_false c6] at C6
                      have RES := hide1 (show decide (okMb ⟨id, ep, false, true, true, true, [], is, cn, tk⟩) = false from decide_eq_false (fun h => c6 h.2.2.2.2.2.2.1))
                      go_wp2_with (first | (go_at_call 23; (first | (with_reducible refine (C0.out _).mono ?_) | (with_reducible refine (C1.out _).mono ?_) | (with_reducible refine (C7.out _).mono ?_) | (with_reducible refine (C8.out _).mono ?_) | (with_reducible refine (C9.out _).mono ?_)); rintro r ww ⟨rfl, rfl⟩) | (go_at_call 45; (first | (with_reducible refine (C4.out _ EU.out).mono ?_) | (with_reducible refine (C5.out _ EU.out).mono ?_)); rintro r w4 ⟨rfl, hb⟩; have KZ := hide1 (KZ.out.below hb KZ.out.lt); have EU := hide1 (EU.out.trans (hb.mono EU.out.size)); clear hb; have y5 : w4.cell? ⟨X, 5, none⟩ = some (.bool true) := KZ.out.cell 5; have y7 : w4.cell? ⟨X, 7, none⟩ = some (.slice A.ia is.length A.ic) := KZ.out.cell 7; have y8 : w4.cell? ⟨X, 8, none⟩ = some (.int .i64 cn) := KZ.out.cell 8; have y9 : w4.cell? ⟨X, 9, none⟩ = some (.int .i64 tk.op) := KZ.out.cell 9; have y10 : w4.cell? ⟨X, 10, none⟩ = some (.int .i64 tk.cl) := KZ.out.cell 10; have y11 : w4.cell? ⟨X, 11, none⟩ = some (.int .i64 tk.nu) := KZ.out.cell 11; have y12 : w4.cell? ⟨X, 12, none⟩ = some (.string tk.it.k) := KZ.out.cell 12; have y13 : w4.cell? ⟨X, 13, none⟩ = some (.string tk.it.v) := KZ.out.cell 13; have y14 : w4.cell? ⟨X, 14, none⟩ = some (.int .i64 tk.it.n) := KZ.out.cell 14; have y15 : w4.cell? ⟨X, 15, none⟩ = some (.slice A.la tk.lf.length A.lc) := KZ.out.cell 15) | (go_at_call 46; refine (C6.out _ EU.out).mono ?_; rintro r w6 ⟨rfl, hb⟩; clear C6; have KZ := hide1 (KZ.out.below hb KZ.out.lt); have EU := hide1 (EU.out.trans (hb.mono EU.out.size)); clear hb; have y5 : w6.cell? ⟨X, 5, none⟩ = some (.bool true) := KZ.out.cell 5; have y7 : w6.cell? ⟨X, 7, none⟩ = some (.slice A.ia is.length A.ic) := KZ.out.cell 7; have y8 : w6.cell? ⟨X, 8, none⟩ = some (.int .i64 cn) := KZ.out.cell 8; have y9 : w6.cell? ⟨X, 9, none⟩ = some (.int .i64 tk.op) := KZ.out.cell 9; have y10 : w6.cell? ⟨X, 10, none⟩ = some (.int .i64 tk.cl) := KZ.out.cell 10; have y11 : w6.cell? ⟨X, 11, none⟩ = some (.int .i64 tk.nu) := KZ.out.cell 11; have y12 : w6.cell? ⟨X, 12, none⟩ = some (.string tk.it.k) := KZ.out.cell 12; have y13 : w6.cell? ⟨X, 13, none⟩ = some (.string tk.it.v) := KZ.out.cell 13; have y14 : w6.cell? ⟨X, 14, none⟩ = some (.int .i64 tk.it.n) := KZ.out.cell 14; have y15 : w6.cell? ⟨X, 15, none⟩ = some (.slice A.la tk.lf.length A.lc) := KZ.out.cell 15))
                      go_ret
                      exact ⟨by rw [RES.out]; first | done | rfl, EU.out⟩
                  · rw [decide_eq_false c5] at C5
                    have RES := hide1 (show decide (okMb ⟨id, ep, false, true, true, true, [], is, cn, tk⟩) = false from decide_eq_false (fun h => c5 h.2.2.2.2.2.1))
                    go_wp2_with (first | (go_at_call 23; (first | (with_reducible refine (C0.out _).mono ?_) | (with_reducible refine (C1.out _).mono ?_) | (with_reducible refine (C7.out _).mono ?_) | (with_reducible refine (C8.out _).mono ?_) | (with_reducible refine (C9.out _).mono ?_)); rintro r ww ⟨rfl, rfl⟩) | (go_at_call 45; (first | (with_reducible refine (C4.out _ EU.out).mono ?_) | (with_reducible refine (C5.out _ EU.out).mono ?_)); rintro r w4 ⟨rfl, hb⟩; have KZ := hide1 (KZ.out.below hb KZ.out.lt); have EU := hide1 (EU.out.trans (hb.mono EU.out.size)); clear hb; have y5 : w4.cell? ⟨X, 5, none⟩ = some (.bool true) := KZ.out.cell 5; have y7 : w4.cell? ⟨X, 7, none⟩ = some (.slice A.ia is.length A.ic) := KZ.out.cell 7; have y8 : w4.cell? ⟨X, 8, none⟩ = some (.int .i64 cn) := KZ.out.cell 8; have y9 : w4.cell? ⟨X, 9, none⟩ = some (.int .i64 tk.op) := KZ.out.cell 9; have y10 : w4.cell? ⟨X, 10, none⟩ = some (.int .i64 tk.cl) := KZ.out.cell 10; have y11 : w4.cell? ⟨X, 11, none⟩ = some (.int .i64 tk.nu) := KZ.out.cell 11; have y12 : w4.cell? ⟨X, 12, none⟩ = some (.string tk.it.k) := KZ.out.cell 12; have y13 : w4.cell? ⟨X, 13, none⟩ = some (.string tk.it.v) := KZ.out.cell 13; have y14 : w4.cell? ⟨X, 14, none⟩ = some (.int .i64 tk.it.n) := KZ.out.cell 14; have y15 : w4.cell? ⟨X, 15, none⟩ = some (.slice A.la tk.lf.length A.lc) := KZ.out.cell 15) | (go_at_call 46; refine (C6.out _ EU.out).mono ?_; rintro r w6 ⟨rfl, hb⟩; clear C6; have KZ := hide1 (KZ.out.below hb KZ.out.lt); have EU := hide1 (EU.out.trans (hb.mono EU.out.size)); clear hb; have y5 : w6.cell? ⟨X, 5, none⟩ = some (.bool true) := KZ.out.cell 5; have y7 : w6.cell? ⟨X, 7, none⟩ = some (.slice A.ia is.length A.ic) := KZ.out.cell 7; have y8 : w6.cell? ⟨X, 8, none⟩ = some (.int .i64 cn) := KZ.out.cell 8; have y9 : w6.cell? ⟨X, 9, none⟩ = some (.int .i64 tk.op) := KZ.out.cell 9; have y10 : w6.cell? ⟨X, 10, none⟩ = some (.int .i64 tk.cl) := KZ.out.cell 10; have y11 : w6.cell? ⟨X, 11, none⟩ = some (.int .i64 tk.nu) := KZ.out.cell 11; have y12 : w6.cell? ⟨X, 12, none⟩ = some (.string tk.it.k) := KZ.out.cell 12; have y13 : w6.cell? ⟨X, 13, none⟩ = some (.string tk.it.v) := KZ.out.cell 13; have y14 : w6.cell? ⟨X, 14, none⟩ = some (.int .i64 tk.it.n) := KZ.out.cell 14; have y15 : w6.cell? ⟨X, 15, none⟩ = some (.slice A.la tk.lf.length A.lc) := KZ.out.cell 15))
                    go_ret
                    exact ⟨by rw [RES.out]; first | done | rfl, EU.out⟩
                · rw [decide_eq_false c4] at C4
                  have RES := hide1 (show decide (okMb ⟨id, ep, false, true, true, true, [], is, cn, tk⟩) = false from decide_eq_false (fun h => c4 h.2.2.2.2.1))
                  go_wp2_with (first | (go_at_call 23; (first | (with_reducible refine (C0.out _).mono ?_) | (with_reducible refine (C1.out _).mono ?_) | (with_reducible refine (C7.out _).mono ?_) | (with_reducible refine (C8.out _).mono ?_) | (with_reducible refine (C9.out _).mono ?_)); rintro r ww ⟨rfl, rfl⟩) | (go_at_call 45; (first | (with_reducible refine (C4.out _ EU.out).mono ?_) | (with_reducible refine (C5.out _ EU.out).mono ?_)); rintro r w4 ⟨rfl, hb⟩; have KZ := hide1 (KZ.out.below hb KZ.out.lt); have EU := hide1 (EU.out.trans (hb.mono EU.out.size)); clear hb; have y5 : w4.cell? ⟨X, 5, none⟩ = some (.bool true) := KZ.out.cell 5; have y7 : w4.cell? ⟨X, 7, none⟩ = some (.slice A.ia is.length A.ic) := KZ.out.cell 7; have y8 : w4.cell? ⟨X, 8, none⟩ = some (.int .i64 cn) := KZ.out.cell 8; have y9 : w4.cell? ⟨X, 9, none⟩ = some (.int .i64 tk.op) := KZ.out.cell 9; have y10 : w4.cell? ⟨X, 10, none⟩ = some (.int .i64 tk.cl) := KZ.out.cell 10; have y11 : w4.cell? ⟨X, 11, none⟩ = some (.int .i64 tk.nu) := KZ.out.cell 11; have y12 : w4.cell? ⟨X, 12, none⟩ = some (.string tk.it.k) := KZ.out.cell 12; have y13 : w4.cell? ⟨X, 13, none⟩ = some (.string tk.it.v) := KZ.out.cell 13; have y14 : w4.cell? ⟨X, 14, none⟩ = some (.int .i64 tk.it.n) := KZ.out.cell 14; have y15 : w4.cell? ⟨X, 15, none⟩ = some (.slice A.la tk.lf.length A.lc) := KZ.out.cell 15) | (go_at_call 46; refine (C6.out _ EU.out).mono ?_; rintro r w6 ⟨rfl, hb⟩; clear C6; have KZ := hide1 (KZ.out.below hb KZ.out.lt); have EU := hide1 (EU.out.trans (hb.mono EU.out.size)); clear hb; have y5 : w6.cell? ⟨X, 5, none⟩ = some (.bool true) := KZ.out.cell 5; have y7 : w6.cell? ⟨X, 7, none⟩ = some (.slice A.ia is.length A.ic) := KZ.out.cell 7; have y8 : w6.cell? ⟨X, 8, none⟩ = some (.int .i64 cn) := KZ.out.cell 8; have y9 : w6.cell? ⟨X, 9, none⟩ = some (.int .i64 tk.op) := KZ.out.cell 9; have y10 : w6.cell? ⟨X, 10, none⟩ = some (.int .i64 tk.cl) := KZ.out.cell 10; have y11 : w6.cell? ⟨X, 11, none⟩ = some (.int .i64 tk.nu) := KZ.out.cell 11; have y12 : w6.cell? ⟨X, 12, none⟩ = some (.string tk.it.k) := KZ.out.cell 12; have y13 : w6.cell? ⟨X, 13, none⟩ = some (.string tk.it.v) := KZ.out.cell 13; have y14 : w6.cell? ⟨X, 14, none⟩ = some (.int .i64 tk.it.n) := KZ.out.cell 14; have y15 : w6.cell? ⟨X, 15, none⟩ = some (.slice A.la tk.lf.length A.lc) := KZ.out.cell 15))
                  go_ret
                  exact ⟨by rw [RES.out]; first | done | rfl, EU.out⟩
            · have qw : 0 < wa.length := List.length_pos_iff.2 cw
              have RES := hide1 (show decide (okMb ⟨id, ep, fe, true, true, true, wa, is, cn, tk⟩) = false from decide_eq_false (fun h => cw (h.2.2.1 rfl).2.2))
              go_wp2_with (first | (go_at_call 23; (first | (with_reducible refine (C0.out _).mono ?_) | (with_reducible refine (C1.out _).mono ?_) | (with_reducible refine (C7.out _).mono ?_) | (with_reducible refine (C8.out _).mono ?_) | (with_reducible refine (C9.out _).mono ?_)); rintro r ww ⟨rfl, rfl⟩) | (go_at_call 45; (first | (with_reducible refine (C4.out _ EU.out).mono ?_) | (with_reducible refine (C5.out _ EU.out).mono ?_)); rintro r w4 ⟨rfl, hb⟩; have KZ := hide1 (KZ.out.below hb KZ.out.lt); have EU := hide1 (EU.out.trans (hb.mono EU.out.size)); clear hb; have y5 : w4.cell? ⟨X, 5, none⟩ = some (.bool true) := KZ.out.cell 5; have y7 : w4.cell? ⟨X, 7, none⟩ = some (.slice A.ia is.length A.ic) := KZ.out.cell 7; have y8 : w4.cell? ⟨X, 8, none⟩ = some (.int .i64 cn) := KZ.out.cell 8; have y9 : w4.cell? ⟨X, 9, none⟩ = some (.int .i64 tk.op) := KZ.out.cell 9; have y10 : w4.cell? ⟨X, 10, none⟩ = some (.int .i64 tk.cl) := KZ.out.cell 10; have y11 : w4.cell? ⟨X, 11, none⟩ = some (.int .i64 tk.nu) := KZ.out.cell 11; have y12 : w4.cell? ⟨X, 12, none⟩ = some (.string tk.it.k) := KZ.out.cell 12; have y13 : w4.cell? ⟨X, 13, none⟩ = some (.string tk.it.v) := KZ.out.cell 13; have y14 : w4.cell? ⟨X, 14, none⟩ = some (.int .i64 tk.it.n) := KZ.out.cell 14; have y15 : w4.cell? ⟨X, 15, none⟩ = some (.slice A.la tk.lf.length A.lc) := KZ.out.cell 15) | (go_at_call 46; refine (C6.out _ EU.out).mono ?_; rintro r w6 ⟨rfl, hb⟩; clear C6; have KZ := hide1 (KZ.out.below hb KZ.out.lt); have EU := hide1 (EU.out.trans (hb.mono EU.out.size)); clear hb; have y5 : w6.cell? ⟨X, 5, none⟩ = some (.bool true) := KZ.out.cell 5; have y7 : w6.cell? ⟨X, 7, none⟩ = some (.slice A.ia is.length A.ic) := KZ.out.cell 7; have y8 : w6.cell? ⟨X, 8, none⟩ = some (.int .i64 cn) := KZ.out.cell 8; have y9 : w6.cell? ⟨X, 9, none⟩ = some (.int .i64 tk.op) := KZ.out.cell 9; have y10 : w6.cell? ⟨X, 10, none⟩ = some (.int .i64 tk.cl) := KZ.out.cell 10; have y11 : w6.cell? ⟨X, 11, none⟩ = some (.int .i64 tk.nu) := KZ.out.cell 11; have y12 : w6.cell? ⟨X, 12, none⟩ = some (.string tk.it.k) := KZ.out.cell 12; have y13 : w6.cell? ⟨X, 13, none⟩ = some (.string tk.it.v) := KZ.out.cell 13; have y14 : w6.cell? ⟨X, 14, none⟩ = some (.int .i64 tk.it.n) := KZ.out.cell 14; have y15 : w6.cell? ⟨X, 15, none⟩ = some (.slice A.la tk.lf.length A.lc) := KZ.out.cell 15))
              go_ret
              exact ⟨by rw [RES.out]; first | done | rfl, EU.out⟩
      | false =>
        cases fe with
        | true =>
          cases ba with
          | true =>
            have RES := hide1 (show decide (okMb ⟨id, ep, true, true, le, false, wa, is, cn, tk⟩) = false from decide_eq_false (fun h => by have := (h.2.2.2.1 rfl).1; simp at this))
            go_wp2_with (first | (go_at_call 23; (first | (with_reducible refine (C0.out _).mono ?_) | (with_reducible refine (C1.out _).mono ?_) | (with_reducible refine (C7.out _).mono ?_) | (with_reducible refine (C8.out _).mono ?_) | (with_reducible refine (C9.out _).mono ?_)); rintro r ww ⟨rfl, rfl⟩) | (go_at_call 45; (first | (with_reducible refine (C4.out _ EU.out).mono ?_) | (with_reducible refine (C5.out _ EU.out).mono ?_)); rintro r w4 ⟨rfl, hb⟩; have KZ := hide1 (KZ.out.below hb KZ.out.lt); have EU := hide1 (EU.out.trans (hb.mono EU.out.size)); clear hb; have y5 : w4.cell? ⟨X, 5, none⟩ = some (.bool false) := KZ.out.cell 5; have y7 : w4.cell? ⟨X, 7, none⟩ = some (.slice A.ia is.length A.ic) := KZ.out.cell 7; have y8 : w4.cell? ⟨X, 8, none⟩ = some (.int .i64 cn) := KZ.out.cell 8; have y9 : w4.cell? ⟨X, 9, none⟩ = some (.int .i64 tk.op) := KZ.out.cell 9; have y10 : w4.cell? ⟨X, 10, none⟩ = some (.int .i64 tk.cl) := KZ.out.cell 10; have y11 : w4.cell? ⟨X, 11, none⟩ = some (.int .i64 tk.nu) := KZ.out.cell 11; have y12 : w4.cell? ⟨X, 12, none⟩ = some (.string tk.it.k) := KZ.out.cell 12; have y13 : w4.cell? ⟨X, 13, none⟩ = some (.string tk.it.v) := KZ.out.cell 13; have y14 : w4.cell? ⟨X, 14, none⟩ = some (.int .i64 tk.it.n) := KZ.out.cell 14; have y15 : w4.cell? ⟨X, 15, none⟩ = some (.slice A.la tk.lf.length A.lc) := KZ.out.cell 15) | (go_at_call 46; refine (C6.out _ EU.out).mono ?_; rintro r w6 ⟨rfl, hb⟩; clear C6; have KZ := hide1 (KZ.out.below hb KZ.out.lt); have EU := hide1 (EU.out.trans (hb.mono EU.out.size)); clear hb; have y5 : w6.cell? ⟨X, 5, none⟩ = some (.bool false) := KZ.out.cell 5; have y7 : w6.cell? ⟨X, 7, none⟩ = some (.slice A.ia is.length A.ic) := KZ.out.cell 7; have y8 : w6.cell? ⟨X, 8, none⟩ = some (.int .i64 cn) := KZ.out.cell 8; have y9 : w6.cell? ⟨X, 9, none⟩ = some (.int .i64 tk.op) := KZ.out.cell 9; have y10 : w6.cell? ⟨X, 10, none⟩ = some (.int .i64 tk.cl) := KZ.out.cell 10; have y11 : w6.cell? ⟨X, 11, none⟩ = some (.int .i64 tk.nu) := KZ.out.cell 11; have y12 : w6.cell? ⟨X, 12, none⟩ = some (.string tk.it.k) := KZ.out.cell 12; have y13 : w6.cell? ⟨X, 13, none⟩ = some (.string tk.it.v) := KZ.out.cell 13; have y14 : w6.cell? ⟨X, 14, none⟩ = some (.int .i64 tk.it.n) := KZ.out.cell 14; have y15 : w6.cell? ⟨X, 15, none⟩ = some (.slice A.la tk.lf.length A.lc) := KZ.out.cell 15))
            go_ret
            exact ⟨by rw [RES.out]; first | done | rfl, EU.out⟩
          | false =>
            cases le with
            | true =>
              have RES := hide1 (show decide (okMb ⟨id, ep, true, false, true, false, wa, is, cn, tk⟩) = false from decide_eq_false (fun h => by have := (h.2.2.2.1 rfl).2; simp at this))
              go_wp2_with (first | (go_at_call 23; (first | (with_reducible refine (C0.out _).mono ?_) | (with_reducible refine (C1.out _).mono ?_) | (with_reducible refine (C7.out _).mono ?_) | (with_reducible refine (C8.out _).mono ?_) | (with_reducible refine (C9.out _).mono ?_)); rintro r ww ⟨rfl, rfl⟩) | (go_at_call 45; (first | (with_reducible refine (C4.out _ EU.out).mono ?_) | (with_reducible refine (C5.out _ EU.out).mono ?_)); rintro r w4 ⟨rfl, hb⟩; have KZ := hide1 (KZ.out.below hb KZ.out.lt); have EU := hide1 (EU.out.trans (hb.mono EU.out.size)); clear hb; have y5 : w4.cell? ⟨X, 5, none⟩ = some (.bool false) := KZ.out.cell 5; have y7 : w4.cell? ⟨X, 7, none⟩ = some (.slice A.ia is.length A.ic) := KZ.out.cell 7; have y8 : w4.cell? ⟨X, 8, none⟩ = some (.int .i64 cn) := KZ.out.cell 8; have y9 : w4.cell? ⟨X, 9, none⟩ = some (.int .i64 tk.op) := KZ.out.cell 9; have y10 : w4.cell? ⟨X, 10, none⟩ = some (.int .i64 tk.cl) := KZ.out.cell 10; have y11 : w4.cell? ⟨X, 11, none⟩ = some (.int .i64 tk.nu) := KZ.out.cell 11; have y12 : w4.cell? ⟨X, 12, none⟩ = some (.string tk.it.k) := KZ.out.cell 12; have y13 : w4.cell? ⟨X, 13, none⟩ = some (.string tk.it.v) := KZ.out.cell 13; have y14 : w4.cell? ⟨X, 14, none⟩ = some (.int .i64 tk.it.n) := KZ.out.cell 14; have y15 : w4.cell? ⟨X, 15, none⟩ = some (.slice A.la tk.lf.length A.lc) := KZ.out.cell 15) | (go_at_call 46; refine (C6.out _ EU.out).mono ?_; rintro r w6 ⟨rfl, hb⟩; clear C6; have KZ := hide1 (KZ.out.below hb KZ.out.lt); have EU := hide1 (EU.out.trans (hb.mono EU.out.size)); clear hb; have y5 : w6.cell? ⟨X, 5, none⟩ = some (.bool false) := KZ.out.cell 5; have y7 : w6.cell? ⟨X, 7, none⟩ = some (.slice A.ia is.length A.ic) := KZ.out.cell 7; have y8 : w6.cell? ⟨X, 8, none⟩ = some (.int .i64 cn) := KZ.out.cell 8; have y9 : w6.cell? ⟨X, 9, none⟩ = some (.int .i64 tk.op) := KZ.out.cell 9; have y10 : w6.cell? ⟨X, 10, none⟩ = some (.int .i64 tk.cl) := KZ.out.cell 10; have y11 : w6.cell? ⟨X, 11, none⟩ = some (.int .i64 tk.nu) := KZ.out.cell 11; have y12 : w6.cell? ⟨X, 12, none⟩ = some (.string tk.it.k) := KZ.out.cell 12; have y13 : w6.cell? ⟨X, 13, none⟩ = some (.string tk.it.v) := KZ.out.cell 13; have y14 : w6.cell? ⟨X, 14, none⟩ = some (.int .i64 tk.it.n) := KZ.out.cell 14; have y15 : w6.cell? ⟨X, 15, none⟩ = some (.slice A.la tk.lf.length A.lc) := KZ.out.cell 15))
              go_ret
              exact ⟨by rw [RES.out]; first | done | rfl, EU.out⟩
            | false =>
              by_cases c4 : okIds wa
              · rw [decide_eq_true c4] at C4
                by_cases c5 : okIds tk.lf
                · rw [decide_eq_true c5] at C5
                  by_cases c6 : okIms is
                  · rw [decide_eq_true c6] at C6
                    by_cases c7 : 0 ≤ cn ∧ cn ≤ 900
                    · rw [in_yesI c7] at C7
                      have OK := hide1 (show okTk tk false → okMb ⟨id, ep, true, false, false, false, wa, is, cn, tk⟩ from fun h => ⟨c0, c1, (fun e => by simp at e), (fun _ => ⟨rfl, rfl⟩), c4, c5, c6, c7, h⟩)
                      clear c0 c1 c4 c5 c6 c7
                      go_upto_region 4 with (first | (go_at_call 23; (first | (with_reducible refine (C0.out _).mono ?_) | (with_reducible refine (C1.out _).mono ?_) | (with_reducible refine (C7.out _).mono ?_) | (with_reducible refine (C8.out _).mono ?_) | (with_reducible refine (C9.out _).mono ?_)); rintro r ww ⟨rfl, rfl⟩) | (go_at_call 45; (first | (with_reducible refine (C4.out _ EU.out).mono ?_) | (with_reducible refine (C5.out _ EU.out).mono ?_)); rintro r w4 ⟨rfl, hb⟩; have KZ := hide1 (KZ.out.below hb KZ.out.lt); have EU := hide1 (EU.out.trans (hb.mono EU.out.size)); clear hb; have y5 : w4.cell? ⟨X, 5, none⟩ = some (.bool false) := KZ.out.cell 5; have y7 : w4.cell? ⟨X, 7, none⟩ = some (.slice A.ia is.length A.ic) := KZ.out.cell 7; have y8 : w4.cell? ⟨X, 8, none⟩ = some (.int .i64 cn) := KZ.out.cell 8; have y9 : w4.cell? ⟨X, 9, none⟩ = some (.int .i64 tk.op) := KZ.out.cell 9; have y10 : w4.cell? ⟨X, 10, none⟩ = some (.int .i64 tk.cl) := KZ.out.cell 10; have y11 : w4.cell? ⟨X, 11, none⟩ = some (.int .i64 tk.nu) := KZ.out.cell 11; have y12 : w4.cell? ⟨X, 12, none⟩ = some (.string tk.it.k) := KZ.out.cell 12; have y13 : w4.cell? ⟨X, 13, none⟩ = some (.string tk.it.v) := KZ.out.cell 13; have y14 : w4.cell? ⟨X, 14, none⟩ = some (.int .i64 tk.it.n) := KZ.out.cell 14; have y15 : w4.cell? ⟨X, 15, none⟩ = some (.slice A.la tk.lf.length A.lc) := KZ.out.cell 15) | (go_at_call 46; refine (C6.out _ EU.out).mono ?_; rintro r w6 ⟨rfl, hb⟩; clear C6; have KZ := hide1 (KZ.out.below hb KZ.out.lt); have EU := hide1 (EU.out.trans (hb.mono EU.out.size)); clear hb; have y5 : w6.cell? ⟨X, 5, none⟩ = some (.bool false) := KZ.out.cell 5; have y7 : w6.cell? ⟨X, 7, none⟩ = some (.slice A.ia is.length A.ic) := KZ.out.cell 7; have y8 : w6.cell? ⟨X, 8, none⟩ = some (.int .i64 cn) := KZ.out.cell 8; have y9 : w6.cell? ⟨X, 9, none⟩ = some (.int .i64 tk.op) := KZ.out.cell 9; have y10 : w6.cell? ⟨X, 10, none⟩ = some (.int .i64 tk.cl) := KZ.out.cell 10; have y11 : w6.cell? ⟨X, 11, none⟩ = some (.int .i64 tk.nu) := KZ.out.cell 11; have y12 : w6.cell? ⟨X, 12, none⟩ = some (.string tk.it.k) := KZ.out.cell 12; have y13 : w6.cell? ⟨X, 13, none⟩ = some (.string tk.it.v) := KZ.out.cell 13; have y14 : w6.cell? ⟨X, 14, none⟩ = some (.int .i64 tk.it.n) := KZ.out.cell 14; have y15 : w6.cell? ⟨X, 15, none⟩ = some (.slice A.la tk.lf.length A.lc) := KZ.out.cell 15))
                      have FT := hide1 (And.intro (Blk.new ww 36 #[.int .i64 tk.op, .int .i64 tk.cl, .int .i64 tk.nu, .string tk.it.k, .string tk.it.v, .int .i64 tk.it.n, .slice A.la tk.lf.length A.lc]) ((Below.refl ww.heap.size ww).alloc (Nat.le_refl _) (.cells #[.int .i64 tk.op, .int .i64 tk.cl, .int .i64 tk.nu, .string tk.it.k, .string tk.it.v, .int .i64 tk.it.n, .slice A.la tk.lf.length A.lc] 36)))
                      generalize (ww.alloc (.cells #[.int .i64 tk.op, .int .i64 tk.cl, .int .i64 tk.nu, .string tk.it.k, .string tk.it.v, .int .i64 tk.it.n, .slice A.la tk.lf.length A.lc] 36)) = v at FT ⊢
                      obtain ⟨TB, hTB⟩ : ∃ G, G = ww.heap.size := ⟨_, rfl⟩
                      have KT := hide1 FT.out.1
                      rw [← hTB] at KT ⊢
                      have KW := hide1 (KZ.out.below FT.out.2 KZ.out.lt)
                      have EV := hide1 (EU.out.trans (FT.out.2.mono EU.out.size))
                      clear FT hTB KZ EU
                      have z0 : v.cell? ⟨TB, 0, none⟩ = some (.int .i64 tk.op) := KT.out.cell 0
                      have z1 : v.cell? ⟨TB, 1, none⟩ = some (.int .i64 tk.cl) := KT.out.cell 1
                      have z2 : v.cell? ⟨TB, 2, none⟩ = some (.int .i64 tk.nu) := KT.out.cell 2
                      have z3 : v.cell? ⟨TB, 3, none⟩ = some (.string tk.it.k) := KT.out.cell 3
                      have z4 : v.cell? ⟨TB, 4, none⟩ = some (.string tk.it.v) := KT.out.cell 4
                      have z5 : v.cell? ⟨TB, 5, none⟩ = some (.int .i64 tk.it.n) := KT.out.cell 5
                      have z6 : v.cell? ⟨TB, 6, none⟩ = some (.slice A.la tk.lf.length A.lc) := KT.out.cell 6
                      have y5 : v.cell? ⟨X, 5, none⟩ = some (.bool false) := KW.out.cell 5
                      have HN := hide1 (show ¬ okTk tk false → decide (okMb ⟨id, ep, true, false, false, false, wa, is, cn, tk⟩) = false from fun h => decide_eq_false (fun e => h e.2.2.2.2.2.2.2.2))
                      by_cases d0 : noTk tk
                      · rw [decide_eq_true d0] at CT
                        have RES := hide1 (show decide (okMb ⟨id, ep, true, false, false, false, wa, is, cn, tk⟩) = true from decide_eq_true (OK.out (.inl d0)))
                        clear OK HN
                        try clear d0
                        try clear d1
                        try clear d2
                        try clear d3
                        try clear e1
                        go_wp2_with (first | (go_at_call 47; refine (CT.out _).mono ?_; rintro r w8 ⟨rfl, hb8⟩; have KW := hide1 (KW.out.below hb8 KW.out.lt); have KT := hide1 (KT.out.below hb8 KT.out.lt); have EV := hide1 (EV.out.trans (hb8.mono EV.out.size)); clear hb8; have z0 : w8.cell? ⟨TB, 0, none⟩ = some (.int .i64 tk.op) := KT.out.cell 0; have z1 : w8.cell? ⟨TB, 1, none⟩ = some (.int .i64 tk.cl) := KT.out.cell 1; have z2 : w8.cell? ⟨TB, 2, none⟩ = some (.int .i64 tk.nu) := KT.out.cell 2; have y5 : w8.cell? ⟨X, 5, none⟩ = some (.bool false) := KW.out.cell 5) | (go_at_call 23; (first | (with_reducible refine (C8.out _).mono ?_) | (with_reducible refine (C9.out _).mono ?_)); rintro r wx ⟨rfl, rfl⟩))
                        go_ret
                        exact ⟨by rw [RES.out]; first | done | rfl, EV.out⟩
                      · rw [decide_eq_false d0] at CT
                        by_cases d1 : tk.op = 1
                        · have q1 : (tk.op == 1) = true := by simp [d1]
                          have RES := hide1 (HN.out (fun e => by rcases e with e | e; exact d0 e; exact absurd e.2.1 (by simp)))
                          clear OK HN
                          try clear d0
                          try clear d1
                          try clear d2
                          try clear d3
                          try clear e1
                          go_wp2_with (first | (go_at_call 47; refine (CT.out _).mono ?_; rintro r w8 ⟨rfl, hb8⟩; have KW := hide1 (KW.out.below hb8 KW.out.lt); have KT := hide1 (KT.out.below hb8 KT.out.lt); have EV := hide1 (EV.out.trans (hb8.mono EV.out.size)); clear hb8; have z0 : w8.cell? ⟨TB, 0, none⟩ = some (.int .i64 tk.op) := KT.out.cell 0; have z1 : w8.cell? ⟨TB, 1, none⟩ = some (.int .i64 tk.cl) := KT.out.cell 1; have z2 : w8.cell? ⟨TB, 2, none⟩ = some (.int .i64 tk.nu) := KT.out.cell 2; have y5 : w8.cell? ⟨X, 5, none⟩ = some (.bool false) := KW.out.cell 5) | (go_at_call 23; (first | (with_reducible refine (C8.out _).mono ?_) | (with_reducible refine (C9.out _).mono ?_)); rintro r wx ⟨rfl, rfl⟩))
                          go_ret
                          exact ⟨by rw [RES.out]; first | done | rfl, EV.out⟩
                        · have q1 : (tk.op == 1) = false := by simp [d1]
                          by_cases e1 : tk.op = 2
                          · have q2 : (tk.op == 2) = true := by simp [e1]
                            have RES := hide1 (HN.out (fun e => by rcases e with e | e; exact d0 e; exact absurd e.2.1 (by simp)))
                            clear OK HN
                            try clear d0
                            try clear d1
                            try clear d2
                            try clear d3
                            try clear e1
                            go_wp2_with (first | (go_at_call 47; refine (CT.out _).mono ?_; rintro r w8 ⟨rfl, hb8⟩; have KW := hide1 (KW.out.below hb8 KW.out.lt); have KT := hide1 (KT.out.below hb8 KT.out.lt); have EV := hide1 (EV.out.trans (hb8.mono EV.out.size)); clear hb8; have z0 : w8.cell? ⟨TB, 0, none⟩ = some (.int .i64 tk.op) := KT.out.cell 0; have z1 : w8.cell? ⟨TB, 1, none⟩ = some (.int .i64 tk.cl) := KT.out.cell 1; have z2 : w8.cell? ⟨TB, 2, none⟩ = some (.int .i64 tk.nu) := KT.out.cell 2; have y5 : w8.cell? ⟨X, 5, none⟩ = some (.bool false) := KW.out.cell 5) | (go_at_call 23; (first | (with_reducible refine (C8.out _).mono ?_) | (with_reducible refine (C9.out _).mono ?_)); rintro r wx ⟨rfl, rfl⟩))
                            go_ret
                            exact ⟨by rw [RES.out]; first | done | rfl, EV.out⟩
                          · have q2 : (tk.op == 2) = false := by simp [e1]
                            have RES := hide1 (HN.out (fun e => by rcases e with e | e; exact d0 e; exact e.1.elim d1 e1))
                            clear OK HN
                            try clear d0
                            try clear d1
                            try clear d2
                            try clear d3
                            try clear e1
                            go_wp2_with (first | (go_at_call 47; refine (CT.out _).mono ?_; rintro r w8 ⟨rfl, hb8⟩; have KW := hide1 (KW.out.below hb8 KW.out.lt); have KT := hide1 (KT.out.below hb8 KT.out.lt); have EV := hide1 (EV.out.trans (hb8.mono EV.out.size)); clear hb8; have z0 : w8.cell? ⟨TB, 0, none⟩ = some (.int .i64 tk.op) := KT.out.cell 0; have z1 : w8.cell? ⟨TB, 1, none⟩ = some (.int .i64 tk.cl) := KT.out.cell 1; have z2 : w8.cell? ⟨TB, 2, none⟩ = some (.int .i64 tk.nu) := KT.out.cell 2; have y5 : w8.cell? ⟨X, 5, none⟩ = some (.bool false) := KW.out.cell 5) | (go_at_call 23; (first | (with_reducible refine (C8.out _).mono ?_) | (with_reducible refine (C9.out _).mono ?_)); rintro r wx ⟨rfl, rfl⟩))
                            go_ret
                            exact ⟨by rw [RES.out]; first | done | rfl, EV.out⟩
                    · rw [in_noI c7] at C7
                      have RES := hide1 (show decide (okMb ⟨id, ep, true, false, false, false, wa, is, cn, tk⟩) = false from decide_eq_false (fun h => c7 h.2.2.2.2.2.2.2.1))
                      go_wp2_with (first | (go_at_call 23; (first | (with_reducible refine (C0.out _).mono ?_) | (with_reducible refine (C1.out _).mono ?_) | (with_reducible refine (C7.out _).mono ?_) | (with_reducible refine (C8.out _).mono ?_) | (with_reducible refine (C9.out _).mono ?_)); rintro r ww ⟨rfl, rfl⟩) | (go_at_call 45; (first | (with_reducible refine (C4.out _ EU.out).mono ?_) | (with_reducible refine (C5.out _ EU.out).mono ?_)); rintro r w4 ⟨rfl, hb⟩; have KZ := hide1 (KZ.out.below hb KZ.out.lt); have EU := hide1 (EU.out.trans (hb.mono EU.out.size)); clear hb; have y5 : w4.cell? ⟨X, 5, none⟩ = some (.bool false) := KZ.out.cell 5; have y7 : w4.cell? ⟨X, 7, none⟩ = some (.slice A.ia is.length A.ic) := KZ.out.cell 7; have y8 : w4.cell? ⟨X, 8, none⟩ = some (.int .i64 cn) := KZ.out.cell 8; have y9 : w4.cell? ⟨X, 9, none⟩ = some (.int .i64 tk.op) := KZ.out.cell 9; have y10 : w4.cell? ⟨X, 10, none⟩ = some (.int .i64 tk.cl) := KZ.out.cell 10; have y11 : w4.cell? ⟨X, 11, none⟩ = some (.int .i64 tk.nu) := KZ.out.cell 11; have y12 : w4.cell? ⟨X, 12, none⟩ = some (.string tk.it.k) := KZ.out.cell 12; have y13 : w4.cell? ⟨X, 13, none⟩ = some (.string tk.it.v) := KZ.out.cell 13; have y14 : w4.cell? ⟨X, 14, none⟩ = some (.int .i64 tk.it.n) := KZ.out.cell 14; have y15 : w4.cell? ⟨X, 15, none⟩ = some (.slice A.la tk.lf.length A.lc) := KZ.out.cell 15) | (go_at_call 46; refine (C6.out _ EU.out).mono ?_; rintro r w6 ⟨rfl, hb⟩; clear C6; have KZ := hide1 (KZ.out.below hb KZ.out.lt); have EU := hide1 (EU.out.trans (hb.mono EU.out.size)); clear hb; have y5 : w6.cell? ⟨X, 5, none⟩ = some (.bool false) := KZ.out.cell 5; have y7 : w6.cell? ⟨X, 7, none⟩ = some (.slice A.ia is.length A.ic) := KZ.out.cell 7; have y8 : w6.cell? ⟨X, 8, none⟩ = some (.int .i64 cn) := KZ.out.cell 8; have y9 : w6.cell? ⟨X, 9, none⟩ = some (.int .i64 tk.op) := KZ.out.cell 9; have y10 : w6.cell? ⟨X, 10, none⟩ = some (.int .i64 tk.cl) := KZ.out.cell 10; have y11 : w6.cell? ⟨X, 11, none⟩ = some (.int .i64 tk.nu) := KZ.out.cell 11; have y12 : w6.cell? ⟨X, 12, none⟩ = some (.string tk.it.k) := KZ.out.cell 12; have y13 : w6.cell? ⟨X, 13, none⟩ = some (.string tk.it.v) := KZ.out.cell 13; have y14 : w6.cell? ⟨X, 14, none⟩ = some (.int .i64 tk.it.n) := KZ.out.cell 14; have y15 : w6.cell? ⟨X, 15, none⟩ = some (.slice A.la tk.lf.length A.lc) := KZ.out.cell 15))
                      go_ret
                      exact ⟨by rw [RES.out]; first | done | rfl, EU.out⟩
                  · rw [decide_eq_false c6] at C6
                    have RES := hide1 (show decide (okMb ⟨id, ep, true, false, false, false, wa, is, cn, tk⟩) = false from decide_eq_false (fun h => c6 h.2.2.2.2.2.2.1))
                    go_wp2_with (first | (go_at_call 23; (first | (with_reducible refine (C0.out _).mono ?_) | (with_reducible refine (C1.out _).mono ?_) | (with_reducible refine (C7.out _).mono ?_) | (with_reducible refine (C8.out _).mono ?_) | (with_reducible refine (C9.out _).mono ?_)); rintro r ww ⟨rfl, rfl⟩) | (go_at_call 45; (first | (with_reducible refine (C4.out _ EU.out).mono ?_) | (with_reducible refine (C5.out _ EU.out).mono ?_)); rintro r w4 ⟨rfl, hb⟩; have KZ := hide1 (KZ.out.below hb KZ.out.lt); have EU := hide1 (EU.out.trans (hb.mono EU.out.size)); clear hb; have y5 : w4.cell? ⟨X, 5, none⟩ = some (.bool false) := KZ.out.cell 5; have y7 : w4.cell? ⟨X, 7, none⟩ = some (.slice A.ia is.length A.ic) := KZ.out.cell 7; have y8 : w4.cell? ⟨X, 8, none⟩ = some (.int .i64 cn) := KZ.out.cell 8; have y9 : w4.cell? ⟨X, 9, none⟩ = some (.int .i64 tk.op) := KZ.out.cell 9; have y10 : w4.cell? ⟨X, 10, none⟩ = some (.int .i64 tk.cl) := KZ.out.cell 10; have y11 : w4.cell? ⟨X, 11, none⟩ = some (.int .i64 tk.nu) := KZ.out.cell 11; have y12 : w4.cell? ⟨X, 12, none⟩ = some (.string tk.it.k) := KZ.out.cell 12; have y13 : w4.cell? ⟨X, 13, none⟩ = some (.string tk.it.v) := KZ.out.cell 13; have y14 : w4.cell? ⟨X, 14, none⟩ = some (.int .i64 tk.it.n) := KZ.out.cell 14; have y15 : w4.cell? ⟨X, 15, none⟩ = some (.slice A.la tk.lf.length A.lc) := KZ.out.cell 15) | (go_at_call 46; refine (C6.out _ EU.out).mono ?_; rintro r w6 ⟨rfl, hb⟩; clear C6; have KZ := hide1 (KZ.out.below hb KZ.out.lt); have EU := hide1 (EU.out.trans (hb.mono EU.out.size)); clear hb; have y5 : w6.cell? ⟨X, 5, none⟩ = some (.bool false) := KZ.out.cell 5; have y7 : w6.cell? ⟨X, 7, none⟩ = some (.slice A.ia is.length A.ic) := KZ.out.cell 7; have y8 : w6.cell? ⟨X, 8, none⟩ = some (.int .i64 cn) := KZ.out.cell 8; have y9 : w6.cell? ⟨X, 9, none⟩ = some (.int .i64 tk.op) := KZ.out.cell 9; have y10 : w6.cell? ⟨X, 10, none⟩ = some (.int .i64 tk.cl) := KZ.out.cell 10; have y11 : w6.cell? ⟨X, 11, none⟩ = some (.int .i64 tk.nu) := KZ.out.cell 11; have y12 : w6.cell? ⟨X, 12, none⟩ = some (.string tk.it.k) := KZ.out.cell 12; have y13 : w6.cell? ⟨X, 13, none⟩ = some (.string tk.it.v) := KZ.out.cell 13; have y14 : w6.cell? ⟨X, 14, none⟩ = some (.int .i64 tk.it.n) := KZ.out.cell 14; have y15 : w6.cell? ⟨X, 15, none⟩ = some (.slice A.la tk.lf.length A.lc) := KZ.out.cell 15))
                    go_ret
                    exact ⟨by rw [RES.out]; first | done | rfl, EU.out⟩
                · rw [decide_eq_false c5] at C5
                  have RES := hide1 (show decide (okMb ⟨id, ep, true, false, false, false, wa, is, cn, tk⟩) = false from decide_eq_false (fun h => c5 h.2.2.2.2.2.1))
                  go_wp2_with (first | (go_at_call 23; (first | (with_reducible refine (C0.out _).mono ?_) | (with_reducible refine (C1.out _).mono ?_) | (with_reducible refine (C7.out _).mono ?_) | (with_reducible refine (C8.out _).mono ?_) | (with_reducible refine (C9.out _).mono ?_)); rintro r ww ⟨rfl, rfl⟩) | (go_at_call 45; (first | (with_reducible refine (C4.out _ EU.out).mono ?_) | (with_reducible refine (C5.out _ EU.out).mono ?_)); rintro r w4 ⟨rfl, hb⟩; have KZ := hide1 (KZ.out.below hb KZ.out.lt); have EU := hide1 (EU.out.trans (hb.mono EU.out.size)); clear hb; have y5 : w4.cell? ⟨X, 5, none⟩ = some (.bool false) := KZ.out.cell 5; have y7 : w4.cell? ⟨X, 7, none⟩ = some (.slice A.ia is.length A.ic) := KZ.out.cell 7; have y8 : w4.cell? ⟨X, 8, none⟩ = some (.int .i64 cn) := KZ.out.cell 8; have y9 : w4.cell? ⟨X, 9, none⟩ = some (.int .i64 tk.op) := KZ.out.cell 9; have y10 : w4.cell? ⟨X, 10, none⟩ = some (.int .i64 tk.cl) := KZ.out.cell 10; have y11 : w4.cell? ⟨X, 11, none⟩ = some (.int .i64 tk.nu) := KZ.out.cell 11; have y12 : w4.cell? ⟨X, 12, none⟩ = some (.string tk.it.k) := KZ.out.cell 12; have y13 : w4.cell? ⟨X, 13, none⟩ = some (.string tk.it.v) := KZ.out.cell 13; have y14 : w4.cell? ⟨X, 14, none⟩ = some (.int .i64 tk.it.n) := KZ.out.cell 14; have y15 : w4.cell? ⟨X, 15, none⟩ = some (.slice A.la tk.lf.length A.lc) := KZ.out.cell 15) | (go_at_call 46; refine (C6.out _ EU.out).mono ?_; rintro r w6 ⟨rfl, hb⟩; clear C6; have KZ := hide1 (KZ.out.below hb KZ.out.lt); have EU := hide1 (EU.out.trans (hb.mono EU.out.size)); clear hb; have y5 : w6.cell? ⟨X, 5, none⟩ = some (.bool false) := KZ.out.cell 5; have y7 : w6.cell? ⟨X, 7, none⟩ = some (.slice A.ia is.length A.ic) := KZ.out.cell 7; have y8 : w6.cell? ⟨X, 8, none⟩ = some (.int .i64 cn) := KZ.out.cell 8; have y9 : w6.cell? ⟨X, 9, none⟩ = some (.int .i64 tk.op) := KZ.out.cell 9; have y10 : w6.cell? ⟨X, 10, none⟩ = some (.int .i64 tk.cl) := KZ.out.cell 10; have y11 : w6.cell? ⟨X, 11, none⟩ = some (.int .i64 tk.nu) := KZ.out.cell 11; have y12 : w6.cell? ⟨X, 12, none⟩ = some (.string tk.it.k) := KZ.out.cell 12; have y13 : w6.cell? ⟨X, 13, none⟩ = some (.string tk.it.v) := KZ.out.cell 13; have y14 : w6.cell? ⟨X, 14, none⟩ = some (.int .i64 tk.it.n) := KZ.out.cell 14; have y15 : w6.cell? ⟨X, 15, none⟩ = some (.slice A.la tk.lf.length A.lc) := KZ.out.cell 15))
                  go_ret
                  exact ⟨by rw [RES.out]; first | done | rfl, EU.out⟩
              · rw [decide_eq_false c4] at C4
                have RES := hide1 (show decide (okMb ⟨id, ep, true, false, false, false, wa, is, cn, tk⟩) = false from decide_eq_false (fun h => c4 h.2.2.2.2.1))
                go_wp2_with (first | (go_at_call 23; (first | (with_reducible refine (C0.out _).mono ?_) | (with_reducible refine (C1.out _).mono ?_) | (with_reducible refine (C7.out _).mono ?_) | (with_reducible refine (C8.out _).mono ?_) | (with_reducible refine (C9.out _).mono ?_)); rintro r ww ⟨rfl, rfl⟩) | (go_at_call 45; (first | (with_reducible refine (C4.out _ EU.out).mono ?_) | (with_reducible refine (C5.out _ EU.out).mono ?_)); rintro r w4 ⟨rfl, hb⟩; have KZ := hide1 (KZ.out.below hb KZ.out.lt); have EU := hide1 (EU.out.trans (hb.mono EU.out.size)); clear hb; have y5 : w4.cell? ⟨X, 5, none⟩ = some (.bool false) := KZ.out.cell 5; have y7 : w4.cell? ⟨X, 7, none⟩ = some (.slice A.ia is.length A.ic) := KZ.out.cell 7; have y8 : w4.cell? ⟨X, 8, none⟩ = some (.int .i64 cn) := KZ.out.cell 8; have y9 : w4.cell? ⟨X, 9, none⟩ = some (.int .i64 tk.op) := KZ.out.cell 9; have y10 : w4.cell? ⟨X, 10, none⟩ = some (.int .i64 tk.cl) := KZ.out.cell 10; have y11 : w4.cell? ⟨X, 11, none⟩ = some (.int .i64 tk.nu) := KZ.out.cell 11; have y12 : w4.cell? ⟨X, 12, none⟩ = some (.string tk.it.k) := KZ.out.cell 12; have y13 : w4.cell? ⟨X, 13, none⟩ = some (.string tk.it.v) := KZ.out.cell 13; have y14 : w4.cell? ⟨X, 14, none⟩ = some (.int .i64 tk.it.n) := KZ.out.cell 14; have y15 : w4.cell? ⟨X, 15, none⟩ = some (.slice A.la tk.lf.length A.lc) := KZ.out.cell 15) | (go_at_call 46; refine (C6.out _ EU.out).mono ?_; rintro r w6 ⟨rfl, hb⟩; clear C6; have KZ := hide1 (KZ.out.below hb KZ.out.lt); have EU := hide1 (EU.out.trans (hb.mono EU.out.size)); clear hb; have y5 : w6.cell? ⟨X, 5, none⟩ = some (.bool false) := KZ.out.cell 5; have y7 : w6.cell? ⟨X, 7, none⟩ = some (.slice A.ia is.length A.ic) := KZ.out.cell 7; have y8 : w6.cell? ⟨X, 8, none⟩ = some (.int .i64 cn) := KZ.out.cell 8; have y9 : w6.cell? ⟨X, 9, none⟩ = some (.int .i64 tk.op) := KZ.out.cell 9; have y10 : w6.cell? ⟨X, 10, none⟩ = some (.int .i64 tk.cl) := KZ.out.cell 10; have y11 : w6.cell? ⟨X, 11, none⟩ = some (.int .i64 tk.nu) := KZ.out.cell 11; have y12 : w6.cell? ⟨X, 12, none⟩ = some (.string tk.it.k) := KZ.out.cell 12; have y13 : w6.cell? ⟨X, 13, none⟩ = some (.string tk.it.v) := KZ.out.cell 13; have y14 : w6.cell? ⟨X, 14, none⟩ = some (.int .i64 tk.it.n) := KZ.out.cell 14; have y15 : w6.cell? ⟨X, 15, none⟩ = some (.slice A.la tk.lf.length A.lc) := KZ.out.cell 15))
                go_ret
                exact ⟨by rw [RES.out]; first | done | rfl, EU.out⟩
        | false =>
          by_cases c4 : okIds wa
          · rw [decide_eq_true c4] at C4
            by_cases c5 : okIds tk.lf
            · rw [decide_eq_true c5] at C5
              by_cases c6 : okIms is
              · rw [decide_eq_true c6] at C6
                by_cases c7 : 0 ≤ cn ∧ cn ≤ 900
                · rw [in_yesI c7] at C7
                  have OK := hide1 (show okTk tk false → okMb ⟨id, ep, false, ba, le, false, wa, is, cn, tk⟩ from fun h => ⟨c0, c1, (fun e => by simp at e), (fun e => by simp at e), c4, c5, c6, c7, h⟩)
                  clear c0 c1 c4 c5 c6 c7
                  go_upto_region 4 with (first | (go_at_call 23; (first | (with_reducible refine (C0.out _).mono ?_) | (with_reducible refine (C1.out _).mono ?_) | (with_reducible refine (C7.out _).mono ?_) | (with_reducible refine (C8.out _).mono ?_) | (with_reducible refine (C9.out _).mono ?_)); rintro r ww ⟨rfl, rfl⟩) | (go_at_call 45; (first | (with_reducible refine (C4.out _ EU.out).mono ?_) | (with_reducible refine (C5.out _ EU.out).mono ?_)); rintro r w4 ⟨rfl, hb⟩; have KZ := hide1 (KZ.out.below hb KZ.out.lt); have EU := hide1 (EU.out.trans (hb.mono EU.out.size)); clear hb; have y5 : w4.cell? ⟨X, 5, none⟩ = some (.bool false) := KZ.out.cell 5; have y7 : w4.cell? ⟨X, 7, none⟩ = some (.slice A.ia is.length A.ic) := KZ.out.cell 7; have y8 : w4.cell? ⟨X, 8, none⟩ = some (.int .i64 cn) := KZ.out.cell 8; have y9 : w4.cell? ⟨X, 9, none⟩ = some (.int .i64 tk.op) := KZ.out.cell 9; have y10 : w4.cell? ⟨X, 10, none⟩ = some (.int .i64 tk.cl) := KZ.out.cell 10; have y11 : w4.cell? ⟨X, 11, none⟩ = some (.int .i64 tk.nu) := KZ.out.cell 11; have y12 : w4.cell? ⟨X, 12, none⟩ = some (.string tk.it.k) := KZ.out.cell 12; have y13 : w4.cell? ⟨X, 13, none⟩ = some (.string tk.it.v) := KZ.out.cell 13; have y14 : w4.cell? ⟨X, 14, none⟩ = some (.int .i64 tk.it.n) := KZ.out.cell 14; have y15 : w4.cell? ⟨X, 15, none⟩ = some (.slice A.la tk.lf.length A.lc) := KZ.out.cell 15) | (go_at_call 46; refine (C6.out _ EU.out).mono ?_; rintro r w6 ⟨rfl, hb⟩; clear C6; have KZ := hide1 (KZ.out.below hb KZ.out.lt); have EU := hide1 (EU.out.trans (hb.mono EU.out.size)); clear hb; have y5 : w6.cell? ⟨X, 5, none⟩ = some (.bool false) := KZ.out.cell 5; have y7 : w6.cell? ⟨X, 7, none⟩ = some (.slice A.ia is.length A.ic) := KZ.out.cell 7; have y8 : w6.cell? ⟨X, 8, none⟩ = some (.int .i64 cn) := KZ.out.cell 8; have y9 : w6.cell? ⟨X, 9, none⟩ = some (.int .i64 tk.op) := KZ.out.cell 9; have y10 : w6.cell? ⟨X, 10, none⟩ = some (.int .i64 tk.cl) := KZ.out.cell 10; have y11 : w6.cell? ⟨X, 11, none⟩ = some (.int .i64 tk.nu) := KZ.out.cell 11; have y12 : w6.cell? ⟨X, 12, none⟩ = some (.string tk.it.k) := KZ.out.cell 12; have y13 : w6.cell? ⟨X, 13, none⟩ = some (.string tk.it.v) := KZ.out.cell 13; have y14 : w6.cell? ⟨X, 14, none⟩ = some (.int .i64 tk.it.n) := KZ.out.cell 14; have y15 : w6.cell? ⟨X, 15, none⟩ = some (.slice A.la tk.lf.length A.lc) := KZ.out.cell 15))
                  have FT := hide1 (And.intro (Blk.new ww 36 #[.int .i64 tk.op, .int .i64 tk.cl, .int .i64 tk.nu, .string tk.it.k, .string tk.it.v, .int .i64 tk.it.n, .slice A.la tk.lf.length A.lc]) ((Below.refl ww.heap.size ww).alloc (Nat.le_refl _) (.cells #[.int .i64 tk.op, .int .i64 tk.cl, .int .i64 tk.nu, .string tk.it.k, .string tk.it.v, .int .i64 tk.it.n, .slice A.la tk.lf.length A.lc] 36)))
                  generalize (ww.alloc (.cells #[.int .i64 tk.op, .int .i64 tk.cl, .int .i64 tk.nu, .string tk.it.k, .string tk.it.v, .int .i64 tk.it.n, .slice A.la tk.lf.length A.lc] 36)) = v at FT ⊢
                  obtain ⟨TB, hTB⟩ : ∃ G, G = ww.heap.size := ⟨_, rfl⟩
                  have KT := hide1 FT.out.1
                  rw [← hTB] at KT ⊢
                  have KW := hide1 (KZ.out.below FT.out.2 KZ.out.lt)
                  have EV := hide1 (EU.out.trans (FT.out.2.mono EU.out.size))
                  clear FT hTB KZ EU
                  have z0 : v.cell? ⟨TB, 0, none⟩ = some (.int .i64 tk.op) := KT.out.cell 0
                  have z1 : v.cell? ⟨TB, 1, none⟩ = some (.int .i64 tk.cl) := KT.out.cell 1
                  have z2 : v.cell? ⟨TB, 2, none⟩ = some (.int .i64 tk.nu) := KT.out.cell 2
                  have z3 : v.cell? ⟨TB, 3, none⟩ = some (.string tk.it.k) := KT.out.cell 3
                  have z4 : v.cell? ⟨TB, 4, none⟩ = some (.string tk.it.v) := KT.out.cell 4
                  have z5 : v.cell? ⟨TB, 5, none⟩ = some (.int .i64 tk.it.n) := KT.out.cell 5
                  have z6 : v.cell? ⟨TB, 6, none⟩ = some (.slice A.la tk.lf.length A.lc) := KT.out.cell 6
                  have y5 : v.cell? ⟨X, 5, none⟩ = some (.bool false) := KW.out.cell 5
                  have HN := hide1 (show ¬ okTk tk false → decide (okMb ⟨id, ep, false, ba, le, false, wa, is, cn, tk⟩) = false from fun h => decide_eq_false (fun e => h e.2.2.2.2.2.2.2.2))
                  by_cases d0 : noTk tk
                  · rw [decide_eq_true d0] at CT
                    have RES := hide1 (show decide (okMb ⟨id, ep, false, ba, le, false, wa, is, cn, tk⟩) = true from decide_eq_true (OK.out (.inl d0)))
                    clear OK HN
                    try clear d0
                    try clear d1
                    try clear d2
                    try clear d3
                    try clear e1
                    go_wp2_with (first | (go_at_call 47; refine (CT.out _).mono ?_; rintro r w8 ⟨rfl, hb8⟩; have KW := hide1 (KW.out.below hb8 KW.out.lt); have KT := hide1 (KT.out.below hb8 KT.out.lt); have EV := hide1 (EV.out.trans (hb8.mono EV.out.size)); clear hb8; have z0 : w8.cell? ⟨TB, 0, none⟩ = some (.int .i64 tk.op) := KT.out.cell 0; have z1 : w8.cell? ⟨TB, 1, none⟩ = some (.int .i64 tk.cl) := KT.out.cell 1; have z2 : w8.cell? ⟨TB, 2, none⟩ = some (.int .i64 tk.nu) := KT.out.cell 2; have y5 : w8.cell? ⟨X, 5, none⟩ = some (.bool false) := KW.out.cell 5) | (go_at_call 23; (first | (with_reducible refine (C8.out _).mono ?_) | (with_reducible refine (C9.out _).mono ?_)); rintro r wx ⟨rfl, rfl⟩))
                    go_ret
                    exact ⟨by rw [RES.out]; first | done | rfl, EV.out⟩
                  · rw [decide_eq_false d0] at CT
                    by_cases d1 : tk.op = 1
                    · have q1 : (tk.op == 1) = true := by simp [d1]
                      have RES := hide1 (HN.out (fun e => by rcases e with e | e; exact d0 e; exact absurd e.2.1 (by simp)))
                      clear OK HN
                      try clear d0
                      try clear d1
                      try clear d2
                      try clear d3
                      try clear e1
                      go_wp2_with (first | (go_at_call 47; refine (CT.out _).mono ?_; rintro r w8 ⟨rfl, hb8⟩; have KW := hide1 (KW.out.below hb8 KW.out.lt); have KT := hide1 (KT.out.below hb8 KT.out.lt); have EV := hide1 (EV.out.trans (hb8.mono EV.out.size)); clear hb8; have z0 : w8.cell? ⟨TB, 0, none⟩ = some (.int .i64 tk.op) := KT.out.cell 0; have z1 : w8.cell? ⟨TB, 1, none⟩ = some (.int .i64 tk.cl) := KT.out.cell 1; have z2 : w8.cell? ⟨TB, 2, none⟩ = some (.int .i64 tk.nu) := KT.out.cell 2; have y5 : w8.cell? ⟨X, 5, none⟩ = some (.bool false) := KW.out.cell 5) | (go_at_call 23; (first | (with_reducible refine (C8.out _).mono ?_) | (with_reducible refine (C9.out _).mono ?_)); rintro r wx ⟨rfl, rfl⟩))
                      go_ret
                      exact ⟨by rw [RES.out]; first | done | rfl, EV.out⟩
                    · have q1 : (tk.op == 1) = false := by simp [d1]
                      by_cases e1 : tk.op = 2
                      · have q2 : (tk.op == 2) = true := by simp [e1]
                        have RES := hide1 (HN.out (fun e => by rcases e with e | e; exact d0 e; exact absurd e.2.1 (by simp)))
                        clear OK HN
                        try clear d0
                        try clear d1
                        try clear d2
                        try clear d3
                        try clear e1
                        go_wp2_with (first | (go_at_call 47; refine (CT.out _).mono ?_; rintro r w8 ⟨rfl, hb8⟩; have KW := hide1 (KW.out.below hb8 KW.out.lt); have KT := hide1 (KT.out.below hb8 KT.out.lt); have EV := hide1 (EV.out.trans (hb8.mono EV.out.size)); clear hb8; have z0 : w8.cell? ⟨TB, 0, none⟩ = some (.int .i64 tk.op) := KT.out.cell 0; have z1 : w8.cell? ⟨TB, 1, none⟩ = some (.int .i64 tk.cl) := KT.out.cell 1; have z2 : w8.cell? ⟨TB, 2, none⟩ = some (.int .i64 tk.nu) := KT.out.cell 2; have y5 : w8.cell? ⟨X, 5, none⟩ = some (.bool false) := KW.out.cell 5) | (go_at_call 23; (first | (with_reducible refine (C8.out _).mono ?_) | (with_reducible refine (C9.out _).mono ?_)); rintro r wx ⟨rfl, rfl⟩))
                        go_ret
                        exact ⟨by rw [RES.out]; first | done | rfl, EV.out⟩
                      · have q2 : (tk.op == 2) = false := by simp [e1]
                        have RES := hide1 (HN.out (fun e => by rcases e with e | e; exact d0 e; exact e.1.elim d1 e1))
                        clear OK HN
                        try clear d0
                        try clear d1
                        try clear d2
                        try clear d3
                        try clear e1
                        go_wp2_with (first | (go_at_call 47; refine (CT.out _).mono ?_; rintro r w8 ⟨rfl, hb8⟩; have KW := hide1 (KW.out.below hb8 KW.out.lt); have KT := hide1 (KT.out.below hb8 KT.out.lt); have EV := hide1 (EV.out.trans (hb8.mono EV.out.size)); clear hb8; have z0 : w8.cell? ⟨TB, 0, none⟩ = some (.int .i64 tk.op) := KT.out.cell 0; have z1 : w8.cell? ⟨TB, 1, none⟩ = some (.int .i64 tk.cl) := KT.out.cell 1; have z2 : w8.cell? ⟨TB, 2, none⟩ = some (.int .i64 tk.nu) := KT.out.cell 2; have y5 : w8.cell? ⟨X, 5, none⟩ = some (.bool false) := KW.out.cell 5) | (go_at_call 23; (first | (with_reducible refine (C8.out _).mono ?_) | (with_reducible refine (C9.out _).mono ?_)); rintro r wx ⟨rfl, rfl⟩))
                        go_ret
                        exact ⟨by rw [RES.out]; first | done | rfl, EV.out⟩
                · rw [in_noI c7] at C7
                  have RES := hide1 (show decide (okMb ⟨id, ep, false, ba, le, false, wa, is, cn, tk⟩) = false from decide_eq_false (fun h => c7 h.2.2.2.2.2.2.2.1))
                  go_wp2_with (first | (go_at_call 23; (first | (with_reducible refine (C0.out _).mono ?_) | (with_reducible refine (C1.out _).mono ?_) | (with_reducible refine (C7.out _).mono ?_) | (with_reducible refine (C8.out _).mono ?_) | (with_reducible refine (C9.out _).mono ?_)); rintro r ww ⟨rfl, rfl⟩) | (go_at_call 45; (first | (with_reducible refine (C4.out _ EU.out).mono ?_) | (with_reducible refine (C5.out _ EU.out).mono ?_)); rintro r w4 ⟨rfl, hb⟩; have KZ := hide1 (KZ.out.below hb KZ.out.lt); have EU := hide1 (EU.out.trans (hb.mono EU.out.size)); clear hb; have y5 : w4.cell? ⟨X, 5, none⟩ = some (.bool false) := KZ.out.cell 5; have y7 : w4.cell? ⟨X, 7, none⟩ = some (.slice A.ia is.length A.ic) := KZ.out.cell 7; have y8 : w4.cell? ⟨X, 8, none⟩ = some (.int .i64 cn) := KZ.out.cell 8; have y9 : w4.cell? ⟨X, 9, none⟩ = some (.int .i64 tk.op) := KZ.out.cell 9; have y10 : w4.cell? ⟨X, 10, none⟩ = some (.int .i64 tk.cl) := KZ.out.cell 10; have y11 : w4.cell? ⟨X, 11, none⟩ = some (.int .i64 tk.nu) := KZ.out.cell 11; have y12 : w4.cell? ⟨X, 12, none⟩ = some (.string tk.it.k) := KZ.out.cell 12; have y13 : w4.cell? ⟨X, 13, none⟩ = some (.string tk.it.v) := KZ.out.cell 13; have y14 : w4.cell? ⟨X, 14, none⟩ = some (.int .i64 tk.it.n) := KZ.out.cell 14; have y15 : w4.cell? ⟨X, 15, none⟩ = some (.slice A.la tk.lf.length A.lc) := KZ.out.cell 15) | (go_at_call 46; refine (C6.out _ EU.out).mono ?_; rintro r w6 ⟨rfl, hb⟩; clear C6; have KZ := hide1 (KZ.out.below hb KZ.out.lt); have EU := hide1 (EU.out.trans (hb.mono EU.out.size)); clear hb; have y5 : w6.cell? ⟨X, 5, none⟩ = some (.bool false) := KZ.out.cell 5; have y7 : w6.cell? ⟨X, 7, none⟩ = some (.slice A.ia is.length A.ic) := KZ.out.cell 7; have y8 : w6.cell? ⟨X, 8, none⟩ = some (.int .i64 cn) := KZ.out.cell 8; have y9 : w6.cell? ⟨X, 9, none⟩ = some (.int .i64 tk.op) := KZ.out.cell 9; have y10 : w6.cell? ⟨X, 10, none⟩ = some (.int .i64 tk.cl) := KZ.out.cell 10; have y11 : w6.cell? ⟨X, 11, none⟩ = some (.int .i64 tk.nu) := KZ.out.cell 11; have y12 : w6.cell? ⟨X, 12, none⟩ = some (.string tk.it.k) := KZ.out.cell 12; have y13 : w6.cell? ⟨X, 13, none⟩ = some (.string tk.it.v) := KZ.out.cell 13; have y14 : w6.cell? ⟨X, 14, none⟩ = some (.int .i64 tk.it.n) := KZ.out.cell 14; have y15 : w6.cell? ⟨X, 15, none⟩ = some (.slice A.la tk.lf.length A.lc) := KZ.out.cell 15))
                  go_ret
                  exact ⟨by rw [RES.out]; first | done | rfl, EU.out⟩
              · rw [decide_eq_false c6] at C6
                have RES := hide1 (show decide (okMb ⟨id, ep, false, ba, le, false, wa, is, cn, tk⟩) = false from decide_eq_false (fun h => c6 h.2.2.2.2.2.2.1))
                go_wp2_with (first | (go_at_call 23; (first | (with_reducible refine (C0.out _).mono ?_) | (with_reducible refine (C1.out _).mono ?_) | (with_reducible refine (C7.out _).mono ?_) | (with_reducible refine (C8.out _).mono ?_) | (with_reducible refine (C9.out _).mono ?_)); rintro r ww ⟨rfl, rfl⟩) | (go_at_call 45; (first | (with_reducible refine (C4.out _ EU.out).mono ?_) | (with_reducible refine (C5.out _ EU.out).mono ?_)); rintro r w4 ⟨rfl, hb⟩; have KZ := hide1 (KZ.out.below hb KZ.out.lt); have EU := hide1 (EU.out.trans (hb.mono EU.out.size)); clear hb; have y5 : w4.cell? ⟨X, 5, none⟩ = some (.bool false) := KZ.out.cell 5; have y7 : w4.cell? ⟨X, 7, none⟩ = some (.slice A.ia is.length A.ic) := KZ.out.cell 7; have y8 : w4.cell? ⟨X, 8, none⟩ = some (.int .i64 cn) := KZ.out.cell 8; have y9 : w4.cell? ⟨X, 9, none⟩ = some (.int .i64 tk.op) := KZ.out.cell 9; have y10 : w4.cell? ⟨X, 10, none⟩ = some (.int .i64 tk.cl) := KZ.out.cell 10; have y11 : w4.cell? ⟨X, 11, none⟩ = some (.int .i64 tk.nu) := KZ.out.cell 11; have y12 : w4.cell? ⟨X, 12, none⟩ = some (.string tk.it.k) := KZ.out.cell 12; have y13 : w4.cell? ⟨X, 13, none⟩ = some (.string tk.it.v) := KZ.out.cell 13; have y14 : w4.cell? ⟨X, 14, none⟩ = some (.int .i64 tk.it.n) := KZ.out.cell 14; have y15 : w4.cell? ⟨X, 15, none⟩ = some (.slice A.la tk.lf.length A.lc) := KZ.out.cell 15) | (go_at_call 46; refine (C6.out _ EU.out).mono ?_; rintro r w6 ⟨rfl, hb⟩; clear C6; have KZ := hide1 (KZ.out.below hb KZ.out.lt); have EU := hide1 (EU.out.trans (hb.mono EU.out.size)); clear hb; have y5 : w6.cell? ⟨X, 5, none⟩ = some (.bool false) := KZ.out.cell 5; have y7 : w6.cell? ⟨X, 7, none⟩ = some (.slice A.ia is.length A.ic) := KZ.out.cell 7; have y8 : w6.cell? ⟨X, 8, none⟩ = some (.int .i64 cn) := KZ.out.cell 8; have y9 : w6.cell? ⟨X, 9, none⟩ = some (.int .i64 tk.op) := KZ.out.cell 9; have y10 : w6.cell? ⟨X, 10, none⟩ = some (.int .i64 tk.cl) := KZ.out.cell 10; have y11 : w6.cell? ⟨X, 11, none⟩ = some (.int .i64 tk.nu) := KZ.out.cell 11; have y12 : w6.cell? ⟨X, 12, none⟩ = some (.string tk.it.k) := KZ.out.cell 12; have y13 : w6.cell? ⟨X, 13, none⟩ = some (.string tk.it.v) := KZ.out.cell 13; have y14 : w6.cell? ⟨X, 14, none⟩ = some (.int .i64 tk.it.n) := KZ.out.cell 14; have y15 : w6.cell? ⟨X, 15, none⟩ = some (.slice A.la tk.lf.length A.lc) := KZ.out.cell 15))
                go_ret
                exact ⟨by rw [RES.out]; first | done | rfl, EU.out⟩
            · rw [decide_eq_false c5] at C5
              have RES := hide1 (show decide (okMb ⟨id, ep, false, ba, le, false, wa, is, cn, tk⟩) = false from decide_eq_false (fun h => c5 h.2.2.2.2.2.1))
              go_wp2_with (first | (go_at_call 23; (first | (with_reducible refine (C0.out _).mono ?_) | (with_reducible refine (C1.out _).mono ?_) | (with_reducible refine (C7.out _).mono ?_) | (with_reducible refine (C8.out _).mono ?_) | (with_reducible refine (C9.out _).mono ?_)); rintro r ww ⟨rfl, rfl⟩) | (go_at_call 45; (first | (with_reducible refine (C4.out _ EU.out).mono ?_) | (with_reducible refine (C5.out _ EU.out).mono ?_)); rintro r w4 ⟨rfl, hb⟩; have KZ := hide1 (KZ.out.below hb KZ.out.lt); have EU := hide1 (EU.out.trans (hb.mono EU.out.size)); clear hb; have y5 : w4.cell? ⟨X, 5, none⟩ = some (.bool false) := KZ.out.cell 5; have y7 : w4.cell? ⟨X, 7, none⟩ = some (.slice A.ia is.length A.ic) := KZ.out.cell 7; have y8 : w4.cell? ⟨X, 8, none⟩ = some (.int .i64 cn) := KZ.out.cell 8; have y9 : w4.cell? ⟨X, 9, none⟩ = some (.int .i64 tk.op) := KZ.out.cell 9; have y10 : w4.cell? ⟨X, 10, none⟩ = some (.int .i64 tk.cl) := KZ.out.cell 10; have y11 : w4.cell? ⟨X, 11, none⟩ = some (.int .i64 tk.nu) := KZ.out.cell 11; have y12 : w4.cell? ⟨X, 12, none⟩ = some (.string tk.it.k) := KZ.out.cell 12; have y13 : w4.cell? ⟨X, 13, none⟩ = some (.string tk.it.v) := KZ.out.cell 13; have y14 : w4.cell? ⟨X, 14, none⟩ = some (.int .i64 tk.it.n) := KZ.out.cell 14; have y15 : w4.cell? ⟨X, 15, none⟩ = some (.slice A.la tk.lf.length A.lc) := KZ.out.cell 15) | (go_at_call 46; refine (C6.out _ EU.out).mono ?_; rintro r w6 ⟨rfl, hb⟩; clear C6; have KZ := hide1 (KZ.out.below hb KZ.out.lt); have EU := hide1 (EU.out.trans (hb.mono EU.out.size)); clear hb; have y5 : w6.cell? ⟨X, 5, none⟩ = some (.bool false) := KZ.out.cell 5; have y7 : w6.cell? ⟨X, 7, none⟩ = some (.slice A.ia is.length A.ic) := KZ.out.cell 7; have y8 : w6.cell? ⟨X, 8, none⟩ = some (.int .i64 cn) := KZ.out.cell 8; have y9 : w6.cell? ⟨X, 9, none⟩ = some (.int .i64 tk.op) := KZ.out.cell 9; have y10 : w6.cell? ⟨X, 10, none⟩ = some (.int .i64 tk.cl) := KZ.out.cell 10; have y11 : w6.cell? ⟨X, 11, none⟩ = some (.int .i64 tk.nu) := KZ.out.cell 11; have y12 : w6.cell? ⟨X, 12, none⟩ = some (.string tk.it.k) := KZ.out.cell 12; have y13 : w6.cell? ⟨X, 13, none⟩ = some (.string tk.it.v) := KZ.out.cell 13; have y14 : w6.cell? ⟨X, 14, none⟩ = some (.int .i64 tk.it.n) := KZ.out.cell 14; have y15 : w6.cell? ⟨X, 15, none⟩ = some (.slice A.la tk.lf.length A.lc) := KZ.out.cell 15))
              go_ret
              exact ⟨by rw [RES.out]; first | done | rfl, EU.out⟩
          · rw [decide_eq_false c4] at C4
            have RES := hide1 (show decide (okMb ⟨id, ep, false, ba, le, false, wa, is, cn, tk⟩) = false from decide_eq_false (fun h => c4 h.2.2.2.2.1))
            go_wp2_with (first | (go_at_call 23; (first | (with_reducible refine (C0.out _).mono ?_) | (with_reducible refine (C1.out _).mono ?_) | (with_reducible refine (C7.out _).mono ?_) | (with_reducible refine (C8.out _).mono ?_) | (with_reducible refine (C9.out _).mono ?_)); rintro r ww ⟨rfl, rfl⟩) | (go_at_call 45; (first | (with_reducible refine (C4.out _ EU.out).mono ?_) | (with_reducible refine (C5.out _ EU.out).mono ?_)); rintro r w4 ⟨rfl, hb⟩; have KZ := hide1 (KZ.out.below hb KZ.out.lt); have EU := hide1 (EU.out.trans (hb.mono EU.out.size)); clear hb; have y5 : w4.cell? ⟨X, 5, none⟩ = some (.bool false) := KZ.out.cell 5; have y7 : w4.cell? ⟨X, 7, none⟩ = some (.slice A.ia is.length A.ic) := KZ.out.cell 7; have y8 : w4.cell? ⟨X, 8, none⟩ = some (.int .i64 cn) := KZ.out.cell 8; have y9 : w4.cell? ⟨X, 9, none⟩ = some (.int .i64 tk.op) := KZ.out.cell 9; have y10 : w4.cell? ⟨X, 10, none⟩ = some (.int .i64 tk.cl) := KZ.out.cell 10; have y11 : w4.cell? ⟨X, 11, none⟩ = some (.int .i64 tk.nu) := KZ.out.cell 11; have y12 : w4.cell? ⟨X, 12, none⟩ = some (.string tk.it.k) := KZ.out.cell 12; have y13 : w4.cell? ⟨X, 13, none⟩ = some (.string tk.it.v) := KZ.out.cell 13; have y14 : w4.cell? ⟨X, 14, none⟩ = some (.int .i64 tk.it.n) := KZ.out.cell 14; have y15 : w4.cell? ⟨X, 15, none⟩ = some (.slice A.la tk.lf.length A.lc) := KZ.out.cell 15) | (go_at_call 46; refine (C6.out _ EU.out).mono ?_; rintro r w6 ⟨rfl, hb⟩; clear C6; have KZ := hide1 (KZ.out.below hb KZ.out.lt); have EU := hide1 (EU.out.trans (hb.mono EU.out.size)); clear hb; have y5 : w6.cell? ⟨X, 5, none⟩ = some (.bool false) := KZ.out.cell 5; have y7 : w6.cell? ⟨X, 7, none⟩ = some (.slice A.ia is.length A.ic) := KZ.out.cell 7; have y8 : w6.cell? ⟨X, 8, none⟩ = some (.int .i64 cn) := KZ.out.cell 8; have y9 : w6.cell? ⟨X, 9, none⟩ = some (.int .i64 tk.op) := KZ.out.cell 9; have y10 : w6.cell? ⟨X, 10, none⟩ = some (.int .i64 tk.cl) := KZ.out.cell 10; have y11 : w6.cell? ⟨X, 11, none⟩ = some (.int .i64 tk.nu) := KZ.out.cell 11; have y12 : w6.cell? ⟨X, 12, none⟩ = some (.string tk.it.k) := KZ.out.cell 12; have y13 : w6.cell? ⟨X, 13, none⟩ = some (.string tk.it.v) := KZ.out.cell 13; have y14 : w6.cell? ⟨X, 14, none⟩ = some (.int .i64 tk.it.n) := KZ.out.cell 14; have y15 : w6.cell? ⟨X, 15, none⟩ = some (.slice A.la tk.lf.length A.lc) := KZ.out.cell 15))
            go_ret
            exact ⟨by rw [RES.out]; first | done | rfl, EU.out⟩
    · rw [in_noI c1] at C1
      have RES := hide1 (show decide (okMb ⟨id, ep, fe, ba, le, se, wa, is, cn, tk⟩) = false from decide_eq_false (fun h => c1 h.2.1))
      go_wp2_with (first | (go_at_call 23; (first | (with_reducible refine (C0.out _).mono ?_) | (with_reducible refine (C1.out _).mono ?_) | (with_reducible refine (C7.out _).mono ?_) | (with_reducible refine (C8.out _).mono ?_) | (with_reducible refine (C9.out _).mono ?_)); rintro r ww ⟨rfl, rfl⟩) | (go_at_call 45; (first | (with_reducible refine (C4.out _ EU.out).mono ?_) | (with_reducible refine (C5.out _ EU.out).mono ?_)); rintro r w4 ⟨rfl, hb⟩; have KZ := hide1 (KZ.out.below hb KZ.out.lt); have EU := hide1 (EU.out.trans (hb.mono EU.out.size)); clear hb; have y5 : w4.cell? ⟨X, 5, none⟩ = some (.bool se) := KZ.out.cell 5; have y7 : w4.cell? ⟨X, 7, none⟩ = some (.slice A.ia is.length A.ic) := KZ.out.cell 7; have y8 : w4.cell? ⟨X, 8, none⟩ = some (.int .i64 cn) := KZ.out.cell 8; have y9 : w4.cell? ⟨X, 9, none⟩ = some (.int .i64 tk.op) := KZ.out.cell 9; have y10 : w4.cell? ⟨X, 10, none⟩ = some (.int .i64 tk.cl) := KZ.out.cell 10; have y11 : w4.cell? ⟨X, 11, none⟩ = some (.int .i64 tk.nu) := KZ.out.cell 11; have y12 : w4.cell? ⟨X, 12, none⟩ = some (.string tk.it.k) := KZ.out.cell 12; have y13 : w4.cell? ⟨X, 13, none⟩ = some (.string tk.it.v) := KZ.out.cell 13; have y14 : w4.cell? ⟨X, 14, none⟩ = some (.int .i64 tk.it.n) := KZ.out.cell 14; have y15 : w4.cell? ⟨X, 15, none⟩ = some (.slice A.la tk.lf.length A.lc) := KZ.out.cell 15) | (go_at_call 46; refine (C6.out _ EU.out).mono ?_; rintro r w6 ⟨rfl, hb⟩; clear C6; have KZ := hide1 (KZ.out.below hb KZ.out.lt); have EU := hide1 (EU.out.trans (hb.mono EU.out.size)); clear hb; have y5 : w6.cell? ⟨X, 5, none⟩ = some (.bool se) := KZ.out.cell 5; have y7 : w6.cell? ⟨X, 7, none⟩ = some (.slice A.ia is.length A.ic) := KZ.out.cell 7; have y8 : w6.cell? ⟨X, 8, none⟩ = some (.int .i64 cn) := KZ.out.cell 8; have y9 : w6.cell? ⟨X, 9, none⟩ = some (.int .i64 tk.op) := KZ.out.cell 9; have y10 : w6.cell? ⟨X, 10, none⟩ = some (.int .i64 tk.cl) := KZ.out.cell 10; have y11 : w6.cell? ⟨X, 11, none⟩ = some (.int .i64 tk.nu) := KZ.out.cell 11; have y12 : w6.cell? ⟨X, 12, none⟩ = some (.string tk.it.k) := KZ.out.cell 12; have y13 : w6.cell? ⟨X, 13, none⟩ = some (.string tk.it.v) := KZ.out.cell 13; have y14 : w6.cell? ⟨X, 14, none⟩ = some (.int .i64 tk.it.n) := KZ.out.cell 14; have y15 : w6.cell? ⟨X, 15, none⟩ = some (.slice A.la tk.lf.length A.lc) := KZ.out.cell 15))
      go_ret
      exact ⟨by rw [RES.out]; first | done | rfl, EU.out⟩
  · rw [in_noI c0] at C0
    have RES := hide1 (show decide (okMb ⟨id, ep, fe, ba, le, se, wa, is, cn, tk⟩) = false from decide_eq_false (fun h => c0 h.1))
    go_wp2_with (first | (go_at_call 23; (first | (with_reducible refine (C0.out _).mono ?_) | (with_reducible refine (C1.out _).mono ?_) | (with_reducible refine (C7.out _).mono ?_) | (with_reducible refine (C8.out _).mono ?_) | (with_reducible refine (C9.out _).mono ?_)); rintro r ww ⟨rfl, rfl⟩) | (go_at_call 45; (first | (with_reducible refine (C4.out _ EU.out).mono ?_) | (with_reducible refine (C5.out _ EU.out).mono ?_)); rintro r w4 ⟨rfl, hb⟩; have KZ := hide1 (KZ.out.below hb KZ.out.lt); have EU := hide1 (EU.out.trans (hb.mono EU.out.size)); clear hb; have y5 : w4.cell? ⟨X, 5, none⟩ = some (.bool se) := KZ.out.cell 5; have y7 : w4.cell? ⟨X, 7, none⟩ = some (.slice A.ia is.length A.ic) := KZ.out.cell 7; have y8 : w4.cell? ⟨X, 8, none⟩ = some (.int .i64 cn) := KZ.out.cell 8; have y9 : w4.cell? ⟨X, 9, none⟩ = some (.int .i64 tk.op) := KZ.out.cell 9; have y10 : w4.cell? ⟨X, 10, none⟩ = some (.int .i64 tk.cl) := KZ.out.cell 10; have y11 : w4.cell? ⟨X, 11, none⟩ = some (.int .i64 tk.nu) := KZ.out.cell 11; have y12 : w4.cell? ⟨X, 12, none⟩ = some (.string tk.it.k) := KZ.out.cell 12; have y13 : w4.cell? ⟨X, 13, none⟩ = some (.string tk.it.v) := KZ.out.cell 13; have y14 : w4.cell? ⟨X, 14, none⟩ = some (.int .i64 tk.it.n) := KZ.out.cell 14; have y15 : w4.cell? ⟨X, 15, none⟩ = some (.slice A.la tk.lf.length A.lc) := KZ.out.cell 15) | (go_at_call 46; refine (C6.out _ EU.out).mono ?_; rintro r w6 ⟨rfl, hb⟩; clear C6; have KZ := hide1 (KZ.out.below hb KZ.out.lt); have EU := hide1 (EU.out.trans (hb.mono EU.out.size)); clear hb; have y5 : w6.cell? ⟨X, 5, none⟩ = some (.bool se) := KZ.out.cell 5; have y7 : w6.cell? ⟨X, 7, none⟩ = some (.slice A.ia is.length A.ic) := KZ.out.cell 7; have y8 : w6.cell? ⟨X, 8, none⟩ = some (.int .i64 cn) := KZ.out.cell 8; have y9 : w6.cell? ⟨X, 9, none⟩ = some (.int .i64 tk.op) := KZ.out.cell 9; have y10 : w6.cell? ⟨X, 10, none⟩ = some (.int .i64 tk.cl) := KZ.out.cell 10; have y11 : w6.cell? ⟨X, 11, none⟩ = some (.int .i64 tk.nu) := KZ.out.cell 11; have y12 : w6.cell? ⟨X, 12, none⟩ = some (.string tk.it.k) := KZ.out.cell 12; have y13 : w6.cell? ⟨X, 13, none⟩ = some (.string tk.it.v) := KZ.out.cell 13; have y14 : w6.cell? ⟨X, 14, none⟩ = some (.int .i64 tk.it.n) := KZ.out.cell 14; have y15 : w6.cell? ⟨X, 15, none⟩ = some (.slice A.la tk.lf.length A.lc) := KZ.out.cell 15))
    go_ret
    exact ⟨by rw [RES.out]; first | done | rfl, EU.out⟩
end Go.Proofs.YtpjgplohlchpoaaGreatDoor
