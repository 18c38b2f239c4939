/- Members: the program's nodesAscend, callFits, standFits, taskFits, MemberOk, Fall. -/
import Derived.Test.YtpjgplohlchpoaaGreatDoorMbS
import Derived.Test.YtpjgplohlchpoaaGreatDoorUAQ
import Derived.Deep.DeepCutAuto
namespace Go.Proofs.YtpjgplohlchpoaaGreatDoor
open Go.RowKit
set_option linter.unusedVariables false

set_option maxRecDepth 100000 in
set_option maxHeartbeats 8000000 in
theorem implAscend_any (a : Option Addr) (l : List Int) (ca : Nat) (w : World) (hl : l.length ≤ 1048576) (hA : RdZ w a l) :
    Calls Tryz.prog 93 #[.slice a l.length ca] w fun e w' => e = .returned (.bool (decide (okIds l))) ∧ w' = w := by
  have HA := hide1 hA
  clear hA
  go_enter Tryz.func93, Tryz.ntmps93
  go_wp2
  go_loopw [7] (fun iv wr => ∃ i : Nat, i ≤ l.length ∧ iv = .int .i64 (i : Int) ∧ Hid (idTo l i) ∧ Hid (wr = w)) (fun iv _ => l.length - (intOf iv).toNat)
  case atStart => exact ⟨0, Nat.zero_le _, rfl, hide1 (fun j _ h => by omega), hide1 rfl⟩
  case round =>
    obtain ⟨i, hi, rfl, HS, BB⟩ := hrel
    by_cases hlt : i < l.length
    · have k1 : (i : Int) < (l.length : Int) := by omega
      have k0 : (0 : Int) ≤ (i : Int) := by omega
      obtain ⟨b, o, hab, hb, hc⟩ := HA.out i hlt
      have x0 : wr.cell? ⟨b, o + i, none⟩ = some (.int .i64 l[i]) := by rw [BB.out]; exact hc
      have NO := hide1 (fun h => ids_no hlt h)
      have YES := hide1 (fun h1 h2 => idTo_next HS.out hlt h1 h2)
      have PR := hide1 (fun m (hm : m < l.length) (e : m + 1 = i) => And.intro (fun h => ids_no2 hlt hm e h) (show wr.cell? ⟨b, o + m, none⟩ = some (.int .i64 l[m]) by obtain ⟨b', o', e', hb', hc'⟩ := HA.out m hm; rw [hab] at e'; injection e' with e'; injection e' with e1 e2; subst e1; subst e2; rw [BB.out]; exact hc'))
      have C1 := hide1 (fun w' => nodeFits_any l[i] w')
      subst hab
      clear hc
      by_cases c1 : 1 ≤ l[i] ∧ l[i] ≤ 6
      · rw [decide_eq_true c1] at C1
        by_cases c4 : 0 < i
        · have q4 : decide ((0 : Int) < (i : Int)) = true := decide_eq_true (by omega)
          obtain ⟨m, hm⟩ : ∃ m, m + 1 = i := ⟨i - 1, by omega⟩
          have hml : m < l.length := by omega
          obtain ⟨P1, P2⟩ := PR.out m hml hm
          have YS := hide1 (fun (h : l[m] < l[i]) => YES.out c1 (fun m' hm' e' => by have : m' = m := (by omega); subst this; exact h))
          have P1h := hide1 P1
          have hsub : IntKind.i64.wrap ((i : Int) - 1) = (m : Int) := by rw [show (i : Int) - 1 = (m : Int) by omega]; exact IntWalk.i64_in _ ⟨by omega, by omega⟩
          have hsub2 : (i : Int) - 1 = (m : Int) := by omega
          have hm0 : (m : Int) < (l.length : Int) := by omega
          generalize l[m] = py at *
          generalize l[i] = ny at *
          clear P1 PR NO YES c1
          by_cases ct : py < ny
          · have qt : decide (ny ≤ py) = false := decide_eq_false (by omega)
            have CT := hide1 ct
            clear ct
            go_wp2_with fail
            refine (C1.out _).mono ?_
            rintro e w1 ⟨rfl, rfl⟩
            go_wp2
            go_roundw
            case rel => exact ⟨i + 1, by omega, by go_num, hide1 (YS.out CT.out), BB⟩
            case measure => simp [intOf]; omega
          · have qt : decide (ny ≤ py) = true := decide_eq_true (by omega)
            have RES := hide1 (P1h.out ct)
            clear ct
            go_wp2_with fail
            refine (C1.out _).mono ?_
            rintro e w1 ⟨rfl, rfl⟩
            go_wp2
            go_ret
            exact ⟨by rw [RES.out]; first | done | rfl, BB.out⟩
        · have q4 : decide ((0 : Int) < (i : Int)) = false := decide_eq_false (by omega)
          have YS := hide1 (YES.out c1 (fun m' hm' e' => by omega))
          generalize l[i] = ny at *
          clear PR NO YES c1
          go_wp2_with fail
          refine (C1.out _).mono ?_
          rintro e w1 ⟨rfl, rfl⟩
          go_wp2
          go_roundw
          case rel => exact ⟨i + 1, by omega, by go_num, YS, BB⟩
          case measure => simp [intOf]; omega
      · rw [decide_eq_false c1] at C1
        have RES := hide1 (NO.out c1)
        generalize l[i] = ny at *
        clear PR NO YES c1
        go_wp2_with fail
        refine (C1.out _).mono ?_
        rintro e w1 ⟨rfl, rfl⟩
        go_wp2
        go_ret
        exact ⟨by rw [RES.out]; first | done | rfl, BB.out⟩
    · have k1 : ¬ (i : Int) < (l.length : Int) := by omega
      have he : i = l.length := by omega
      have RES := hide1 (show decide (okIds l) = true from decide_eq_true (idTo_all (by have := HS.out; rw [he] at this; exact this)))
      clear he
      go_wp2
      go_ret
      exact ⟨by rw [RES.out]; first | done | rfl, BB.out⟩
theorem implCall_any (n : Int) (w : World) : Calls Tryz.prog 110 #[.int .i64 n] w fun e w' => e = .returned (.bool (decide (0 ≤ n ∧ n ≤ 1000))) ∧ w' = w := by
  by_cases h1 : 0 ≤ n
  · by_cases h2 : n ≤ 1000
    · have RES := hide1 (show decide (0 ≤ n ∧ n ≤ 1000) = true by simp [h1, h2])
      have q2 : decide (n ≤ 1000) = true := by simp [h2]
      go_enter Tryz.func110, Tryz.ntmps110
      go_wp2
      go_ret
      exact ⟨by first | rfl | (rw [RES.out]; rfl) | (rw [RES.out]; simp_all; done) | (show Ending.returned (.bool false) = Ending.returned (.bool (decide (0 ≤ n) && decide (n ≤ 1000))); rw [decide_eq_false (show ¬ 0 ≤ n by omega)]; rfl), rfl⟩
    · have RES := hide1 (show decide (0 ≤ n ∧ n ≤ 1000) = false by simp [h2])
      have q2 : decide (n ≤ 1000) = false := by simp [h2]
      go_enter Tryz.func110, Tryz.ntmps110
      go_wp2
      go_ret
      exact ⟨by first | rfl | (rw [RES.out]; rfl) | (rw [RES.out]; simp_all; done) | (show Ending.returned (.bool false) = Ending.returned (.bool (decide (0 ≤ n) && decide (n ≤ 1000))); rw [decide_eq_false (show ¬ 0 ≤ n by omega)]; rfl), rfl⟩
  · have RES := hide1 (show decide (0 ≤ n ∧ n ≤ 1000) = false by simp [h1])
    go_enter Tryz.func110, Tryz.ntmps110
    go_wp2
    go_ret
    exact ⟨by first | rfl | (rw [RES.out]; rfl) | (rw [RES.out]; simp_all; done) | (show Ending.returned (.bool false) = Ending.returned (.bool (decide (0 ≤ n) && decide (n ≤ 1000))); rw [decide_eq_false (show ¬ 0 ≤ n by omega)]; rfl), rfl⟩
def stood (fe ba le se : Bool) (wa : List Int) : Prop := (se = true → ba = true ∧ le = true ∧ wa = []) ∧ (fe = true → ba = false ∧ le = false)
instance (fe ba le se : Bool) (wa : List Int) : Decidable (stood fe ba le se wa) := by unfold stood; infer_instance
set_option maxRecDepth 100000 in
set_option maxHeartbeats 8000000 in
theorem implStand_any (id ep cn : Int) (fe ba le se : Bool) (wa : List Int) (is : List Im) (tk : Tk) (A : MA) (w : World) :
    Calls Tryz.prog 92 #[.agg #[.int .i64 id, .int .i64 ep, .bool fe, .bool ba, .bool le, .bool se, .slice A.wa wa.length A.wc, .slice A.ia is.length A.ic, .int .i64 cn, .int .i64 tk.op, .int .i64 tk.cl, .int .i64 tk.nu, .string tk.it.k, .string tk.it.v, .int .i64 tk.it.n, .slice A.la tk.lf.length A.lc]] w fun e w' => e = .returned (.bool (decide (stood fe ba le se wa))) ∧ Below w.heap.size w w' := by
  have F := hide1 ((Below.refl w.heap.size w).alloc (Nat.le_refl _) (.cells #[.int .i64 id, .int .i64 ep, .bool fe, .bool ba, .bool le, .bool se, .slice A.wa wa.length A.wc, .slice A.ia is.length A.ic, .int .i64 cn, .int .i64 tk.op, .int .i64 tk.cl, .int .i64 tk.nu, .string tk.it.k, .string tk.it.v, .int .i64 tk.it.n, .slice A.la tk.lf.length A.lc] 38))
  cases se with
  | true =>
    cases ba with
    | false =>
      have RES := hide1 (show decide (stood fe false le true wa) = false from decide_eq_false (fun h => by have := (h.1 rfl).1; simp at this))
      go_enter Tryz.func92, Tryz.ntmps92
      go_wp2
      go_ret
      exact ⟨by rw [RES.out]; first | done | rfl, F.out⟩
    | true =>
      cases le with
      | false =>
        have RES := hide1 (show decide (stood fe true false true wa) = false from decide_eq_false (fun h => by have := (h.1 rfl).2.1; simp at this))
        go_enter Tryz.func92, Tryz.ntmps92
        go_wp2
        go_ret
        exact ⟨by rw [RES.out]; first | done | rfl, F.out⟩
      | true =>
        cases wa with
        | cons y ys =>
          have RES := hide1 (show decide (stood fe true true true (y :: ys)) = false from decide_eq_false (fun h => by have := (h.1 rfl).2.2; simp at this))
          have qw : (0 : Int) < (((y :: ys).length : Nat) : Int) := by simp only [List.length_cons]; omega
          go_enter Tryz.func92, Tryz.ntmps92
          go_wp2
          go_ret
          exact ⟨by rw [RES.out]; first | done | rfl, F.out⟩
        | nil =>
          cases fe with
          | true =>
            have RES := hide1 (show decide (stood true true true true []) = false from decide_eq_false (fun h => by have := (h.2 rfl).1; simp at this))
            go_enter Tryz.func92, Tryz.ntmps92
            go_wp2
            go_ret
            exact ⟨by rw [RES.out]; first | done | rfl, F.out⟩
          | false =>
            have RES := hide1 (show decide (stood false true true true []) = true from decide_eq_true ⟨fun _ => ⟨rfl, rfl, rfl⟩, fun e => by simp at e⟩)
            go_enter Tryz.func92, Tryz.ntmps92
            go_wp2
            go_ret
            exact ⟨by rw [RES.out]; first | done | rfl, F.out⟩
  | false =>
    cases fe with
    | false =>
      have RES := hide1 (show decide (stood false ba le false wa) = true from decide_eq_true ⟨fun e => by simp at e, fun e => by simp at e⟩)
      go_enter Tryz.func92, Tryz.ntmps92
      go_wp2
      go_ret
      exact ⟨by rw [RES.out]; first | done | rfl, F.out⟩
    | true =>
      cases ba with
      | true =>
        have RES := hide1 (show decide (stood true true le false wa) = false from decide_eq_false (fun h => by have := (h.2 rfl).1; simp at this))
        go_enter Tryz.func92, Tryz.ntmps92
        go_wp2
        go_ret
        exact ⟨by rw [RES.out]; first | done | rfl, F.out⟩
      | false =>
        cases le with
        | true =>
          have RES := hide1 (show decide (stood true false true false wa) = false from decide_eq_false (fun h => by have := (h.2 rfl).2; simp at this))
          go_enter Tryz.func92, Tryz.ntmps92
          go_wp2
          go_ret
          exact ⟨by rw [RES.out]; first | done | rfl, F.out⟩
        | false =>
          have RES := hide1 (show decide (stood true false false false wa) = true from decide_eq_true ⟨fun e => by simp at e, fun e => ⟨rfl, rfl⟩⟩)
          go_enter Tryz.func92, Tryz.ntmps92
          go_wp2
          go_ret
          exact ⟨by rw [RES.out]; first | done | rfl, F.out⟩
def tasked (tk : Tk) (se : Bool) : Prop := noTk tk ∨ ((tk.op = 1 ∨ tk.op = 2) ∧ se = true ∧ (0 ≤ tk.cl ∧ tk.cl ≤ 1000) ∧ (1 ≤ tk.nu ∧ tk.nu ≤ 900) ∧ okIds tk.lf)
instance (tk : Tk) (se : Bool) : Decidable (tasked tk se) := by unfold tasked; infer_instance
set_option maxRecDepth 100000 in
set_option maxHeartbeats 8000000 in
theorem implTask_any (id ep cn : Int) (fe ba le se : Bool) (wa : List Int) (is : List Im) (tk : Tk) (A : MA) (w : World) (hl : tk.lf.length ≤ 1048576) (hA : RdZ w A.la tk.lf) :
    Calls Tryz.prog 95 #[.agg #[.int .i64 id, .int .i64 ep, .bool fe, .bool ba, .bool le, .bool se, .slice A.wa wa.length A.wc, .slice A.ia is.length A.ic, .int .i64 cn, .int .i64 tk.op, .int .i64 tk.cl, .int .i64 tk.nu, .string tk.it.k, .string tk.it.v, .int .i64 tk.it.n, .slice A.la tk.lf.length A.lc]] w fun e w' => e = .returned (.bool (decide (tasked tk se))) ∧ Below w.heap.size w w' := by
  have F := hide1 (And.intro (Blk.new w 38 #[.int .i64 id, .int .i64 ep, .bool fe, .bool ba, .bool le, .bool se, .slice A.wa wa.length A.wc, .slice A.ia is.length A.ic, .int .i64 cn, .int .i64 tk.op, .int .i64 tk.cl, .int .i64 tk.nu, .string tk.it.k, .string tk.it.v, .int .i64 tk.it.n, .slice A.la tk.lf.length A.lc]) ((Below.refl w.heap.size w).alloc (Nat.le_refl _) (.cells #[.int .i64 id, .int .i64 ep, .bool fe, .bool ba, .bool le, .bool se, .slice A.wa wa.length A.wc, .slice A.ia is.length A.ic, .int .i64 cn, .int .i64 tk.op, .int .i64 tk.cl, .int .i64 tk.nu, .string tk.it.k, .string tk.it.v, .int .i64 tk.it.n, .slice A.la tk.lf.length A.lc] 38)))
  have QV := hide1 (fun w => eqIm_dec 9998 tk.it zeroIm w)
  have CC := hide1 (fun w' => implCall_any tk.cl w')
  have CA := hide1 (fun w' (hb : Below w.heap.size w w') => implAscend_any A.la tk.lf A.lc w' hl (hA.later hb))
  clear hA
  go_enter Tryz.func95, Tryz.ntmps95
  go_upto_region 1 with fail
  generalize (w.alloc (.cells #[.int .i64 id, .int .i64 ep, .bool fe, .bool ba, .bool le, .bool se, .slice A.wa wa.length A.wc, .slice A.ia is.length A.ic, .int .i64 cn, .int .i64 tk.op, .int .i64 tk.cl, .int .i64 tk.nu, .string tk.it.k, .string tk.it.v, .int .i64 tk.it.n, .slice A.la tk.lf.length A.lc] 38)) = u at F ⊢
  obtain ⟨X, hX⟩ : ∃ G, G = w.heap.size := ⟨_, rfl⟩
  have KX := hide1 F.out.1
  rw [← hX] at KX ⊢
  have E0 := hide1 F.out.2
  clear F hX
  have y9 : u.cell? ⟨X, 9, none⟩ = some (.int .i64 tk.op) := KX.out.cell 9
  have y10 : u.cell? ⟨X, 10, none⟩ = some (.int .i64 tk.cl) := KX.out.cell 10
  have y11 : u.cell? ⟨X, 11, none⟩ = some (.int .i64 tk.nu) := KX.out.cell 11
  have y12 : u.cell? ⟨X, 12, none⟩ = some (.string tk.it.k) := KX.out.cell 12
  have y13 : u.cell? ⟨X, 13, none⟩ = some (.string tk.it.v) := KX.out.cell 13
  have y14 : u.cell? ⟨X, 14, none⟩ = some (.int .i64 tk.it.n) := KX.out.cell 14
  have y15 : u.cell? ⟨X, 15, none⟩ = some (.slice A.la tk.lf.length A.lc) := KX.out.cell 15
  have FT := hide1 (And.intro (Blk.new u 36 #[.int .i64 tk.op, .int .i64 tk.cl, .int .i64 tk.nu, .string tk.it.k, .string tk.it.v, .int .i64 tk.it.n, .slice A.la tk.lf.length A.lc]) ((Below.refl u.heap.size u).alloc (Nat.le_refl _) (.cells #[.int .i64 tk.op, .int .i64 tk.cl, .int .i64 tk.nu, .string tk.it.k, .string tk.it.v, .int .i64 tk.it.n, .slice A.la tk.lf.length A.lc] 36)))
  go_upto_region 2 with fail
  generalize (u.alloc (.cells #[.int .i64 tk.op, .int .i64 tk.cl, .int .i64 tk.nu, .string tk.it.k, .string tk.it.v, .int .i64 tk.it.n, .slice A.la tk.lf.length A.lc] 36)) = v at FT ⊢
  obtain ⟨TB, hTB⟩ : ∃ G, G = u.heap.size := ⟨_, rfl⟩
  have KT := hide1 FT.out.1
  rw [← hTB] at KT ⊢
  have KW := hide1 (KX.out.below FT.out.2 KX.out.lt)
  have EV := hide1 (E0.out.trans (FT.out.2.mono E0.out.size))
  clear FT hTB KX E0 y9 y10 y11 y12 y13 y14 y15
  have z0 : v.cell? ⟨TB, 0, none⟩ = some (.int .i64 tk.op) := KT.out.cell 0
  have z1 : v.cell? ⟨TB, 1, none⟩ = some (.int .i64 tk.cl) := KT.out.cell 1
  have z2 : v.cell? ⟨TB, 2, none⟩ = some (.int .i64 tk.nu) := KT.out.cell 2
  have z3 : v.cell? ⟨TB, 3, none⟩ = some (.string tk.it.k) := KT.out.cell 3
  have z4 : v.cell? ⟨TB, 4, none⟩ = some (.string tk.it.v) := KT.out.cell 4
  have z5 : v.cell? ⟨TB, 5, none⟩ = some (.int .i64 tk.it.n) := KT.out.cell 5
  have z6 : v.cell? ⟨TB, 6, none⟩ = some (.slice A.la tk.lf.length A.lc) := KT.out.cell 6
  have y5 : v.cell? ⟨X, 5, none⟩ = some (.bool se) := KW.out.cell 5
  by_cases c0 : tk.op = 0
  · have q0 : (tk.op == 0) = true := by simp [c0]
    by_cases c1 : tk.cl = 0
    · have q1 : (tk.cl == 0) = true := by simp [c1]
      by_cases c2 : tk.nu = 0
      · have q2 : (tk.nu == 0) = true := by simp [c2]
        by_cases c3 : tk.it = zeroIm
        · rw [decide_eq_true c3] at QV
          have qv : ∀ w, (Op.equalIn 10000 34 (.agg #[.string tk.it.k, .string tk.it.v, .int .i64 tk.it.n]) (.agg #[.string ⟨#[]⟩, .string ⟨#[]⟩, .int .i64 0])).run Tryz.prog w = .ok true w := QV.out
          by_cases c4 : tk.lf = []
          · have q4 : ((tk.lf.length : Int) == 0) = true := by simp [c4]
            have RES := hide1 (show decide (tasked tk se) = true from decide_eq_true (.inl ⟨c0, c1, c2, c3, c4⟩))
            try clear c0
            try clear c1
            try clear c2
            try clear c3
            try clear c4
            try clear d1
            try clear d2
            try clear e2
            try clear e3
            try clear e4
            go_wp2_with (first | (go_at_call 110; refine (CC.out _).mono ?_; rintro r wx ⟨rfl, rfl⟩) | (go_at_call 93; refine (CA.out _ EV.out).mono ?_; rintro r wy ⟨rfl, rfl⟩))
            go_ret
            exact ⟨by rw [RES.out]; first | done | rfl, EV.out⟩
          · have q4 : ((tk.lf.length : Int) == 0) = false := by simp [c4]
            have RES := hide1 (show decide (tasked tk se) = false from decide_eq_false (fun h => by rcases h with h | h; exact c4 h.2.2.2.2; rcases h.1 with e | e <;> omega))
            try clear c0
            try clear c1
            try clear c2
            try clear c3
            try clear c4
            try clear d1
            try clear d2
            try clear e2
            try clear e3
            try clear e4
            go_wp2_with (first | (go_at_call 110; refine (CC.out _).mono ?_; rintro r wx ⟨rfl, rfl⟩) | (go_at_call 93; refine (CA.out _ EV.out).mono ?_; rintro r wy ⟨rfl, rfl⟩))
            go_ret
            exact ⟨by rw [RES.out]; first | done | rfl, EV.out⟩
        · rw [decide_eq_false c3] at QV
          have qv : ∀ w, (Op.equalIn 10000 34 (.agg #[.string tk.it.k, .string tk.it.v, .int .i64 tk.it.n]) (.agg #[.string ⟨#[]⟩, .string ⟨#[]⟩, .int .i64 0])).run Tryz.prog w = .ok false w := QV.out
          have RES := hide1 (show decide (tasked tk se) = false from decide_eq_false (fun h => by rcases h with h | h; exact c3 h.2.2.2.1; rcases h.1 with e | e <;> omega))
          try clear c0
          try clear c1
          try clear c2
          try clear c3
          try clear c4
          try clear d1
          try clear d2
          try clear e2
          try clear e3
          try clear e4
          go_wp2_with (first | (go_at_call 110; refine (CC.out _).mono ?_; rintro r wx ⟨rfl, rfl⟩) | (go_at_call 93; refine (CA.out _ EV.out).mono ?_; rintro r wy ⟨rfl, rfl⟩))
          go_ret
          exact ⟨by rw [RES.out]; first | done | rfl, EV.out⟩
      · have q2 : (tk.nu == 0) = false := by simp [c2]
        have RES := hide1 (show decide (tasked tk se) = false from decide_eq_false (fun h => by rcases h with h | h; exact c2 h.2.2.1; rcases h.1 with e | e <;> omega))
        try clear c0
        try clear c1
        try clear c2
        try clear c3
        try clear c4
        try clear d1
        try clear d2
        try clear e2
        try clear e3
        try clear e4
        go_wp2_with (first | (go_at_call 110; refine (CC.out _).mono ?_; rintro r wx ⟨rfl, rfl⟩) | (go_at_call 93; refine (CA.out _ EV.out).mono ?_; rintro r wy ⟨rfl, rfl⟩))
        go_ret
        exact ⟨by rw [RES.out]; first | done | rfl, EV.out⟩
    · have q1 : (tk.cl == 0) = false := by simp [c1]
      have RES := hide1 (show decide (tasked tk se) = false from decide_eq_false (fun h => by rcases h with h | h; exact c1 h.2.1; rcases h.1 with e | e <;> omega))
      try clear c0
      try clear c1
      try clear c2
      try clear c3
      try clear c4
      try clear d1
      try clear d2
      try clear e2
      try clear e3
      try clear e4
      go_wp2_with (first | (go_at_call 110; refine (CC.out _).mono ?_; rintro r wx ⟨rfl, rfl⟩) | (go_at_call 93; refine (CA.out _ EV.out).mono ?_; rintro r wy ⟨rfl, rfl⟩))
      go_ret
      exact ⟨by rw [RES.out]; first | done | rfl, EV.out⟩
  · have q0 : (tk.op == 0) = false := by simp [c0]
    by_cases d1 : tk.op = 1
    · have q1 : (tk.op == 1) = true := by simp [d1]
      cases se with
      | false =>
        have RES := hide1 (show decide (tasked tk false) = false from decide_eq_false (fun h => by rcases h with h | h; exact c0 h.1; exact absurd h.2.1 (by simp)))
        try clear c0
        try clear c1
        try clear c2
        try clear c3
        try clear c4
        try clear d1
        try clear d2
        try clear e2
        try clear e3
        try clear e4
        go_wp2_with (first | (go_at_call 110; refine (CC.out _).mono ?_; rintro r wx ⟨rfl, rfl⟩) | (go_at_call 93; refine (CA.out _ EV.out).mono ?_; rintro r wy ⟨rfl, rfl⟩))
        go_ret
        exact ⟨by rw [RES.out]; first | done | rfl, EV.out⟩
      | true =>
        by_cases e2 : 0 ≤ tk.cl ∧ tk.cl ≤ 1000
        · rw [decide_eq_true e2] at CC
          by_cases e3 : 1 ≤ tk.nu
          · have r3 : decide (1 ≤ tk.nu) = true := by simp [e3]
            by_cases e4 : tk.nu ≤ 900
            · have r4 : decide (tk.nu ≤ 900) = true := by simp [e4]
              by_cases e5 : okIds tk.lf
              · rw [decide_eq_true e5] at CA
                have RES := hide1 (show decide (tasked tk true) = true from decide_eq_true (.inr ⟨.inl d1, rfl, e2, ⟨e3, e4⟩, e5⟩))
                try clear c0
                try clear c1
                try clear c2
                try clear c3
                try clear c4
                try clear d1
                try clear d2
                try clear e2
                try clear e3
                try clear e4
                go_wp2_with (first | (go_at_call 110; refine (CC.out _).mono ?_; rintro r wx ⟨rfl, rfl⟩) | (go_at_call 93; refine (CA.out _ EV.out).mono ?_; rintro r wy ⟨rfl, rfl⟩))
                go_ret
                exact ⟨by rw [RES.out]; first | done | rfl, EV.out⟩
              · rw [decide_eq_false e5] at CA
                have RES := hide1 (show decide (tasked tk true) = false from decide_eq_false (fun h => by rcases h with h | h; exact c0 h.1; exact e5 h.2.2.2.2))
                try clear c0
                try clear c1
                try clear c2
                try clear c3
                try clear c4
                try clear d1
                try clear d2
                try clear e2
                try clear e3
                try clear e4
                go_wp2_with (first | (go_at_call 110; refine (CC.out _).mono ?_; rintro r wx ⟨rfl, rfl⟩) | (go_at_call 93; refine (CA.out _ EV.out).mono ?_; rintro r wy ⟨rfl, rfl⟩))
                go_ret
                exact ⟨by rw [RES.out]; first | done | rfl, EV.out⟩
            · have r4 : decide (tk.nu ≤ 900) = false := by simp [e4]
              have RES := hide1 (show decide (tasked tk true) = false from decide_eq_false (fun h => by rcases h with h | h; exact c0 h.1; exact e4 h.2.2.2.1.2))
              try clear c0
              try clear c1
              try clear c2
              try clear c3
              try clear c4
              try clear d1
              try clear d2
              try clear e2
              try clear e3
              try clear e4
              go_wp2_with (first | (go_at_call 110; refine (CC.out _).mono ?_; rintro r wx ⟨rfl, rfl⟩) | (go_at_call 93; refine (CA.out _ EV.out).mono ?_; rintro r wy ⟨rfl, rfl⟩))
              go_ret
              exact ⟨by rw [RES.out]; first | done | rfl, EV.out⟩
          · have r3 : decide (1 ≤ tk.nu) = false := by simp [e3]
            have RES := hide1 (show decide (tasked tk true) = false from decide_eq_false (fun h => by rcases h with h | h; exact c0 h.1; exact e3 h.2.2.2.1.1))
            try clear c0
            try clear c1
            try clear c2
            try clear c3
            try clear c4
            try clear d1
            try clear d2
            try clear e2
            try clear e3
            try clear e4
            go_wp2_with (first | (go_at_call 110; refine (CC.out _).mono ?_; rintro r wx ⟨rfl, rfl⟩) | (go_at_call 93; refine (CA.out _ EV.out).mono ?_; rintro r wy ⟨rfl, rfl⟩))
            go_ret
            exact ⟨by rw [RES.out]; first | done | rfl, EV.out⟩
        · rw [decide_eq_false e2] at CC
          have RES := hide1 (show decide (tasked tk true) = false from decide_eq_false (fun h => by rcases h with h | h; exact c0 h.1; exact e2 h.2.2.1))
          try clear c0
          try clear c1
          try clear c2
          try clear c3
          try clear c4
          try clear d1
          try clear d2
          try clear e2
          try clear e3
          try clear e4
          go_wp2_with (first | (go_at_call 110; refine (CC.out _).mono ?_; rintro r wx ⟨rfl, rfl⟩) | (go_at_call 93; refine (CA.out _ EV.out).mono ?_; rintro r wy ⟨rfl, rfl⟩))
          go_ret
          exact ⟨by rw [RES.out]; first | done | rfl, EV.out⟩
    · have q1 : (tk.op == 1) = false := by simp [d1]
      by_cases d2 : tk.op = 2
      · have q2 : (tk.op == 2) = true := by simp [d2]
        cases se with
        | false =>
          have RES := hide1 (show decide (tasked tk false) = false from decide_eq_false (fun h => by rcases h with h | h; exact c0 h.1; exact absurd h.2.1 (by simp)))
          try clear c0
          try clear c1
          try clear c2
          try clear c3
          try clear c4
          try clear d1
          try clear d2
          try clear e2
          try clear e3
          try clear e4
          go_wp2_with (first | (go_at_call 110; refine (CC.out _).mono ?_; rintro r wx ⟨rfl, rfl⟩) | (go_at_call 93; refine (CA.out _ EV.out).mono ?_; rintro r wy ⟨rfl, rfl⟩))
          go_ret
          exact ⟨by rw [RES.out]; first | done | rfl, EV.out⟩
        | true =>
          by_cases e2 : 0 ≤ tk.cl ∧ tk.cl ≤ 1000
          · rw [decide_eq_true e2] at CC
            by_cases e3 : 1 ≤ tk.nu
            · have r3 : decide (1 ≤ tk.nu) = true := by simp [e3]
              by_cases e4 : tk.nu ≤ 900
              · have r4 : decide (tk.nu ≤ 900) = true := by simp [e4]
                by_cases e5 : okIds tk.lf
                · rw [decide_eq_true e5] at CA
                  have RES := hide1 (show decide (tasked tk true) = true from decide_eq_true (.inr ⟨.inr d2, rfl, e2, ⟨e3, e4⟩, e5⟩))
                  try clear c0
                  try clear c1
                  try clear c2
                  try clear c3
                  try clear c4
                  try clear d1
                  try clear d2
                  try clear e2
                  try clear e3
                  try clear e4
                  go_wp2_with (first | (go_at_call 110; refine (CC.out _).mono ?_; rintro r wx ⟨rfl, rfl⟩) | (go_at_call 93; refine (CA.out _ EV.out).mono ?_; rintro r wy ⟨rfl, rfl⟩))
                  go_ret
                  exact ⟨by rw [RES.out]; first | done | rfl, EV.out⟩
                · rw [decide_eq_false e5] at CA
                  have RES := hide1 (show decide (tasked tk true) = false from decide_eq_false (fun h => by rcases h with h | h; exact c0 h.1; exact e5 h.2.2.2.2))
                  try clear c0
                  try clear c1
                  try clear c2
                  try clear c3
                  try clear c4
                  try clear d1
                  try clear d2
                  try clear e2
                  try clear e3
                  try clear e4
                  go_wp2_with (first | (go_at_call 110; refine (CC.out _).mono ?_; rintro r wx ⟨rfl, rfl⟩) | (go_at_call 93; refine (CA.out _ EV.out).mono ?_; rintro r wy ⟨rfl, rfl⟩))
                  go_ret
                  exact ⟨by rw [RES.out]; first | done | rfl, EV.out⟩
              · have r4 : decide (tk.nu ≤ 900) = false := by simp [e4]
                have RES := hide1 (show decide (tasked tk true) = false from decide_eq_false (fun h => by rcases h with h | h; exact c0 h.1; exact e4 h.2.2.2.1.2))
                try clear c0
                try clear c1
                try clear c2
                try clear c3
                try clear c4
                try clear d1
                try clear d2
                try clear e2
                try clear e3
                try clear e4
                go_wp2_with (first | (go_at_call 110; refine (CC.out _).mono ?_; rintro r wx ⟨rfl, rfl⟩) | (go_at_call 93; refine (CA.out _ EV.out).mono ?_; rintro r wy ⟨rfl, rfl⟩))
                go_ret
                exact ⟨by rw [RES.out]; first | done | rfl, EV.out⟩
            · have r3 : decide (1 ≤ tk.nu) = false := by simp [e3]
              have RES := hide1 (show decide (tasked tk true) = false from decide_eq_false (fun h => by rcases h with h | h; exact c0 h.1; exact e3 h.2.2.2.1.1))
              try clear c0
              try clear c1
              try clear c2
              try clear c3
              try clear c4
              try clear d1
              try clear d2
              try clear e2
              try clear e3
              try clear e4
              go_wp2_with (first | (go_at_call 110; refine (CC.out _).mono ?_; rintro r wx ⟨rfl, rfl⟩) | (go_at_call 93; refine (CA.out _ EV.out).mono ?_; rintro r wy ⟨rfl, rfl⟩))
              go_ret
              exact ⟨by rw [RES.out]; first | done | rfl, EV.out⟩
          · rw [decide_eq_false e2] at CC
            have RES := hide1 (show decide (tasked tk true) = false from decide_eq_false (fun h => by rcases h with h | h; exact c0 h.1; exact e2 h.2.2.1))
            try clear c0
            try clear c1
            try clear c2
            try clear c3
            try clear c4
            try clear d1
            try clear d2
            try clear e2
            try clear e3
            try clear e4
            go_wp2_with (first | (go_at_call 110; refine (CC.out _).mono ?_; rintro r wx ⟨rfl, rfl⟩) | (go_at_call 93; refine (CA.out _ EV.out).mono ?_; rintro r wy ⟨rfl, rfl⟩))
            go_ret
            exact ⟨by rw [RES.out]; first | done | rfl, EV.out⟩
      · have q2 : (tk.op == 2) = false := by simp [d2]
        have RES := hide1 (show decide (tasked tk se) = false from decide_eq_false (fun h => by rcases h with h | h; exact c0 h.1; exact h.1.elim d1 d2))
        try clear c0
        try clear c1
        try clear c2
        try clear c3
        try clear c4
        try clear d1
        try clear d2
        try clear e2
        try clear e3
        try clear e4
        go_wp2_with (first | (go_at_call 110; refine (CC.out _).mono ?_; rintro r wx ⟨rfl, rfl⟩) | (go_at_call 93; refine (CA.out _ EV.out).mono ?_; rintro r wy ⟨rfl, rfl⟩))
        go_ret
        exact ⟨by rw [RES.out]; first | done | rfl, EV.out⟩
theorem ok_mb {id ep cn : Int} {fe ba le se : Bool} {wa : List Int} {is : List Im} {tk : Tk} : okMb ⟨id, ep, fe, ba, le, se, wa, is, cn, tk⟩ ↔ ((1 ≤ id ∧ id ≤ 6) ∧ (1 ≤ ep ∧ ep ≤ 9) ∧ (0 ≤ cn ∧ cn ≤ 900)) ∧ stood fe ba le se wa ∧ okIds wa ∧ okIms is ∧ tasked tk se := by
  constructor
  · rintro ⟨h1, h2, h3, h4, h5, h6, h7, h8, h9⟩
    refine ⟨⟨h1, h2, h8⟩, ⟨h3, h4⟩, h5, h7, ?_⟩
    rcases h9 with h | ⟨a, b, c, d⟩
    · exact .inl h
    · exact .inr ⟨a, b, c, d, h6⟩
  · rintro ⟨⟨h1, h2, h8⟩, ⟨h3, h4⟩, h5, h7, h9⟩
    rcases h9 with h | ⟨a, b, c, d, e⟩
    · exact ⟨h1, h2, h3, h4, h5, by dsimp only; rw [h.2.2.2.2]; exact ⟨fun x hx => by simp at hx, List.Pairwise.nil⟩, h7, h8, .inl h⟩
    · exact ⟨h1, h2, h3, h4, h5, e, h7, h8, .inr ⟨a, b, c, d⟩⟩
set_option maxRecDepth 100000 in
set_option maxHeartbeats 8000000 in
theorem implMemberOk_a (m : Mb) (A : MA) (w : World) (hl : SzMb m) (hz : ∀ x ∈ m.is, x.k.size ≤ 1048576 ∧ x.v.size ≤ 1048576) (hA : RdMb w m A) (hc : ¬ ((1 ≤ m.id ∧ m.id ≤ 6) ∧ (1 ≤ m.ep ∧ m.ep ≤ 9) ∧ (0 ≤ m.cn ∧ m.cn ≤ 900))) :
    Calls Tryz.prog 73 #[mbV m A] w fun e w' => e = .returned (.bool (decide (okMb m))) ∧ Below w.heap.size w w' := by
  obtain ⟨id, ep, fe, ba, le, se, wa, is, cn, tk⟩ := m
  obtain ⟨hl1, hl2, hl3⟩ := hl
  obtain ⟨hr1, hr2, hr3⟩ := hA
  dsimp only at hl1 hl2 hl3 hr1 hr2 hr3 hz
  dsimp only at hc
  unfold mbV
  dsimp only
  have F := hide1 (And.intro (Blk.new w 38 #[.int .i64 id, .int .i64 ep, .bool fe, .bool ba, .bool le, .bool se, .slice A.wa wa.length A.wc, .slice A.ia is.length A.ic, .int .i64 cn, .int .i64 tk.op, .int .i64 tk.cl, .int .i64 tk.nu, .string tk.it.k, .string tk.it.v, .int .i64 tk.it.n, .slice A.la tk.lf.length A.lc]) ((Below.refl w.heap.size w).alloc (Nat.le_refl _) (.cells #[.int .i64 id, .int .i64 ep, .bool fe, .bool ba, .bool le, .bool se, .slice A.wa wa.length A.wc, .slice A.ia is.length A.ic, .int .i64 cn, .int .i64 tk.op, .int .i64 tk.cl, .int .i64 tk.nu, .string tk.it.k, .string tk.it.v, .int .i64 tk.it.n, .slice A.la tk.lf.length A.lc] 38)))
  have C0 := hide1 (fun w' => nodeFits_any id w')
  have C1 := hide1 (fun w' => implStand_any id ep cn fe ba le se wa is tk A w')
  have C2 := hide1 (fun w' (hb : Below w.heap.size w w') => implAscend_any A.wa wa A.wc w' hl1 (hr1.later hb))
  have C3 := hide1 (fun w' (hb : Below w.heap.size w w') => implItemsOk_any A.ia is A.ic w' hl2 hz (hr2.later hb))
  have C4 := hide1 (fun w' (hb : Below w.heap.size w w') => implTask_any id ep cn fe ba le se wa is tk A w' hl3 (hr3.later hb))
  have HOK := hide1 (@ok_mb id ep cn fe ba le se wa is tk)
  clear hr1 hr2 hr3 hz
  go_enter Tryz.func73, Tryz.ntmps73
  go_upto_region 1 with fail
  generalize (w.alloc (.cells #[.int .i64 id, .int .i64 ep, .bool fe, .bool ba, .bool le, .bool se, .slice A.wa wa.length A.wc, .slice A.ia is.length A.ic, .int .i64 cn, .int .i64 tk.op, .int .i64 tk.cl, .int .i64 tk.nu, .string tk.it.k, .string tk.it.v, .int .i64 tk.it.n, .slice A.la tk.lf.length A.lc] 38)) = u at F ⊢
  obtain ⟨X, hX⟩ : ∃ G, G = w.heap.size := ⟨_, rfl⟩
  have KZ := hide1 F.out.1
  rw [← hX] at KZ ⊢
  have EU := hide1 F.out.2
  clear F hX
  have y0 : u.cell? ⟨X, 0, none⟩ = some (.int .i64 id) := KZ.out.cell 0
  have y1 : u.cell? ⟨X, 1, none⟩ = some (.int .i64 ep) := KZ.out.cell 1
  have y2 : u.cell? ⟨X, 2, none⟩ = some (.bool fe) := KZ.out.cell 2
  have y3 : u.cell? ⟨X, 3, none⟩ = some (.bool ba) := KZ.out.cell 3
  have y4 : u.cell? ⟨X, 4, none⟩ = some (.bool le) := KZ.out.cell 4
  have y5 : u.cell? ⟨X, 5, none⟩ = some (.bool se) := KZ.out.cell 5
  have y6 : u.cell? ⟨X, 6, none⟩ = some (.slice A.wa wa.length A.wc) := KZ.out.cell 6
  have y7 : u.cell? ⟨X, 7, none⟩ = some (.slice A.ia is.length A.ic) := KZ.out.cell 7
  have y8 : u.cell? ⟨X, 8, none⟩ = some (.int .i64 cn) := KZ.out.cell 8
  have y9 : u.cell? ⟨X, 9, none⟩ = some (.int .i64 tk.op) := KZ.out.cell 9
  have y10 : u.cell? ⟨X, 10, none⟩ = some (.int .i64 tk.cl) := KZ.out.cell 10
  have y11 : u.cell? ⟨X, 11, none⟩ = some (.int .i64 tk.nu) := KZ.out.cell 11
  have y12 : u.cell? ⟨X, 12, none⟩ = some (.string tk.it.k) := KZ.out.cell 12
  have y13 : u.cell? ⟨X, 13, none⟩ = some (.string tk.it.v) := KZ.out.cell 13
  have y14 : u.cell? ⟨X, 14, none⟩ = some (.int .i64 tk.it.n) := KZ.out.cell 14
  have y15 : u.cell? ⟨X, 15, none⟩ = some (.slice A.la tk.lf.length A.lc) := KZ.out.cell 15
  by_cases c0 : 1 ≤ id ∧ id ≤ 6
  · rw [decide_eq_true c0] at C0
    by_cases c1 : 1 ≤ ep
    · have q1 : decide (ep < 1) = false := decide_eq_false (by omega)
      by_cases c2 : ep ≤ 9
      · have q2 : decide (9 < ep) = false := decide_eq_false (by omega)
        by_cases c3 : 0 ≤ cn
        · have q3 : decide (cn < 0) = false := decide_eq_false (by omega)
          by_cases c4 : cn ≤ 900
          · have q4 : decide (900 < cn) = false := decide_eq_false (by omega)
            exact absurd ⟨c0, ⟨c1, c2⟩, c3, c4⟩ hc
          · have q4 : decide (900 < cn) = true := decide_eq_true (by omega)
            have RES := hide1 (show decide (okMb ⟨id, ep, fe, ba, le, se, wa, is, cn, tk⟩) = false from decide_eq_false (fun e => (fun h => c4 h.1.2.2.2) (HOK.out.1 e)))
            try clear hc
            try clear hd
            try clear c0
            try clear c1
            try clear c2
            try clear c3
            try clear c4
            try clear c5
            try clear c6
            try clear c7
            try clear c8
            go_wp2_with (first | (go_at_call 91; refine (C0.out _).mono ?_; rintro r wx ⟨rfl, rfl⟩) | (go_at_call 93; refine (C2.out _ EU.out).mono ?_; rintro r wy ⟨rfl, rfl⟩) | (go_at_call 92; refine (C1.out _).mono ?_; rintro r wk ⟨rfl, hb⟩; have KZ := hide1 (KZ.out.below hb KZ.out.lt); have EU := hide1 (EU.out.trans (hb.mono EU.out.size)); clear hb; have y6 : wk.cell? ⟨X, 6, none⟩ = some (.slice A.wa wa.length A.wc) := KZ.out.cell 6; have y7 : wk.cell? ⟨X, 7, none⟩ = some (.slice A.ia is.length A.ic) := KZ.out.cell 7) | (go_at_call 94; refine (C3.out _ EU.out).mono ?_; rintro r wk ⟨rfl, hb⟩; have KZ := hide1 (KZ.out.below hb KZ.out.lt); have EU := hide1 (EU.out.trans (hb.mono EU.out.size)); clear hb; have y0 : wk.cell? ⟨X, 0, none⟩ = some (.int .i64 id) := KZ.out.cell 0; have y1 : wk.cell? ⟨X, 1, none⟩ = some (.int .i64 ep) := KZ.out.cell 1; have y2 : wk.cell? ⟨X, 2, none⟩ = some (.bool fe) := KZ.out.cell 2; have y3 : wk.cell? ⟨X, 3, none⟩ = some (.bool ba) := KZ.out.cell 3; have y4 : wk.cell? ⟨X, 4, none⟩ = some (.bool le) := KZ.out.cell 4; have y5 : wk.cell? ⟨X, 5, none⟩ = some (.bool se) := KZ.out.cell 5; have y6 : wk.cell? ⟨X, 6, none⟩ = some (.slice A.wa wa.length A.wc) := KZ.out.cell 6; have y7 : wk.cell? ⟨X, 7, none⟩ = some (.slice A.ia is.length A.ic) := KZ.out.cell 7; have y8 : wk.cell? ⟨X, 8, none⟩ = some (.int .i64 cn) := KZ.out.cell 8; have y9 : wk.cell? ⟨X, 9, none⟩ = some (.int .i64 tk.op) := KZ.out.cell 9; have y10 : wk.cell? ⟨X, 10, none⟩ = some (.int .i64 tk.cl) := KZ.out.cell 10; have y11 : wk.cell? ⟨X, 11, none⟩ = some (.int .i64 tk.nu) := KZ.out.cell 11; have y12 : wk.cell? ⟨X, 12, none⟩ = some (.string tk.it.k) := KZ.out.cell 12; have y13 : wk.cell? ⟨X, 13, none⟩ = some (.string tk.it.v) := KZ.out.cell 13; have y14 : wk.cell? ⟨X, 14, none⟩ = some (.int .i64 tk.it.n) := KZ.out.cell 14; have y15 : wk.cell? ⟨X, 15, none⟩ = some (.slice A.la tk.lf.length A.lc) := KZ.out.cell 15) | (go_at_call 95; refine (C4.out _ EU.out).mono ?_; rintro r wk ⟨rfl, hb⟩; have KZ := hide1 (KZ.out.below hb KZ.out.lt); have EU := hide1 (EU.out.trans (hb.mono EU.out.size)); clear hb))
            go_ret
            exact ⟨by rw [RES.out]; first | done | rfl, EU.out⟩
        · have q3 : decide (cn < 0) = true := decide_eq_true (by omega)
          have RES := hide1 (show decide (okMb ⟨id, ep, fe, ba, le, se, wa, is, cn, tk⟩) = false from decide_eq_false (fun e => (fun h => c3 h.1.2.2.1) (HOK.out.1 e)))
          try clear hc
          try clear hd
          try clear c0
          try clear c1
          try clear c2
          try clear c3
          try clear c4
          try clear c5
          try clear c6
          try clear c7
          try clear c8
          go_wp2_with (first | (go_at_call 91; refine (C0.out _).mono ?_; rintro r wx ⟨rfl, rfl⟩) | (go_at_call 93; refine (C2.out _ EU.out).mono ?_; rintro r wy ⟨rfl, rfl⟩) | (go_at_call 92; refine (C1.out _).mono ?_; rintro r wk ⟨rfl, hb⟩; have KZ := hide1 (KZ.out.below hb KZ.out.lt); have EU := hide1 (EU.out.trans (hb.mono EU.out.size)); clear hb; have y6 : wk.cell? ⟨X, 6, none⟩ = some (.slice A.wa wa.length A.wc) := KZ.out.cell 6; have y7 : wk.cell? ⟨X, 7, none⟩ = some (.slice A.ia is.length A.ic) := KZ.out.cell 7) | (go_at_call 94; refine (C3.out _ EU.out).mono ?_; rintro r wk ⟨rfl, hb⟩; have KZ := hide1 (KZ.out.below hb KZ.out.lt); have EU := hide1 (EU.out.trans (hb.mono EU.out.size)); clear hb; have y0 : wk.cell? ⟨X, 0, none⟩ = some (.int .i64 id) := KZ.out.cell 0; have y1 : wk.cell? ⟨X, 1, none⟩ = some (.int .i64 ep) := KZ.out.cell 1; have y2 : wk.cell? ⟨X, 2, none⟩ = some (.bool fe) := KZ.out.cell 2; have y3 : wk.cell? ⟨X, 3, none⟩ = some (.bool ba) := KZ.out.cell 3; have y4 : wk.cell? ⟨X, 4, none⟩ = some (.bool le) := KZ.out.cell 4; have y5 : wk.cell? ⟨X, 5, none⟩ = some (.bool se) := KZ.out.cell 5; have y6 : wk.cell? ⟨X, 6, none⟩ = some (.slice A.wa wa.length A.wc) := KZ.out.cell 6; have y7 : wk.cell? ⟨X, 7, none⟩ = some (.slice A.ia is.length A.ic) := KZ.out.cell 7; have y8 : wk.cell? ⟨X, 8, none⟩ = some (.int .i64 cn) := KZ.out.cell 8; have y9 : wk.cell? ⟨X, 9, none⟩ = some (.int .i64 tk.op) := KZ.out.cell 9; have y10 : wk.cell? ⟨X, 10, none⟩ = some (.int .i64 tk.cl) := KZ.out.cell 10; have y11 : wk.cell? ⟨X, 11, none⟩ = some (.int .i64 tk.nu) := KZ.out.cell 11; have y12 : wk.cell? ⟨X, 12, none⟩ = some (.string tk.it.k) := KZ.out.cell 12; have y13 : wk.cell? ⟨X, 13, none⟩ = some (.string tk.it.v) := KZ.out.cell 13; have y14 : wk.cell? ⟨X, 14, none⟩ = some (.int .i64 tk.it.n) := KZ.out.cell 14; have y15 : wk.cell? ⟨X, 15, none⟩ = some (.slice A.la tk.lf.length A.lc) := KZ.out.cell 15) | (go_at_call 95; refine (C4.out _ EU.out).mono ?_; rintro r wk ⟨rfl, hb⟩; have KZ := hide1 (KZ.out.below hb KZ.out.lt); have EU := hide1 (EU.out.trans (hb.mono EU.out.size)); clear hb))
          go_ret
          exact ⟨by rw [RES.out]; first | done | rfl, EU.out⟩
      · have q2 : decide (9 < ep) = true := decide_eq_true (by omega)
        have RES := hide1 (show decide (okMb ⟨id, ep, fe, ba, le, se, wa, is, cn, tk⟩) = false from decide_eq_false (fun e => (fun h => c2 h.1.2.1.2) (HOK.out.1 e)))
        try clear hc
        try clear hd
        try clear c0
        try clear c1
        try clear c2
        try clear c3
        try clear c4
        try clear c5
        try clear c6
        try clear c7
        try clear c8
        go_wp2_with (first | (go_at_call 91; refine (C0.out _).mono ?_; rintro r wx ⟨rfl, rfl⟩) | (go_at_call 93; refine (C2.out _ EU.out).mono ?_; rintro r wy ⟨rfl, rfl⟩) | (go_at_call 92; refine (C1.out _).mono ?_; rintro r wk ⟨rfl, hb⟩; have KZ := hide1 (KZ.out.below hb KZ.out.lt); have EU := hide1 (EU.out.trans (hb.mono EU.out.size)); clear hb; have y6 : wk.cell? ⟨X, 6, none⟩ = some (.slice A.wa wa.length A.wc) := KZ.out.cell 6; have y7 : wk.cell? ⟨X, 7, none⟩ = some (.slice A.ia is.length A.ic) := KZ.out.cell 7) | (go_at_call 94; refine (C3.out _ EU.out).mono ?_; rintro r wk ⟨rfl, hb⟩; have KZ := hide1 (KZ.out.below hb KZ.out.lt); have EU := hide1 (EU.out.trans (hb.mono EU.out.size)); clear hb; have y0 : wk.cell? ⟨X, 0, none⟩ = some (.int .i64 id) := KZ.out.cell 0; have y1 : wk.cell? ⟨X, 1, none⟩ = some (.int .i64 ep) := KZ.out.cell 1; have y2 : wk.cell? ⟨X, 2, none⟩ = some (.bool fe) := KZ.out.cell 2; have y3 : wk.cell? ⟨X, 3, none⟩ = some (.bool ba) := KZ.out.cell 3; have y4 : wk.cell? ⟨X, 4, none⟩ = some (.bool le) := KZ.out.cell 4; have y5 : wk.cell? ⟨X, 5, none⟩ = some (.bool se) := KZ.out.cell 5; have y6 : wk.cell? ⟨X, 6, none⟩ = some (.slice A.wa wa.length A.wc) := KZ.out.cell 6; have y7 : wk.cell? ⟨X, 7, none⟩ = some (.slice A.ia is.length A.ic) := KZ.out.cell 7; have y8 : wk.cell? ⟨X, 8, none⟩ = some (.int .i64 cn) := KZ.out.cell 8; have y9 : wk.cell? ⟨X, 9, none⟩ = some (.int .i64 tk.op) := KZ.out.cell 9; have y10 : wk.cell? ⟨X, 10, none⟩ = some (.int .i64 tk.cl) := KZ.out.cell 10; have y11 : wk.cell? ⟨X, 11, none⟩ = some (.int .i64 tk.nu) := KZ.out.cell 11; have y12 : wk.cell? ⟨X, 12, none⟩ = some (.string tk.it.k) := KZ.out.cell 12; have y13 : wk.cell? ⟨X, 13, none⟩ = some (.string tk.it.v) := KZ.out.cell 13; have y14 : wk.cell? ⟨X, 14, none⟩ = some (.int .i64 tk.it.n) := KZ.out.cell 14; have y15 : wk.cell? ⟨X, 15, none⟩ = some (.slice A.la tk.lf.length A.lc) := KZ.out.cell 15) | (go_at_call 95; refine (C4.out _ EU.out).mono ?_; rintro r wk ⟨rfl, hb⟩; have KZ := hide1 (KZ.out.below hb KZ.out.lt); have EU := hide1 (EU.out.trans (hb.mono EU.out.size)); clear hb))
        go_ret
        exact ⟨by rw [RES.out]; first | done | rfl, EU.out⟩
    · have q1 : decide (ep < 1) = true := decide_eq_true (by omega)
      have RES := hide1 (show decide (okMb ⟨id, ep, fe, ba, le, se, wa, is, cn, tk⟩) = false from decide_eq_false (fun e => (fun h => c1 h.1.2.1.1) (HOK.out.1 e)))
      try clear hc
      try clear hd
      try clear c0
      try clear c1
      try clear c2
      try clear c3
      try clear c4
      try clear c5
      try clear c6
      try clear c7
      try clear c8
      go_wp2_with (first | (go_at_call 91; refine (C0.out _).mono ?_; rintro r wx ⟨rfl, rfl⟩) | (go_at_call 93; refine (C2.out _ EU.out).mono ?_; rintro r wy ⟨rfl, rfl⟩) | (go_at_call 92; refine (C1.out _).mono ?_; rintro r wk ⟨rfl, hb⟩; have KZ := hide1 (KZ.out.below hb KZ.out.lt); have EU := hide1 (EU.out.trans (hb.mono EU.out.size)); clear hb; have y6 : wk.cell? ⟨X, 6, none⟩ = some (.slice A.wa wa.length A.wc) := KZ.out.cell 6; have y7 : wk.cell? ⟨X, 7, none⟩ = some (.slice A.ia is.length A.ic) := KZ.out.cell 7) | (go_at_call 94; refine (C3.out _ EU.out).mono ?_; rintro r wk ⟨rfl, hb⟩; have KZ := hide1 (KZ.out.below hb KZ.out.lt); have EU := hide1 (EU.out.trans (hb.mono EU.out.size)); clear hb; have y0 : wk.cell? ⟨X, 0, none⟩ = some (.int .i64 id) := KZ.out.cell 0; have y1 : wk.cell? ⟨X, 1, none⟩ = some (.int .i64 ep) := KZ.out.cell 1; have y2 : wk.cell? ⟨X, 2, none⟩ = some (.bool fe) := KZ.out.cell 2; have y3 : wk.cell? ⟨X, 3, none⟩ = some (.bool ba) := KZ.out.cell 3; have y4 : wk.cell? ⟨X, 4, none⟩ = some (.bool le) := KZ.out.cell 4; have y5 : wk.cell? ⟨X, 5, none⟩ = some (.bool se) := KZ.out.cell 5; have y6 : wk.cell? ⟨X, 6, none⟩ = some (.slice A.wa wa.length A.wc) := KZ.out.cell 6; have y7 : wk.cell? ⟨X, 7, none⟩ = some (.slice A.ia is.length A.ic) := KZ.out.cell 7; have y8 : wk.cell? ⟨X, 8, none⟩ = some (.int .i64 cn) := KZ.out.cell 8; have y9 : wk.cell? ⟨X, 9, none⟩ = some (.int .i64 tk.op) := KZ.out.cell 9; have y10 : wk.cell? ⟨X, 10, none⟩ = some (.int .i64 tk.cl) := KZ.out.cell 10; have y11 : wk.cell? ⟨X, 11, none⟩ = some (.int .i64 tk.nu) := KZ.out.cell 11; have y12 : wk.cell? ⟨X, 12, none⟩ = some (.string tk.it.k) := KZ.out.cell 12; have y13 : wk.cell? ⟨X, 13, none⟩ = some (.string tk.it.v) := KZ.out.cell 13; have y14 : wk.cell? ⟨X, 14, none⟩ = some (.int .i64 tk.it.n) := KZ.out.cell 14; have y15 : wk.cell? ⟨X, 15, none⟩ = some (.slice A.la tk.lf.length A.lc) := KZ.out.cell 15) | (go_at_call 95; refine (C4.out _ EU.out).mono ?_; rintro r wk ⟨rfl, hb⟩; have KZ := hide1 (KZ.out.below hb KZ.out.lt); have EU := hide1 (EU.out.trans (hb.mono EU.out.size)); clear hb))
      go_ret
      exact ⟨by rw [RES.out]; first | done | rfl, EU.out⟩
  · rw [decide_eq_false c0] at C0
    have RES := hide1 (show decide (okMb ⟨id, ep, fe, ba, le, se, wa, is, cn, tk⟩) = false from decide_eq_false (fun e => (fun h => c0 h.1.1) (HOK.out.1 e)))
    try clear hc
    try clear hd
    try clear c0
    try clear c1
    try clear c2
    try clear c3
    try clear c4
    try clear c5
    try clear c6
    try clear c7
    try clear c8
    go_wp2_with (first | (go_at_call 91; refine (C0.out _).mono ?_; rintro r wx ⟨rfl, rfl⟩) | (go_at_call 93; refine (C2.out _ EU.out).mono ?_; rintro r wy ⟨rfl, rfl⟩) | (go_at_call 92; refine (C1.out _).mono ?_; rintro r wk ⟨rfl, hb⟩; have KZ := hide1 (KZ.out.below hb KZ.out.lt); have EU := hide1 (EU.out.trans (hb.mono EU.out.size)); clear hb; have y6 : wk.cell? ⟨X, 6, none⟩ = some (.slice A.wa wa.length A.wc) := KZ.out.cell 6; have y7 : wk.cell? ⟨X, 7, none⟩ = some (.slice A.ia is.length A.ic) := KZ.out.cell 7) | (go_at_call 94; refine (C3.out _ EU.out).mono ?_; rintro r wk ⟨rfl, hb⟩; have KZ := hide1 (KZ.out.below hb KZ.out.lt); have EU := hide1 (EU.out.trans (hb.mono EU.out.size)); clear hb; have y0 : wk.cell? ⟨X, 0, none⟩ = some (.int .i64 id) := KZ.out.cell 0; have y1 : wk.cell? ⟨X, 1, none⟩ = some (.int .i64 ep) := KZ.out.cell 1; have y2 : wk.cell? ⟨X, 2, none⟩ = some (.bool fe) := KZ.out.cell 2; have y3 : wk.cell? ⟨X, 3, none⟩ = some (.bool ba) := KZ.out.cell 3; have y4 : wk.cell? ⟨X, 4, none⟩ = some (.bool le) := KZ.out.cell 4; have y5 : wk.cell? ⟨X, 5, none⟩ = some (.bool se) := KZ.out.cell 5; have y6 : wk.cell? ⟨X, 6, none⟩ = some (.slice A.wa wa.length A.wc) := KZ.out.cell 6; have y7 : wk.cell? ⟨X, 7, none⟩ = some (.slice A.ia is.length A.ic) := KZ.out.cell 7; have y8 : wk.cell? ⟨X, 8, none⟩ = some (.int .i64 cn) := KZ.out.cell 8; have y9 : wk.cell? ⟨X, 9, none⟩ = some (.int .i64 tk.op) := KZ.out.cell 9; have y10 : wk.cell? ⟨X, 10, none⟩ = some (.int .i64 tk.cl) := KZ.out.cell 10; have y11 : wk.cell? ⟨X, 11, none⟩ = some (.int .i64 tk.nu) := KZ.out.cell 11; have y12 : wk.cell? ⟨X, 12, none⟩ = some (.string tk.it.k) := KZ.out.cell 12; have y13 : wk.cell? ⟨X, 13, none⟩ = some (.string tk.it.v) := KZ.out.cell 13; have y14 : wk.cell? ⟨X, 14, none⟩ = some (.int .i64 tk.it.n) := KZ.out.cell 14; have y15 : wk.cell? ⟨X, 15, none⟩ = some (.slice A.la tk.lf.length A.lc) := KZ.out.cell 15) | (go_at_call 95; refine (C4.out _ EU.out).mono ?_; rintro r wk ⟨rfl, hb⟩; have KZ := hide1 (KZ.out.below hb KZ.out.lt); have EU := hide1 (EU.out.trans (hb.mono EU.out.size)); clear hb))
    go_ret
    exact ⟨by rw [RES.out]; first | done | rfl, EU.out⟩
set_option maxRecDepth 100000 in
set_option maxHeartbeats 8000000 in
theorem implMemberOk_b (m : Mb) (A : MA) (w : World) (hl : SzMb m) (hz : ∀ x ∈ m.is, x.k.size ≤ 1048576 ∧ x.v.size ≤ 1048576) (hA : RdMb w m A) (hc : ((1 ≤ m.id ∧ m.id ≤ 6) ∧ (1 ≤ m.ep ∧ m.ep ≤ 9) ∧ (0 ≤ m.cn ∧ m.cn ≤ 900)) ∧ ¬ (stood m.fe m.ba m.le m.se m.wa ∧ okIds m.wa)) :
    Calls Tryz.prog 73 #[mbV m A] w fun e w' => e = .returned (.bool (decide (okMb m))) ∧ Below w.heap.size w w' := by
  obtain ⟨id, ep, fe, ba, le, se, wa, is, cn, tk⟩ := m
  obtain ⟨hl1, hl2, hl3⟩ := hl
  obtain ⟨hr1, hr2, hr3⟩ := hA
  dsimp only at hl1 hl2 hl3 hr1 hr2 hr3 hz
  dsimp only at hc
  unfold mbV
  dsimp only
  have F := hide1 (And.intro (Blk.new w 38 #[.int .i64 id, .int .i64 ep, .bool fe, .bool ba, .bool le, .bool se, .slice A.wa wa.length A.wc, .slice A.ia is.length A.ic, .int .i64 cn, .int .i64 tk.op, .int .i64 tk.cl, .int .i64 tk.nu, .string tk.it.k, .string tk.it.v, .int .i64 tk.it.n, .slice A.la tk.lf.length A.lc]) ((Below.refl w.heap.size w).alloc (Nat.le_refl _) (.cells #[.int .i64 id, .int .i64 ep, .bool fe, .bool ba, .bool le, .bool se, .slice A.wa wa.length A.wc, .slice A.ia is.length A.ic, .int .i64 cn, .int .i64 tk.op, .int .i64 tk.cl, .int .i64 tk.nu, .string tk.it.k, .string tk.it.v, .int .i64 tk.it.n, .slice A.la tk.lf.length A.lc] 38)))
  have C0 := hide1 (fun w' => nodeFits_any id w')
  have C1 := hide1 (fun w' => implStand_any id ep cn fe ba le se wa is tk A w')
  have C2 := hide1 (fun w' (hb : Below w.heap.size w w') => implAscend_any A.wa wa A.wc w' hl1 (hr1.later hb))
  have C3 := hide1 (fun w' (hb : Below w.heap.size w w') => implItemsOk_any A.ia is A.ic w' hl2 hz (hr2.later hb))
  have C4 := hide1 (fun w' (hb : Below w.heap.size w w') => implTask_any id ep cn fe ba le se wa is tk A w' hl3 (hr3.later hb))
  have HOK := hide1 (@ok_mb id ep cn fe ba le se wa is tk)
  clear hr1 hr2 hr3 hz
  go_enter Tryz.func73, Tryz.ntmps73
  go_upto_region 1 with fail
  generalize (w.alloc (.cells #[.int .i64 id, .int .i64 ep, .bool fe, .bool ba, .bool le, .bool se, .slice A.wa wa.length A.wc, .slice A.ia is.length A.ic, .int .i64 cn, .int .i64 tk.op, .int .i64 tk.cl, .int .i64 tk.nu, .string tk.it.k, .string tk.it.v, .int .i64 tk.it.n, .slice A.la tk.lf.length A.lc] 38)) = u at F ⊢
  obtain ⟨X, hX⟩ : ∃ G, G = w.heap.size := ⟨_, rfl⟩
  have KZ := hide1 F.out.1
  rw [← hX] at KZ ⊢
  have EU := hide1 F.out.2
  clear F hX
  have y0 : u.cell? ⟨X, 0, none⟩ = some (.int .i64 id) := KZ.out.cell 0
  have y1 : u.cell? ⟨X, 1, none⟩ = some (.int .i64 ep) := KZ.out.cell 1
  have y2 : u.cell? ⟨X, 2, none⟩ = some (.bool fe) := KZ.out.cell 2
  have y3 : u.cell? ⟨X, 3, none⟩ = some (.bool ba) := KZ.out.cell 3
  have y4 : u.cell? ⟨X, 4, none⟩ = some (.bool le) := KZ.out.cell 4
  have y5 : u.cell? ⟨X, 5, none⟩ = some (.bool se) := KZ.out.cell 5
  have y6 : u.cell? ⟨X, 6, none⟩ = some (.slice A.wa wa.length A.wc) := KZ.out.cell 6
  have y7 : u.cell? ⟨X, 7, none⟩ = some (.slice A.ia is.length A.ic) := KZ.out.cell 7
  have y8 : u.cell? ⟨X, 8, none⟩ = some (.int .i64 cn) := KZ.out.cell 8
  have y9 : u.cell? ⟨X, 9, none⟩ = some (.int .i64 tk.op) := KZ.out.cell 9
  have y10 : u.cell? ⟨X, 10, none⟩ = some (.int .i64 tk.cl) := KZ.out.cell 10
  have y11 : u.cell? ⟨X, 11, none⟩ = some (.int .i64 tk.nu) := KZ.out.cell 11
  have y12 : u.cell? ⟨X, 12, none⟩ = some (.string tk.it.k) := KZ.out.cell 12
  have y13 : u.cell? ⟨X, 13, none⟩ = some (.string tk.it.v) := KZ.out.cell 13
  have y14 : u.cell? ⟨X, 14, none⟩ = some (.int .i64 tk.it.n) := KZ.out.cell 14
  have y15 : u.cell? ⟨X, 15, none⟩ = some (.slice A.la tk.lf.length A.lc) := KZ.out.cell 15
  obtain ⟨⟨c0, ⟨c1, c2⟩, c3, c4⟩, hd⟩ := hc
  rw [decide_eq_true c0] at C0
  have q1 : decide (ep < 1) = false := decide_eq_false (by omega)
  have q2 : decide (9 < ep) = false := decide_eq_false (by omega)
  have q3 : decide (cn < 0) = false := decide_eq_false (by omega)
  have q4 : decide (900 < cn) = false := decide_eq_false (by omega)
  by_cases c5 : stood fe ba le se wa
  · rw [decide_eq_true c5] at C1
    by_cases c6 : okIds wa
    · rw [decide_eq_true c6] at C2
      exact absurd ⟨c5, c6⟩ hd
    · rw [decide_eq_false c6] at C2
      have RES := hide1 (show decide (okMb ⟨id, ep, fe, ba, le, se, wa, is, cn, tk⟩) = false from decide_eq_false (fun e => (fun h => c6 h.2.2.1) (HOK.out.1 e)))
      try clear hc
      try clear hd
      try clear c0
      try clear c1
      try clear c2
      try clear c3
      try clear c4
      try clear c5
      try clear c6
      try clear c7
      try clear c8
      go_wp2_with (first | (go_at_call 91; refine (C0.out _).mono ?_; rintro r wx ⟨rfl, rfl⟩) | (go_at_call 93; refine (C2.out _ EU.out).mono ?_; rintro r wy ⟨rfl, rfl⟩) | (go_at_call 92; refine (C1.out _).mono ?_; rintro r wk ⟨rfl, hb⟩; have KZ := hide1 (KZ.out.below hb KZ.out.lt); have EU := hide1 (EU.out.trans (hb.mono EU.out.size)); clear hb; have y6 : wk.cell? ⟨X, 6, none⟩ = some (.slice A.wa wa.length A.wc) := KZ.out.cell 6; have y7 : wk.cell? ⟨X, 7, none⟩ = some (.slice A.ia is.length A.ic) := KZ.out.cell 7) | (go_at_call 94; refine (C3.out _ EU.out).mono ?_; rintro r wk ⟨rfl, hb⟩; have KZ := hide1 (KZ.out.below hb KZ.out.lt); have EU := hide1 (EU.out.trans (hb.mono EU.out.size)); clear hb; have y0 : wk.cell? ⟨X, 0, none⟩ = some (.int .i64 id) := KZ.out.cell 0; have y1 : wk.cell? ⟨X, 1, none⟩ = some (.int .i64 ep) := KZ.out.cell 1; have y2 : wk.cell? ⟨X, 2, none⟩ = some (.bool fe) := KZ.out.cell 2; have y3 : wk.cell? ⟨X, 3, none⟩ = some (.bool ba) := KZ.out.cell 3; have y4 : wk.cell? ⟨X, 4, none⟩ = some (.bool le) := KZ.out.cell 4; have y5 : wk.cell? ⟨X, 5, none⟩ = some (.bool se) := KZ.out.cell 5; have y6 : wk.cell? ⟨X, 6, none⟩ = some (.slice A.wa wa.length A.wc) := KZ.out.cell 6; have y7 : wk.cell? ⟨X, 7, none⟩ = some (.slice A.ia is.length A.ic) := KZ.out.cell 7; have y8 : wk.cell? ⟨X, 8, none⟩ = some (.int .i64 cn) := KZ.out.cell 8; have y9 : wk.cell? ⟨X, 9, none⟩ = some (.int .i64 tk.op) := KZ.out.cell 9; have y10 : wk.cell? ⟨X, 10, none⟩ = some (.int .i64 tk.cl) := KZ.out.cell 10; have y11 : wk.cell? ⟨X, 11, none⟩ = some (.int .i64 tk.nu) := KZ.out.cell 11; have y12 : wk.cell? ⟨X, 12, none⟩ = some (.string tk.it.k) := KZ.out.cell 12; have y13 : wk.cell? ⟨X, 13, none⟩ = some (.string tk.it.v) := KZ.out.cell 13; have y14 : wk.cell? ⟨X, 14, none⟩ = some (.int .i64 tk.it.n) := KZ.out.cell 14; have y15 : wk.cell? ⟨X, 15, none⟩ = some (.slice A.la tk.lf.length A.lc) := KZ.out.cell 15) | (go_at_call 95; refine (C4.out _ EU.out).mono ?_; rintro r wk ⟨rfl, hb⟩; have KZ := hide1 (KZ.out.below hb KZ.out.lt); have EU := hide1 (EU.out.trans (hb.mono EU.out.size)); clear hb))
      go_ret
      exact ⟨by rw [RES.out]; first | done | rfl, EU.out⟩
  · rw [decide_eq_false c5] at C1
    have RES := hide1 (show decide (okMb ⟨id, ep, fe, ba, le, se, wa, is, cn, tk⟩) = false from decide_eq_false (fun e => (fun h => c5 h.2.1) (HOK.out.1 e)))
    try clear hc
    try clear hd
    try clear c0
    try clear c1
    try clear c2
    try clear c3
    try clear c4
    try clear c5
    try clear c6
    try clear c7
    try clear c8
    go_wp2_with (first | (go_at_call 91; refine (C0.out _).mono ?_; rintro r wx ⟨rfl, rfl⟩) | (go_at_call 93; refine (C2.out _ EU.out).mono ?_; rintro r wy ⟨rfl, rfl⟩) | (go_at_call 92; refine (C1.out _).mono ?_; rintro r wk ⟨rfl, hb⟩; have KZ := hide1 (KZ.out.below hb KZ.out.lt); have EU := hide1 (EU.out.trans (hb.mono EU.out.size)); clear hb; have y6 : wk.cell? ⟨X, 6, none⟩ = some (.slice A.wa wa.length A.wc) := KZ.out.cell 6; have y7 : wk.cell? ⟨X, 7, none⟩ = some (.slice A.ia is.length A.ic) := KZ.out.cell 7) | (go_at_call 94; refine (C3.out _ EU.out).mono ?_; rintro r wk ⟨rfl, hb⟩; have KZ := hide1 (KZ.out.below hb KZ.out.lt); have EU := hide1 (EU.out.trans (hb.mono EU.out.size)); clear hb; have y0 : wk.cell? ⟨X, 0, none⟩ = some (.int .i64 id) := KZ.out.cell 0; have y1 : wk.cell? ⟨X, 1, none⟩ = some (.int .i64 ep) := KZ.out.cell 1; have y2 : wk.cell? ⟨X, 2, none⟩ = some (.bool fe) := KZ.out.cell 2; have y3 : wk.cell? ⟨X, 3, none⟩ = some (.bool ba) := KZ.out.cell 3; have y4 : wk.cell? ⟨X, 4, none⟩ = some (.bool le) := KZ.out.cell 4; have y5 : wk.cell? ⟨X, 5, none⟩ = some (.bool se) := KZ.out.cell 5; have y6 : wk.cell? ⟨X, 6, none⟩ = some (.slice A.wa wa.length A.wc) := KZ.out.cell 6; have y7 : wk.cell? ⟨X, 7, none⟩ = some (.slice A.ia is.length A.ic) := KZ.out.cell 7; have y8 : wk.cell? ⟨X, 8, none⟩ = some (.int .i64 cn) := KZ.out.cell 8; have y9 : wk.cell? ⟨X, 9, none⟩ = some (.int .i64 tk.op) := KZ.out.cell 9; have y10 : wk.cell? ⟨X, 10, none⟩ = some (.int .i64 tk.cl) := KZ.out.cell 10; have y11 : wk.cell? ⟨X, 11, none⟩ = some (.int .i64 tk.nu) := KZ.out.cell 11; have y12 : wk.cell? ⟨X, 12, none⟩ = some (.string tk.it.k) := KZ.out.cell 12; have y13 : wk.cell? ⟨X, 13, none⟩ = some (.string tk.it.v) := KZ.out.cell 13; have y14 : wk.cell? ⟨X, 14, none⟩ = some (.int .i64 tk.it.n) := KZ.out.cell 14; have y15 : wk.cell? ⟨X, 15, none⟩ = some (.slice A.la tk.lf.length A.lc) := KZ.out.cell 15) | (go_at_call 95; refine (C4.out _ EU.out).mono ?_; rintro r wk ⟨rfl, hb⟩; have KZ := hide1 (KZ.out.below hb KZ.out.lt); have EU := hide1 (EU.out.trans (hb.mono EU.out.size)); clear hb))
    go_ret
    exact ⟨by rw [RES.out]; first | done | rfl, EU.out⟩
set_option maxRecDepth 100000 in
set_option maxHeartbeats 8000000 in
theorem implMemberOk_c (m : Mb) (A : MA) (w : World) (hl : SzMb m) (hz : ∀ x ∈ m.is, x.k.size ≤ 1048576 ∧ x.v.size ≤ 1048576) (hA : RdMb w m A) (hc : ((1 ≤ m.id ∧ m.id ≤ 6) ∧ (1 ≤ m.ep ∧ m.ep ≤ 9) ∧ (0 ≤ m.cn ∧ m.cn ≤ 900)) ∧ stood m.fe m.ba m.le m.se m.wa ∧ okIds m.wa ∧ ¬ okIms m.is) :
    Calls Tryz.prog 73 #[mbV m A] w fun e w' => e = .returned (.bool (decide (okMb m))) ∧ Below w.heap.size w w' := by
  obtain ⟨id, ep, fe, ba, le, se, wa, is, cn, tk⟩ := m
  obtain ⟨hl1, hl2, hl3⟩ := hl
  obtain ⟨hr1, hr2, hr3⟩ := hA
  dsimp only at hl1 hl2 hl3 hr1 hr2 hr3 hz
  dsimp only at hc
  unfold mbV
  dsimp only
  have F := hide1 (And.intro (Blk.new w 38 #[.int .i64 id, .int .i64 ep, .bool fe, .bool ba, .bool le, .bool se, .slice A.wa wa.length A.wc, .slice A.ia is.length A.ic, .int .i64 cn, .int .i64 tk.op, .int .i64 tk.cl, .int .i64 tk.nu, .string tk.it.k, .string tk.it.v, .int .i64 tk.it.n, .slice A.la tk.lf.length A.lc]) ((Below.refl w.heap.size w).alloc (Nat.le_refl _) (.cells #[.int .i64 id, .int .i64 ep, .bool fe, .bool ba, .bool le, .bool se, .slice A.wa wa.length A.wc, .slice A.ia is.length A.ic, .int .i64 cn, .int .i64 tk.op, .int .i64 tk.cl, .int .i64 tk.nu, .string tk.it.k, .string tk.it.v, .int .i64 tk.it.n, .slice A.la tk.lf.length A.lc] 38)))
  have C0 := hide1 (fun w' => nodeFits_any id w')
  have C1 := hide1 (fun w' => implStand_any id ep cn fe ba le se wa is tk A w')
  have C2 := hide1 (fun w' (hb : Below w.heap.size w w') => implAscend_any A.wa wa A.wc w' hl1 (hr1.later hb))
  have C3 := hide1 (fun w' (hb : Below w.heap.size w w') => implItemsOk_any A.ia is A.ic w' hl2 hz (hr2.later hb))
  have C4 := hide1 (fun w' (hb : Below w.heap.size w w') => implTask_any id ep cn fe ba le se wa is tk A w' hl3 (hr3.later hb))
  have HOK := hide1 (@ok_mb id ep cn fe ba le se wa is tk)
  clear hr1 hr2 hr3 hz
  go_enter Tryz.func73, Tryz.ntmps73
  go_upto_region 1 with fail
  generalize (w.alloc (.cells #[.int .i64 id, .int .i64 ep, .bool fe, .bool ba, .bool le, .bool se, .slice A.wa wa.length A.wc, .slice A.ia is.length A.ic, .int .i64 cn, .int .i64 tk.op, .int .i64 tk.cl, .int .i64 tk.nu, .string tk.it.k, .string tk.it.v, .int .i64 tk.it.n, .slice A.la tk.lf.length A.lc] 38)) = u at F ⊢
  obtain ⟨X, hX⟩ : ∃ G, G = w.heap.size := ⟨_, rfl⟩
  have KZ := hide1 F.out.1
  rw [← hX] at KZ ⊢
  have EU := hide1 F.out.2
  clear F hX
  have y0 : u.cell? ⟨X, 0, none⟩ = some (.int .i64 id) := KZ.out.cell 0
  have y1 : u.cell? ⟨X, 1, none⟩ = some (.int .i64 ep) := KZ.out.cell 1
  have y2 : u.cell? ⟨X, 2, none⟩ = some (.bool fe) := KZ.out.cell 2
  have y3 : u.cell? ⟨X, 3, none⟩ = some (.bool ba) := KZ.out.cell 3
  have y4 : u.cell? ⟨X, 4, none⟩ = some (.bool le) := KZ.out.cell 4
  have y5 : u.cell? ⟨X, 5, none⟩ = some (.bool se) := KZ.out.cell 5
  have y6 : u.cell? ⟨X, 6, none⟩ = some (.slice A.wa wa.length A.wc) := KZ.out.cell 6
  have y7 : u.cell? ⟨X, 7, none⟩ = some (.slice A.ia is.length A.ic) := KZ.out.cell 7
  have y8 : u.cell? ⟨X, 8, none⟩ = some (.int .i64 cn) := KZ.out.cell 8
  have y9 : u.cell? ⟨X, 9, none⟩ = some (.int .i64 tk.op) := KZ.out.cell 9
  have y10 : u.cell? ⟨X, 10, none⟩ = some (.int .i64 tk.cl) := KZ.out.cell 10
  have y11 : u.cell? ⟨X, 11, none⟩ = some (.int .i64 tk.nu) := KZ.out.cell 11
  have y12 : u.cell? ⟨X, 12, none⟩ = some (.string tk.it.k) := KZ.out.cell 12
  have y13 : u.cell? ⟨X, 13, none⟩ = some (.string tk.it.v) := KZ.out.cell 13
  have y14 : u.cell? ⟨X, 14, none⟩ = some (.int .i64 tk.it.n) := KZ.out.cell 14
  have y15 : u.cell? ⟨X, 15, none⟩ = some (.slice A.la tk.lf.length A.lc) := KZ.out.cell 15
  obtain ⟨⟨c0, ⟨c1, c2⟩, c3, c4⟩, c5, c6, hd⟩ := hc
  rw [decide_eq_true c0] at C0
  have q1 : decide (ep < 1) = false := decide_eq_false (by omega)
  have q2 : decide (9 < ep) = false := decide_eq_false (by omega)
  have q3 : decide (cn < 0) = false := decide_eq_false (by omega)
  have q4 : decide (900 < cn) = false := decide_eq_false (by omega)
  rw [decide_eq_true c5] at C1
  rw [decide_eq_true c6] at C2
  by_cases c7 : okIms is
  · rw [decide_eq_true c7] at C3
    exact absurd c7 hd
  · rw [decide_eq_false c7] at C3
    have RES := hide1 (show decide (okMb ⟨id, ep, fe, ba, le, se, wa, is, cn, tk⟩) = false from decide_eq_false (fun e => (fun h => c7 h.2.2.2.1) (HOK.out.1 e)))
    try clear hc
    try clear hd
    try clear c0
    try clear c1
    try clear c2
    try clear c3
    try clear c4
    try clear c5
    try clear c6
    try clear c7
    try clear c8
    go_wp2_with (first | (go_at_call 91; refine (C0.out _).mono ?_; rintro r wx ⟨rfl, rfl⟩) | (go_at_call 93; refine (C2.out _ EU.out).mono ?_; rintro r wy ⟨rfl, rfl⟩) | (go_at_call 92; refine (C1.out _).mono ?_; rintro r wk ⟨rfl, hb⟩; have KZ := hide1 (KZ.out.below hb KZ.out.lt); have EU := hide1 (EU.out.trans (hb.mono EU.out.size)); clear hb; have y6 : wk.cell? ⟨X, 6, none⟩ = some (.slice A.wa wa.length A.wc) := KZ.out.cell 6; have y7 : wk.cell? ⟨X, 7, none⟩ = some (.slice A.ia is.length A.ic) := KZ.out.cell 7) | (go_at_call 94; refine (C3.out _ EU.out).mono ?_; rintro r wk ⟨rfl, hb⟩; have KZ := hide1 (KZ.out.below hb KZ.out.lt); have EU := hide1 (EU.out.trans (hb.mono EU.out.size)); clear hb; have y0 : wk.cell? ⟨X, 0, none⟩ = some (.int .i64 id) := KZ.out.cell 0; have y1 : wk.cell? ⟨X, 1, none⟩ = some (.int .i64 ep) := KZ.out.cell 1; have y2 : wk.cell? ⟨X, 2, none⟩ = some (.bool fe) := KZ.out.cell 2; have y3 : wk.cell? ⟨X, 3, none⟩ = some (.bool ba) := KZ.out.cell 3; have y4 : wk.cell? ⟨X, 4, none⟩ = some (.bool le) := KZ.out.cell 4; have y5 : wk.cell? ⟨X, 5, none⟩ = some (.bool se) := KZ.out.cell 5; have y6 : wk.cell? ⟨X, 6, none⟩ = some (.slice A.wa wa.length A.wc) := KZ.out.cell 6; have y7 : wk.cell? ⟨X, 7, none⟩ = some (.slice A.ia is.length A.ic) := KZ.out.cell 7; have y8 : wk.cell? ⟨X, 8, none⟩ = some (.int .i64 cn) := KZ.out.cell 8; have y9 : wk.cell? ⟨X, 9, none⟩ = some (.int .i64 tk.op) := KZ.out.cell 9; have y10 : wk.cell? ⟨X, 10, none⟩ = some (.int .i64 tk.cl) := KZ.out.cell 10; have y11 : wk.cell? ⟨X, 11, none⟩ = some (.int .i64 tk.nu) := KZ.out.cell 11; have y12 : wk.cell? ⟨X, 12, none⟩ = some (.string tk.it.k) := KZ.out.cell 12; have y13 : wk.cell? ⟨X, 13, none⟩ = some (.string tk.it.v) := KZ.out.cell 13; have y14 : wk.cell? ⟨X, 14, none⟩ = some (.int .i64 tk.it.n) := KZ.out.cell 14; have y15 : wk.cell? ⟨X, 15, none⟩ = some (.slice A.la tk.lf.length A.lc) := KZ.out.cell 15) | (go_at_call 95; refine (C4.out _ EU.out).mono ?_; rintro r wk ⟨rfl, hb⟩; have KZ := hide1 (KZ.out.below hb KZ.out.lt); have EU := hide1 (EU.out.trans (hb.mono EU.out.size)); clear hb))
    go_ret
    exact ⟨by rw [RES.out]; first | done | rfl, EU.out⟩
set_option maxRecDepth 100000 in
set_option maxHeartbeats 8000000 in
theorem implMemberOk_d (m : Mb) (A : MA) (w : World) (hl : SzMb m) (hz : ∀ x ∈ m.is, x.k.size ≤ 1048576 ∧ x.v.size ≤ 1048576) (hA : RdMb w m A) (hc : ((1 ≤ m.id ∧ m.id ≤ 6) ∧ (1 ≤ m.ep ∧ m.ep ≤ 9) ∧ (0 ≤ m.cn ∧ m.cn ≤ 900)) ∧ stood m.fe m.ba m.le m.se m.wa ∧ okIds m.wa ∧ okIms m.is) :
    Calls Tryz.prog 73 #[mbV m A] w fun e w' => e = .returned (.bool (decide (okMb m))) ∧ Below w.heap.size w w' := by
  obtain ⟨id, ep, fe, ba, le, se, wa, is, cn, tk⟩ := m
  obtain ⟨hl1, hl2, hl3⟩ := hl
  obtain ⟨hr1, hr2, hr3⟩ := hA
  dsimp only at hl1 hl2 hl3 hr1 hr2 hr3 hz
  dsimp only at hc
  unfold mbV
  dsimp only
  have F := hide1 (And.intro (Blk.new w 38 #[.int .i64 id, .int .i64 ep, .bool fe, .bool ba, .bool le, .bool se, .slice A.wa wa.length A.wc, .slice A.ia is.length A.ic, .int .i64 cn, .int .i64 tk.op, .int .i64 tk.cl, .int .i64 tk.nu, .string tk.it.k, .string tk.it.v, .int .i64 tk.it.n, .slice A.la tk.lf.length A.lc]) ((Below.refl w.heap.size w).alloc (Nat.le_refl _) (.cells #[.int .i64 id, .int .i64 ep, .bool fe, .bool ba, .bool le, .bool se, .slice A.wa wa.length A.wc, .slice A.ia is.length A.ic, .int .i64 cn, .int .i64 tk.op, .int .i64 tk.cl, .int .i64 tk.nu, .string tk.it.k, .string tk.it.v, .int .i64 tk.it.n, .slice A.la tk.lf.length A.lc] 38)))
  have C0 := hide1 (fun w' => nodeFits_any id w')
  have C1 := hide1 (fun w' => implStand_any id ep cn fe ba le se wa is tk A w')
  have C2 := hide1 (fun w' (hb : Below w.heap.size w w') => implAscend_any A.wa wa A.wc w' hl1 (hr1.later hb))
  have C3 := hide1 (fun w' (hb : Below w.heap.size w w') => implItemsOk_any A.ia is A.ic w' hl2 hz (hr2.later hb))
  have C4 := hide1 (fun w' (hb : Below w.heap.size w w') => implTask_any id ep cn fe ba le se wa is tk A w' hl3 (hr3.later hb))
  have HOK := hide1 (@ok_mb id ep cn fe ba le se wa is tk)
  clear hr1 hr2 hr3 hz
  go_enter Tryz.func73, Tryz.ntmps73
  go_upto_region 1 with fail
  generalize (w.alloc (.cells #[.int .i64 id, .int .i64 ep, .bool fe, .bool ba, .bool le, .bool se, .slice A.wa wa.length A.wc, .slice A.ia is.length A.ic, .int .i64 cn, .int .i64 tk.op, .int .i64 tk.cl, .int .i64 tk.nu, .string tk.it.k, .string tk.it.v, .int .i64 tk.it.n, .slice A.la tk.lf.length A.lc] 38)) = u at F ⊢
  obtain ⟨X, hX⟩ : ∃ G, G = w.heap.size := ⟨_, rfl⟩
  have KZ := hide1 F.out.1
  rw [← hX] at KZ ⊢
  have EU := hide1 F.out.2
  clear F hX
  have y0 : u.cell? ⟨X, 0, none⟩ = some (.int .i64 id) := KZ.out.cell 0
  have y1 : u.cell? ⟨X, 1, none⟩ = some (.int .i64 ep) := KZ.out.cell 1
  have y2 : u.cell? ⟨X, 2, none⟩ = some (.bool fe) := KZ.out.cell 2
  have y3 : u.cell? ⟨X, 3, none⟩ = some (.bool ba) := KZ.out.cell 3
  have y4 : u.cell? ⟨X, 4, none⟩ = some (.bool le) := KZ.out.cell 4
  have y5 : u.cell? ⟨X, 5, none⟩ = some (.bool se) := KZ.out.cell 5
  have y6 : u.cell? ⟨X, 6, none⟩ = some (.slice A.wa wa.length A.wc) := KZ.out.cell 6
  have y7 : u.cell? ⟨X, 7, none⟩ = some (.slice A.ia is.length A.ic) := KZ.out.cell 7
  have y8 : u.cell? ⟨X, 8, none⟩ = some (.int .i64 cn) := KZ.out.cell 8
  have y9 : u.cell? ⟨X, 9, none⟩ = some (.int .i64 tk.op) := KZ.out.cell 9
  have y10 : u.cell? ⟨X, 10, none⟩ = some (.int .i64 tk.cl) := KZ.out.cell 10
  have y11 : u.cell? ⟨X, 11, none⟩ = some (.int .i64 tk.nu) := KZ.out.cell 11
  have y12 : u.cell? ⟨X, 12, none⟩ = some (.string tk.it.k) := KZ.out.cell 12
  have y13 : u.cell? ⟨X, 13, none⟩ = some (.string tk.it.v) := KZ.out.cell 13
  have y14 : u.cell? ⟨X, 14, none⟩ = some (.int .i64 tk.it.n) := KZ.out.cell 14
  have y15 : u.cell? ⟨X, 15, none⟩ = some (.slice A.la tk.lf.length A.lc) := KZ.out.cell 15
  obtain ⟨⟨c0, ⟨c1, c2⟩, c3, c4⟩, c5, c6, c7⟩ := hc
  rw [decide_eq_true c0] at C0
  have q1 : decide (ep < 1) = false := decide_eq_false (by omega)
  have q2 : decide (9 < ep) = false := decide_eq_false (by omega)
  have q3 : decide (cn < 0) = false := decide_eq_false (by omega)
  have q4 : decide (900 < cn) = false := decide_eq_false (by omega)
  rw [decide_eq_true c5] at C1
  rw [decide_eq_true c6] at C2
  rw [decide_eq_true c7] at C3
  by_cases c8 : tasked tk se
  · rw [decide_eq_true c8] at C4
    have RES := hide1 (show decide (okMb ⟨id, ep, fe, ba, le, se, wa, is, cn, tk⟩) = true from decide_eq_true (HOK.out.2 ⟨⟨c0, ⟨c1, c2⟩, c3, c4⟩, c5, c6, c7, c8⟩))
    try clear hc
    try clear hd
    try clear c0
    try clear c1
    try clear c2
    try clear c3
    try clear c4
    try clear c5
    try clear c6
    try clear c7
    try clear c8
    go_wp2_with (first | (go_at_call 91; refine (C0.out _).mono ?_; rintro r wx ⟨rfl, rfl⟩) | (go_at_call 93; refine (C2.out _ EU.out).mono ?_; rintro r wy ⟨rfl, rfl⟩) | (go_at_call 92; refine (C1.out _).mono ?_; rintro r wk ⟨rfl, hb⟩; have KZ := hide1 (KZ.out.below hb KZ.out.lt); have EU := hide1 (EU.out.trans (hb.mono EU.out.size)); clear hb; have y6 : wk.cell? ⟨X, 6, none⟩ = some (.slice A.wa wa.length A.wc) := KZ.out.cell 6; have y7 : wk.cell? ⟨X, 7, none⟩ = some (.slice A.ia is.length A.ic) := KZ.out.cell 7) | (go_at_call 94; refine (C3.out _ EU.out).mono ?_; rintro r wk ⟨rfl, hb⟩; have KZ := hide1 (KZ.out.below hb KZ.out.lt); have EU := hide1 (EU.out.trans (hb.mono EU.out.size)); clear hb; have y0 : wk.cell? ⟨X, 0, none⟩ = some (.int .i64 id) := KZ.out.cell 0; have y1 : wk.cell? ⟨X, 1, none⟩ = some (.int .i64 ep) := KZ.out.cell 1; have y2 : wk.cell? ⟨X, 2, none⟩ = some (.bool fe) := KZ.out.cell 2; have y3 : wk.cell? ⟨X, 3, none⟩ = some (.bool ba) := KZ.out.cell 3; have y4 : wk.cell? ⟨X, 4, none⟩ = some (.bool le) := KZ.out.cell 4; have y5 : wk.cell? ⟨X, 5, none⟩ = some (.bool se) := KZ.out.cell 5; have y6 : wk.cell? ⟨X, 6, none⟩ = some (.slice A.wa wa.length A.wc) := KZ.out.cell 6; have y7 : wk.cell? ⟨X, 7, none⟩ = some (.slice A.ia is.length A.ic) := KZ.out.cell 7; have y8 : wk.cell? ⟨X, 8, none⟩ = some (.int .i64 cn) := KZ.out.cell 8; have y9 : wk.cell? ⟨X, 9, none⟩ = some (.int .i64 tk.op) := KZ.out.cell 9; have y10 : wk.cell? ⟨X, 10, none⟩ = some (.int .i64 tk.cl) := KZ.out.cell 10; have y11 : wk.cell? ⟨X, 11, none⟩ = some (.int .i64 tk.nu) := KZ.out.cell 11; have y12 : wk.cell? ⟨X, 12, none⟩ = some (.string tk.it.k) := KZ.out.cell 12; have y13 : wk.cell? ⟨X, 13, none⟩ = some (.string tk.it.v) := KZ.out.cell 13; have y14 : wk.cell? ⟨X, 14, none⟩ = some (.int .i64 tk.it.n) := KZ.out.cell 14; have y15 : wk.cell? ⟨X, 15, none⟩ = some (.slice A.la tk.lf.length A.lc) := KZ.out.cell 15) | (go_at_call 95; refine (C4.out _ EU.out).mono ?_; rintro r wk ⟨rfl, hb⟩; have KZ := hide1 (KZ.out.below hb KZ.out.lt); have EU := hide1 (EU.out.trans (hb.mono EU.out.size)); clear hb))
    go_ret
    exact ⟨by rw [RES.out]; first | done | rfl, EU.out⟩
  · rw [decide_eq_false c8] at C4
    have RES := hide1 (show decide (okMb ⟨id, ep, fe, ba, le, se, wa, is, cn, tk⟩) = false from decide_eq_false (fun e => (fun h => c8 h.2.2.2.2) (HOK.out.1 e)))
    try clear hc
    try clear hd
    try clear c0
    try clear c1
    try clear c2
    try clear c3
    try clear c4
    try clear c5
    try clear c6
    try clear c7
    try clear c8
    go_wp2_with (first | (go_at_call 91; refine (C0.out _).mono ?_; rintro r wx ⟨rfl, rfl⟩) | (go_at_call 93; refine (C2.out _ EU.out).mono ?_; rintro r wy ⟨rfl, rfl⟩) | (go_at_call 92; refine (C1.out _).mono ?_; rintro r wk ⟨rfl, hb⟩; have KZ := hide1 (KZ.out.below hb KZ.out.lt); have EU := hide1 (EU.out.trans (hb.mono EU.out.size)); clear hb; have y6 : wk.cell? ⟨X, 6, none⟩ = some (.slice A.wa wa.length A.wc) := KZ.out.cell 6; have y7 : wk.cell? ⟨X, 7, none⟩ = some (.slice A.ia is.length A.ic) := KZ.out.cell 7) | (go_at_call 94; refine (C3.out _ EU.out).mono ?_; rintro r wk ⟨rfl, hb⟩; have KZ := hide1 (KZ.out.below hb KZ.out.lt); have EU := hide1 (EU.out.trans (hb.mono EU.out.size)); clear hb; have y0 : wk.cell? ⟨X, 0, none⟩ = some (.int .i64 id) := KZ.out.cell 0; have y1 : wk.cell? ⟨X, 1, none⟩ = some (.int .i64 ep) := KZ.out.cell 1; have y2 : wk.cell? ⟨X, 2, none⟩ = some (.bool fe) := KZ.out.cell 2; have y3 : wk.cell? ⟨X, 3, none⟩ = some (.bool ba) := KZ.out.cell 3; have y4 : wk.cell? ⟨X, 4, none⟩ = some (.bool le) := KZ.out.cell 4; have y5 : wk.cell? ⟨X, 5, none⟩ = some (.bool se) := KZ.out.cell 5; have y6 : wk.cell? ⟨X, 6, none⟩ = some (.slice A.wa wa.length A.wc) := KZ.out.cell 6; have y7 : wk.cell? ⟨X, 7, none⟩ = some (.slice A.ia is.length A.ic) := KZ.out.cell 7; have y8 : wk.cell? ⟨X, 8, none⟩ = some (.int .i64 cn) := KZ.out.cell 8; have y9 : wk.cell? ⟨X, 9, none⟩ = some (.int .i64 tk.op) := KZ.out.cell 9; have y10 : wk.cell? ⟨X, 10, none⟩ = some (.int .i64 tk.cl) := KZ.out.cell 10; have y11 : wk.cell? ⟨X, 11, none⟩ = some (.int .i64 tk.nu) := KZ.out.cell 11; have y12 : wk.cell? ⟨X, 12, none⟩ = some (.string tk.it.k) := KZ.out.cell 12; have y13 : wk.cell? ⟨X, 13, none⟩ = some (.string tk.it.v) := KZ.out.cell 13; have y14 : wk.cell? ⟨X, 14, none⟩ = some (.int .i64 tk.it.n) := KZ.out.cell 14; have y15 : wk.cell? ⟨X, 15, none⟩ = some (.slice A.la tk.lf.length A.lc) := KZ.out.cell 15) | (go_at_call 95; refine (C4.out _ EU.out).mono ?_; rintro r wk ⟨rfl, hb⟩; have KZ := hide1 (KZ.out.below hb KZ.out.lt); have EU := hide1 (EU.out.trans (hb.mono EU.out.size)); clear hb))
    go_ret
    exact ⟨by rw [RES.out]; first | done | rfl, EU.out⟩
theorem implMemberOk_any (m : Mb) (A : MA) (w : World) (hl : SzMb m) (hz : ∀ x ∈ m.is, x.k.size ≤ 1048576 ∧ x.v.size ≤ 1048576) (hA : RdMb w m A) :
    Calls Tryz.prog 73 #[mbV m A] w fun e w' => e = .returned (.bool (decide (okMb m))) ∧ Below w.heap.size w w' := by
  by_cases c0 : ((1 ≤ m.id ∧ m.id ≤ 6) ∧ (1 ≤ m.ep ∧ m.ep ≤ 9) ∧ (0 ≤ m.cn ∧ m.cn ≤ 900))
  · by_cases c1 : stood m.fe m.ba m.le m.se m.wa ∧ okIds m.wa
    · by_cases c2 : okIms m.is
      · exact implMemberOk_d m A w hl hz hA ⟨c0, c1.1, c1.2, c2⟩
      · exact implMemberOk_c m A w hl hz hA ⟨c0, c1.1, c1.2, c2⟩
    · exact implMemberOk_b m A w hl hz hA ⟨c0, c1⟩
  · exact implMemberOk_a m A w hl hz hA c0
end Go.Proofs.YtpjgplohlchpoaaGreatDoor
