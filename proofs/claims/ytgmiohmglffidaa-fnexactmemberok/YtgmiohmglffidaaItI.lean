/- The program's items: a list in memory of its own, whether a list is right, the item of a key. -/
import Derived.Test.YtgmiohmglffidaaFiT
import Derived.Test.YtgmiohmglffidaaImU
import Derived.Test.YtgmiohmglffidaaRowC
import Derived.Test.YtgmiohmglffidaaGrQ
namespace Go.Proofs.Ytgmiohmglffidaa
open Go.RowKit
set_option linter.unusedVariables false

set_option maxRecDepth 100000 in
set_option maxHeartbeats 4000000 in
theorem implItemsOk_any (a : Option Addr) (l : List Im) (ca : Nat) (w : World) (hl : l.length ≤ 1048576) (hz : ∀ x ∈ l, x.k.size ≤ 1048576 ∧ x.v.size ≤ 1048576) (hA : RdG imC 3 w a l) :
    Calls Try.prog 47 #[.slice a l.length ca] w fun e w' => e = .returned (.bool (decide (okIms l))) ∧ Below w.heap.size w w' := by
  have HA := hide1 hA
  clear hA hz
  by_cases c12 : l.length ≤ 12
  · have k12 : ¬ ((12 : Int) < (l.length : Int)) := by omega
    go_enter Try.func47, Try.ntmps47
    go_wp2
    go_loopw [10] (fun iv wr => ∃ i : Nat, i ≤ l.length ∧ iv = .int .i64 (i : Int) ∧ Hid (stepI l i) ∧ Hid (Below w.heap.size w wr)) (fun iv _ => l.length - (intOf iv).toNat)
    case atStart => exact ⟨0, Nat.zero_le _, rfl, hide1 (fun j _ h => by omega), hide1 (Below.refl _ _)⟩
    case round =>
      obtain ⟨i, hi, rfl, HS, BB⟩ := hrel
      by_cases hlt : i < l.length
      · have k1 : (i : Int) < (l.length : Int) := by omega
        obtain ⟨b, o, hab, hb, hc⟩ := HA.out i hlt
        have x0 : wr.cell? ⟨b, o + i * 3, none⟩ = some (.string l[i].k) := (BB.out.cell (p := ⟨b, o + i * 3, none⟩) hb).trans (hc 0 (by omega))
        have x1 : wr.cell? ⟨b, o + i * 3 + 1, none⟩ = some (.string l[i].v) := (BB.out.cell (p := ⟨b, o + i * 3 + 1, none⟩) hb).trans (hc 1 (by omega))
        have x2 : wr.cell? ⟨b, o + i * 3 + 2, none⟩ = some (.int .i64 l[i].n) := (BB.out.cell (p := ⟨b, o + i * 3 + 2, none⟩) hb).trans (hc 2 (by omega))
        have NO := hide1 (fun h => okIms_no hlt h)
        have YES := hide1 (fun h1 h2 => stepI_next HS.out hlt h1 h2)
        have PR := hide1 (fun m (hm : m < l.length) (e : m + 1 = i) => And.intro (fun h => okIms_no2 hlt hm e h) (show w.cell? ⟨b, o + m * 3, none⟩ = some (.string l[m].k) by obtain ⟨b', o', e', _, hc'⟩ := HA.out m hm; rw [hab] at e'; injection e' with e'; injection e' with e1 e2; subst e1; subst e2; exact hc' 0 (by omega)))
        have CI := hide1 (fun w => itemFits_any l[i] w)
        generalize l[i] = s at *
        subst hab
        have lb : b < wr.heap.size := Nat.lt_of_lt_of_le hb BB.out.size
        clear hc
        have FB := hide1 (And.intro (Blk.new wr 27 #[.string s.k, .string s.v, .int .i64 s.n]) ((Below.refl wr.heap.size wr).alloc (Nat.le_refl _) (.cells #[.string s.k, .string s.v, .int .i64 s.n] 27)))
        go_upto_region 6 with fail
        generalize (wr.alloc (.cells #[.string s.k, .string s.v, .int .i64 s.n] 27)) = u at FB ⊢
        obtain ⟨X, hX⟩ : ∃ X, X = wr.heap.size := ⟨_, rfl⟩
        have KX := hide1 FB.out.1
        rw [← hX] at KX ⊢
        have BU := hide1 (BB.out.trans (FB.out.2.mono BB.out.size))
        have y0 : u.cell? ⟨X, 0, none⟩ = some (.string s.k) := KX.out.cell 0
        have y1 : u.cell? ⟨X, 1, none⟩ = some (.string s.v) := KX.out.cell 1
        have y2 : u.cell? ⟨X, 2, none⟩ = some (.int .i64 s.n) := KX.out.cell 2
        have lX : X < u.heap.size := KX.out.lt
        have lbu : b < u.heap.size := Nat.lt_of_lt_of_le lb FB.out.2.size
        clear x0 x1 x2 hX FB
        by_cases c1 : okIm s
        · rw [decide_eq_true c1] at CI
          by_cases c4 : 0 < i
          · have q4 : decide ((0 : Int) < (i : Int)) = true := decide_eq_true (by omega)
            have q5 : (0 : Int) < (i : Int) := by omega
            obtain ⟨m, hm⟩ : ∃ m, m + 1 = i := ⟨i - 1, by omega⟩
            have hml : m < l.length := by omega
            obtain ⟨P1, P2⟩ := PR.out m hml hm
            have p0 : u.cell? ⟨b, o + m * 3, none⟩ = some (.string l[m].k) := (BU.out.cell (p := ⟨b, o + m * 3, none⟩) hb).trans P2
            have YS := hide1 (fun (h : tLt l[m].k s.k = true) => YES.out c1 (fun m' hm' e' => by have : m' = m := (by omega); subst this; exact h))
            have P1h := hide1 P1
            have hsub : IntKind.i64.wrap ((i : Int) - 1) = (m : Int) := by rw [show (i : Int) - 1 = (m : Int) by omega]; exact IntWalk.i64_in _ ⟨by omega, by omega⟩
            have hsub2 : (i : Int) - 1 = (m : Int) := by omega
            have hm0 : (m : Int) < (l.length : Int) := by omega
            have hm00 : (0 : Int) ≤ (m : Int) := by omega
            have hm000 : m < l.length := by omega
            generalize l[m].k = pk at *
            clear P1 P2 PR NO YES c1
            obtain ⟨I, hI⟩ : ∃ I : Int, I = (i : Int) := ⟨_, rfl⟩
            rw [← hI] at hsub q5 ⊢
            have q6 : decide ((0 : Int) < I) = true := decide_eq_true q5
            have HI := hide1 hI
            clear hI hsub2 q4 k1
            have g0 : ∀ n : Gr u, n.w.cell? ⟨X, 0, none⟩ = some (.string s.k) := fun n => n.cell y0
            have g1 : ∀ n : Gr u, n.w.cell? ⟨X, 1, none⟩ = some (.string s.v) := fun n => n.cell y1
            have g2 : ∀ n : Gr u, n.w.cell? ⟨X, 2, none⟩ = some (.int .i64 s.n) := fun n => n.cell y2
            have g3 : ∀ n : Gr u, n.w.cell? ⟨b, o + m * 3, none⟩ = some (.string pk) := fun n => n.cell p0
            cases ct : tLt pk s.k with
            | true =>
              have qt : Op.bytesLess pk.toList s.k.toList = true := ct
              have CT := hide1 ct
              clear ct
              refine wp_region_grown (by kernel_rfl) (by kernel_rfl) ?_
              (repeat (first | go_big_quiet_skip | (go_big_quiet_want; go_big_quiet_op; first | go_big_quiet_on | go_big_quiet_call ((go_at_call 56; exact quiet_grown (CI.out _))))))
              refine wpQuiet_nil ?_
              rintro w7 ⟨n7, rfl⟩
              have D7 : Hid (Below u.heap.size u n7.w) := n7.b
              rw [HI.out]
              go_wp2
              go_roundw
              case rel => exact ⟨i + 1, by omega, by go_num, hide1 (YS.out CT.out), hide1 (by first | exact BU.out.trans (D7.out.mono BU.out.size) | exact below_drewN (BU.out.trans (D7.out.mono BU.out.size)) _)⟩
              case measure => simp [intOf]; omega
            | false =>
              have qt : Op.bytesLess pk.toList s.k.toList = false := ct
              have RES := hide1 (P1h.out ct)
              clear ct P1h YS
              refine wp_region_grown (by kernel_rfl) (by kernel_rfl) ?_
              (repeat (first | go_big_quiet_skip | (go_big_quiet_want; go_big_quiet_op; first | go_big_quiet_on | go_big_quiet_call ((go_at_call 56; exact quiet_grown (CI.out _))))))
              refine wpQuiet_nil ?_
              rintro w7 ⟨n7, rfl⟩
              have D7 : Hid (Below u.heap.size u n7.w) := n7.b
              go_wp2
              go_ret
              exact ⟨by rw [RES.out]; rfl, by first | exact BU.out.trans (D7.out.mono BU.out.size) | exact below_drewN (BU.out.trans (D7.out.mono BU.out.size)) _⟩
          · have YS := hide1 (YES.out c1 (fun m' hm' e' => by omega))
            have q5 : ¬ ((0 : Int) < (i : Int)) := by omega
            clear PR NO YES c1
            obtain ⟨I, hI⟩ : ∃ I : Int, I = (i : Int) := ⟨_, rfl⟩
            rw [← hI] at q5 ⊢
            have q6 : decide ((0 : Int) < I) = false := decide_eq_false q5
            have HI := hide1 hI
            clear hI k1
            have g0 : ∀ n : Gr u, n.w.cell? ⟨X, 0, none⟩ = some (.string s.k) := fun n => n.cell y0
            have g1 : ∀ n : Gr u, n.w.cell? ⟨X, 1, none⟩ = some (.string s.v) := fun n => n.cell y1
            have g2 : ∀ n : Gr u, n.w.cell? ⟨X, 2, none⟩ = some (.int .i64 s.n) := fun n => n.cell y2
            refine wp_region_grown (by kernel_rfl) (by kernel_rfl) ?_
            (repeat (first | go_big_quiet_skip | (go_big_quiet_want; go_big_quiet_op; first | go_big_quiet_on | go_big_quiet_call ((go_at_call 56; exact quiet_grown (CI.out _))))))
            refine wpQuiet_nil ?_
            rintro w7 ⟨n7, rfl⟩
            have D7 : Hid (Below u.heap.size u n7.w) := n7.b
            rw [HI.out]
            go_wp2
            go_roundw
            case rel => exact ⟨i + 1, by omega, by go_num, YS, hide1 (by first | exact BU.out.trans (D7.out.mono BU.out.size) | exact below_drewN (BU.out.trans (D7.out.mono BU.out.size)) _)⟩
            case measure => simp [intOf]; omega
        · rw [decide_eq_false c1] at CI
          have RES := hide1 (NO.out c1)
          clear PR NO YES c1
          have g0 : ∀ n : Gr u, n.w.cell? ⟨X, 0, none⟩ = some (.string s.k) := fun n => n.cell y0
          have g1 : ∀ n : Gr u, n.w.cell? ⟨X, 1, none⟩ = some (.string s.v) := fun n => n.cell y1
          have g2 : ∀ n : Gr u, n.w.cell? ⟨X, 2, none⟩ = some (.int .i64 s.n) := fun n => n.cell y2
          refine wp_region_grown (by kernel_rfl) (by kernel_rfl) ?_
          (repeat (first | go_big_quiet_skip | (go_big_quiet_want; go_big_quiet_op; first | go_big_quiet_on | go_big_quiet_call ((go_at_call 56; exact quiet_grown (CI.out _))))))
          refine wpQuiet_nil ?_
          rintro w7 ⟨n7, rfl⟩
          have D7 : Hid (Below u.heap.size u n7.w) := n7.b
          go_wp2
          go_ret
          exact ⟨by rw [RES.out]; rfl, by first | exact BU.out.trans (D7.out.mono BU.out.size) | exact below_drewN (BU.out.trans (D7.out.mono BU.out.size)) _⟩
      · obtain rfl : i = l.length := by omega
        have k1 : ¬ ((l.length : Int) < (l.length : Int)) := by omega
        have RES := hide1 (decide_eq_true (show okIms l from ⟨stepI_all HS.out, stepI_asc HS.out, c12⟩))
        go_wp2
        go_ret
        exact ⟨by rw [RES.out]; rfl, BB.out⟩
  · have k12 : (12 : Int) < (l.length : Int) := by omega
    have RES := hide1 (decide_eq_false (fun h : okIms l => c12 h.2.2))
    go_enter Try.func47, Try.ntmps47
    go_wp2
    go_ret
    exact ⟨by rw [RES.out]; rfl, Below.refl _ _⟩
end Go.Proofs.Ytgmiohmglffidaa
