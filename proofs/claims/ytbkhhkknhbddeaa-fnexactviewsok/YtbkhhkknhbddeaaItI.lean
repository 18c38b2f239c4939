/- The program's items: a list in memory of its own, whether a list is right, the item of a key. -/
import Derived.Test.YtbkhhkknhbddeaaFiT
import Derived.Test.YtbkhhkknhbddeaaImU
import Derived.Test.YtbkhhkknhbddeaaRowC
import Derived.Test.YtbkhhkknhbddeaaGrQ
namespace Go.Proofs.Ytbkhhkknhbddeaa
open Go.RowKit
set_option linter.unusedVariables false

set_option maxRecDepth 100000 in
set_option maxHeartbeats 1000000 in
theorem newItems_any (ao : Option Addr) (l : List Im) (ca : Nat) (w : World) (hl : l.length ≤ 1048576) (hA : RdG imC 3 w ao l) :
    Calls Try.prog 39 #[.slice ao l.length ca] w fun e w' => e = .returned (.slice (some ⟨w.heap.size, 0, none⟩) l.length l.length) ∧ w'.ownsRow w.heap.size 26 3 (.slice (some ⟨w.heap.size, 0, none⟩) l.length l.length) l.length (rowG imC l) ∧ Below w.heap.size w w' := by
  obtain ⟨i0, hi, hz0, hz1, hz2⟩ := info_parts Try.infoIm
  have HA := hide1 hA
  clear hA
  go_enter Try.func39, Try.ntmps39
  go_wp2_with (at_make; (refine wpList_make_full _ rfl _ _ 24 rfl w.heap.size 26 i0 (.agg #[.string ⟨#[]⟩, .string ⟨#[]⟩, .int .i64 0]) 3 Try.underlying24 hi hz0 hz1 _ _ _ _ l.length rfl rfl rfl rfl (by rw [hz2]; omega) (by unfold maxLen; omega) (Nat.le_refl _) ?_; intro w0 hown0 hg0))
  rw [show (madeCells (.agg #[.string ⟨#[]⟩, .string ⟨#[]⟩, .int .i64 0] : Value).cells (l.length * 3)).toList = rowG imC (List.replicate l.length (⟨⟨#[]⟩, ⟨#[]⟩, 0⟩ : Im)) from madeG encIm (by decide) (⟨⟨#[]⟩, ⟨#[]⟩, 0⟩ : Im) l.length] at hown0
  have HO := hide1 hown0
  clear hown0
  go_loopw [11] (fun iv wr => ∃ i : Nat, i ≤ l.length ∧ iv = .int .i64 (i : Int) ∧ wr.ownsRow w.heap.size 26 3 (.slice (some ⟨w.heap.size, 0, none⟩) l.length l.length) l.length (rowG imC (l.take i ++ List.replicate (l.length - i) (⟨⟨#[]⟩, ⟨#[]⟩, 0⟩ : Im))) ∧ Below w.heap.size w wr) (fun iv _ => l.length - (intOf iv).toNat)
  case atStart => exact ⟨0, by omega, rfl, by simpa using HO.out, Below.grown (Below.refl _ _) hg0 (Nat.le_refl _) (by intro k hk; cases hk)⟩
  case round =>
    obtain ⟨i, hi, rfl, hown, hbel⟩ := hrel
    by_cases hlt : i < l.length
    · have k1 : (i : Int) < (l.length : Int) := by omega
      obtain ⟨b, o, rfl, hb, h1⟩ := HA.out i hlt
      have x0 : wr.cell? ⟨b, o + i * 3, none⟩ = some (.string l[i].k) := (hbel.cell (p := ⟨b, o + i * 3, none⟩) hb).trans (h1 0 (by omega))
      have x1 : wr.cell? ⟨b, o + i * 3 + 1, none⟩ = some (.string l[i].v) := (hbel.cell (p := ⟨b, o + i * 3 + 1, none⟩) hb).trans (h1 1 (by omega))
      have x2 : wr.cell? ⟨b, o + i * 3 + 2, none⟩ = some (.int .i64 l[i].n) := (hbel.cell (p := ⟨b, o + i * 3 + 2, none⟩) hb).trans (h1 2 (by omega))
      have cc := hide1 (fun w => newItem_any l[i] w)
      generalize hs : l[i] = s at *
      have HS := hide1 hs
      clear h1 hs
      have F1 := hide1 (And.intro (Blk.new wr 26 #[.string s.k, .string s.v, .int .i64 s.n]) ((Below.refl wr.heap.size wr).alloc (Nat.le_refl _) (.cells #[.string s.k, .string s.v, .int .i64 s.n] 26)))
      have HO1 := hide1 (own_kept hown F1.out.2)
      have HB1 := hide1 (hbel.trans (F1.out.2.mono hbel.size))
      clear hown hbel
      go_upto_region 5 with fail
      generalize (wr.alloc (.cells #[.string s.k, .string s.v, .int .i64 s.n] 26)) = u at F1 HO1 HB1 ⊢
      have y0 : u.cell? ⟨wr.heap.size, 0, none⟩ = some (.string s.k) := F1.out.1.cell 0
      have y1 : u.cell? ⟨wr.heap.size, 1, none⟩ = some (.string s.v) := F1.out.1.cell 1
      have y2 : u.cell? ⟨wr.heap.size, 2, none⟩ = some (.int .i64 s.n) := F1.out.1.cell 2
      clear x0 x1 x2
      go_wp2_with fail
      refine (cc.out _).mono ?_
      rintro e w2 ⟨rfl, hb2⟩
      have o2 := own_kept HO1.out hb2
      obtain ⟨u0, y0⟩ := own_some o2 (i * 3) (by omega)
      obtain ⟨u1, y1⟩ := own_some o2 (i * 3 + 1) (by omega)
      obtain ⟨u2, y2⟩ := own_some o2 (i * 3 + 2) (by omega)
      have f0 := o2.frozenAt (i * 3)
      have f1 := o2.frozenAt (i * 3 + 1)
      have f2 := o2.frozenAt (i * 3 + 2)
      have O2 := hide1 o2
      have HB2 := hide1 (HB1.out.trans (hb2.mono HB1.out.size))
      clear o2 hb2
      go_wp2
      go_roundw
      case rel =>
        refine ⟨i + 1, by omega, by go_num, ?_, below_putG (imC s) (i * 3) HB2.out (Nat.le_refl _)⟩
        rw [← fillG l (⟨⟨#[]⟩, ⟨#[]⟩, 0⟩ : Im) s i hlt HS.out, rowG_set imC 3 encIm.len _ _ _ (by simp; omega)]
        exact own_putG (imC s) (i * 3) O2.out
      case measure => simp [intOf]; omega
    · obtain rfl : i = l.length := by omega
      go_wp2
      go_ret
      exact ⟨rfl, by simpa using hown, hbel⟩

set_option maxRecDepth 100000 in
set_option maxHeartbeats 4000000 in
theorem implItemsOk_any (a : Option Addr) (l : List Im) (ca : Nat) (w : World) (hl : l.length ≤ 1048576) (hz : ∀ x ∈ l, x.k.size ≤ 1048576 ∧ x.v.size ≤ 1048576) (hA : RdG imC 3 w a l) :
    Calls Try.prog 13 #[.slice a l.length ca] w fun e w' => e = .returned (.bool (decide (okIms l))) ∧ Below w.heap.size w w' := by
  have HA := hide1 hA
  clear hA hz
  by_cases c12 : l.length ≤ 12
  · have k12 : ¬ ((12 : Int) < (l.length : Int)) := by omega
    go_enter Try.func13, Try.ntmps13
    go_wp2
    go_loopw [10] (fun iv wr => ∃ i : Nat, i ≤ l.length ∧ iv = .int .i64 (i : Int) ∧ Hid (stepI l i) ∧ Hid (Below w.heap.size w wr)) (fun iv _ => l.length - (intOf iv).toNat)
    case atStart => exact ⟨0, Nat.zero_le _, rfl, hide1 (fun j _ h => by omega), hide1 (Below.refl _ _)⟩
    case round =>
      obtain ⟨i, hi, rfl, HS, BB⟩ := hrel
      by_cases hlt : i < l.length
      · have k1 : (i : Int) < (l.length : Int) := by omega
        obtain ⟨b, o, hab, hb, hc⟩ := HA.out i hlt
        have x0 : wr.cell? ⟨b, o + i * 3, none⟩ = some (.string l[i].k) := (BB.out.cell (p := ⟨b, o + i * 3, none⟩) hb).trans (hc 0 (by omega))
        have x1 : wr.cell? ⟨b, o + i * 3 + 1, none⟩ = some (.string l[i].v) := (BB.out.cell (p := ⟨b, o + i * 3 + 1, none⟩) hb).trans (hc 1 (by omega))
        have x2 : wr.cell? ⟨b, o + i * 3 + 2, none⟩ = some (.int .i64 l[i].n) := (BB.out.cell (p := ⟨b, o + i * 3 + 2, none⟩) hb).trans (hc 2 (by omega))
        have NO := hide1 (fun h => okIms_no hlt h)
        have YES := hide1 (fun h1 h2 => stepI_next HS.out hlt h1 h2)
        have PR := hide1 (fun m (hm : m < l.length) (e : m + 1 = i) => And.intro (fun h => okIms_no2 hlt hm e h) (show w.cell? ⟨b, o + m * 3, none⟩ = some (.string l[m].k) by obtain ⟨b', o', e', _, hc'⟩ := HA.out m hm; rw [hab] at e'; injection e' with e'; injection e' with e1 e2; subst e1; subst e2; exact hc' 0 (by omega)))
        have CI := hide1 (fun w => itemFits_any l[i] w)
        generalize l[i] = s at *
        subst hab
        have lb : b < wr.heap.size := Nat.lt_of_lt_of_le hb BB.out.size
        clear hc
        have FB := hide1 (And.intro (Blk.new wr 26 #[.string s.k, .string s.v, .int .i64 s.n]) ((Below.refl wr.heap.size wr).alloc (Nat.le_refl _) (.cells #[.string s.k, .string s.v, .int .i64 s.n] 26)))
        go_upto_region 6 with fail
        generalize (wr.alloc (.cells #[.string s.k, .string s.v, .int .i64 s.n] 26)) = u at FB ⊢
        obtain ⟨X, hX⟩ : ∃ X, X = wr.heap.size := ⟨_, rfl⟩
        have KX := hide1 FB.out.1
        rw [← hX] at KX ⊢
        have BU := hide1 (BB.out.trans (FB.out.2.mono BB.out.size))
        have y0 : u.cell? ⟨X, 0, none⟩ = some (.string s.k) := KX.out.cell 0
        have y1 : u.cell? ⟨X, 1, none⟩ = some (.string s.v) := KX.out.cell 1
        have y2 : u.cell? ⟨X, 2, none⟩ = some (.int .i64 s.n) := KX.out.cell 2
        have lX : X < u.heap.size := KX.out.lt
        have lbu : b < u.heap.size := Nat.lt_of_lt_of_le lb FB.out.2.size
        clear x0 x1 x2 hX FB
        by_cases c1 : okIm s
        · rw [decide_eq_true c1] at CI
          by_cases c4 : 0 < i
          · have q4 : decide ((0 : Int) < (i : Int)) = true := decide_eq_true (by omega)
            have q5 : (0 : Int) < (i : Int) := by omega
            obtain ⟨m, hm⟩ : ∃ m, m + 1 = i := ⟨i - 1, by omega⟩
            have hml : m < l.length := by omega
            obtain ⟨P1, P2⟩ := PR.out m hml hm
            have p0 : u.cell? ⟨b, o + m * 3, none⟩ = some (.string l[m].k) := (BU.out.cell (p := ⟨b, o + m * 3, none⟩) hb).trans P2
            have YS := hide1 (fun (h : tLt l[m].k s.k = true) => YES.out c1 (fun m' hm' e' => by have : m' = m := (by omega); subst this; exact h))
            have P1h := hide1 P1
            have hsub : IntKind.i64.wrap ((i : Int) - 1) = (m : Int) := by rw [show (i : Int) - 1 = (m : Int) by omega]; exact IntWalk.i64_in _ ⟨by omega, by omega⟩
            have hsub2 : (i : Int) - 1 = (m : Int) := by omega
            have hm0 : (m : Int) < (l.length : Int) := by omega
            have hm00 : (0 : Int) ≤ (m : Int) := by omega
            have hm000 : m < l.length := by omega
            generalize l[m].k = pk at *
            clear P1 P2 PR NO YES c1
            obtain ⟨I, hI⟩ : ∃ I : Int, I = (i : Int) := ⟨_, rfl⟩
            rw [← hI] at hsub q5 ⊢
            have q6 : decide ((0 : Int) < I) = true := decide_eq_true q5
            have HI := hide1 hI
            clear hI hsub2 q4 k1
            have g0 : ∀ n : Gr u, n.w.cell? ⟨X, 0, none⟩ = some (.string s.k) := fun n => n.cell y0
            have g1 : ∀ n : Gr u, n.w.cell? ⟨X, 1, none⟩ = some (.string s.v) := fun n => n.cell y1
            have g2 : ∀ n : Gr u, n.w.cell? ⟨X, 2, none⟩ = some (.int .i64 s.n) := fun n => n.cell y2
            have g3 : ∀ n : Gr u, n.w.cell? ⟨b, o + m * 3, none⟩ = some (.string pk) := fun n => n.cell p0
            cases ct : tLt pk s.k with
            | true =>
              have qt : Op.bytesLess pk.toList s.k.toList = true := ct
              have CT := hide1 ct
              clear ct
              refine wp_region_grown (by kernel_rfl) (by kernel_rfl) ?_
              (repeat (first | go_big_quiet_skip | (go_big_quiet_want; go_big_quiet_op; first | go_big_quiet_on | go_big_quiet_call ((go_at_call 42; exact quiet_grown (CI.out _))))))
              refine wpQuiet_nil ?_
              rintro w7 ⟨n7, rfl⟩
              have D7 : Hid (Below u.heap.size u n7.w) := n7.b
              rw [HI.out]
              go_wp2
              go_roundw
              case rel => exact ⟨i + 1, by omega, by go_num, hide1 (YS.out CT.out), hide1 (by first | exact BU.out.trans (D7.out.mono BU.out.size) | exact below_drewN (BU.out.trans (D7.out.mono BU.out.size)) _)⟩
              case measure => simp [intOf]; omega
            | false =>
              have qt : Op.bytesLess pk.toList s.k.toList = false := ct
              have RES := hide1 (P1h.out ct)
              clear ct P1h YS
              refine wp_region_grown (by kernel_rfl) (by kernel_rfl) ?_
              (repeat (first | go_big_quiet_skip | (go_big_quiet_want; go_big_quiet_op; first | go_big_quiet_on | go_big_quiet_call ((go_at_call 42; exact quiet_grown (CI.out _))))))
              refine wpQuiet_nil ?_
              rintro w7 ⟨n7, rfl⟩
              have D7 : Hid (Below u.heap.size u n7.w) := n7.b
              go_wp2
              go_ret
              exact ⟨by rw [RES.out]; rfl, by first | exact BU.out.trans (D7.out.mono BU.out.size) | exact below_drewN (BU.out.trans (D7.out.mono BU.out.size)) _⟩
          · have YS := hide1 (YES.out c1 (fun m' hm' e' => by omega))
            have q5 : ¬ ((0 : Int) < (i : Int)) := by omega
            clear PR NO YES c1
            obtain ⟨I, hI⟩ : ∃ I : Int, I = (i : Int) := ⟨_, rfl⟩
            rw [← hI] at q5 ⊢
            have q6 : decide ((0 : Int) < I) = false := decide_eq_false q5
            have HI := hide1 hI
            clear hI k1
            have g0 : ∀ n : Gr u, n.w.cell? ⟨X, 0, none⟩ = some (.string s.k) := fun n => n.cell y0
            have g1 : ∀ n : Gr u, n.w.cell? ⟨X, 1, none⟩ = some (.string s.v) := fun n => n.cell y1
            have g2 : ∀ n : Gr u, n.w.cell? ⟨X, 2, none⟩ = some (.int .i64 s.n) := fun n => n.cell y2
            refine wp_region_grown (by kernel_rfl) (by kernel_rfl) ?_
            (repeat (first | go_big_quiet_skip | (go_big_quiet_want; go_big_quiet_op; first | go_big_quiet_on | go_big_quiet_call ((go_at_call 42; exact quiet_grown (CI.out _))))))
            refine wpQuiet_nil ?_
            rintro w7 ⟨n7, rfl⟩
            have D7 : Hid (Below u.heap.size u n7.w) := n7.b
            rw [HI.out]
            go_wp2
            go_roundw
            case rel => exact ⟨i + 1, by omega, by go_num, YS, hide1 (by first | exact BU.out.trans (D7.out.mono BU.out.size) | exact below_drewN (BU.out.trans (D7.out.mono BU.out.size)) _)⟩
            case measure => simp [intOf]; omega
        · rw [decide_eq_false c1] at CI
          have RES := hide1 (NO.out c1)
          clear PR NO YES c1
          have g0 : ∀ n : Gr u, n.w.cell? ⟨X, 0, none⟩ = some (.string s.k) := fun n => n.cell y0
          have g1 : ∀ n : Gr u, n.w.cell? ⟨X, 1, none⟩ = some (.string s.v) := fun n => n.cell y1
          have g2 : ∀ n : Gr u, n.w.cell? ⟨X, 2, none⟩ = some (.int .i64 s.n) := fun n => n.cell y2
          refine wp_region_grown (by kernel_rfl) (by kernel_rfl) ?_
          (repeat (first | go_big_quiet_skip | (go_big_quiet_want; go_big_quiet_op; first | go_big_quiet_on | go_big_quiet_call ((go_at_call 42; exact quiet_grown (CI.out _))))))
          refine wpQuiet_nil ?_
          rintro w7 ⟨n7, rfl⟩
          have D7 : Hid (Below u.heap.size u n7.w) := n7.b
          go_wp2
          go_ret
          exact ⟨by rw [RES.out]; rfl, by first | exact BU.out.trans (D7.out.mono BU.out.size) | exact below_drewN (BU.out.trans (D7.out.mono BU.out.size)) _⟩
      · obtain rfl : i = l.length := by omega
        have k1 : ¬ ((l.length : Int) < (l.length : Int)) := by omega
        have RES := hide1 (decide_eq_true (show okIms l from ⟨stepI_all HS.out, stepI_asc HS.out, c12⟩))
        go_wp2
        go_ret
        exact ⟨by rw [RES.out]; rfl, BB.out⟩
  · have k12 : (12 : Int) < (l.length : Int) := by omega
    have RES := hide1 (decide_eq_false (fun h : okIms l => c12 h.2.2))
    go_enter Try.func13, Try.ntmps13
    go_wp2
    go_ret
    exact ⟨by rw [RES.out]; rfl, Below.refl _ _⟩
end Go.Proofs.Ytbkhhkknhbddeaa
