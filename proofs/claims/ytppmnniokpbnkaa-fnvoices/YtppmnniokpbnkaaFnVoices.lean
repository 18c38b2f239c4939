/- Voices that hear drawn notes never promise less than they did, nor take what is below; what they tell is of the note. -/
import Derived.Test.YtppmnniokpbnkaaRows
import Derived.ProofKit
import Derived.OpenShut
import Derived.ShutString
import Derived.ChangeOld
import Derived.Test.YtppmnniokpbnkaaLawB
import Derived.Test.YtppmnniokpbnkaaBaT
import Derived.Test.YtppmnniokpbnkaaBaQ
import Derived.Deep.DeepCutAuto
namespace Go.Proofs.Ytppmnniokpbnkaa
open Go.ChangeShapes Go.WideShapes Go.ChangeAt Go.RowKit
open Go.ChangeMaps (open_string shut_string)
set_option linter.unusedVariables false

def askN : Nt := ⟨1, 1, 2, 5, 0, ⟨#[]⟩⟩
theorem hear_first : hearA zeroVo askN = (⟨5, 0, ⟨#[]⟩⟩, ⟨2, 2, 1, 5, 0, ⟨#[]⟩⟩, true) :=
  hear_ask ⟨okVo_zero, ⟨by decide, by decide⟩, by decide⟩ ⟨rfl, by decide⟩

set_option maxRecDepth 100000 in
set_option maxHeartbeats 8000000 in
theorem walk_FnVoices (a : Option Addr) (len cap : Nat) (w : World) (hr : RowB w a len) :
    Calls Try.prog 3 #[.slice a len cap] w fun e w' => e = .returned (.bool true) ∧ Below w.heap.size w w' := by
  by_cases hbig : len ≤ 1048576
  · have CB := hide1 (big11_no a len cap w hbig)
    have CD := hide1 (drawNotes_any w a len cap (hr.code hbig))
    clear hr
    go_enter Try.func3, Try.ntmps3
    go_wp2_with fail
    refine CB.out.mono ?_
    rintro e w1 ⟨rfl, rfl⟩
    clear CB
    go_wp2_with fail
    refine CD.out.mono ?_
    rintro e w1 ⟨l, wo, c, rfl, hl, hsm, hR, hb1⟩
    have B1 := hide1 hb1
    have HR := hide1 hR
    have HS := hide1 hsm
    clear hb1 hR CD hsm
    have F0 := hide1 (And.intro (Blk.new w1 27 #[.int .i64 0, .int .i64 0, .string ⟨#[]⟩]) ((Below.refl w1.heap.size w1).alloc (Nat.le_refl _) (.cells #[.int .i64 0, .int .i64 0, .string ⟨#[]⟩] 27)))
    go_wp2
    generalize (w1.alloc (.cells #[.int .i64 0, .int .i64 0, .string ⟨#[]⟩] 27)) = w2 at F0 ⊢
    go_loopw [5] (fun iv wr => ∃ i : Nat, i ≤ l.length ∧ iv = .int .i64 (i : Int) ∧ ∃ x : Vo, Hid (okVo x) ∧ Hid (Blk wr w1.heap.size 27 [.int .i64 x.p, .int .i64 x.t, .string x.v]) ∧ Hid (Below w1.heap.size w1 wr)) (fun iv _ => l.length - (intOf iv).toNat)
    case atStart => exact ⟨0, by omega, rfl, zeroVo, hide1 okVo_zero, hide1 F0.out.1, hide1 F0.out.2⟩
    case round =>
      obtain ⟨i, hi, rfl, x, hok, HX, HB⟩ := hrel
      by_cases hlt : i < l.length
      · have k1 : (i : Int) < (l.length : Int) := by omega
        obtain ⟨g, o, rfl, hg, h1⟩ := HR.out i hlt
        have HN := hide1 (h1.below HB.out hg)
        have hgw : g < wr.heap.size := Nat.lt_of_lt_of_le hg HB.out.size
        have hmz : l[i].v.size ≤ 1048576 := by have := HS.out l[i] (List.getElem_mem hlt); omega
        have hxz : x.v.size ≤ 1048576 := by have := hok.out.2.2.1; omega
        have LW := hide1 (hear_law x l[i] hok.out)
        have CI := hide1 (fun w' => implHear_any x l[i] w' hxz hmz)
        have CS := hide1 (fun w' => specHear_any x l[i] w' hxz hmz)
        have sx : (hearA x l[i]).1.v.size ≤ 1048576 := by have := LW.out.1.2.2.1; omega
        have CV := hide1 (fun w' => implVoice_any (hearA x l[i]).1 w' sx)
        rw [decide_eq_true LW.out.1] at CV
        have HG := hide1 (And.intro hg (Nat.le_refl 0))
        clear h1 hmz hxz sx hok
        generalize l[i] = m at *
        unfold HearE at CI CS
        unfold voV at CI CS CV
        unfold ntV at CI CS
        generalize hearA x m = y3 at *
        obtain ⟨y, n, r⟩ := y3
        dsimp only at CI CS CV LW
        obtain ⟨m0, m1, m2, m3, m4, m5⟩ := HN.out
        have hX := HX.out.lt
        go_upto_region 8 with fail
        go_cut [6, 7, 8] (fun bv nv rv wx => ∃ b1 b2 : Nat, bv = .pointer (some ⟨b1, 0, none⟩) ∧ nv = .pointer (some ⟨b2, 0, none⟩) ∧ rv = .bool r ∧ Hid (wr.heap.size ≤ b1 ∧ wr.heap.size ≤ b2) ∧ Hid (Blk wx b1 27 [.int .i64 y.p, .int .i64 y.t, .string y.v]) ∧ Hid (Blk wx b2 29 [.int .i64 n.k, .int .i64 n.f, .int .i64 n.o, .int .i64 n.b, .int .i64 n.t, .string n.v]) ∧ Hid (Below wr.heap.size wr wx))
        case first =>
          refine regHear8 rfl HX.out.lt hgw (HX.out.cell 0) (HX.out.cell 1) (HX.out.cell 2) m0 m1 m2 m3 m4 m5 k1 CI.out ?_
          intro b1 b2 w' g1 g2 g3 g4 g5 g6
          go_wp2_with fail
          go_meet
          exact ⟨b1, b2, rfl, rfl, rfl, hide1 ⟨g1, g2⟩, hide1 g4, hide1 g5, hide1 g6⟩
        case rest =>
        obtain ⟨b1, b2, rfl, rfl, rfl, hle, P1, P2, G1⟩ := hcut
        have X1 := hide1 (HX.out.below G1.out HX.out.lt)
        have N1 := hide1 (HN.out.below G1.out hgw)
        have HB1 := hide1 (HB.out.trans (G1.out.mono HB.out.size))
        have hgw1 : g < wc.heap.size := Nat.lt_of_lt_of_le hgw G1.out.size
        have hne1 := hide1 (show w1.heap.size < b1 by have := hle.out.1; omega)
        clear m0 m1 m2 m3 m4 m5 HX HN HB G1 hle CI hX hgw
        generalize wc = w3 at *
        obtain ⟨m0, m1, m2, m3, m4, m5⟩ := N1.out
        go_upto_region 9 with fail
        go_cut [9, 10, 11] (fun bv nv rv wx => ∃ b1 b2 : Nat, bv = .pointer (some ⟨b1, 0, none⟩) ∧ nv = .pointer (some ⟨b2, 0, none⟩) ∧ rv = .bool r ∧ Hid (w3.heap.size ≤ b1 ∧ w3.heap.size ≤ b2) ∧ Hid (Blk wx b1 27 [.int .i64 y.p, .int .i64 y.t, .string y.v]) ∧ Hid (Blk wx b2 29 [.int .i64 n.k, .int .i64 n.f, .int .i64 n.o, .int .i64 n.b, .int .i64 n.t, .string n.v]) ∧ Hid (Below w3.heap.size w3 wx))
        case first =>
          refine regHear9 rfl X1.out.lt hgw1 (X1.out.cell 0) (X1.out.cell 1) (X1.out.cell 2) m0 m1 m2 m3 m4 m5 k1 CS.out ?_
          intro b1 b2 w' g1 g2 g3 g4 g5 g6
          go_wp2_with fail
          go_meet
          exact ⟨b1, b2, rfl, rfl, rfl, hide1 ⟨g1, g2⟩, hide1 g4, hide1 g5, hide1 g6⟩
        case rest =>
        obtain ⟨b3, b4, rfl, rfl, rfl, hle, P3, P4, G2⟩ := hcut
        have X2 := hide1 (X1.out.below G2.out X1.out.lt)
        have N2 := hide1 (N1.out.below G2.out hgw1)
        have Q1 := hide1 (P1.out.below G2.out P1.out.lt)
        have Q2 := hide1 (P2.out.below G2.out P2.out.lt)
        have HB2 := hide1 (HB1.out.trans (G2.out.mono HB1.out.size))
        have hgw2 : g < wc.heap.size := Nat.lt_of_lt_of_le hgw1 G2.out.size
        clear m0 m1 m2 m3 m4 m5 X1 N1 HB1 G2 hle CS P1 P2 P3 P4 hgw1
        generalize wc = w4 at *
        have a0 : w4.cell? ⟨b1, 0, none⟩ = some (.int .i64 y.p) := Q1.out.cell 0
        have a1 : w4.cell? ⟨b1, 1, none⟩ = some (.int .i64 y.t) := Q1.out.cell 1
        have a2 : w4.cell? ⟨b1, 2, none⟩ = some (.string y.v) := Q1.out.cell 2
        have d0 : w4.cell? ⟨w1.heap.size, 0, none⟩ = some (.int .i64 x.p) := X2.out.cell 0
        have d1 : w4.cell? ⟨w1.heap.size, 1, none⟩ = some (.int .i64 x.t) := X2.out.cell 1
        have d2 : w4.cell? ⟨w1.heap.size, 2, none⟩ = some (.string x.v) := X2.out.cell 2
        have qr : (r != r) = false := by simp
        go_wp2_with fail
        refine (CV.out _).mono ?_
        rintro e w5 ⟨rfl, hb5⟩
        have X5 := hide1 (X2.out.below hb5 X2.out.lt)
        have N5 := hide1 (N2.out.below hb5 hgw2)
        have V5 := hide1 (Q1.out.below hb5 Q1.out.lt)
        have T5 := hide1 (Q2.out.below hb5 Q2.out.lt)
        have HB5 := hide1 (HB2.out.trans (hb5.mono HB2.out.size))
        clear hb5 X2 N2 Q1 Q2 HB2 CV a0 a1 a2 d0 d1 d2 hgw2
        have a0 : w5.cell? ⟨b1, 0, none⟩ = some (.int .i64 y.p) := V5.out.cell 0
        have a1 : w5.cell? ⟨b1, 1, none⟩ = some (.int .i64 y.t) := V5.out.cell 1
        have a2 : w5.cell? ⟨b1, 2, none⟩ = some (.string y.v) := V5.out.cell 2
        have d0 : w5.cell? ⟨w1.heap.size, 0, none⟩ = some (.int .i64 x.p) := X5.out.cell 0
        have d1 : w5.cell? ⟨w1.heap.size, 1, none⟩ = some (.int .i64 x.t) := X5.out.cell 1
        have d2 : w5.cell? ⟨w1.heap.size, 2, none⟩ = some (.string x.v) := X5.out.cell 2
        have e0 : w5.cell? ⟨b2, 0, none⟩ = some (.int .i64 n.k) := T5.out.cell 0
        have e1 : w5.cell? ⟨b2, 1, none⟩ = some (.int .i64 n.f) := T5.out.cell 1
        have e2 : w5.cell? ⟨b2, 2, none⟩ = some (.int .i64 n.o) := T5.out.cell 2
        have e3 : w5.cell? ⟨b2, 3, none⟩ = some (.int .i64 n.b) := T5.out.cell 3
        have e4 : w5.cell? ⟨b2, 4, none⟩ = some (.int .i64 n.t) := T5.out.cell 4
        have e5 : w5.cell? ⟨b2, 5, none⟩ = some (.string n.v) := T5.out.cell 5
        obtain ⟨m0, m1, m2, m3, m4, m5⟩ := N5.out
        have df : ∀ j, w5.frozen? ⟨w1.heap.size, j, none⟩ = false := fun j => X5.out.froz j
        have c1 : ¬ y.p < x.p := by have := LW.out.2.1; omega
        have c2 : ¬ y.t < x.t := by have := LW.out.2.2.1; omega
        have gV := guardVo
        have hqv : ∀ w, (Op.equalIn 10000 27 (.agg #[.int .i64 x.p, .int .i64 x.t, .string x.v]) (.agg #[.int .i64 x.p, .int .i64 x.t, .string x.v])).run Try.prog w = .ok true w := fun w => eqVoV 9998 x.p x.t x.v w
        have HOK := hide1 LW.out.1
        cases r
        · have ey : y = x := LW.out.2.2.2.1 rfl
          subst ey
          clear LW
          go_upto_region 14 with fail
          go_quiet (fail)
          have D5 := hide1 (below_drewN (Below.refl w5.heap.size w5) nq)
          have X6 := hide1 (X5.out.below D5.out X5.out.lt)
          have V6 := hide1 (V5.out.below D5.out V5.out.lt)
          have HB6 := hide1 (HB5.out.trans (D5.out.mono HB5.out.size))
          generalize w5.drewN nq = w6 at D5 X6 V6 HB6 ⊢
          clear D5 a0 a1 a2 d0 d1 d2 e0 e1 e2 e3 e4 e5 m0 m1 m2 m3 m4 m5 df X5 V5 HB5 N5 T5 hqv gV
          have a0 : w6.cell? ⟨b1, 0, none⟩ = some (.int .i64 y.p) := V6.out.cell 0
          have a1 : w6.cell? ⟨b1, 1, none⟩ = some (.int .i64 y.t) := V6.out.cell 1
          have a2 : w6.cell? ⟨b1, 2, none⟩ = some (.string y.v) := V6.out.cell 2
          have d0 : w6.cell? ⟨w1.heap.size, 0, none⟩ = some (.int .i64 y.p) := X6.out.cell 0
          have d1 : w6.cell? ⟨w1.heap.size, 1, none⟩ = some (.int .i64 y.t) := X6.out.cell 1
          have d2 : w6.cell? ⟨w1.heap.size, 2, none⟩ = some (.string y.v) := X6.out.cell 2
          have df : ∀ j, w6.frozen? ⟨w1.heap.size, j, none⟩ = false := fun j => X6.out.froz j
          go_wp2
          go_roundw
          case rel => exact ⟨i + 1, by omega, by go_num, y, HOK, hide1 (Blk.set (Blk.set (Blk.set X6.out 0 (.int .i64 y.p)) 1 (.int .i64 y.t)) 2 (.string y.v)), hide1 (((HB6.out.setCell (p := ⟨w1.heap.size, 0, none⟩) (by dsimp only; omega) _).setCell (p := ⟨w1.heap.size, 1, none⟩) (by dsimp only; omega) _).setCell (p := ⟨w1.heap.size, 2, none⟩) (by dsimp only; omega) _)⟩
          case measure => simp [intOf]; omega
        · obtain ⟨t1, t2, t3, t4⟩ := LW.out.2.2.2.2 rfl
          rw [t1] at e3
          rw [t2] at e2
          have qb : (m.b != m.b) = false := by simp
          have qf : (m.f != m.f) = false := by simp
          have a0' := a0
          rw [t3] at a0'
          have c1' : ¬ m.b < x.p := by rw [← t3]; exact c1
          clear a0 c1
          have a0 := a0'
          have c1 := c1'
          clear a0' c1' LW
          by_cases ck : m.k = 3
          · obtain ⟨t5, t6⟩ := t4 ck
            rw [t5] at a1 c2
            rw [t6] at a2
            rw [ck] at m0
            obtain ⟨qv, _⟩ := tx_eq m.v
            have T := hide1 (And.intro t3 (And.intro t5 t6))
            clear t1 t2 t3 t4 t5 t6 ck
            go_upto_region 14 with fail
            go_quiet (fail)
            have D5 := hide1 (below_drewN (Below.refl w5.heap.size w5) nq)
            have X6 := hide1 (X5.out.below D5.out X5.out.lt)
            have V6 := hide1 (V5.out.below D5.out V5.out.lt)
            have HB6 := hide1 (HB5.out.trans (D5.out.mono HB5.out.size))
            generalize w5.drewN nq = w6 at D5 X6 V6 HB6 ⊢
            clear D5 a0 a1 a2 d0 d1 d2 e0 e1 e2 e3 e4 e5 m0 m1 m2 m3 m4 m5 df X5 V5 HB5 N5 T5 hqv gV
            have a0 : w6.cell? ⟨b1, 0, none⟩ = some (.int .i64 y.p) := V6.out.cell 0
            have a1 : w6.cell? ⟨b1, 1, none⟩ = some (.int .i64 y.t) := V6.out.cell 1
            have a2 : w6.cell? ⟨b1, 2, none⟩ = some (.string y.v) := V6.out.cell 2
            have d0 : w6.cell? ⟨w1.heap.size, 0, none⟩ = some (.int .i64 x.p) := X6.out.cell 0
            have d1 : w6.cell? ⟨w1.heap.size, 1, none⟩ = some (.int .i64 x.t) := X6.out.cell 1
            have d2 : w6.cell? ⟨w1.heap.size, 2, none⟩ = some (.string x.v) := X6.out.cell 2
            have df : ∀ j, w6.frozen? ⟨w1.heap.size, j, none⟩ = false := fun j => X6.out.froz j
            go_wp2
            go_roundw
            case rel => exact ⟨i + 1, by omega, by go_num, y, HOK, hide1 (Blk.set (Blk.set (Blk.set X6.out 0 (.int .i64 y.p)) 1 (.int .i64 y.t)) 2 (.string y.v)), hide1 (((HB6.out.setCell (p := ⟨w1.heap.size, 0, none⟩) (by dsimp only; omega) _).setCell (p := ⟨w1.heap.size, 1, none⟩) (by dsimp only; omega) _).setCell (p := ⟨w1.heap.size, 2, none⟩) (by dsimp only; omega) _)⟩
            case measure => simp [intOf]; omega
          · have qk : (m.k == 3) = false := by rw [beq_eq_false_iff_ne]; exact ck
            clear t1 t2 t3 t4 ck
            go_upto_region 14 with fail
            go_quiet (fail)
            have D5 := hide1 (below_drewN (Below.refl w5.heap.size w5) nq)
            have X6 := hide1 (X5.out.below D5.out X5.out.lt)
            have V6 := hide1 (V5.out.below D5.out V5.out.lt)
            have HB6 := hide1 (HB5.out.trans (D5.out.mono HB5.out.size))
            generalize w5.drewN nq = w6 at D5 X6 V6 HB6 ⊢
            clear D5 a0 a1 a2 d0 d1 d2 e0 e1 e2 e3 e4 e5 m0 m1 m2 m3 m4 m5 df X5 V5 HB5 N5 T5 hqv gV
            have a0 : w6.cell? ⟨b1, 0, none⟩ = some (.int .i64 y.p) := V6.out.cell 0
            have a1 : w6.cell? ⟨b1, 1, none⟩ = some (.int .i64 y.t) := V6.out.cell 1
            have a2 : w6.cell? ⟨b1, 2, none⟩ = some (.string y.v) := V6.out.cell 2
            have d0 : w6.cell? ⟨w1.heap.size, 0, none⟩ = some (.int .i64 x.p) := X6.out.cell 0
            have d1 : w6.cell? ⟨w1.heap.size, 1, none⟩ = some (.int .i64 x.t) := X6.out.cell 1
            have d2 : w6.cell? ⟨w1.heap.size, 2, none⟩ = some (.string x.v) := X6.out.cell 2
            have df : ∀ j, w6.frozen? ⟨w1.heap.size, j, none⟩ = false := fun j => X6.out.froz j
            go_wp2
            go_roundw
            case rel => exact ⟨i + 1, by omega, by go_num, y, HOK, hide1 (Blk.set (Blk.set (Blk.set X6.out 0 (.int .i64 y.p)) 1 (.int .i64 y.t)) 2 (.string y.v)), hide1 (((HB6.out.setCell (p := ⟨w1.heap.size, 0, none⟩) (by dsimp only; omega) _).setCell (p := ⟨w1.heap.size, 1, none⟩) (by dsimp only; omega) _).setCell (p := ⟨w1.heap.size, 2, none⟩) (by dsimp only; omega) _)⟩
            case measure => simp [intOf]; omega
      · obtain rfl : i = l.length := by omega
        have CI := hide1 (fun w' => implHear_any zeroVo askN w' (by decide) (by decide))
        unfold HearE at CI
        rw [hear_first] at CI
        unfold voV ntV zeroVo askN at CI
        dsimp only at CI
        have B2 := hide1 (B1.out.trans (HB.out.mono B1.out.size))
        clear HX hok
        go_wp2_with fail
        refine (CI.out _).mono ?_
        rintro e w3 ⟨rfl, hb3⟩
        have B3 := hide1 (B2.out.trans (hb3.mono B2.out.size))
        clear hb3
        go_wp2
        go_ret
        exact ⟨rfl, (B3.out.alloc B3.out.size _).alloc (Nat.le_trans B3.out.size (by rw [World.size_alloc]; omega)) _⟩
  · have CB := hide1 (big11_yes a len cap w hbig)
    go_enter Try.func3, Try.ntmps3
    go_wp2_with fail
    refine CB.out.mono ?_
    rintro e w1 ⟨rfl, rfl⟩
    go_wp2
    go_ret
    exact ⟨rfl, Below.refl _ _⟩

set_option maxRecDepth 100000 in
theorem lifted_FnVoices (os : Os) (started : os.Started) (H : Type) (enc : TypeId × Value → H) :
    ReturnsInHanded {} Try.checked os 3 .any (Rows.fnVoicesSpec.pre6 enc Try.prog Try.f3 Rows.fnVoicesRow.domain false) (Rows.fnVoicesSpec.post enc Try.prog Try.f3 false true false false) := by
  refine returnsInHanded_of_change (C := Try.checked) (show ownKnob Try.prog.godebug = none by kernel_rfl) started (by kernel_rfl) Try.func3
    (ChangeSpec.witness6 (enc := enc) (C := Try.checked) false ⟨#[], #[.slice none 0 0], []⟩ 8 (by kernel_rfl) (by kernel_rfl) (by kernel_rfl) (by kernel_rfl)) ?_
  intro W base args ds gs before hval0 hW hcnd _
  have hval : ∀ (j : Nat) t v, Try.f3.params[j]? = some t → args[j]? = some v → Value.okWide Try.prog W .any base t v := hval0
  have hW' := hW
  obtain ⟨p, q, hA0, hV, rfl, hfz, hnd⟩ := hW
  have hA : DataW.TrodAll enc Try.prog W 0 (fun _ => true) true Try.f3.params.toList args.toList ds p := hA0
  rw [Try.params3] at hA hval
  obtain ⟨v0, d0, rfl, rfl, h0⟩ := trodAll_one hA
  obtain ⟨rfl, rfl⟩ := trodVars_none hV
  obtain ⟨a0, len0, cap0, rfl⟩ := okWide_slice Try.underlying22 (hval 0 22 v0 rfl rfl)
  have k0 := h0
  have lt0 : ∀ x ∈ p, x.block < W.heap.size := by obtain ⟨m, hm⟩ := k0; exact DataW.trod_lt m _ _ _ hm
  have r0 : RowB W a0 len0 := by
    obtain ⟨fuel, hf⟩ := h0
    rcases Go.ChangeShapes.open_ints Try.underlying22 Try.underlying5 (by kernel_rfl) hf with ⟨hcs, _⟩ | ⟨x, l, c, zs, hcs, _, hl, hm, hz, _, hcell, hwz⟩
    · simp [Value.cells] at hcs
      obtain ⟨rfl, rfl, rfl⟩ := hcs
      exact fun j hj => absurd hj (Nat.not_lt_zero _)
    · simp [Value.cells] at hcs
      obtain ⟨rfl, rfl, rfl⟩ := hcs
      exact rowB_of hl (by simpa using hz) hcell (fun n hn => bounds_u8 (hwz n hn))
  clear hA0 hval0
  refine (walk_FnVoices a0 len0 cap0 W r0).mono fun e W' ⟨he, bel⟩ => ?_
  subst he
  exact ⟨_, rfl, _, _, _, [], _, [], hW', trodAll_mk1 (shut_bool Try.underlying4 _), trodAll_mk1 (Below.trod (show laidOutB Try.prog = true by kernel_rfl) (by kernel_rfl) (of_decide_eq_true (by kernel_rfl)) k0 bel lt0), rfl, bel.frame _, fun h => by cases h⟩

theorem proved_FnVoices : Rows.FnVoicesSaid :=
  OpenClaim.holds_of_wide 3 Try.f3 rfl rfl rfl rfl rfl rfl rfl ⟨rfl, rfl, rfl, rfl, rfl⟩ rfl rfl rfl rfl rfl (by kernel_rfl) Try.func3 (by kernel_rfl)
    (of_decide_eq_true (by kernel_rfl)) (by unfold Func.isWrapper; first | (rw [if_pos (by decide +kernel)]; kernel_rfl) | (rw [if_neg (by decide +kernel)]; exact ⟨rfl, rfl⟩))
    (fun os started H enc _ => lifted_FnVoices os started H enc)
#print axioms proved_FnVoices
end Go.Proofs.Ytppmnniokpbnkaa
