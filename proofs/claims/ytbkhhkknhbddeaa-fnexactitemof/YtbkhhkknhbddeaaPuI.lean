/- The program's withItem and PutItem. -/
import Derived.Test.YtbkhhkknhbddeaaItI
import Derived.Test.YtbkhhkknhbddeaaInS
namespace Go.Proofs.Ytbkhhkknhbddeaa
open Go.RowKit
set_option linter.unusedVariables false

theorem ins_len1 {l : List Im} {x : Im} {i : Nat} (hi : i ≤ l.length) (h : insI l x = l.take i ++ x :: l.drop i) : l.length + 1 = (insI l x).length := by rw [h, List.length_append, List.length_cons, List.length_take, List.length_drop, Nat.min_eq_left hi]; omega
set_option maxRecDepth 100000 in
set_option maxHeartbeats 8000000 in
theorem withItem_any (a : Option Addr) (l : List Im) (ca : Nat) (x : Im) (w : World) (hl : l.length ≤ 1048576) (ha : ascI l) (hA : RdG imC 3 w a l) :
    Calls Try.prog 40 #[.slice a l.length ca, .agg #[.string x.k, .string x.v, .int .i64 x.n]] w fun e w' => ((newI l x = true ∧ e = .returned (.tuple #[.slice none 0 0, .bool false])) ∨ (newI l x = false ∧ ∃ b c, e = .returned (.tuple #[.slice b (insI l x).length c, .bool true]) ∧ w'.ownsRow w.heap.size 26 3 (.slice b (insI l x).length c) (insI l x).length (rowG imC (insI l x)))) ∧ Below w.heap.size w w' := by
  have HA := hide1 hA
  have HASC := hide1 ha
  have F0 := hide1 (And.intro (Blk.new w 26 #[.string x.k, .string x.v, .int .i64 x.n]) ((Below.refl w.heap.size w).alloc (Nat.le_refl _) (.cells #[.string x.k, .string x.v, .int .i64 x.n] 26)))
  clear hA ha
  go_enter Try.func40, Try.ntmps40
  go_upto_region 1 with fail
  generalize (w.alloc (.cells #[.string x.k, .string x.v, .int .i64 x.n] 26)) = u at F0 ⊢
  obtain ⟨X, hX⟩ : ∃ X, X = w.heap.size := ⟨_, rfl⟩
  have KX := hide1 F0.out.1
  rw [← hX] at KX ⊢
  have E0 := hide1 F0.out.2
  have lX : X < u.heap.size := KX.out.lt
  have lwu : w.heap.size ≤ u.heap.size := E0.out.size
  clear F0 hX
  have NI := hide1 (fun v (hb : Below u.heap.size u v) => newItems_any a l ca v hl (HA.out.later (E0.out.trans (hb.mono E0.out.size))))
  have NX := hide1 (fun v => newItem_any x v)
  go_wp2
  go_loopw [6] (fun iv wr => ∃ i : Nat, i ≤ l.length ∧ iv = .int .i64 (i : Int) ∧ Hid (lessTo l x.k i) ∧ Hid (Below u.heap.size u wr)) (fun iv _ => l.length - (intOf iv).toNat)
  case atStart => exact ⟨0, Nat.zero_le _, rfl, hide1 (fun j _ h => by omega), hide1 (Below.refl _ _)⟩
  case round =>
    obtain ⟨i, hi, rfl, HS, BB⟩ := hrel
    have KW := hide1 (KX.out.below BB.out lX)
    have y0 : wr.cell? ⟨X, 0, none⟩ = some (.string x.k) := KW.out.cell 0
    by_cases hlt : i < l.length
    · have k1 : (i : Int) < (l.length : Int) := by omega
      have k0 : (0 : Int) ≤ (i : Int) := by omega
      have kd : decide ((i : Int) < (l.length : Int)) = true := decide_eq_true k1
      obtain ⟨b, o, hab, hb, hc⟩ := HA.out i hlt
      have lbu : b < u.heap.size := Nat.lt_of_lt_of_le hb lwu
      have XL := hide1 (show u.cell? ⟨b, o + i * 3, none⟩ = some (.string l[i].k) ∧ u.cell? ⟨b, o + i * 3 + 1, none⟩ = some (.string l[i].v) ∧ u.cell? ⟨b, o + i * 3 + 2, none⟩ = some (.int .i64 l[i].n) from ⟨(E0.out.cell (p := ⟨b, o + i * 3, none⟩) hb).trans (hc 0 (by omega)), (E0.out.cell (p := ⟨b, o + i * 3 + 1, none⟩) hb).trans (hc 1 (by omega)), (E0.out.cell (p := ⟨b, o + i * 3 + 2, none⟩) hb).trans (hc 2 (by omega))⟩)
      have LN := hide1 (fun h => lessTo_next HS.out hlt h)
      have IO := hide1 (fun h => ins_old HASC.out hlt HS.out h)
      have IN := hide1 (fun (h : tLt x.k l[i].k = true) => ins_new HASC.out hi HS.out (fun _ => h))
      subst hab
      clear hc
      generalize l[i] = s at *
      have x0 : wr.cell? ⟨b, o + i * 3, none⟩ = some (.string s.k) := (BB.out.cell (p := ⟨b, o + i * 3, none⟩) lbu).trans XL.out.1
      cases ct : tLt s.k x.k with
      | true =>
        have qt : Op.bytesLess s.k.toList x.k.toList = true := ct
        have LN2 := hide1 (LN.out ct)
        clear ct LN IO IN
        go_upto_region 2 with fail
        go_quiet (fail)
        go_wp2
        go_roundw
        case rel => exact ⟨i + 1, by omega, by go_num, LN2, hide1 (below_drewN BB.out _)⟩
        case measure => simp [intOf]; omega
      | false =>
        have qt : Op.bytesLess s.k.toList x.k.toList = false := ct
        clear LN
        go_upto_region 2 with fail
        go_quiet (fail)
        have BV := hide1 (below_drewN BB.out nq)
        generalize (wr.drewN nq) = v at BV ⊢
        clear x0 qt BB KW
        go_wp2_with fail
        refine (NI.out v BV.out).mono ?_
        rintro e w2 ⟨rfl, ho2, hb2⟩
        obtain ⟨G, hG⟩ : ∃ G, G = v.heap.size := ⟨_, rfl⟩
        rw [← hG] at ho2 ⊢
        have O2 := hide1 ho2
        have B2 := hide1 (BV.out.trans (hb2.mono BV.out.size))
        have lG : u.heap.size ≤ G := by have := BV.out.size; omega
        clear ho2 hb2 hG y0
        have kq : ((i : Int) == (l.length : Int)) = false := by rw [beq_eq_false_iff_ne]; omega
        go_upto_region 5 with fail
        have Kw2 := hide1 (KX.out.below B2.out lX)
        have y0 : w2.cell? ⟨X, 0, none⟩ = some (.string x.k) := Kw2.out.cell 0
        have y1 : w2.cell? ⟨X, 1, none⟩ = some (.string x.v) := Kw2.out.cell 1
        have y2 : w2.cell? ⟨X, 2, none⟩ = some (.int .i64 x.n) := Kw2.out.cell 2
        have x0 : w2.cell? ⟨b, o + i * 3 , none⟩ = some (.string s.k) := (B2.out.cell (p := ⟨b, o + i * 3 , none⟩) lbu).trans XL.out.1
        by_cases ce : s.k = x.k
        · have RES := hide1 (IO.out ce)
          obtain ⟨q1, q2⟩ := text_eq ce
          clear IN IO ce ct
          go_quiet (fail)
          have B3 := hide1 (below_drewN B2.out nq)
          have O3 := hide1 (show (w2.drewN nq).ownsRow G 26 3 (.slice (some ⟨G, 0, none⟩) l.length l.length) l.length (rowG imC l) from own_kept O2.out (below_drewN (Below.refl _ _) nq))
          generalize (w2.drewN nq) = w3 at B3 O3 ⊢
          clear y0 y1 y2 x0 O2
          have Kw3 := hide1 (KX.out.below B3.out lX)
          have y0 : w3.cell? ⟨X, 0, none⟩ = some (.string x.k) := Kw3.out.cell 0
          have y1 : w3.cell? ⟨X, 1, none⟩ = some (.string x.v) := Kw3.out.cell 1
          have y2 : w3.cell? ⟨X, 2, none⟩ = some (.int .i64 x.n) := Kw3.out.cell 2
          have x2 : w3.cell? ⟨b, o + i * 3 + 2, none⟩ = some (.int .i64 s.n) := (B3.out.cell (p := ⟨b, o + i * 3 + 2, none⟩) lbu).trans XL.out.2.2
          go_upto_region 7 with fail
          by_cases cn : x.n ≤ s.n
          · have qn : decide (x.n ≤ s.n) = true := decide_eq_true cn
            go_quiet (fail)
            have B4 := hide1 (below_drewN B3.out nq)
            go_wp2
            go_ret2
            refine ⟨.inl ⟨?_, rfl⟩, E0.out.trans (B4.out.mono lwu)⟩
            rw [RES.out.2]; exact decide_eq_true cn
          · have qn : decide (x.n ≤ s.n) = false := decide_eq_false cn
            go_quiet (fail)
            have B4 := hide1 (below_drewN B3.out nq)
            have O4 := hide1 (show (w3.drewN nq).ownsRow G 26 3 (.slice (some ⟨G, 0, none⟩) l.length l.length) l.length (rowG imC l) from own_kept O3.out (below_drewN (Below.refl _ _) nq))
            generalize (w3.drewN nq) = w4 at B4 O4 ⊢
            clear y0 y1 y2 x2 O3
            have Kw4 := hide1 (KX.out.below B4.out lX)
            have y0 : w4.cell? ⟨X, 0, none⟩ = some (.string x.k) := Kw4.out.cell 0
            have y1 : w4.cell? ⟨X, 1, none⟩ = some (.string x.v) := Kw4.out.cell 1
            have y2 : w4.cell? ⟨X, 2, none⟩ = some (.int .i64 x.n) := Kw4.out.cell 2
            go_wp2_with fail
            refine (NX.out _).mono ?_
            rintro e w5 ⟨rfl, hb5⟩
            have o5 := own_kept O4.out hb5
            obtain ⟨u0, z0⟩ := own_some o5 (i * 3) (by omega)
            obtain ⟨u1, z1⟩ := own_some o5 (i * 3 + 1) (by omega)
            obtain ⟨u2, z2⟩ := own_some o5 (i * 3 + 2) (by omega)
            have f0 := o5.frozenAt (i * 3)
            have f1 := o5.frozenAt (i * 3 + 1)
            have f2 := o5.frozenAt (i * 3 + 2)
            have O5 := hide1 o5
            have B5 := hide1 (E0.out.trans ((B4.out.trans (hb5.mono B4.out.size)).mono lwu))
            clear o5 hb5 y0 y1 y2
            go_wp2
            go_ret2
            refine ⟨.inr ⟨by rw [RES.out.2]; exact decide_eq_false (by omega), some ⟨G, 0, none⟩, l.length, ?_, ?_⟩, below_putG (imC x) (i * 3) B5.out (by omega)⟩
            · rw [RES.out.1, List.length_set]; rfl
            · rw [RES.out.1, List.length_set, rowG_set imC 3 encIm.len _ _ _ hlt]
              exact own_base (own_putG (imC x) (i * 3) O5.out) (Nat.le_trans lwu lG)
        · have RES := hide1 (IN.out (by
            cases e : tLt x.k s.k with
            | true => rfl
            | false => exact absurd (tLt_tri ct e) ce))
          have LEN := hide1 (ins_len1 hi RES.out.1)
          obtain ⟨q1, q2⟩ := text_ne ce
          clear IN IO ce ct
          go_quiet (fail)
          have B3 := hide1 (below_drewN B2.out nq)
          have O3 := hide1 (show (w2.drewN nq).ownsRow G 26 3 (.slice (some ⟨G, 0, none⟩) l.length l.length) l.length (rowG imC l) from own_kept O2.out (below_drewN (Below.refl _ _) nq))
          generalize (w2.drewN nq) = w3 at B3 O3 ⊢
          clear y0 y1 y2 x0 O2
          have Kw3 := hide1 (KX.out.below B3.out lX)
          have y0 : w3.cell? ⟨X, 0, none⟩ = some (.string x.k) := Kw3.out.cell 0
          have y1 : w3.cell? ⟨X, 1, none⟩ = some (.string x.v) := Kw3.out.cell 1
          have y2 : w3.cell? ⟨X, 2, none⟩ = some (.int .i64 x.n) := Kw3.out.cell 2
          go_wp2_with fail
          refine (NX.out _).mono ?_
          rintro e w4 ⟨rfl, hb4⟩
          have B4 := hide1 (B3.out.trans (hb4.mono B3.out.size))
          have O4 := hide1 (own_kept O3.out hb4)
          have FL := hide1 (And.intro (Blk.new w4 26 #[.string x.k, .string x.v, .int .i64 x.n]) ((Below.refl w4.heap.size w4).alloc (Nat.le_refl _) (.cells #[.string x.k, .string x.v, .int .i64 x.n] 26)))
          clear hb4
          go_wp2_with fail
          generalize (w4.alloc (.cells #[.string x.k, .string x.v, .int .i64 x.n] 26)) = w5 at FL ⊢
          have B5 := hide1 (B4.out.trans (FL.out.2.mono B4.out.size))
          have O5 := hide1 (own_kept O4.out FL.out.2)
          refine (insert_any l x _ G w4.heap.size w5 hi hl (rdG_of_own encIm.len O5.out rfl) (rd_one encIm FL.out.1)).mono ?_
          rintro e w6 ⟨⟨q, c, rfl, ho6⟩, hb6⟩
          have B6 := hide1 (E0.out.trans ((B5.out.trans (hb6.mono B5.out.size)).mono lwu))
          have O6 := hide1 ho6
          have L5 : w.heap.size ≤ w5.heap.size := Nat.le_trans lwu B5.out.size
          clear ho6 hb6
          rw [LEN.out] at O6 ⊢
          go_wp2
          go_ret2
          refine ⟨.inr ⟨RES.out.2, _, _, rfl, ?_⟩, B6.out⟩
          rw [RES.out.1]
          have := own_base O6.out L5
          rw [RES.out.1] at this
          exact this
    · obtain rfl : i = l.length := by omega
      have k1 : ¬ ((l.length : Int) < (l.length : Int)) := by omega
      have kd : decide ((l.length : Int) < (l.length : Int)) = false := decide_eq_false k1
      have RES := hide1 (ins_new HASC.out hi HS.out (fun h => absurd h (Nat.lt_irrefl _)))
      have LEN := hide1 (ins_len1 hi RES.out.1)
      go_upto_region 2 with fail
      go_quiet (fail)
      have BV := hide1 (below_drewN BB.out nq)
      generalize (wr.drewN nq) = v at BV ⊢
      clear BB KW
      go_wp2_with fail
      refine (NI.out v BV.out).mono ?_
      rintro e w2 ⟨rfl, ho2, hb2⟩
      obtain ⟨G, hG⟩ : ∃ G, G = v.heap.size := ⟨_, rfl⟩
      rw [← hG] at ho2 ⊢
      have O2 := hide1 ho2
      have B2 := hide1 (BV.out.trans (hb2.mono BV.out.size))
      have lG : u.heap.size ≤ G := by have := BV.out.size; omega
      clear ho2 hb2 hG y0
      have kq : ((l.length : Int) == (l.length : Int)) = true := by simp
      go_upto_region 5 with fail
      have Kw2 := hide1 (KX.out.below B2.out lX)
      have y0 : w2.cell? ⟨X, 0, none⟩ = some (.string x.k) := Kw2.out.cell 0
      have y1 : w2.cell? ⟨X, 1, none⟩ = some (.string x.v) := Kw2.out.cell 1
      have y2 : w2.cell? ⟨X, 2, none⟩ = some (.int .i64 x.n) := Kw2.out.cell 2
      go_quiet (fail)
      have B3 := hide1 (below_drewN B2.out nq)
      have O3 := hide1 (show (w2.drewN nq).ownsRow G 26 3 (.slice (some ⟨G, 0, none⟩) l.length l.length) l.length (rowG imC l) from own_kept O2.out (below_drewN (Below.refl _ _) nq))
      generalize (w2.drewN nq) = w3 at B3 O3 ⊢
      clear y0 y1 y2 O2
      have Kw3 := hide1 (KX.out.below B3.out lX)
      have y0 : w3.cell? ⟨X, 0, none⟩ = some (.string x.k) := Kw3.out.cell 0
      have y1 : w3.cell? ⟨X, 1, none⟩ = some (.string x.v) := Kw3.out.cell 1
      have y2 : w3.cell? ⟨X, 2, none⟩ = some (.int .i64 x.n) := Kw3.out.cell 2
      go_wp2_with fail
      refine (NX.out _).mono ?_
      rintro e w4 ⟨rfl, hb4⟩
      have B4 := hide1 (B3.out.trans (hb4.mono B3.out.size))
      have O4 := hide1 (own_kept O3.out hb4)
      have FL := hide1 (And.intro (Blk.new w4 26 #[.string x.k, .string x.v, .int .i64 x.n]) ((Below.refl w4.heap.size w4).alloc (Nat.le_refl _) (.cells #[.string x.k, .string x.v, .int .i64 x.n] 26)))
      clear hb4
      go_wp2_with fail
      generalize (w4.alloc (.cells #[.string x.k, .string x.v, .int .i64 x.n] 26)) = w5 at FL ⊢
      have B5 := hide1 (B4.out.trans (FL.out.2.mono B4.out.size))
      have O5 := hide1 (own_kept O4.out FL.out.2)
      refine (insert_any l x _ G w4.heap.size w5 hi hl (rdG_of_own encIm.len O5.out rfl) (rd_one encIm FL.out.1)).mono ?_
      rintro e w6 ⟨⟨q, c, rfl, ho6⟩, hb6⟩
      have B6 := hide1 (E0.out.trans ((B5.out.trans (hb6.mono B5.out.size)).mono lwu))
      have O6 := hide1 ho6
      have L5 : w.heap.size ≤ w5.heap.size := Nat.le_trans lwu B5.out.size
      clear ho6 hb6
      rw [LEN.out] at O6 ⊢
      go_wp2
      go_ret2
      refine ⟨.inr ⟨RES.out.2, _, _, rfl, ?_⟩, B6.out⟩
      rw [RES.out.1]
      have := own_base O6.out L5
      rw [RES.out.1] at this
      exact this
set_option maxRecDepth 100000 in
set_option maxHeartbeats 4000000 in
theorem implPutItem_any (a : Option Addr) (l : List Im) (ca : Nat) (x : Im) (w : World) (hl : l.length ≤ 1048576) (hz : ∀ x ∈ l, x.k.size ≤ 1048576 ∧ x.v.size ≤ 1048576) (hx : x.k.size ≤ 1048576 ∧ x.v.size ≤ 1048576) (hA : RdG imC 3 w a l) :
    Calls Try.prog 11 #[.slice a l.length ca, .agg #[.string x.k, .string x.v, .int .i64 x.n]] w fun e w' => (∃ b c, e = .returned (.slice b (putI l x).length c) ∧ w'.ownsRow w.heap.size 26 3 (.slice b (putI l x).length c) (putI l x).length (rowG imC (putI l x))) ∧ Below w.heap.size w w' := by
  have HA := hide1 hA
  have F0 := hide1 (And.intro (Blk.new w 26 #[.string x.k, .string x.v, .int .i64 x.n]) ((Below.refl w.heap.size w).alloc (Nat.le_refl _) (.cells #[.string x.k, .string x.v, .int .i64 x.n] 26)))
  have CO := hide1 (fun v (hb : Below w.heap.size w v) => implItemsOk_any a l ca v hl hz (HA.out.later hb))
  have NI := hide1 (fun v (hb : Below w.heap.size w v) => newItems_any a l ca v hl (HA.out.later hb))
  have HZ := hide1 (fun y (hy : y ∈ insI l x) => show y.k.size ≤ 1048576 ∧ y.v.size ≤ 1048576 by
    rcases ins_mem.1 hy with rfl | h
    · exact hx
    · exact hz y h.1)
  clear hA hz hx
  go_enter Try.func11, Try.ntmps11
  go_upto_region 1 with fail
  generalize (w.alloc (.cells #[.string x.k, .string x.v, .int .i64 x.n] 26)) = u at F0 ⊢
  obtain ⟨X, hX⟩ : ∃ X, X = w.heap.size := ⟨_, rfl⟩
  have KX := hide1 F0.out.1
  rw [← hX] at KX ⊢
  have E0 := hide1 F0.out.2
  have lX : X < u.heap.size := KX.out.lt
  have lwu : w.heap.size ≤ u.heap.size := E0.out.size
  clear F0 hX
  by_cases ok : okIms l
  · rw [decide_eq_true ok] at CO
    have WI := hide1 (fun v (hb : Below w.heap.size w v) => withItem_any a l ca x v hl ok.2.1 (HA.out.later hb))
    have hl12 := ok.2.2
    have HLI := hide1 (show (insI l x).length ≤ 1048576 by have := @ins_len l x; omega)
    have HP1 := hide1 (fun (h : newI l x = true) => put_new h)
    have HP2 := hide1 (fun (h : ¬ okIms (insI l x)) => put_bad (l := l) (x := x) (fun e => h e.2))
    have HP3 := hide1 (fun (h : newI l x = false) (h2 : okIms (insI l x)) => put_ok h ⟨ok, h2⟩)
    clear ok
    go_wp2_with fail
    refine (CO.out u E0.out).mono ?_
    rintro e w1 ⟨rfl, hb1⟩
    have B1 := hide1 (E0.out.trans (hb1.mono lwu))
    have K1 := hide1 (KX.out.below hb1 lX)
    have y0 : w1.cell? ⟨X, 0, none⟩ = some (.string x.k) := K1.out.cell 0
    have y1 : w1.cell? ⟨X, 1, none⟩ = some (.string x.v) := K1.out.cell 1
    have y2 : w1.cell? ⟨X, 2, none⟩ = some (.int .i64 x.n) := K1.out.cell 2
    clear hb1
    go_wp2_with fail
    refine (WI.out w1 B1.out).mono ?_
    rintro e w2 ⟨hcase, hb2⟩
    have B2 := hide1 (B1.out.trans (hb2.mono B1.out.size))
    rcases hcase with ⟨hn, rfl⟩ | ⟨hn, b2, c2, rfl, ho2⟩
    · have RES := hide1 (HP1.out hn)
      clear hb2 y0 y1 y2 hn
      go_wp2_with fail
      refine (NI.out _ B2.out).mono ?_
      rintro e w3 ⟨rfl, ho3, hb3⟩
      have O3 := hide1 (own_base ho3 B2.out.size)
      have B3 := hide1 (B2.out.trans (hb3.mono B2.out.size))
      clear ho3 hb3
      go_wp2
      go_ret
      exact ⟨⟨_, _, by rw [RES.out]; rfl, by rw [RES.out]; exact O3.out⟩, B3.out⟩
    · have O2 := hide1 (own_base ho2 B1.out.size)
      have CK := hide1 (implItemsOk_any b2 (insI l x) c2 w2 HLI.out HZ.out (rdG_of_own encIm.len ho2 rfl))
      clear hb2 y0 y1 y2 ho2
      by_cases ok2 : okIms (insI l x)
      · rw [decide_eq_true ok2] at CK
        have RES := hide1 (HP3.out hn ok2)
        clear ok2 hn
        go_wp2_with fail
        refine CK.out.mono ?_
        rintro e w3 ⟨rfl, hb3⟩
        have O3 := hide1 (own_kept O2.out hb3)
        have B3 := hide1 (B2.out.trans (hb3.mono B2.out.size))
        clear hb3
        go_wp2
        go_ret
        exact ⟨⟨_, _, by rw [RES.out]; rfl, by rw [RES.out]; exact O3.out⟩, B3.out⟩
      · rw [decide_eq_false ok2] at CK
        have RES := hide1 (HP2.out ok2)
        clear ok2 hn
        go_wp2_with fail
        refine CK.out.mono ?_
        rintro e w3 ⟨rfl, hb3⟩
        have B3 := hide1 (B2.out.trans (hb3.mono B2.out.size))
        clear hb3
        go_wp2_with fail
        refine (NI.out _ B3.out).mono ?_
        rintro e w4 ⟨rfl, ho4, hb4⟩
        have O4 := hide1 (own_base ho4 B3.out.size)
        have B4 := hide1 (B3.out.trans (hb4.mono B3.out.size))
        clear ho4 hb4
        go_wp2
        go_ret
        exact ⟨⟨_, _, by rw [RES.out]; rfl, by rw [RES.out]; exact O4.out⟩, B4.out⟩
  · rw [decide_eq_false ok] at CO
    have RES := hide1 (put_bad (l := l) (x := x) (fun e => ok e.1))
    clear ok
    go_wp2_with fail
    refine (CO.out u E0.out).mono ?_
    rintro e w1 ⟨rfl, hb1⟩
    have B1 := hide1 (E0.out.trans (hb1.mono lwu))
    clear hb1
    go_wp2_with fail
    refine (NI.out _ B1.out).mono ?_
    rintro e w3 ⟨rfl, ho3, hb3⟩
    have O3 := hide1 (own_base ho3 B1.out.size)
    have B3 := hide1 (B1.out.trans (hb3.mono B1.out.size))
    clear ho3 hb3
    go_wp2
    go_ret
    exact ⟨⟨_, _, by rw [RES.out]; rfl, by rw [RES.out]; exact O3.out⟩, B3.out⟩
end Go.Proofs.Ytbkhhkknhbddeaa
