/- The model's ItemOf and PutItem. -/
import Derived.Test.YtbkhhkknhbddeaaDoorImS
import Derived.Test.YtbkhhkknhbddeaaDoorCpE
namespace Go.Proofs.YtbkhhkknhbddeaaDoor
open Go.RowKit
set_option linter.unusedVariables false

theorem imOf_at {l : List Im} {k : ByteArray} {i : Nat} (hi : i < l.length) (h1 : ∀ j (h : j < l.length), j < i → ¬ l[j].k = k) (h2 : l[i].k = k) : imOf l k = l[i] := by
  unfold imOf
  have : l.find? (fun y => decide (y.k = k)) = some l[i] := by
    rw [List.find?_eq_some_iff_getElem]
    exact ⟨by simpa using h2, i, hi, rfl, fun j hj => by simpa using h1 j (by omega) hj⟩
  rw [this]
  rfl
theorem imOf_nil {l : List Im} {k : ByteArray} (h1 : ∀ j (h : j < l.length), j < l.length → ¬ l[j].k = k) : imOf l k = zeroIm := imOf_none (fun y hy e => by
  obtain ⟨j, hj, rfl⟩ := List.getElem_of_mem hy
  exact h1 j hj hj e)
theorem filt_next {p : Im → Bool} {l : List Im} {i : Nat} (hi : i < l.length) : (l.take (i + 1)).filter p = (l.take i).filter p ++ (if p l[i] = true then [l[i]] else []) := by
  rw [List.take_succ_eq_append_getElem hi, List.filter_append, List.filter_cons]
  rfl
/-- None of the first i is as new. -/
def oldTo (l : List Im) (x : Im) (i : Nat) : Prop := ∀ j (h : j < l.length), j < i → ¬ (l[j].k = x.k ∧ x.n ≤ l[j].n)
theorem oldTo_all {l : List Im} {x : Im} (h : oldTo l x l.length) : newI l x = false := by
  cases e : newI l x with
  | false => rfl
  | true =>
    obtain ⟨y, hy, h2⟩ := newI_of e
    obtain ⟨j, hj, rfl⟩ := List.getElem_of_mem hy
    exact absurd h2 (h j hj hj)
theorem newI_at {l : List Im} {x : Im} {i : Nat} (hi : i < l.length) (h : l[i].k = x.k ∧ x.n ≤ l[i].n) : newI l x = true := by
  unfold newI
  rw [List.any_eq_true]
  exact ⟨l[i], List.getElem_mem hi, by rw [decide_eq_true h.1, decide_eq_true h.2]; rfl⟩
theorem oldTo_next {l : List Im} {x : Im} {i : Nat} (h : oldTo l x i) (hi : i < l.length) (h2 : ¬ (l[i].k = x.k ∧ x.n ≤ l[i].n)) : oldTo l x (i + 1) := fun j hj hlt => by
  by_cases c : j < i
  · exact h j hj c
  · have : j = i := (by omega)
    subst this
    exact h2
theorem put_new {l : List Im} {x : Im} (h : newI l x = true) : putI l x = l := by unfold putI; rw [if_pos h]
theorem put_bad {l : List Im} {x : Im} (h : ¬ (okIms l ∧ okIms (insI l x))) : putI l x = l := by unfold putI; rw [if_neg h]; split <;> rfl
theorem put_ok {l : List Im} {x : Im} (h0 : newI l x = false) (h : okIms l ∧ okIms (insI l x)) : putI l x = insI l x := by unfold putI; rw [if_neg (by rw [h0]; simp), if_pos h]
set_option maxRecDepth 100000 in
set_option maxHeartbeats 4000000 in
theorem specPutItem_any (a : Option Addr) (l : List Im) (ca : Nat) (x : Im) (w : World) (hl : l.length ≤ 1048576) (hA : RdG imC 3 w a l) :
    Calls Tryd.prog 80 #[.slice a l.length ca, .agg #[.string x.k, .string x.v, .int .i64 x.n]] w fun e w' => (∃ b c, e = .returned (.slice b (putI l x).length c) ∧ RdG imC 3 w' b (putI l x) ∧ ∀ q o, b = some ⟨q, o, none⟩ → 0 < (putI l x).length → w.heap.size ≤ q) ∧ Below w.heap.size w w' := by
  have HA := hide1 hA
  have F0 := hide1 (And.intro (Blk.new w 51 #[.string x.k, .string x.v, .int .i64 x.n]) ((Below.refl w.heap.size w).alloc (Nat.le_refl _) (.cells #[.string x.k, .string x.v, .int .i64 x.n] 51)))
  clear hA
  go_enter Tryd.func80, Tryd.ntmps80
  go_upto_region 1 with fail
  generalize (w.alloc (.cells #[.string x.k, .string x.v, .int .i64 x.n] 51)) = u at F0 ⊢
  obtain ⟨X, hX⟩ : ∃ G, G = w.heap.size := ⟨_, rfl⟩
  have KX := hide1 F0.out.1
  rw [← hX] at KX ⊢
  have lX : X < u.heap.size := KX.out.lt
  have E0 := hide1 F0.out.2
  clear F0 hX
  have EL : Hid (Below u.heap.size u (u.alloc (.cells #[] 51))) := (Below.refl u.heap.size u).alloc (Nat.le_refl _) (.cells #[] 51)
  go_upto_region 2 with (at_builtin; (refine wpList_cpE encIm rowIm rfl (.tmp 9) (.tmp 10) rfl u.heap.size rfl a l.length ca l rfl rfl ((HA.out.later E0.out).later EL.out) (by omega) ?_; intro sb sc w1 hr1 hb1 hn1 hc1; have E1 : Hid (Below u.heap.size u w1) := EL.out.trans (hb1.mono EL.out.size); have R1 := hide1 hr1; have N1 : Hid (∀ q o, sb = some ⟨q, o, none⟩ → 0 < l.length → w.heap.size ≤ q) := (fun q o e h => Nat.le_trans (Nat.le_trans E0.out.size EL.out.size) (hn1 q o e h)); clear hr1 hb1 hn1 hc1))
  have FG := hide1 (And.intro (Blk.new w1 51 #[]) ((Below.refl w1.heap.size w1).alloc (Nat.le_refl _) (.cells #[] 51)))
  clear EL
  go_upto_region 3 with fail
  generalize (w1.alloc (.cells #[] 51)) = w2 at FG ⊢
  obtain ⟨g, hg⟩ : ∃ g, g = w1.heap.size := ⟨_, rfl⟩
  have KG := hide1 FG.out.1
  rw [← hg] at KG ⊢
  have E2 := hide1 (E1.out.trans (FG.out.2.mono E1.out.size))
  have R2 := hide1 (R1.out.later FG.out.2)
  have lw1 : w1.heap.size ≤ w2.heap.size := FG.out.2.size
  have lu1 : u.heap.size ≤ w1.heap.size := E1.out.size
  have O2 := hide1 (show w2.ownsRow w1.heap.size 51 3 (.slice (some ⟨g, 0, none⟩) 0 0) 0 (rowG imC ([] : List Im)) from own_none KG.out (by omega))
  have R1b := hide1 (fun b o (e : sb = some ⟨b, o, none⟩) (h : 0 < l.length) => RdG.ltI R1.out e h)
  clear hg KG FG E1 R1
  go_wp2
  go_loopw [7, 6] (fun iv ov wr => ∃ i : Nat, i ≤ l.length ∧ iv = .int .i64 (i : Int) ∧ ∃ (L : List Im) (ob : Option Addr) (oc : Nat), ov = .slice ob L.length oc ∧ L.length ≤ i ∧ Hid (L = (l.take i).filter (fun y => tLt y.k x.k)) ∧ Hid (oldTo l x i) ∧ Hid (wr.ownsRow w1.heap.size 51 3 (.slice ob L.length oc) L.length (rowG imC L)) ∧ Hid (Below w1.heap.size w2 wr)) (fun iv _ _ => l.length - (intOf iv).toNat)
  case atStart => exact ⟨0, Nat.zero_le _, rfl, [], _, _, rfl, Nat.le_refl _, hide1 (by simp), hide1 (fun j _ h => by omega), O2, hide1 (Below.refl _ _)⟩
  case round =>
    obtain ⟨i, hi, rfl, L, ob, oc, rfl, hLi, HL, HO, OW, BB⟩ := hrel
    have BU := hide1 (show Below u.heap.size u wr from E2.out.trans (BB.out.mono lu1))
    have BW := hide1 (E0.out.trans (BU.out.mono E0.out.size))
    have l1r : w1.heap.size ≤ wr.heap.size := Nat.le_trans lw1 BB.out.size
    have y0 : wr.cell? ⟨X, 0, none⟩ = some (.string x.k) := (BU.out.cell (p := ⟨X, 0, none⟩) lX).trans (KX.out.cell 0)
    have y1 : wr.cell? ⟨X, 1, none⟩ = some (.string x.v) := (BU.out.cell (p := ⟨X, 1, none⟩) lX).trans (KX.out.cell 1)
    have y2 : wr.cell? ⟨X, 2, none⟩ = some (.int .i64 x.n) := (BU.out.cell (p := ⟨X, 2, none⟩) lX).trans (KX.out.cell 2)
    by_cases hlt : i < l.length
    · have k1 : (i : Int) < (l.length : Int) := by omega
      obtain ⟨b, o, rfl, hb, hc⟩ := HA.out i hlt
      have X0 := hide1 (show w.cell? ⟨b, o + i * 3, none⟩ = some (.string l[i].k) from hc 0 (by omega))
      have X1 := hide1 (show w.cell? ⟨b, o + i * 3 + 1, none⟩ = some (.string l[i].v) from hc 1 (by omega))
      have X2 := hide1 (show w.cell? ⟨b, o + i * 3 + 2, none⟩ = some (.int .i64 l[i].n) from hc 2 (by omega))
      have FN := hide1 (filt_next (p := fun y => tLt y.k x.k) hlt)
      have NA := hide1 (fun h => newI_at (x := x) hlt h)
      have NX := hide1 (fun h => oldTo_next HO.out hlt h)
      generalize l[i] = s at *
      clear hc
      have x0 : wr.cell? ⟨b, o + i * 3, none⟩ = some (.string s.k) := (BW.out.cell (p := ⟨b, o + i * 3, none⟩) hb).trans X0.out
      have x1 : wr.cell? ⟨b, o + i * 3 + 1, none⟩ = some (.string s.v) := (BW.out.cell (p := ⟨b, o + i * 3 + 1, none⟩) hb).trans X1.out
      have x2 : wr.cell? ⟨b, o + i * 3 + 2, none⟩ = some (.int .i64 s.n) := (BW.out.cell (p := ⟨b, o + i * 3 + 2, none⟩) hb).trans X2.out
      cases ct : tLt s.k x.k with
      | true =>
        have qt : Op.bytesLess s.k.toList x.k.toList = true := ct
        have hne : ¬ s.k = x.k := tLt_ne ct
        have HL2 := hide1 (show L ++ [s] = (l.take (i + 1)).filter (fun y => tLt y.k x.k) by rw [FN.out, if_pos ct, HL.out])
        have NX2 := hide1 (NX.out (fun h => hne h.1))
        obtain ⟨q, q'⟩ := text_ne hne
        clear ct hne FN NA NX HL HO
        go_wp2_with fail
        go_quiet (fail)
        have D3 := hide1 (below_drewN (Below.refl wr.heap.size wr) nq)
        go_upto_region 7 with fail
        generalize wr.drewN nq = v3 at D3 ⊢
        have OW3 := hide1 (own_kept OW.out D3.out)
        have B3 := hide1 (BB.out.trans (D3.out.mono l1r))
        have BU3 := hide1 (show Below u.heap.size u v3 from E2.out.trans (B3.out.mono lu1))
        have BW3 := hide1 (E0.out.trans (BU3.out.mono E0.out.size))
        clear x0 x1 x2 y0 y1 y2
        have x0 : v3.cell? ⟨b, o + i * 3, none⟩ = some (.string s.k) := (BW3.out.cell (p := ⟨b, o + i * 3, none⟩) hb).trans X0.out
        have x1 : v3.cell? ⟨b, o + i * 3 + 1, none⟩ = some (.string s.v) := (BW3.out.cell (p := ⟨b, o + i * 3 + 1, none⟩) hb).trans X1.out
        have x2 : v3.cell? ⟨b, o + i * 3 + 2, none⟩ = some (.int .i64 s.n) := (BW3.out.cell (p := ⟨b, o + i * 3 + 2, none⟩) hb).trans X2.out
        have FL := hide1 (And.intro (Blk.new v3 51 #[.string s.k, .string s.v, .int .i64 s.n]) ((Below.refl v3.heap.size v3).alloc (Nat.le_refl _) (.cells #[.string s.k, .string s.v, .int .i64 s.n] 51)))
        have l1w : w1.heap.size ≤ v3.heap.size := Nat.le_trans lw1 B3.out.size
        go_upto_region 8 with (at_builtin; (refine wpList_appA encIm rowIm rfl (.tmp 27) (.tmp 32) rfl w1.heap.size _ L.length L rfl (own_kept OW3.out FL.out.2) (some ⟨v3.heap.size, 0, none⟩) 1 1 [s] rfl rfl (rd_one encIm FL.out.1) (by omega) (by have := FL.out.2.size; omega) ?_; intro b4 c4 w4 ho4 hg4 hp4; have OW4 := hide1 ho4; have G4 : Hid (Below w1.heap.size v3 w4) := (FL.out.2.mono l1w).trans (gbelow hg4 (fun q hq => (OW3.out.lt q hq).1) (by have := FL.out.2.size; omega)); clear ho4 hg4 hp4))
        have B4 := hide1 (B3.out.trans G4.out)
        have BU4 := hide1 (show Below u.heap.size u w4 from E2.out.trans (B4.out.mono lu1))
        have BW4 := hide1 (E0.out.trans (BU4.out.mono E0.out.size))
        clear x0 x1 x2
        have x0 : w4.cell? ⟨b, o + i * 3, none⟩ = some (.string s.k) := (BW4.out.cell (p := ⟨b, o + i * 3, none⟩) hb).trans X0.out
        have x1 : w4.cell? ⟨b, o + i * 3 + 1, none⟩ = some (.string s.v) := (BW4.out.cell (p := ⟨b, o + i * 3 + 1, none⟩) hb).trans X1.out
        have x2 : w4.cell? ⟨b, o + i * 3 + 2, none⟩ = some (.int .i64 s.n) := (BW4.out.cell (p := ⟨b, o + i * 3 + 2, none⟩) hb).trans X2.out
        have y0 : w4.cell? ⟨X, 0, none⟩ = some (.string x.k) := (BU4.out.cell (p := ⟨X, 0, none⟩) lX).trans (KX.out.cell 0)
        have y1 : w4.cell? ⟨X, 1, none⟩ = some (.string x.v) := (BU4.out.cell (p := ⟨X, 1, none⟩) lX).trans (KX.out.cell 1)
        have y2 : w4.cell? ⟨X, 2, none⟩ = some (.int .i64 x.n) := (BU4.out.cell (p := ⟨X, 2, none⟩) lX).trans (KX.out.cell 2)
        go_quiet (fail)
        go_wp2
        go_roundw
        case rel =>
          have e1 : (L ++ [s]).length = L.length + 1 := by simp
          refine ⟨i + 1, by omega, by go_num, L ++ [s], b4, c4, by rw [e1], by rw [e1]; omega, HL2, NX2, ?_, hide1 (below_drewN B4.out _)⟩
          rw [e1]
          exact hide1 (own_kept OW4.out (below_drewN (Below.refl w4.heap.size w4) _))
        case measure => simp [intOf]; omega
      | false =>
        have qt : Op.bytesLess s.k.toList x.k.toList = false := ct
        have HL2 := hide1 (show L = (l.take (i + 1)).filter (fun y => tLt y.k x.k) by rw [FN.out, if_neg (by rw [ct]; simp), List.append_nil, HL.out])
        clear ct FN HL HO
        go_wp2_with fail
        go_quiet (fail)
        have D3 := hide1 (below_drewN (Below.refl wr.heap.size wr) nq)
        go_upto_region 8 with fail
        generalize wr.drewN nq = v3 at D3 ⊢
        have OW3 := hide1 (own_kept OW.out D3.out)
        have B3 := hide1 (BB.out.trans (D3.out.mono l1r))
        have BU3 := hide1 (show Below u.heap.size u v3 from E2.out.trans (B3.out.mono lu1))
        have BW3 := hide1 (E0.out.trans (BU3.out.mono E0.out.size))
        clear x0 x1 x2 y0 y1 y2
        have x0 : v3.cell? ⟨b, o + i * 3, none⟩ = some (.string s.k) := (BW3.out.cell (p := ⟨b, o + i * 3, none⟩) hb).trans X0.out
        have x1 : v3.cell? ⟨b, o + i * 3 + 1, none⟩ = some (.string s.v) := (BW3.out.cell (p := ⟨b, o + i * 3 + 1, none⟩) hb).trans X1.out
        have x2 : v3.cell? ⟨b, o + i * 3 + 2, none⟩ = some (.int .i64 s.n) := (BW3.out.cell (p := ⟨b, o + i * 3 + 2, none⟩) hb).trans X2.out
        have y0 : v3.cell? ⟨X, 0, none⟩ = some (.string x.k) := (BU3.out.cell (p := ⟨X, 0, none⟩) lX).trans (KX.out.cell 0)
        have y1 : v3.cell? ⟨X, 1, none⟩ = some (.string x.v) := (BU3.out.cell (p := ⟨X, 1, none⟩) lX).trans (KX.out.cell 1)
        have y2 : v3.cell? ⟨X, 2, none⟩ = some (.int .i64 x.n) := (BU3.out.cell (p := ⟨X, 2, none⟩) lX).trans (KX.out.cell 2)
        by_cases ce : s.k = x.k
        · by_cases cn : x.n ≤ s.n
          · have RES := hide1 (put_new (NA.out ⟨ce, cn⟩))
            obtain ⟨q, q'⟩ := text_eq ce
            have qn : decide (x.n ≤ s.n) = true := decide_eq_true cn
            clear NA NX ce
            go_quiet (fail)
            go_wp2
            go_ret
            exact ⟨⟨sb, sc, by rw [RES.out]; rfl, by rw [RES.out]; exact R2.out.laterI (below_drewN B3.out _) R1b.out, by rw [RES.out]; exact N1.out⟩, below_drewN BW3.out _⟩
          · have NX2 := hide1 (NX.out (fun h => cn h.2))
            obtain ⟨q, q'⟩ := text_eq ce
            have qn : decide (x.n ≤ s.n) = false := decide_eq_false cn
            clear NA NX ce
            go_quiet (fail)
            go_wp2
            go_roundw
            case rel => exact ⟨i + 1, by omega, by go_num, L, ob, oc, rfl, by omega, HL2, NX2, hide1 (own_kept OW3.out (below_drewN (Below.refl v3.heap.size v3) _)), hide1 (below_drewN B3.out _)⟩
            case measure => simp [intOf]; omega
        · have NX2 := hide1 (NX.out (fun h => ce h.1))
          obtain ⟨q, q'⟩ := text_ne ce
          clear NA NX ce
          go_quiet (fail)
          go_wp2
          go_roundw
          case rel => exact ⟨i + 1, by omega, by go_num, L, ob, oc, rfl, by omega, HL2, NX2, hide1 (own_kept OW3.out (below_drewN (Below.refl v3.heap.size v3) _)), hide1 (below_drewN B3.out _)⟩
          case measure => simp [intOf]; omega
    · obtain rfl : i = l.length := by omega
      have k1 : ¬ ((l.length : Int) < (l.length : Int)) := by omega
      have HN := hide1 (oldTo_all HO.out)
      have HL2 := hide1 (show L = l.filter (fun y => tLt y.k x.k) by rw [HL.out, List.take_length])
      clear HL HO
      go_upto_region 10 with fail
      have FL := hide1 (And.intro (Blk.new wr 51 #[.string x.k, .string x.v, .int .i64 x.n]) ((Below.refl wr.heap.size wr).alloc (Nat.le_refl _) (.cells #[.string x.k, .string x.v, .int .i64 x.n] 51)))
      have l1w : w1.heap.size ≤ wr.heap.size := Nat.le_trans lw1 BB.out.size
      go_upto_region 11 with (at_builtin; (refine wpList_appA encIm rowIm rfl (.tmp 53) (.tmp 55) rfl w1.heap.size _ L.length L rfl (own_kept OW.out FL.out.2) (some ⟨wr.heap.size, 0, none⟩) 1 1 [x] rfl rfl (rd_one encIm FL.out.1) (by omega) (by have := FL.out.2.size; omega) ?_; intro b4 c4 w4 ho4 hg4 hp4; have OW4 := hide1 ho4; have G4 : Hid (Below w1.heap.size wr w4) := (FL.out.2.mono l1w).trans (gbelow hg4 (fun q hq => (OW.out.lt q hq).1) (by have := FL.out.2.size; omega)); clear ho4 hg4 hp4))
      have B4 := hide1 (BB.out.trans G4.out)
      clear y0 y1 y2
      go_wp2
      go_loopw [8, 6] (fun iv ov wr => ∃ i : Nat, i ≤ l.length ∧ iv = .int .i64 (i : Int) ∧ ∃ (T : List Im) (ob : Option Addr) (oc : Nat), ov = .slice ob T.length oc ∧ T.length ≤ L.length + 1 + i ∧ Hid (T = L ++ x :: (l.take i).filter (fun y => tLt x.k y.k)) ∧ Hid (wr.ownsRow w1.heap.size 51 3 (.slice ob T.length oc) T.length (rowG imC T)) ∧ Hid (Below w1.heap.size w2 wr)) (fun iv _ _ => l.length - (intOf iv).toNat)
      case atStart =>
        have e1 : (L ++ [x]).length = L.length + 1 := by simp
        refine ⟨0, Nat.zero_le _, rfl, L ++ [x], b4, c4, by rw [e1], by rw [e1]; omega, hide1 (by simp), ?_, B4⟩
        rw [e1]
        exact OW4
      case round =>
        clear OW BB BU BW
        obtain ⟨i, hi, rfl, T, ob, oc, rfl, hTi, HT, OW, BB⟩ := hrel
        have BU := hide1 (show Below u.heap.size u wr from E2.out.trans (BB.out.mono lu1))
        have BW := hide1 (E0.out.trans (BU.out.mono E0.out.size))
        have l1r : w1.heap.size ≤ wr.heap.size := Nat.le_trans lw1 BB.out.size
        by_cases hlt : i < l.length
        · have k1 : (i : Int) < (l.length : Int) := by omega
          obtain ⟨b, o, rfl, hb, hc⟩ := HA.out i hlt
          have X0 := hide1 (show w.cell? ⟨b, o + i * 3, none⟩ = some (.string l[i].k) from hc 0 (by omega))
          have X1 := hide1 (show w.cell? ⟨b, o + i * 3 + 1, none⟩ = some (.string l[i].v) from hc 1 (by omega))
          have X2 := hide1 (show w.cell? ⟨b, o + i * 3 + 2, none⟩ = some (.int .i64 l[i].n) from hc 2 (by omega))
          have FN := hide1 (filt_next (p := fun y => tLt x.k y.k) hlt)
          generalize l[i] = s at *
          clear hc
          have x0 : wr.cell? ⟨b, o + i * 3, none⟩ = some (.string s.k) := (BW.out.cell (p := ⟨b, o + i * 3, none⟩) hb).trans X0.out
          have x1 : wr.cell? ⟨b, o + i * 3 + 1, none⟩ = some (.string s.v) := (BW.out.cell (p := ⟨b, o + i * 3 + 1, none⟩) hb).trans X1.out
          have x2 : wr.cell? ⟨b, o + i * 3 + 2, none⟩ = some (.int .i64 s.n) := (BW.out.cell (p := ⟨b, o + i * 3 + 2, none⟩) hb).trans X2.out
          have y0 : wr.cell? ⟨X, 0, none⟩ = some (.string x.k) := (BU.out.cell (p := ⟨X, 0, none⟩) lX).trans (KX.out.cell 0)
          have y1 : wr.cell? ⟨X, 1, none⟩ = some (.string x.v) := (BU.out.cell (p := ⟨X, 1, none⟩) lX).trans (KX.out.cell 1)
          have y2 : wr.cell? ⟨X, 2, none⟩ = some (.int .i64 x.n) := (BU.out.cell (p := ⟨X, 2, none⟩) lX).trans (KX.out.cell 2)
          cases ct : tLt x.k s.k with
          | true =>
            have qt : Op.bytesLess s.k.toList x.k.toList = false := tLt_asym ct
            obtain ⟨q, q'⟩ := text_ne (tLt_ne ct).symm
            have HT2 := hide1 (show T ++ [s] = L ++ x :: (l.take (i + 1)).filter (fun y => tLt x.k y.k) by rw [FN.out, if_pos ct, HT.out]; simp)
            clear ct FN HT
            go_wp2_with fail
            go_quiet (fail)
            have D5 := hide1 (below_drewN (Below.refl wr.heap.size wr) nq)
            go_upto_region 15 with fail
            generalize wr.drewN nq = v5 at D5 ⊢
            have OW5 := hide1 (own_kept OW.out D5.out)
            have B5 := hide1 (BB.out.trans (D5.out.mono l1r))
            have BU5 := hide1 (show Below u.heap.size u v5 from E2.out.trans (B5.out.mono lu1))
            have BW5 := hide1 (E0.out.trans (BU5.out.mono E0.out.size))
            clear x0 x1 x2 y0 y1 y2
            have x0 : v5.cell? ⟨b, o + i * 3, none⟩ = some (.string s.k) := (BW5.out.cell (p := ⟨b, o + i * 3, none⟩) hb).trans X0.out
            have x1 : v5.cell? ⟨b, o + i * 3 + 1, none⟩ = some (.string s.v) := (BW5.out.cell (p := ⟨b, o + i * 3 + 1, none⟩) hb).trans X1.out
            have x2 : v5.cell? ⟨b, o + i * 3 + 2, none⟩ = some (.int .i64 s.n) := (BW5.out.cell (p := ⟨b, o + i * 3 + 2, none⟩) hb).trans X2.out
            have FL := hide1 (And.intro (Blk.new v5 51 #[.string s.k, .string s.v, .int .i64 s.n]) ((Below.refl v5.heap.size v5).alloc (Nat.le_refl _) (.cells #[.string s.k, .string s.v, .int .i64 s.n] 51)))
            have l1w : w1.heap.size ≤ v5.heap.size := Nat.le_trans lw1 B5.out.size
            go_wp2_with (at_builtin; (refine wpList_appA encIm rowIm rfl (.tmp 71) (.tmp 76) rfl w1.heap.size _ T.length T rfl (own_kept OW5.out FL.out.2) (some ⟨v5.heap.size, 0, none⟩) 1 1 [s] rfl rfl (rd_one encIm FL.out.1) (by omega) (by have := FL.out.2.size; omega) ?_; intro b6 c6 w6 ho6 hg6 hp6; have OW6 := hide1 ho6; have G6 : Hid (Below w1.heap.size v5 w6) := (FL.out.2.mono l1w).trans (gbelow hg6 (fun q hq => (OW5.out.lt q hq).1) (by have := FL.out.2.size; omega)); clear ho6 hg6 hp6))
            have B6 := hide1 (B5.out.trans G6.out)
            go_roundw
            case rel =>
              have e1 : (T ++ [s]).length = T.length + 1 := by simp
              refine ⟨i + 1, by omega, by go_num, T ++ [s], b6, c6, by rw [e1], by rw [e1]; omega, HT2, ?_, B6⟩
              rw [e1]
              exact OW6
            case measure => simp [intOf]; omega
          | false =>
            have HT2 := hide1 (show T = L ++ x :: (l.take (i + 1)).filter (fun y => tLt x.k y.k) by rw [FN.out, if_neg (by rw [ct]; simp), List.append_nil, HT.out])
            cases ct2 : tLt s.k x.k with
            | true =>
                have qt : Op.bytesLess s.k.toList x.k.toList = true := ct2
                clear ct ct2 FN HT
                go_wp2_with fail
                go_quiet (fail)
                go_wp2
                go_roundw
                case rel => exact ⟨i + 1, by omega, by go_num, T, ob, oc, rfl, by omega, HT2, hide1 (own_kept OW.out (below_drewN (Below.refl wr.heap.size wr) _)), hide1 (below_drewN BB.out _)⟩
                case measure => simp [intOf]; omega
            | false =>
                have qt : Op.bytesLess s.k.toList x.k.toList = false := ct2
                obtain ⟨q, q'⟩ := text_eq (tLt_tri ct2 ct)
                clear ct ct2 FN HT
                go_wp2_with fail
                go_quiet (fail)
                go_wp2
                go_roundw
                case rel => exact ⟨i + 1, by omega, by go_num, T, ob, oc, rfl, by omega, HT2, hide1 (own_kept OW.out (below_drewN (Below.refl wr.heap.size wr) _)), hide1 (below_drewN BB.out _)⟩
                case measure => simp [intOf]; omega
        · obtain rfl : i = l.length := by omega
          have k1 : ¬ ((l.length : Int) < (l.length : Int)) := by omega
          have HT2 := hide1 (show T = insI l x by rw [HT.out, HL2.out, List.take_length]; rfl)
          have C1 := hide1 (specItemsOk_any a l ca wr (by omega) (HA.out.later BW.out))
          have C2 := hide1 (fun w' (hb : Below wr.heap.size wr w') => specItemsOk_any ob T oc w' (by omega) ((rdG_of_own encIm.len OW.out rfl).later hb))
          have SM := hide1 (R2.out.laterI BB.out R1b.out)
          have OT := hide1 (rdG_of_own encIm.len OW.out rfl)
          clear HT HL2
          by_cases c1 : okIms l
          · rw [decide_eq_true c1] at C1
            by_cases c2 : okIms T
            · rw [decide_eq_true c2] at C2
              have RES := hide1 (show putI l x = T by rw [HT2.out]; exact put_ok HN.out ⟨c1, by rw [← HT2.out]; exact c2⟩)
              go_wp2_with (first | (have := Q1.out; go_at_call 30; refine (C2.out _ Q1.out).mono ?_; rintro e w8 ⟨rfl, hb8⟩; have Q2 := hide1 (Q1.out.trans (hb8.mono Q1.out.size)); clear hb8) | (go_at_call 30; refine C1.out.mono ?_; rintro e w7 ⟨rfl, hb7⟩; have Q1 := hide1 hb7; clear hb7))
              go_ret
              exact ⟨⟨ob, oc, by rw [RES.out]; rfl, by rw [RES.out]; exact OT.out.later Q2.out, fun q o e h => by have h1 := (OW.out.lt q (by subst e; rfl)).1; have h2 := E0.out.size; omega⟩, BW.out.trans (Q2.out.mono BW.out.size)⟩
            · rw [decide_eq_false c2] at C2
              have RES := hide1 (show putI l x = l from put_bad (fun h => c2 (by rw [HT2.out]; exact h.2)))
              go_wp2_with (first | (have := Q1.out; go_at_call 30; refine (C2.out _ Q1.out).mono ?_; rintro e w8 ⟨rfl, hb8⟩; have Q2 := hide1 (Q1.out.trans (hb8.mono Q1.out.size)); clear hb8) | (go_at_call 30; refine C1.out.mono ?_; rintro e w7 ⟨rfl, hb7⟩; have Q1 := hide1 hb7; clear hb7))
              go_ret
              exact ⟨⟨sb, sc, by rw [RES.out]; rfl, by rw [RES.out]; exact SM.out.later Q2.out, by rw [RES.out]; exact N1.out⟩, BW.out.trans (Q2.out.mono BW.out.size)⟩
          · rw [decide_eq_false c1] at C1
            have RES := hide1 (show putI l x = l from put_bad (fun h => c1 h.1))
            go_wp2_with (go_at_call 30; refine C1.out.mono ?_; rintro e w7 ⟨rfl, hb7⟩; have Q1 := hide1 hb7; clear hb7)
            go_ret
            exact ⟨⟨sb, sc, by rw [RES.out]; rfl, by rw [RES.out]; exact SM.out.later Q1.out, by rw [RES.out]; exact N1.out⟩, BW.out.trans (Q1.out.mono BW.out.size)⟩
end Go.Proofs.YtbkhhkknhbddeaaDoor
