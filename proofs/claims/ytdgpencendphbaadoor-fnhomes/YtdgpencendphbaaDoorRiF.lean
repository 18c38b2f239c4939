/- Rings: RingOk, by the program and by the model. -/
import Derived.Test.YtdgpencendphbaaDoorRiE
import Derived.Test.YtdgpencendphbaaDoorRiD
import Derived.Test.YtdgpencendphbaaDoorRiX
import Derived.Deep.QuietTactic
import Derived.BigQuiet
namespace Go.Proofs.YtdgpencendphbaaDoor
open Go.RowKit
set_option linter.unusedVariables false

set_option maxRecDepth 100000 in
set_option maxHeartbeats 1000000 in
theorem equalP_any (a b : Option Addr) (l m : List Sp) (ca cb : Nat) (w : World) (hl : l.length ≤ 1048576) (ha : RdP w a l) (hb : RdP w b m) :
    Calls Tryd.prog 38 #[.slice a l.length ca, .slice b m.length cb] w fun e w' => ∃ x : Bool, e = .returned (.bool x) ∧ (x = true ↔ l = m) ∧ Below w.heap.size w w' := by
  by_cases c0 : l.length = m.length
  · have q0 : ((l.length : Int) != (m.length : Int)) = false := by simp [c0]
    have HA := hide1 ha
    have HB := hide1 hb
    have C0 := hide1 c0
    clear ha hb c0
    go_enter Tryd.func38, Tryd.ntmps38
    go_wp2
    go_loopw [13] (fun iv wr => ∃ i : Nat, i ≤ l.length ∧ iv = .int .i64 (i : Int) ∧ Hid (∀ j, j < i → l[j]? = m[j]?) ∧ Below w.heap.size w wr) (fun iv _ => l.length - (intOf iv).toNat)
    case atStart => exact ⟨0, by omega, rfl, fun j hj => by omega, Below.refl _ _⟩
    case round =>
      obtain ⟨i, hi, rfl, hsame, hbel⟩ := hrel
      by_cases hlt : i < l.length
      · have hltm : i < m.length := by have := C0.out; omega
        obtain ⟨g, rfl, hg, h1⟩ := HA.out.at i hlt
        obtain ⟨g', rfl, hg', h2⟩ := HB.out.at i hltm
        obtain ⟨x0, x1⟩ := h1.below hbel hg
        obtain ⟨y0, y1⟩ := h2.below hbel hg'
        clear h1 h2
        have k1 : (i : Int) < (l.length : Int) := by omega
        have k2 : (i : Int) < (m.length : Int) := by omega
        have e1 := hide1 (List.getElem?_eq_getElem hlt)
        have e2 := hide1 (List.getElem?_eq_getElem hltm)
        generalize l[i] = s at *
        generalize m[i] = t at *
        obtain ⟨sa, sn⟩ := s
        obtain ⟨ta, tn⟩ := t
        dsimp only at x0 x1 y0 y1
        by_cases ce : sa = ta ∧ sn = tn
        · obtain ⟨rfl, rfl⟩ := ce
          go_wp2_with fail
          go_quiet (fail)
          go_wp2
          go_roundw
          case rel =>
            refine ⟨i + 1, by omega, by go_num, fun j hj => ?_, below_drewN hbel _⟩
            by_cases hj2 : j < i
            · exact hsame.out j hj2
            · rw [show j = i by omega, e1.out, e2.out]
          case measure => simp [intOf]; omega
        · have CE := hide1 ce
          clear ce
          by_cases c1 : sa = ta
          · subst c1
            have c2 : ¬ sn = tn := fun e => CE.out ⟨rfl, e⟩
            have q2 : (sn == tn) = false := by rw [beq_eq_false_iff_ne]; exact c2
            have q3 : (sn != tn) = true := by rw [bne, q2]; rfl
            go_wp2_with fail
            go_quiet (fail)
            go_wp2
            go_ret
            refine ⟨false, rfl, ⟨(fun h => by cases h), fun h => ?_⟩, below_drewN hbel _⟩
            rw [h] at e1
            have e3 := Option.some.inj (e1.out.symm.trans e2.out)
            injection e3 with e4 e5
            first | exact absurd (And.intro e4 e5) CE.out | exact absurd (And.intro trivial e5) CE.out | exact absurd e5 c2
          · have q2 : (sa == ta) = false := by rw [beq_eq_false_iff_ne]; exact c1
            have q3 : (sa != ta) = true := by rw [bne, q2]; rfl
            go_wp2_with fail
            go_quiet (fail)
            go_wp2
            go_ret
            refine ⟨false, rfl, ⟨(fun h => by cases h), fun h => ?_⟩, below_drewN hbel _⟩
            rw [h] at e1
            have e3 := Option.some.inj (e1.out.symm.trans e2.out)
            injection e3 with e4 e5
            first | exact absurd (And.intro e4 e5) CE.out | exact absurd (And.intro trivial e5) CE.out | exact absurd e5 c2
      · go_wp2
        go_ret
        refine ⟨true, rfl, ⟨fun _ => ?_, fun _ => rfl⟩, hbel⟩
        refine List.ext_getElem? fun j => ?_
        by_cases hj : j < i
        · exact hsame.out j hj
        · have := C0.out
          rw [List.getElem?_eq_none (by omega), List.getElem?_eq_none (by omega)]
  · have q0 : ((l.length : Int) != (m.length : Int)) = true := by simp; omega
    clear ha hb
    go_enter Tryd.func38, Tryd.ntmps38
    go_wp2
    go_ret
    exact ⟨false, rfl, by simp; intro h; exact c0 (by rw [h]), Below.refl _ _⟩

set_option maxRecDepth 100000 in
set_option maxHeartbeats 2000000 in
theorem implRingOk_any (ao : Option Addr) (l : List Sp) (ca : Nat) (w : World) (hl : l.length ≤ 1048576) (hA : RdP w ao l) (hw : WfN l) (ht : Tens w) :
    Calls Tryd.prog 11 #[riV ao l.length ca] w fun e w' => ∃ x : Bool, e = .returned (.bool x) ∧ (x = true ↔ okRing l) ∧ Below w.heap.size w w' := by
  have hp := ht.pos
  have F0 := hide1 (And.intro (Blk.new w 28 #[.slice ao l.length ca]) ((Below.refl w.heap.size w).alloc (Nat.le_refl _) (.cells #[.slice ao l.length ca] 28)))
  have CN := hide1 (fun w' (hb : Below w.heap.size w w') => implNodes_any ao l ca w' hl (hA.later hb) hw)
  have hnz : (nodesZ l).length ≤ 1048576 := Nat.le_trans (nodesZ_length l) hl
  have HZ := hide1 (fun (R : List Sp) (t : Bool) (h : RingA (nodesZ l) R t) => okRing_Z h)
  have HA := hide1 hA
  have HT := hide1 ht
  clear hA hw ht
  unfold riV at CN ⊢
  generalize nodesZ l = nz at *
  go_enter Tryd.func11, Tryd.ntmps11
  go_wp2_with fail
  generalize (w.alloc (.cells #[.slice ao l.length ca] 28)) = w0 at F0 ⊢
  refine (CN.out w0 F0.out.2).mono ?_
  rintro e w1 ⟨b1, c1, rfl, ho1, hb1⟩
  have R1 := hide1 (F0.out.1.below hb1 F0.out.1.lt)
  have B1 := hide1 (F0.out.2.trans (hb1.mono F0.out.2.size))
  have CR := hide1 (implRing_any b1 nz c1 w1 hnz (rdZ_of_own ho1) (HT.out.below B1.out hp))
  clear ho1 hb1 F0 CN HT
  go_wp2_with fail
  refine CR.out.mono ?_
  rintro e w2 ⟨b2, c2, R, t, rfl, hA2, ho2, hb2⟩
  have HK := hide1 (HZ.out R t hA2)
  have R2 := hide1 (R1.out.below hb2 R1.out.lt)
  have B2 := hide1 (B1.out.trans (hb2.mono B1.out.size))
  have O2 : Hid (OwnR w2 w1.heap.size b2 c2 R) := ho2
  have G3 := hide1 (And.intro (Blk.new w2 28 #[.slice b2 R.length c2]) ((Below.refl w2.heap.size w2).alloc (Nat.le_refl _) (.cells #[.slice b2 R.length c2] 28)))
  have x1 : (w2.alloc (.cells #[.slice b2 R.length c2] 28)).cell? ⟨w.heap.size, 0, none⟩ = some (.slice ao l.length ca) := (G3.out.2.cell (p := ⟨w.heap.size, 0, none⟩) R2.out.lt).trans (R2.out.cell 0)
  have hw2 := R2.out.lt
  have CE := hide1 (fun o => equalP_any ao b2 l R ca c2 (w2.alloc o) hl ((HA.out.later B2.out).later ((Below.refl _ _).alloc (Nat.le_refl _) o)) (O2.out.rd.later ((Below.refl _ _).alloc (Nat.le_refl _) o)))
  clear ho2 hb2 hA2 HZ CR R1 B1
  rcases t with _ | _
  · have HN := hide1 (show ¬ okRing l from fun h => by have := (HK.out.2 h).1; cases this)
    go_wp2
    go_ret
    first
      | exact ⟨false, rfl, ⟨(fun h => by cases h), fun h => absurd h HN.out⟩, B2.out.trans (G3.out.2.mono B2.out.size)⟩
      | exact .inl ⟨rfl, HN.out, B2.out.trans (G3.out.2.mono B2.out.size)⟩
  · have HK2 := hide1 (show l = R ↔ okRing l from ⟨fun h => HK.out.1 ⟨rfl, h⟩, fun h => (HK.out.2 h).2⟩)
    clear HK
    go_wp2_with fail
    refine (CE.out _).mono ?_
    rintro e w4 ⟨x, rfl, hx, hb4⟩
    have HX := hide1 (show x = true ↔ okRing l from hx.trans HK2.out)
    have B4 := hide1 (B2.out.trans ((G3.out.2.trans (hb4.mono G3.out.2.size)).mono B2.out.size))
    clear hx hb4 CE
    go_wp2
    go_ret
    exact ⟨x, rfl, HX.out, B4.out⟩

set_option maxRecDepth 100000 in
set_option maxHeartbeats 2000000 in
theorem specRingOk_any (ao : Option Addr) (l : List Sp) (ca : Nat) (w : World) (hl : l.length ≤ 1048576) (hA : RdP w ao l) :
    Calls Tryd.prog 30 #[riV ao l.length ca] w fun e w' => ∃ x : Bool, e = .returned (.bool x) ∧ (x = true ↔ okRing l) ∧ Below w.heap.size w w' := by
  have F0 := hide1 (And.intro (Blk.new w 28 #[.slice ao l.length ca]) ((Below.refl w.heap.size w).alloc (Nat.le_refl _) (.cells #[.slice ao l.length ca] 28)))
  have CN := hide1 (fun w' (hb : Below w.heap.size w w') => specNodes_any ao l ca w' hl (hA.later hb))
  have hnz : (nodesL l).length ≤ 1048576 := by rw [← nodesB_all]; exact Nat.le_trans (nodesB_length l 10) (by omega)
  have HZ := hide1 (fun (R : List Sp) (t : Bool) (h : RingA (nodesL l) R t) => And.intro (okRing_L h) (RingA.small h))
  have HA := hide1 hA
  clear hA
  unfold riV at CN ⊢
  generalize nodesL l = nz at *
  go_enter Tryd.func30, Tryd.ntmps30
  go_wp2_with fail
  generalize (w.alloc (.cells #[.slice ao l.length ca] 28)) = w0 at F0 ⊢
  refine (CN.out w0 F0.out.2).mono ?_
  rintro e w1 ⟨b1, c1, rfl, ho1, hb1⟩
  have R1 := hide1 (F0.out.1.below hb1 F0.out.1.lt)
  have B1 := hide1 (F0.out.2.trans (hb1.mono F0.out.2.size))
  have CR := hide1 (specRing_any b1 nz c1 w1 hnz (rdZ_of_own ho1))
  clear ho1 hb1 F0 CN
  go_wp2_with fail
  refine CR.out.mono ?_
  rintro e w2 ⟨b2, c2, R, t, rfl, hA2, ho2, hb2⟩
  have HK := hide1 (HZ.out R t hA2).1
  have hRm := (HZ.out R t hA2).2
  have R2 := hide1 (R1.out.below hb2 R1.out.lt)
  have B2 := hide1 (B1.out.trans (hb2.mono B1.out.size))
  have O2 : Hid (OwnR w2 w1.heap.size b2 c2 R) := ho2
  have G3 := hide1 (And.intro (Blk.new w2 28 #[.slice b2 R.length c2]) ((Below.refl w2.heap.size w2).alloc (Nat.le_refl _) (.cells #[.slice b2 R.length c2] 28)))
  have hw2 := R2.out.lt
  clear ho2 hb2 hA2 HZ CR R1 B1
  rcases t with _ | _
  · have HN := hide1 (show ¬ okRing l from fun h => by have := (HK.out.2 h).1; cases this)
    go_wp2
    go_ret
    first
      | exact ⟨false, rfl, ⟨(fun h => by cases h), fun h => absurd h HN.out⟩, B2.out.trans (G3.out.2.mono B2.out.size)⟩
      | exact .inl ⟨rfl, HN.out, B2.out.trans (G3.out.2.mono B2.out.size)⟩
  · have HK2 := hide1 (show l = R ↔ okRing l from ⟨fun h => HK.out.1 ⟨rfl, h⟩, fun h => (HK.out.2 h).2⟩)
    clear HK
    have x1 : (w2.alloc (.cells #[.slice b2 R.length c2] 28)).cell? ⟨w.heap.size, 0, none⟩ = some (.slice ao l.length ca) := (G3.out.2.cell (p := ⟨w.heap.size, 0, none⟩) hw2).trans (R2.out.cell 0)
    by_cases c0 : R.length = l.length
    · have q0 : ((R.length : Int) != (l.length : Int)) = false := by simp [c0]
      have C0 := hide1 c0
      have HRA := hide1 (HA.out.later B2.out)
      have HRB := hide1 O2.out.rd
      clear c0 HA O2
      go_wp2
      have BB3 := hide1 (B2.out.trans (G3.out.2.mono B2.out.size))
      have RA3 := hide1 (HRA.out.later G3.out.2)
      have RB3 := hide1 (HRB.out.later G3.out.2)
      have V3 := hide1 (And.intro (R2.out.below G3.out.2 R2.out.lt) G3.out.1)
      clear x1
      generalize (w2.alloc (.cells #[.slice b2 R.length c2] 28)) = w3 at *
      have hla := V3.out.1.lt
      have hlb := V3.out.2.lt
      clear G3 HRA HRB R2 B2
      go_loopw [5] (fun iv wr => ∃ i : Nat, i ≤ R.length ∧ iv = .int .i64 (i : Int) ∧ Hid (∀ j, j < i → R[j]? = l[j]?) ∧ Below w3.heap.size w3 wr) (fun iv _ => R.length - (intOf iv).toNat)
      case atStart => exact ⟨0, by omega, rfl, fun j hj => by omega, Below.refl _ _⟩
      case round =>
        obtain ⟨i, hi, rfl, hsame, hbel⟩ := hrel
        have xa : wr.cell? ⟨w.heap.size, 0, none⟩ = some (.slice ao l.length ca) := (hbel.cell (p := ⟨w.heap.size, 0, none⟩) hla).trans (V3.out.1.cell 0)
        have xb : wr.cell? ⟨w2.heap.size, 0, none⟩ = some (.slice b2 R.length c2) := (hbel.cell (p := ⟨w2.heap.size, 0, none⟩) hlb).trans (V3.out.2.cell 0)
        by_cases hlt : i < R.length
        · have hltm : i < l.length := by have := C0.out; omega
          obtain ⟨g, rfl, hg, h1⟩ := RB3.out.at i hlt
          obtain ⟨g', rfl, hg', h2⟩ := RA3.out.at i hltm
          obtain ⟨x0, x1⟩ := h1.below hbel hg
          obtain ⟨y0, y1⟩ := h2.below hbel hg'
          clear h1 h2
          have k1 : (i : Int) < (R.length : Int) := by omega
          have k2 : (i : Int) < (l.length : Int) := by omega
          have e1 := hide1 (List.getElem?_eq_getElem hlt)
          have e2 := hide1 (List.getElem?_eq_getElem hltm)
          generalize R[i] = s at *
          generalize l[i] = t at *
          obtain ⟨sa, sn⟩ := s
          obtain ⟨ta, tn⟩ := t
          dsimp only at x0 x1 y0 y1
          by_cases ce : sa = ta ∧ sn = tn
          · obtain ⟨rfl, rfl⟩ := ce
            go_wp2_with fail
            go_quiet (fail)
            go_wp2
            go_roundw
            case rel =>
              refine ⟨i + 1, by omega, by go_num, fun j hj => ?_, below_drewN hbel _⟩
              by_cases hj2 : j < i
              · exact hsame.out j hj2
              · rw [show j = i by omega, e1.out, e2.out]
            case measure => simp [intOf]; omega
          · have HN := hide1 (show ¬ okRing l from fun h => by
              have e := HK2.out.2 h
              have e3 := e1.out.symm.trans ((congrArg (fun z : List Sp => z[i]?) e).symm.trans e2.out)
              have e4 := Option.some.inj e3
              injection e4 with e5 e6
              exact ce ⟨e5, e6⟩)
            by_cases c1 : sa = ta
            · subst c1
              have c2 : ¬ sn = tn := fun e => ce ⟨rfl, e⟩
              have q2 : (sn == tn) = false := by rw [beq_eq_false_iff_ne]; exact c2
              have q3 : (sn != tn) = true := by rw [bne, q2]; rfl
              clear ce
              go_wp2_with fail
              go_quiet (fail)
              go_wp2
              go_ret
              first
                | exact ⟨false, rfl, ⟨(fun h => by cases h), fun h => absurd h HN.out⟩, BB3.out.trans ((below_drewN hbel _).mono BB3.out.size)⟩
                | exact .inl ⟨rfl, HN.out, BB3.out.trans ((below_drewN hbel _).mono BB3.out.size)⟩
            · have q2 : (sa == ta) = false := by rw [beq_eq_false_iff_ne]; exact c1
              have q3 : (sa != ta) = true := by rw [bne, q2]; rfl
              clear ce
              go_wp2_with fail
              go_quiet (fail)
              go_wp2
              go_ret
              first
                | exact ⟨false, rfl, ⟨(fun h => by cases h), fun h => absurd h HN.out⟩, BB3.out.trans ((below_drewN hbel _).mono BB3.out.size)⟩
                | exact .inl ⟨rfl, HN.out, BB3.out.trans ((below_drewN hbel _).mono BB3.out.size)⟩
        · have HY := hide1 (show okRing l from HK2.out.1 (by
            refine List.ext_getElem? fun j => ?_
            by_cases hj : j < i
            · exact (hsame.out j hj).symm
            · have := C0.out
              rw [List.getElem?_eq_none (by omega), List.getElem?_eq_none (by omega)]))
          have q9 : ¬ (i : Int) < (R.length : Int) := by omega
          go_wp2
          go_ret
          first
            | exact ⟨true, rfl, ⟨fun _ => HY.out, fun _ => rfl⟩, BB3.out.trans (hbel.mono BB3.out.size)⟩
            | exact .inr ⟨rfl, HY.out, BB3.out.trans (hbel.mono BB3.out.size)⟩
    · have q0 : ((R.length : Int) != (l.length : Int)) = true := by simp; omega
      have HN := hide1 (show ¬ okRing l from fun h => c0 (by rw [HK2.out.2 h]))
      clear c0
      go_wp2
      go_ret
      first
        | exact ⟨false, rfl, ⟨(fun h => by cases h), fun h => absurd h HN.out⟩, B2.out.trans (G3.out.2.mono B2.out.size)⟩
        | exact .inl ⟨rfl, HN.out, B2.out.trans (G3.out.2.mono B2.out.size)⟩
end Go.Proofs.YtdgpencendphbaaDoor
