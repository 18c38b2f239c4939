/- Drawn nodes; what the laws of rings need. -/
import Derived.Test.YtdgpencendphbaaDoorRiF
import Derived.Test.YtdgpencendphbaaDoorDrawWd
import Derived.Test.YtdgpencendphbaaDoorDrawPl
import Derived.Test.YtdgpencendphbaaDoorTxV
namespace Go.Proofs.YtdgpencendphbaaDoor
open Go.RowKit
set_option linter.unusedVariables false

theorem big10_no (a : Option Addr) (len cap : Nat) (w : World) (h : len ≤ 1048576) : Calls Tryd.prog 8 #[.slice a len cap] w fun e w' => e = .returned (.bool false) ∧ w = w' := by
  have q : decide ((1048576 : Int) < (len : Int)) = false := decide_eq_false (by omega)
  go_enter Tryd.func8, Tryd.ntmps8
  go_wp2
  go_ret
  exact ⟨by first | rfl | (show Ending.returned (.bool (decide ((1048576 : Int) < (len : Int)))) = _; rw [q]), rfl⟩
theorem big10_yes (a : Option Addr) (len cap : Nat) (w : World) (h : ¬ len ≤ 1048576) : Calls Tryd.prog 8 #[.slice a len cap] w fun e w' => e = .returned (.bool true) ∧ w = w' := by
  have q : decide ((1048576 : Int) < (len : Int)) = true := decide_eq_true (by omega)
  go_enter Tryd.func8, Tryd.ntmps8
  go_wp2
  go_ret
  exact ⟨by first | rfl | (show Ending.returned (.bool (decide ((1048576 : Int) < (len : Int)))) = _; rw [q]), rfl⟩
theorem Code.mono {B B' : Nat} {w : World} {a : Option Addr} {len : Nat} (h : Code B w a len) (hB : B ≤ B') : Code B' w a len :=
  ⟨h.le, fun j hj => by obtain ⟨b, o, v, h1, h2, h3, h4⟩ := h.cells j hj; exact ⟨b, o, v, h1, by omega, h3, h4⟩⟩

set_option maxRecDepth 100000 in
theorem lawInZ_any (ao : Option Addr) (L : List Int) (ca : Nat) (x : Int) (w : World) (hl : L.length ≤ 1048576) (hA : RdZ w ao L) :
    Calls Tryd.prog 17 #[.slice ao L.length ca, .int .i64 x] w fun e w' => e = .returned (.bool (decide (x ∈ L))) ∧ w' = w := by
  have HA := hide1 hA
  clear hA
  go_enter Tryd.func17, Tryd.ntmps17
  go_wp2
  go_loop [5] (fun iv => ∃ i : Nat, i ≤ L.length ∧ iv = .int .i64 (i : Int) ∧ Hid (∀ j (h : j < L.length), j < i → L[j] ≠ x)) (fun iv => L.length - (intOf iv).toNat)
  case atStart => exact ⟨0, by omega, rfl, fun j _ h => by omega⟩
  case round =>
    obtain ⟨i, hi, rfl, hno⟩ := hrel
    by_cases hlt : i < L.length
    · have k1 : (i : Int) < (L.length : Int) := by omega
      obtain ⟨b, o, rfl, hb, hc⟩ := HA.out i hlt
      have HM := hide1 (List.getElem_mem hlt)
      have HI := hide1 (fun (h : L[i] ≠ x) j (hj : j < L.length) (h2 : j < i + 1) => show L[j] ≠ x from by
        by_cases e : j < i
        · exact hno.out j hj e
        · obtain rfl : j = i := by omega
          exact h)
      generalize L[i] = y at *
      by_cases hq : y = x
      · subst hq
        have HR := hide1 (decide_eq_true HM.out)
        have q : (y == y) = true := by simp
        go_wp2
        go_ret
        exact ⟨by rw [HR.out]; rfl, rfl⟩
      · have q : (y == x) = false := by rw [beq_eq_false_iff_ne]; exact hq
        have HN := hide1 (HI.out hq)
        go_wp2
        go_round
        case rel => exact ⟨i + 1, by omega, by go_num, HN⟩
        case measure => simp [intOf]; omega
    · have HR := hide1 (show decide (x ∈ L) = false from decide_eq_false (fun h => by
        obtain ⟨j, hj, e⟩ := List.getElem_of_mem h
        exact hno.out j hj (by omega) e))
      go_wp2
      go_ret
      exact ⟨by rw [HR.out]; rfl, rfl⟩

set_option maxRecDepth 100000 in
theorem sameIntsZ_any (a b : Option Addr) (l m : List Int) (ca cb : Nat) (w : World) (hl : l.length ≤ 1048576) (ha : RdZ w a l) (hb : RdZ w b m) (he : l = m) :
    Calls Tryd.prog 12 #[.slice a l.length ca, .slice b m.length cb] w fun e w' => e = .returned (.bool true) ∧ Below w.heap.size w w' := by
  subst he
  have q0 : ((l.length : Int) != (l.length : Int)) = false := by simp
  have HA := hide1 ha
  have HB := hide1 hb
  clear ha hb
  go_enter Tryd.func12, Tryd.ntmps12
  go_wp2
  go_loopw [5] (fun iv wr => ∃ i : Nat, i ≤ l.length ∧ iv = .int .i64 (i : Int) ∧ Below w.heap.size w wr) (fun iv _ => l.length - (intOf iv).toNat)
  case atStart => exact ⟨0, by omega, rfl, Below.refl _ _⟩
  case round =>
    obtain ⟨i, hi, rfl, hbel⟩ := hrel
    by_cases hlt : i < l.length
    · obtain ⟨g, o, rfl, hg, h1⟩ := HA.out i hlt
      obtain ⟨g', o', rfl, hg', h2⟩ := HB.out i hlt
      have x0 := (hbel.cell (p := ⟨g, o + i, none⟩) hg).trans h1
      have y0 := (hbel.cell (p := ⟨g', o' + i, none⟩) hg').trans h2
      clear h1 h2
      have k1 : (i : Int) < (l.length : Int) := by omega
      generalize l[i] = s at *
      have q : (s != s) = false := by simp
      go_wp2_with fail
      go_quiet (fail)
      go_wp2
      go_roundw
      case rel => exact ⟨i + 1, by omega, by go_num, below_drewN hbel _⟩
      case measure => simp [intOf]; omega
    · go_wp2
      go_ret
      exact ⟨rfl, hbel⟩

/-- Nodes that were drawn, all below v. -/
def NdI (acc : List Int) (v : Nat) : Prop := acc.Pairwise (· < ·) ∧ (∀ x ∈ acc, 1 ≤ x ∧ x < (v : Int)) ∧ (2 ≤ v → 1 ≤ acc.length) ∧ (3 ≤ v → 2 ≤ acc.length)
theorem NdI.add {acc : List Int} {v : Nat} (h : NdI acc v) (hv : 1 ≤ v) : NdI (acc ++ [(v : Int)]) (v + 1) := by
  obtain ⟨h1, h2, h3, h4⟩ := h
  refine ⟨?_, ?_, ?_, ?_⟩
  · rw [List.pairwise_append]
    exact ⟨h1, by simp, fun a ha b hb => by simp at hb; have := h2 a ha; omega⟩
  · intro x hx
    rcases List.mem_append.1 hx with h | h
    · have := h2 x h; omega
    · simp at h; omega
  · intro _; simp
  · intro _; have := h3 (by omega); simp; omega
theorem NdI.skip {acc : List Int} {v : Nat} (h : NdI acc v) (hv : 3 ≤ v) : NdI acc (v + 1) := by
  obtain ⟨h1, h2, h3, h4⟩ := h
  exact ⟨h1, fun x hx => by have := h2 x hx; omega, fun _ => h3 (by omega), fun _ => h4 hv⟩
theorem NdI.ok {acc : List Int} {v : Nat} (h : NdI acc v) (hv : v ≤ 10) (hl : acc.length ≤ 6) (he : v = 10 ∨ 6 ≤ acc.length) : okNds acc ∧ 2 ≤ acc.length := by
  have h2 : 2 ≤ acc.length := by
    rcases he with e | e
    · exact h.2.2.2 (by omega)
    · omega
  exact ⟨okNds_of ⟨by omega, hl⟩ h.1 (fun x hx => by have := h.2.1 x hx; omega), h2⟩

set_option maxRecDepth 100000 in
set_option maxHeartbeats 2000000 in
theorem drawNodes_any (w : World) (a : Option Addr) (len cap : Nat) (hc : Code w.heap.size w a len) :
    Calls Tryd.prog 9 #[.slice a len cap] w fun e w' => ∃ (L : List Int) (b : Option Addr) (c : Nat), e = .returned (.slice b L.length c) ∧ okNds L ∧ 2 ≤ L.length ∧ w'.ownsRow w.heap.size 3 1 (.slice b L.length c) L.length (iz L) ∧ Below w.heap.size w w' := by
  obtain ⟨i0, hi, hz0, hz1, hz2⟩ := info_parts Tryd.infoZ
  go_enter Tryd.func9, Tryd.ntmps9
  go_wp2_with fail
  refine (new_any w a len cap hc).mono ?_
  rintro e w2 ⟨g, rfl, h2, hb2⟩
  have hgl := h2.lt
  have hba := h2.base
  have hBg := h2.cur.1
  have H := hide1 h2
  have B2 := hide1 hb2
  clear h2 hc hb2
  go_wp2
  go_loopw [4, 5] (fun v iv wr => ∃ (i : Nat) (acc : List Int), 1 ≤ i ∧ i ≤ 10 ∧ iv = .int .i64 (i : Int) ∧ acc.length ≤ 6 ∧ Hid (NdI acc i) ∧ wr.ownsRow w2.heap.size 3 1 v acc.length (iz acc) ∧ Hid (Drw w.heap.size wr a len cap g) ∧ Hid (w2.grownBy wr (some g))) (fun _ iv _ => 10 - (intOf iv).toNat)
  case atStart => exact ⟨1, [], by omega, by omega, rfl, by simp, hide1 ⟨List.Pairwise.nil, (fun x hx => by cases hx), (fun h => by omega), (fun h => by omega)⟩, owns_empty w2 _, hide1 (H.out.later ((Below.refl _ _).alloc (Nat.le_refl _) _)), World.grownBy_alloc w2 _ _⟩
  case round =>
    obtain ⟨i, acc, hi1, hin, rfl, hle, hN, hown, hD, hgr⟩ := hrel
    have hbs := hgr.out.size
    obtain ⟨vo, vc, rfl⟩ := own_slice hown
    by_cases c1 : i ≤ 9
    · have k1 : (i : Int) ≤ 9 := by omega
      by_cases c2 : acc.length < 6
      · have k2 : (acc.length : Int) < 6 := by omega
        have HAd := hide1 (hN.out.add hi1)
        by_cases c3 : i ≤ 2
        · have k3 : (i : Int) ≤ 2 := by omega
          go_wp2_with (at_builtin; (refine wpList_push1 rfl _ _ 24 rfl w2.heap.size 3 i0 (.int .i64 0) 8 Tryd.underlying24 hi hz0 hz1 hz2 rfl (by decide) _ acc.length (iz acc) rfl hown _ rfl rfl (by omega) hbs ?_; intro v' w5 hown' hb'))
          go_roundw
          case rel =>
            refine ⟨i + 1, acc ++ [(i : Int)], by omega, by omega, by go_num, by simp; omega, HAd, ?_, hide1 (hD.out.keep hb' (by omega) hgl), hide1 ?_⟩
            · rw [iz_append, List.length_append]; exact hown'
            · refine ⟨hb'.os.trans hgr.out.os, hb'.tape.trans hgr.out.tape, hb'.output.trans hgr.out.output, Nat.le_trans hgr.out.size hb'.size, fun k hk hne => ?_⟩
              rw [hb'.block k hk, hgr.out.block k hk hne]
          case measure => simp [intOf]; omega
        · have k3 : ¬ (i : Int) ≤ 2 := by omega
          have HSk := hide1 (hN.out.skip (by omega))
          have HO := hide1 hown
          have CO := hide1 (once_any hD.out 3 (by omega))
          clear hown
          go_wp2_with fail
          refine CO.out.mono ?_
          rintro e w4 ⟨y, rfl, hD4, hb4⟩
          have hown4 : w4.ownsRow w2.heap.size 3 1 (.slice vo acc.length vc) acc.length (iz acc) := gown hb4 HO.out (fun k hk e => by have := (HO.out.lt k hk).1; injection e with e; omega)
          have hg4 := hide1 (gtrans hgr.out hb4)
          have hs4 : w2.heap.size ≤ w4.heap.size := hg4.out.size
          have D4 := hide1 hD4
          clear hD4 hb4 CO HO
          rcases y with _ | _
          · go_wp2
            go_roundw
            case rel => exact ⟨i + 1, acc, by omega, by omega, by go_num, hle, HSk, hown4, D4, hg4⟩
            case measure => simp [intOf]; omega
          · go_wp2_with (at_builtin; (refine wpList_push1 rfl _ _ 24 rfl w2.heap.size 3 i0 (.int .i64 0) 8 Tryd.underlying24 hi hz0 hz1 hz2 rfl (by decide) _ acc.length (iz acc) rfl hown4 _ rfl rfl (by omega) hs4 ?_; intro v' w5 hown' hb'))
            go_roundw
            case rel =>
              refine ⟨i + 1, acc ++ [(i : Int)], by omega, by omega, by go_num, by simp; omega, HAd, ?_, hide1 (D4.out.keep hb' (by omega) hgl), hide1 ?_⟩
              · rw [iz_append, List.length_append]; exact hown'
              · refine ⟨hb'.os.trans hg4.out.os, hb'.tape.trans hg4.out.tape, hb'.output.trans hg4.out.output, Nat.le_trans hg4.out.size hb'.size, fun k hk hne => ?_⟩
                rw [hb'.block k hk, hg4.out.block k hk hne]
            case measure => simp [intOf]; omega
      · have k2 : ¬ (acc.length : Int) < 6 := by omega
        have HF := hide1 (hN.out.ok hin hle (.inr (by omega)))
        have HO := hide1 (own_base (base := w.heap.size) hown (by have := B2.out.size; omega))
        have HB := hide1 (B2.out.trans (gbelow hgr.out (fun k hk => by injection hk with e; omega) B2.out.size))
        clear hown
        go_wp2
        go_ret
        exact ⟨acc, vo, vc, rfl, HF.out.1, HF.out.2, HO.out, HB.out⟩
    · have k1 : ¬ (i : Int) ≤ 9 := by omega
      have HF := hide1 (hN.out.ok hin hle (.inl (by omega)))
      have HO := hide1 (own_base (base := w.heap.size) hown (by have := B2.out.size; omega))
      have HB := hide1 (B2.out.trans (gbelow hgr.out (fun k hk => by injection hk with e; omega) B2.out.size))
      clear hown
      go_wp2
      go_ret
      exact ⟨acc, vo, vc, rfl, HF.out.1, HF.out.2, HO.out, HB.out⟩
end Go.Proofs.YtdgpencendphbaaDoor
