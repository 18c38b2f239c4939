/- Items compared, row by row: the program's and the model's. -/
import Derived.Test.YtcahaimefgkmiaaImE
import Derived.Test.YtcahaimefgkmiaaTE
import Derived.Test.YtcahaimefgkmiaaBoP
import Derived.Deep.RegionHeld3
import Derived.Deep.DeepCutAuto
namespace Go.Proofs.Ytcahaimefgkmiaa
open Go.RowKit
set_option linter.unusedVariables false

set_option maxRecDepth 100000 in
set_option maxHeartbeats 2000000 in
theorem equalIm_any (a b : Option Addr) (l m : List Im) (ca cb : Nat) (w : World) (hl : l.length ≤ 1048576) (ha : RdG imC 3 w a l) (hb : RdG imC 3 w b m) :
    Calls Try.prog 73 #[.slice a l.length ca, .slice b m.length cb] w fun e w' => e = .returned (.bool (bo (l = m))) ∧ Below w.heap.size w w' := by
  by_cases c0 : l.length = m.length
  case neg =>
    have q0 : ((l.length : Int) != (m.length : Int)) = true := by simp; omega
    have RES := hide1 (show bo (l = m) = false from bo_f (fun h => c0 (by rw [h])))
    clear ha hb c0
    go_enter Try.func73, Try.ntmps73
    go_wp2
    go_ret
    exact ⟨by rw [RES.out]; rfl, Below.refl _ _⟩
  have q0 : ((l.length : Int) != (m.length : Int)) = false := by simp [c0]
  have HA := hide1 ha
  have HB := hide1 hb
  have C0 := hide1 c0
  clear ha hb c0
  go_enter Try.func73, Try.ntmps73
  go_wp2
  go_loopw [13] (fun iv wr => ∃ i : Nat, i ≤ l.length ∧ iv = .int .i64 (i : Int) ∧ Hid (∀ j, j < i → l[j]? = m[j]?) ∧ Below w.heap.size w wr) (fun iv _ => l.length - (intOf iv).toNat)
  case atStart => exact ⟨0, by omega, rfl, hide1 (fun j hj => by omega), Below.refl _ _⟩
  case round =>
    obtain ⟨i, hi, rfl, hs, hbel⟩ := hrel
    by_cases hlt : i < l.length
    · have hltm : i < m.length := by have := C0.out; omega
      have k1 : (i : Int) < (l.length : Int) := by omega
      have k2 : (i : Int) < (m.length : Int) := by omega
      obtain ⟨b1, o1, rfl, hb1, h1⟩ := HA.out i hlt
      obtain ⟨b2, o2, rfl, hb2, h2⟩ := HB.out i hltm
      have x0 : wr.cell? ⟨b1, o1 + i * 3, none⟩ = some (.string l[i].k) := (hbel.cell (p := ⟨b1, o1 + i * 3, none⟩) hb1).trans (h1 0 (by omega))
      have x1 : wr.cell? ⟨b1, o1 + i * 3 + 1, none⟩ = some (.string l[i].v) := (hbel.cell (p := ⟨b1, o1 + i * 3 + 1, none⟩) hb1).trans (h1 1 (by omega))
      have x2 : wr.cell? ⟨b1, o1 + i * 3 + 2, none⟩ = some (.int .i64 l[i].n) := (hbel.cell (p := ⟨b1, o1 + i * 3 + 2, none⟩) hb1).trans (h1 2 (by omega))
      have y0 : wr.cell? ⟨b2, o2 + i * 3, none⟩ = some (.string m[i].k) := (hbel.cell (p := ⟨b2, o2 + i * 3, none⟩) hb2).trans (h2 0 (by omega))
      have y1 : wr.cell? ⟨b2, o2 + i * 3 + 1, none⟩ = some (.string m[i].v) := (hbel.cell (p := ⟨b2, o2 + i * 3 + 1, none⟩) hb2).trans (h2 1 (by omega))
      have y2 : wr.cell? ⟨b2, o2 + i * 3 + 2, none⟩ = some (.int .i64 m[i].n) := (hbel.cell (p := ⟨b2, o2 + i * 3 + 2, none⟩) hb2).trans (h2 2 (by omega))
      clear h1 h2
      have e1 := hide1 (List.getElem?_eq_getElem hlt)
      have e2 := hide1 (List.getElem?_eq_getElem hltm)
      have hqv : ∀ w, (Op.equalIn 10000 65 (.agg #[.string l[i].k, .string l[i].v, .int .i64 l[i].n]) (.agg #[.string m[i].k, .string m[i].v, .int .i64 m[i].n])).run Try.prog w = .ok (decide (l[i] = m[i])) w := fun w => eqIm_dec 9998 l[i] m[i] w
      generalize l[i] = s at *
      generalize m[i] = t at *
      by_cases ce : s = t
      · have CE := hide1 ce
        rw [decide_eq_true ce] at hqv
        clear ce
        go_wp2_with fail
        go_quiet (fail)
        go_wp2
        go_roundw
        case rel => exact ⟨i + 1, by omega, by go_num, hide1 (fun j hj => by
          by_cases e : j < i
          · exact hs.out j e
          · obtain rfl : j = i := by omega
            rw [e1.out, e2.out, CE.out]), below_drewN hbel _⟩
        case measure => simp [intOf]; omega
      · have RES := hide1 (show bo (l = m) = false from bo_f (fun h => ce (by
          have h1 := e1.out
          have h2 := e2.out
          subst h
          rw [h1] at h2
          injection h2)))
        rw [decide_eq_false ce] at hqv
        clear ce
        go_wp2_with fail
        go_quiet (fail)
        go_wp2
        go_ret
        exact ⟨by rw [RES.out]; rfl, below_drewN hbel _⟩
    · obtain rfl : i = l.length := by omega
      have RES := hide1 (show bo (l = m) = true from bo_t (List.ext_getElem? (fun j => by
        by_cases h : j < l.length
        · exact hs.out j h
        · rw [List.getElem?_eq_none (by omega), List.getElem?_eq_none (by have := C0.out; omega)])))
      go_wp2
      go_ret
      exact ⟨by rw [RES.out]; rfl, hbel⟩
set_option maxRecDepth 100000 in
set_option maxHeartbeats 2000000 in
theorem sameIms_any (a b : Option Addr) (l m : List Im) (ca cb : Nat) (w : World) (hl : l.length ≤ 1048576) (ha : RdG imC 3 w a l) (hb : RdG imC 3 w b m) :
    Calls Try.prog 51 #[.slice a l.length ca, .slice b m.length cb] w fun e w' => e = .returned (.bool (bo (l = m))) ∧ Below w.heap.size w w' := by
  by_cases c0 : l.length = m.length
  case neg =>
    have q0 : ((l.length : Int) != (m.length : Int)) = true := by simp; omega
    have RES := hide1 (show bo (l = m) = false from bo_f (fun h => c0 (by rw [h])))
    clear ha hb c0
    go_enter Try.func51, Try.ntmps51
    go_wp2
    go_ret
    exact ⟨by rw [RES.out]; rfl, Below.refl _ _⟩
  have q0 : ((l.length : Int) != (m.length : Int)) = false := by simp [c0]
  have HA := hide1 ha
  have HB := hide1 hb
  have C0 := hide1 c0
  clear ha hb c0
  go_enter Try.func51, Try.ntmps51
  go_wp2
  go_loopw [5] (fun iv wr => ∃ i : Nat, i ≤ l.length ∧ iv = .int .i64 (i : Int) ∧ Hid (∀ j, j < i → l[j]? = m[j]?) ∧ Below w.heap.size w wr) (fun iv _ => l.length - (intOf iv).toNat)
  case atStart => exact ⟨0, by omega, rfl, hide1 (fun j hj => by omega), Below.refl _ _⟩
  case round =>
    obtain ⟨i, hi, rfl, hs, hbel⟩ := hrel
    by_cases hlt : i < l.length
    · have hltm : i < m.length := by have := C0.out; omega
      have k1 : (i : Int) < (l.length : Int) := by omega
      have k2 : (i : Int) < (m.length : Int) := by omega
      obtain ⟨b1, o1, rfl, hb1, h1⟩ := HA.out i hlt
      obtain ⟨b2, o2, rfl, hb2, h2⟩ := HB.out i hltm
      have x0 : wr.cell? ⟨b1, o1 + i * 3, none⟩ = some (.string l[i].k) := (hbel.cell (p := ⟨b1, o1 + i * 3, none⟩) hb1).trans (h1 0 (by omega))
      have x1 : wr.cell? ⟨b1, o1 + i * 3 + 1, none⟩ = some (.string l[i].v) := (hbel.cell (p := ⟨b1, o1 + i * 3 + 1, none⟩) hb1).trans (h1 1 (by omega))
      have x2 : wr.cell? ⟨b1, o1 + i * 3 + 2, none⟩ = some (.int .i64 l[i].n) := (hbel.cell (p := ⟨b1, o1 + i * 3 + 2, none⟩) hb1).trans (h1 2 (by omega))
      have y0 : wr.cell? ⟨b2, o2 + i * 3, none⟩ = some (.string m[i].k) := (hbel.cell (p := ⟨b2, o2 + i * 3, none⟩) hb2).trans (h2 0 (by omega))
      have y1 : wr.cell? ⟨b2, o2 + i * 3 + 1, none⟩ = some (.string m[i].v) := (hbel.cell (p := ⟨b2, o2 + i * 3 + 1, none⟩) hb2).trans (h2 1 (by omega))
      have y2 : wr.cell? ⟨b2, o2 + i * 3 + 2, none⟩ = some (.int .i64 m[i].n) := (hbel.cell (p := ⟨b2, o2 + i * 3 + 2, none⟩) hb2).trans (h2 2 (by omega))
      clear h1 h2
      have e1 := hide1 (List.getElem?_eq_getElem hlt)
      have e2 := hide1 (List.getElem?_eq_getElem hltm)
      have hqv : ∀ w, (Op.equalIn 10000 65 (.agg #[.string l[i].k, .string l[i].v, .int .i64 l[i].n]) (.agg #[.string m[i].k, .string m[i].v, .int .i64 m[i].n])).run Try.prog w = .ok (decide (l[i] = m[i])) w := fun w => eqIm_dec 9998 l[i] m[i] w
      generalize l[i] = s at *
      generalize m[i] = t at *
      by_cases ce : s = t
      · have CE := hide1 ce
        rw [decide_eq_true ce] at hqv
        clear ce
        go_wp2_with fail
        go_quiet (fail)
        go_wp2
        go_roundw
        case rel => exact ⟨i + 1, by omega, by go_num, hide1 (fun j hj => by
          by_cases e : j < i
          · exact hs.out j e
          · obtain rfl : j = i := by omega
            rw [e1.out, e2.out, CE.out]), below_drewN hbel _⟩
        case measure => simp [intOf]; omega
      · have RES := hide1 (show bo (l = m) = false from bo_f (fun h => ce (by
          have h1 := e1.out
          have h2 := e2.out
          subst h
          rw [h1] at h2
          injection h2)))
        rw [decide_eq_false ce] at hqv
        clear ce
        go_wp2_with fail
        go_quiet (fail)
        go_wp2
        go_ret
        exact ⟨by rw [RES.out]; rfl, below_drewN hbel _⟩
    · obtain rfl : i = l.length := by omega
      have RES := hide1 (show bo (l = m) = true from bo_t (List.ext_getElem? (fun j => by
        by_cases h : j < l.length
        · exact hs.out j h
        · rw [List.getElem?_eq_none (by omega), List.getElem?_eq_none (by have := C0.out; omega)])))
      go_wp2
      go_ret
      exact ⟨by rw [RES.out]; rfl, hbel⟩
end Go.Proofs.Ytcahaimefgkmiaa
