/- When cells are right by themselves, by the model. -/
import Derived.Test.YtldbdmofjckjkaaTabS
namespace Go.Proofs.Ytldbdmofjckjkaa
open Go.RowKit

/-- A cell without a key that nobody took. -/
def isNone (x : Ce) : Prop := x.key.toList = [] ∧ x.h = -1
/-- What is asked of cell i. -/
def okC (l : List Ce) (i : Nat) (x : Ce) : Prop := (x.key.toList = [] → x.h = -1 ∨ x.h = -2) ∧ (x.key.toList ≠ [] → x.key.size ≤ 12 ∧ 0 ≤ x.h ∧ seekC l x.key = some i)
/-- Cells are right by themselves. -/
def RightC (l : List Ce) (need : Bool) : Prop := (∀ i (h : i < l.length), okC l i l[i]) ∧ (need = true → ∃ i, ∃ h : i < l.length, isNone l[i])

set_option maxRecDepth 100000 in
set_option maxHeartbeats 1000000 in
theorem specRight_any (ao : Option Addr) (l : List Ce) (ca : Nat) (need : Bool) (w : World) (hl : l.length ≤ 1048576) (hA : RdC w ao l) :
    Calls Try.prog 68 #[.slice ao l.length ca, .bool need] w fun e w' => ∃ x : Bool, e = .returned (.bool x) ∧ (x = true ↔ RightC l need) ∧ Below w.heap.size w w' := by
  have CS := hide1 (fun w' (hb : Below w.heap.size w w') (key : ByteArray) (hk : key.size ≤ 1048576) => specSeek_any ao l ca key w' hl hk (hA.later hb))
  have HA := hide1 hA
  clear hA
  go_enter Try.func68, Try.ntmps68
  go_wp2
  go_loopw [5, 6] (fun nv iv wr => ∃ (i : Nat) (nb : Bool), i ≤ l.length ∧ iv = .int .i64 (i : Int) ∧ nv = .bool nb ∧ Hid (∀ j (h : j < l.length), j < i → okC l j l[j]) ∧ Hid (nb = true ↔ need = false ∨ ∃ j, ∃ h : j < l.length, j < i ∧ isNone l[j]) ∧ Hid (Below w.heap.size w wr)) (fun _ iv _ => l.length - (intOf iv).toNat)
  case atStart => exact ⟨0, !need, by omega, rfl, by first | rfl | (cases need <;> rfl), fun j _ h => by omega, by
    show (!need) = true ↔ _
    cases need
    · simp
    · simp, Below.refl _ _⟩
  case round =>
    obtain ⟨i, nb, hi, rfl, rfl, hok, hnb, hbel⟩ := hrel
    by_cases hlt : i < l.length
    · have k1 : (i : Int) < (l.length : Int) := by omega
      obtain ⟨g, hao, hg, h1⟩ := HA.out.at i hlt
      obtain ⟨x0, x1⟩ := h1.below hbel.out hg
      have hno := hide1 (fun (h : ¬ okC l i l[i]) (hr : RightC l need) => h (hr.1 i hlt))
      have hyes := hide1 (fun (h : okC l i l[i]) j (hj : j < l.length) (hj2 : j < i + 1) => show okC l j l[j] by
        by_cases e : j < i
        · exact hok.out j hj e
        · obtain rfl : j = i := by omega
          exact h)
      have hnx := hide1 (show (∃ j, ∃ h : j < l.length, j < i + 1 ∧ isNone l[j]) ↔ (∃ j, ∃ h : j < l.length, j < i ∧ isNone l[j]) ∨ isNone l[i] from by
        constructor
        · rintro ⟨j, hj, h2, h3⟩
          by_cases e : j < i
          · exact .inl ⟨j, hj, e, h3⟩
          · obtain rfl : j = i := by omega
            exact .inr h3
        · rintro (⟨j, hj, h2, h3⟩ | h3)
          · exact ⟨j, hj, by omega, h3⟩
          · exact ⟨i, hlt, by omega, h3⟩)
      generalize l[i] = s at *
      obtain ⟨ky, hh⟩ := s
      simp only [okC] at x0 x1 hno hyes
      have BX : Hid (Below w.heap.size w (wr.alloc (.cells #[.string ky, .int .i64 hh] 47))) := hbel.out.alloc hbel.out.size _
      have NN : Hid ((wr.alloc (.cells #[.string ky, .int .i64 hh] 47)).cell? ⟨wr.heap.size, 0, none⟩ = some (.string ky) ∧ (wr.alloc (.cells #[.string ky, .int .i64 hh] 47)).cell? ⟨wr.heap.size, 1, none⟩ = some (.int .i64 hh)) := ⟨World.cell?_alloc_at _ _ _ _ rfl, World.cell?_alloc_at _ _ _ _ rfl⟩
      have HAO := hide1 hao
      rw [hao]
      clear h1 hok hao
      go_upto_region 6 with fail
      generalize (wr.alloc (.cells #[.string ky, .int .i64 hh] 47)) = wv at NN BX ⊢
      obtain ⟨n0, n1⟩ := NN.out
      clear NN x0 x1 hbel
      by_cases d1 : ky.toList = []
      · have b1 : ky.toList.isEmpty = true := by rw [d1]; rfl
        by_cases e1 : hh = -1
        · have q1 : (hh != (-1 : Int)) = false := by simp [e1]
          have q2 : (hh == (-1 : Int)) = true := by simp [e1]
          have HY := hide1 (hyes.out ⟨fun _ => .inl e1, fun h => absurd d1 h⟩)
          have HB : Hid ((true : Bool) = true ↔ need = false ∨ ∃ j, ∃ h : j < l.length, j < i + 1 ∧ isNone l[j]) := ⟨fun _ => .inr (hnx.out.2 (.inr ⟨d1, e1⟩)), fun _ => rfl⟩
          clear e1 hyes hno hnx
          rcases nb with _ | _
          · go_wp2
            go_roundw
            case rel => exact ⟨i + 1, true, by omega, by go_num, rfl, HY, HB, BX⟩
            case measure => simp [intOf]; omega
          · go_wp2
            go_roundw
            case rel => exact ⟨i + 1, true, by omega, by go_num, rfl, HY, HB, BX⟩
            case measure => simp [intOf]; omega
        · have q1 : (hh != (-1 : Int)) = true := by simp [e1]
          have q2 : (hh == (-1 : Int)) = false := by simp [e1]
          by_cases e2 : hh = -2
          · have q3 : (hh != (-2 : Int)) = false := by simp [e2]
            have HY := hide1 (hyes.out ⟨fun _ => .inr e2, fun h => absurd d1 h⟩)
            have HB : Hid (nb = true ↔ need = false ∨ ∃ j, ∃ h : j < l.length, j < i + 1 ∧ isNone l[j]) := by
              show nb = true ↔ _
              rw [hnx.out, hnb.out]
              constructor
              · rintro (h | h)
                · exact .inl h
                · exact .inr (.inl h)
              · rintro (h | h | h)
                · exact .inl h
                · exact .inr h
                · exact absurd h.2 e1
            clear e1 e2 hyes hno hnx
            rcases nb with _ | _
            · go_wp2
              go_roundw
              case rel => exact ⟨i + 1, false, by omega, by go_num, rfl, HY, HB, BX⟩
              case measure => simp [intOf]; omega
            · go_wp2
              go_roundw
              case rel => exact ⟨i + 1, true, by omega, by go_num, rfl, HY, HB, BX⟩
              case measure => simp [intOf]; omega
          · have q3 : (hh != (-2 : Int)) = true := by simp [e2]
            have HN := hide1 (hno.out (fun h => by rcases h.1 d1 with h | h <;> contradiction))
            clear e1 e2 hyes hno hnx
            go_wp2
            go_ret
            exact ⟨false, rfl, ⟨(fun h => by cases h), fun h => absurd h HN.out⟩, BX.out⟩
      · have b1 : ky.toList.isEmpty = false := by cases h : ky.toList with | nil => exact absurd h d1 | cons a b => rfl
        have HB : Hid (nb = true ↔ need = false ∨ ∃ j, ∃ h : j < l.length, j < i + 1 ∧ isNone l[j]) := by
          show nb = true ↔ _
          rw [hnx.out, hnb.out]
          constructor
          · rintro (h | h)
            · exact .inl h
            · exact .inr (.inl h)
          · rintro (h | h | h)
            · exact .inl h
            · exact .inr h
            · exact absurd h.1 d1
        by_cases e1 : ky.size ≤ 12
        · have q1 : decide ((12 : Int) < (ky.size : Int)) = false := decide_eq_false (by omega)
          by_cases e2 : hh < 0
          · have q2 : decide (hh < 0) = true := decide_eq_true e2
            have HN := hide1 (hno.out (fun h => by have := (h.2 d1).2.1; omega))
            clear e2 hyes hno hnx
            go_wp2
            go_ret
            exact ⟨false, rfl, ⟨(fun h => by cases h), fun h => absurd h HN.out⟩, BX.out⟩
          · have q2 : decide (hh < 0) = false := decide_eq_false e2
            have CK := hide1 (CS.out wv BX.out ky (by omega))
            rw [HAO.out] at CK
            by_cases e3 : seekC l ky = some i
            · have HY := hide1 (hyes.out ⟨fun h => absurd h d1, fun _ => ⟨e1, by omega, e3⟩⟩)
              rw [e3] at CK
              have q3 : ((i : Int) != (i : Int)) = false := by simp
              unfold optI at CK
              clear e2 e3 hyes hno hnx
              go_wp2_with fail
              refine CK.out.mono ?_
              rintro e w5 ⟨rfl, hb5⟩
              have B5 := hide1 (BX.out.trans (hb5.mono BX.out.size))
              clear hb5
              go_wp2
              go_roundw
              case rel => exact ⟨i + 1, nb, by omega, by go_num, rfl, HY, HB, B5⟩
              case measure => simp [intOf]; omega
            · have HN := hide1 (hno.out (fun h => e3 (h.2 d1).2.2))
              have q3 : (optI (seekC l ky) != (i : Int)) = true := by
                cases h : seekC l ky with
                | none => simp [optI]
                | some k => simp [optI]; intro e; exact e3 (by rw [h]; congr 1; omega)
              generalize optI (seekC l ky) = ov at *
              clear e2 e3 hyes hno hnx
              go_wp2_with fail
              refine CK.out.mono ?_
              rintro e w5 ⟨rfl, hb5⟩
              have B5 := hide1 (BX.out.trans (hb5.mono BX.out.size))
              clear hb5
              go_wp2
              go_ret
              exact ⟨false, rfl, ⟨(fun h => by cases h), fun h => absurd h HN.out⟩, B5.out⟩
        · have q1 : decide ((12 : Int) < (ky.size : Int)) = true := decide_eq_true (by omega)
          have HN := hide1 (hno.out (fun h => e1 (h.2 d1).1))
          clear e1 hyes hno hnx
          go_wp2
          go_ret
          exact ⟨false, rfl, ⟨(fun h => by cases h), fun h => absurd h HN.out⟩, BX.out⟩
    · obtain rfl : i = l.length := by omega
      have k1 : decide ((l.length : Int) < (l.length : Int)) = false := by simp
      have HE : Hid (nb = true ↔ RightC l need) := by
        show nb = true ↔ RightC l need
        rw [hnb.out]
        constructor
        · intro h
          refine ⟨fun j hj => hok.out j hj hj, fun hn => ?_⟩
          rcases h with h | ⟨j, hj, _, hx⟩
          · rw [hn] at h; cases h
          · exact ⟨j, hj, hx⟩
        · intro h
          cases need
          · exact .inl rfl
          · obtain ⟨j, hj, hx⟩ := h.2 rfl
            exact .inr ⟨j, hj, hj, hx⟩
      go_wp2
      go_ret
      exact ⟨nb, rfl, HE.out, hbel.out⟩
end Go.Proofs.Ytldbdmofjckjkaa
