/- The program's reader: a number, a short text. -/
import Derived.Test.YtbkhhkknhbddeaaDoorRdI
namespace Go.Proofs.YtbkhhkknhbddeaaDoor
open Go.RowKit
set_option linter.unusedVariables false

set_option maxRecDepth 100000 in
set_option maxHeartbeats 1000000 in
theorem number_yes (R : Nat) (s : ByteArray) (p n q : Nat) (w : World) (hs : s.size ≤ 1048576) (hp : p ≤ s.size) (hB : Rdr w R s p) (h : pVar s p = some (n, q)) :
    Calls Tryd.prog 75 #[.pointer (some ⟨R, 0, none⟩)] w fun e w' => e = .returned (.int .i64 (n : Int)) ∧ Rdr w' R s q ∧ w.grownBy w' (some R) := by
  have HB := hide1 hB
  have CV := hide1 (fun v => implReadVar_any s (p : Int) v hs)
  rw [readVarV_in hp, show rdF (byt s) s.size 5 p 0 1 = some (n, q) from h] at CV
  unfold rdV at CV
  dsimp only at CV
  have g0 : ∀ n : Gr w, n.w.cell? ⟨R, 0, none⟩ = some (.string s) := fun n => n.cell (hB.cell 0)
  have g1 : ∀ n : Gr w, n.w.cell? ⟨R, 1, none⟩ = some (.int .i64 (p : Int)) := fun n => n.cell (hB.cell 1)
  clear hB h
  go_enter Tryd.func75, Tryd.ntmps75
  go_upto_region 1 with fail
  refine wp_region_grown (by kernel_rfl) (by kernel_rfl) ?_
  (repeat (first | go_big_quiet_skip | (go_big_quiet_want; go_big_quiet_op; first | go_big_quiet_on | go_big_quiet_call ((go_at_call 85; first | exact quiet_grown (CV.out _) | exact quiet_grownS (CV.out _))))))
  refine wpQuiet_nil ?_
  rintro w1 ⟨n1, rfl⟩
  have B1 := hide1 n1.b
  have K1 := hide1 (show Rdr n1.w R s p from HB.out.below n1.b HB.out.lt)
  clear g0 g1
  generalize n1.w = w1 at B1 K1 ⊢
  go_wp2_with fail
  refine (want_yes _ _).mono ?_
  rintro e w2 ⟨rfl, rfl⟩
  have y1 : w2.cell? ⟨R, 1, none⟩ = some (.int .i64 (p : Int)) := K1.out.cell 1
  have f1 : w2.frozen? ⟨R, 1, none⟩ = false := K1.out.froz 1
  have K2 := hide1 (K1.out.set q)
  have G2 := hide1 (show w.grownBy (w2.setCell ⟨R, 1, none⟩ (.int .i64 (q : Int))) (some R) from gset (gnew B1.out) 1 _)
  go_wp2
  go_ret
  exact ⟨rfl, K2.out, G2.out⟩
set_option maxRecDepth 100000 in
set_option maxHeartbeats 1000000 in
theorem number_no (R : Nat) (s : ByteArray) (p : Nat) (w : World) (hs : s.size ≤ 1048576) (hp : p ≤ s.size) (hB : Rdr w R s p) (h : pVar s p = none) :
    Calls Tryd.prog 75 #[.pointer (some ⟨R, 0, none⟩)] w fun e w' => e = .panicked stopC ∧ w.grownBy w' (some R) := by
  have HB := hide1 hB
  have CV := hide1 (fun v => implReadVar_any s (p : Int) v hs)
  rw [readVarV_in hp, show rdF (byt s) s.size 5 p 0 1 = none from h] at CV
  unfold rdV at CV
  dsimp only at CV
  have g0 : ∀ n : Gr w, n.w.cell? ⟨R, 0, none⟩ = some (.string s) := fun n => n.cell (hB.cell 0)
  have g1 : ∀ n : Gr w, n.w.cell? ⟨R, 1, none⟩ = some (.int .i64 (p : Int)) := fun n => n.cell (hB.cell 1)
  clear hB h
  go_enter Tryd.func75, Tryd.ntmps75
  go_upto_region 1 with fail
  refine wp_region_grown (by kernel_rfl) (by kernel_rfl) ?_
  (repeat (first | go_big_quiet_skip | (go_big_quiet_want; go_big_quiet_op; first | go_big_quiet_on | go_big_quiet_call ((go_at_call 85; first | exact quiet_grown (CV.out _) | exact quiet_grownS (CV.out _))))))
  refine wpQuiet_nil ?_
  rintro w1 ⟨n1, rfl⟩
  have B1 := hide1 n1.b
  clear g0 g1
  generalize n1.w = w1 at B1 ⊢
  go_wp2_with fail
  refine (want_no _ _).mono ?_
  rintro e w2 ⟨rfl, rfl⟩
  exact ⟨rfl, rfl, gnew B1.out⟩
theorem short_form (s : ByteArray) (p : Nat) (hp : p ≤ s.size) : ∃ o, readVarV s (p : Int) = rdV o ∧ (∀ n j, o = some (n, j) → n ≤ 1000000000 ∧ j ≤ s.size) ∧ (∀ t q, pShort s p = some (t, q) → readShortV s o = .tuple #[.string t, .int .i64 (q : Int), .bool true]) ∧ (pShort s p = none → readShortV s o = .tuple #[.string ⟨#[]⟩, .int .i64 0, .bool false]) := by
  refine ⟨pVar s p, readVarV_in hp, fun n j h => ?_, ?_, ?_⟩
  · obtain ⟨h1, h2, h3⟩ := pVar_back h
    exact ⟨h3, by have := h1.2; omega⟩
  · intro t q h
    unfold pShort at h
    cases e : pVar s p with
    | none => rw [e] at h; cases h
    | some r =>
      obtain ⟨n, j⟩ := r
      rw [e] at h
      unfold shortO at h
      by_cases c : n ≤ 20000 ∧ j + n ≤ s.size
      · simp only [if_pos c] at h
        injection h with h
        injection h with ht hq
        rw [readShortV_yes c.1 c.2, ht, ← hq]
        rfl
      · simp only [if_neg c] at h; cases h
  · intro h
    unfold pShort at h
    cases e : pVar s p with
    | none => rfl
    | some r =>
      obtain ⟨n, j⟩ := r
      rw [e] at h
      unfold shortO at h
      by_cases c : n ≤ 20000 ∧ j + n ≤ s.size
      · simp only [if_pos c] at h; cases h
      · exact readShortV_no c
set_option maxRecDepth 100000 in
set_option maxHeartbeats 1000000 in
theorem short_yes (R : Nat) (s t : ByteArray) (p q : Nat) (w : World) (hs : s.size ≤ 1048576) (hp : p ≤ s.size) (hB : Rdr w R s p) (h : pShort s p = some (t, q)) :
    Calls Tryd.prog 86 #[.pointer (some ⟨R, 0, none⟩)] w fun e w' => e = .returned (.string t) ∧ Rdr w' R s q ∧ w.grownBy w' (some R) := by
  have HB := hide1 hB
  obtain ⟨o, ho, hbd, h1, _⟩ := short_form s p hp
  have CV := hide1 (fun v => implReadShort_any s (p : Int) v hs o ho hbd)
  rw [h1 t q h] at CV
  have g0 : ∀ n : Gr w, n.w.cell? ⟨R, 0, none⟩ = some (.string s) := fun n => n.cell (hB.cell 0)
  have g1 : ∀ n : Gr w, n.w.cell? ⟨R, 1, none⟩ = some (.int .i64 (p : Int)) := fun n => n.cell (hB.cell 1)
  clear hB h ho hbd h1
  go_enter Tryd.func86, Tryd.ntmps86
  go_upto_region 1 with fail
  refine wp_region_grown (by kernel_rfl) (by kernel_rfl) ?_
  (repeat (first | go_big_quiet_skip | (go_big_quiet_want; go_big_quiet_op; first | go_big_quiet_on | go_big_quiet_call ((go_at_call 89; first | exact quiet_grown (CV.out _) | exact quiet_grownS (CV.out _))))))
  refine wpQuiet_nil ?_
  rintro w1 ⟨n1, rfl⟩
  have B1 := hide1 n1.b
  have K1 := hide1 (show Rdr n1.w R s p from HB.out.below n1.b HB.out.lt)
  clear g0 g1
  generalize n1.w = w1 at B1 K1 ⊢
  go_wp2_with fail
  refine (want_yes _ _).mono ?_
  rintro e w2 ⟨rfl, rfl⟩
  have y1 : w2.cell? ⟨R, 1, none⟩ = some (.int .i64 (p : Int)) := K1.out.cell 1
  have f1 : w2.frozen? ⟨R, 1, none⟩ = false := K1.out.froz 1
  have K2 := hide1 (K1.out.set q)
  have G2 := hide1 (show w.grownBy (w2.setCell ⟨R, 1, none⟩ (.int .i64 (q : Int))) (some R) from gset (gnew B1.out) 1 _)
  go_wp2
  go_ret
  exact ⟨rfl, K2.out, G2.out⟩
set_option maxRecDepth 100000 in
set_option maxHeartbeats 1000000 in
theorem short_no (R : Nat) (s : ByteArray) (p : Nat) (w : World) (hs : s.size ≤ 1048576) (hp : p ≤ s.size) (hB : Rdr w R s p) (h : pShort s p = none) :
    Calls Tryd.prog 86 #[.pointer (some ⟨R, 0, none⟩)] w fun e w' => e = .panicked stopC ∧ w.grownBy w' (some R) := by
  have HB := hide1 hB
  obtain ⟨o, ho, hbd, _, h1⟩ := short_form s p hp
  have CV := hide1 (fun v => implReadShort_any s (p : Int) v hs o ho hbd)
  rw [h1 h] at CV
  have g0 : ∀ n : Gr w, n.w.cell? ⟨R, 0, none⟩ = some (.string s) := fun n => n.cell (hB.cell 0)
  have g1 : ∀ n : Gr w, n.w.cell? ⟨R, 1, none⟩ = some (.int .i64 (p : Int)) := fun n => n.cell (hB.cell 1)
  clear hB h ho hbd h1
  go_enter Tryd.func86, Tryd.ntmps86
  go_upto_region 1 with fail
  refine wp_region_grown (by kernel_rfl) (by kernel_rfl) ?_
  (repeat (first | go_big_quiet_skip | (go_big_quiet_want; go_big_quiet_op; first | go_big_quiet_on | go_big_quiet_call ((go_at_call 89; first | exact quiet_grown (CV.out _) | exact quiet_grownS (CV.out _))))))
  refine wpQuiet_nil ?_
  rintro w1 ⟨n1, rfl⟩
  have B1 := hide1 n1.b
  clear g0 g1
  generalize n1.w = w1 at B1 ⊢
  go_wp2_with fail
  refine (want_no _ _).mono ?_
  rintro e w2 ⟨rfl, rfl⟩
  exact ⟨rfl, rfl, gnew B1.out⟩
end Go.Proofs.YtbkhhkknhbddeaaDoor
