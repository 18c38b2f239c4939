/- Messages: right ones, and the model's MsgOk. -/
import Derived.Test.YtbkhhkknhbddeaaDoorImT
namespace Go.Proofs.YtbkhhkknhbddeaaDoor
open Go.RowKit
set_option linter.unusedVariables false

structure Ms where
  k : Int
  f : Int
  o : Int
  e : Int
  n : Int
  is : List Im
/-- How many items a message of a kind may have. -/
def manyOk (k : Int) (c : Nat) : Prop := if k = 2 ∨ k = 3 then True else if k = 5 then c = 1 else c = 0
instance (k : Int) (c : Nat) : Decidable (manyOk k c) := by unfold manyOk; split; infer_instance; split <;> infer_instance
def okMs (m : Ms) : Prop := (1 ≤ m.k ∧ m.k ≤ 8) ∧ (1 ≤ m.f ∧ m.f ≤ 6) ∧ (1 ≤ m.o ∧ m.o ≤ 6) ∧ (1 ≤ m.e ∧ m.e ≤ 9) ∧ (0 ≤ m.n ∧ m.n ≤ 1000000000) ∧ okIms m.is ∧ manyOk m.k m.is.length
instance (m : Ms) : Decidable (okMs m) := by unfold okMs; infer_instance
set_option maxRecDepth 100000 in
set_option maxHeartbeats 4000000 in
theorem specMsgOk_any (k f o e n : Int) (l : List Im) (a : Option Addr) (ca : Nat) (w : World) (hl : l.length ≤ 1048576) (hA : RdG imC 3 w a l) :
    Calls Tryd.prog 10 #[.agg #[.int .i64 k, .int .i64 f, .int .i64 o, .int .i64 e, .int .i64 n, .slice a l.length ca]] w fun r w' => r = .returned (.bool (decide (okMs ⟨k, f, o, e, n, l⟩))) ∧ Below w.heap.size w w' := by
  have F0 := hide1 (And.intro (Blk.new w 26 #[.int .i64 k, .int .i64 f, .int .i64 o, .int .i64 e, .int .i64 n, .slice a l.length ca]) ((Below.refl w.heap.size w).alloc (Nat.le_refl _) (.cells #[.int .i64 k, .int .i64 f, .int .i64 o, .int .i64 e, .int .i64 n, .slice a l.length ca] 26)))
  have HA := hide1 hA
  clear hA
  go_enter Tryd.func10, Tryd.ntmps10
  go_upto_region 1 with fail
  generalize (w.alloc (.cells #[.int .i64 k, .int .i64 f, .int .i64 o, .int .i64 e, .int .i64 n, .slice a l.length ca] 26)) = u at F0 ⊢
  obtain ⟨X, hX⟩ : ∃ G, G = w.heap.size := ⟨_, rfl⟩
  have KX := hide1 F0.out.1
  rw [← hX] at KX ⊢
  have lX : X < u.heap.size := KX.out.lt
  have E0 := hide1 F0.out.2
  clear F0 hX
  have y0 : u.cell? ⟨X, 0, none⟩ = some (.int .i64 k) := KX.out.cell 0
  have C0 := hide1 (fun w' => in_anyR k 1 8 w')
  have y1 : u.cell? ⟨X, 1, none⟩ = some (.int .i64 f) := KX.out.cell 1
  have C1 := hide1 (fun w' => in_anyR f 1 6 w')
  have y2 : u.cell? ⟨X, 2, none⟩ = some (.int .i64 o) := KX.out.cell 2
  have C2 := hide1 (fun w' => in_anyR o 1 6 w')
  have y3 : u.cell? ⟨X, 3, none⟩ = some (.int .i64 e) := KX.out.cell 3
  have C3 := hide1 (fun w' => in_anyR e 1 9 w')
  have y4 : u.cell? ⟨X, 4, none⟩ = some (.int .i64 n) := KX.out.cell 4
  have C4 := hide1 (fun w' => in_anyR n 0 1000000000 w')
  have y5 : u.cell? ⟨X, 5, none⟩ = some (.slice a l.length ca) := KX.out.cell 5
  have C5 := hide1 (specItemsOk_any a l ca u (by omega) (HA.out.later E0.out))
  by_cases c0 : 1 ≤ k ∧ k ≤ 8
  · rw [in_yesI c0] at C0
    by_cases c1 : 1 ≤ f ∧ f ≤ 6
    · rw [in_yesI c1] at C1
      by_cases c2 : 1 ≤ o ∧ o ≤ 6
      · rw [in_yesI c2] at C2
        by_cases c3 : 1 ≤ e ∧ e ≤ 9
        · rw [in_yesI c3] at C3
          by_cases c4 : 0 ≤ n ∧ n ≤ 1000000000
          · rw [in_yesI c4] at C4
            by_cases c5 : okIms l
            · rw [decide_eq_true c5] at C5
              go_upto_region 3 with (first | (go_at_call 29; (first | (with_reducible refine (C0.out _).mono ?_) | (with_reducible refine (C1.out _).mono ?_) | (with_reducible refine (C2.out _).mono ?_) | (with_reducible refine (C3.out _).mono ?_) | (with_reducible refine (C4.out _).mono ?_)); rintro r ww ⟨rfl, rfl⟩) | (go_at_call 30; refine C5.out.mono ?_; rintro r w7 ⟨rfl, hb7⟩; have Q7 := hide1 hb7; have z0 : w7.cell? ⟨X, 0, none⟩ = some (.int .i64 k) := (hb7.cell (p := ⟨X, 0, none⟩) lX).trans (KX.out.cell 0); have z5 : w7.cell? ⟨X, 5, none⟩ = some (.slice a l.length ca) := (hb7.cell (p := ⟨X, 5, none⟩) lX).trans (KX.out.cell 5); clear hb7))
              clear C0 C1 C2 C3 C4 C5 y0 y1 y2 y3 y4 y5
              have CC := hide1 (And.intro c0 (And.intro c1 (And.intro c2 (And.intro c3 (And.intro c4 c5)))))
              clear c1 c2 c3 c4 c5
              by_cases d2 : k = 2
              · have q2 : (k == 2) = true := by simp [d2]
                have RES := hide1 (show decide (okMs ⟨k, f, o, e, n, l⟩) = true from decide_eq_true ⟨CC.out.1, CC.out.2.1, CC.out.2.2.1, CC.out.2.2.2.1, CC.out.2.2.2.2.1, CC.out.2.2.2.2.2, by unfold manyOk; rw [if_pos (.inl d2)]; trivial⟩)
                go_wp2
                go_ret
                exact ⟨by rw [RES.out]; rfl, (E0.out.trans (Q7.out.mono E0.out.size))⟩
              · have q2 : (k == 2) = false := by simp [d2]
                by_cases d3 : k = 3
                · have q3 : (k == 3) = true := by simp [d3]
                  have RES := hide1 (show decide (okMs ⟨k, f, o, e, n, l⟩) = true from decide_eq_true ⟨CC.out.1, CC.out.2.1, CC.out.2.2.1, CC.out.2.2.2.1, CC.out.2.2.2.2.1, CC.out.2.2.2.2.2, by unfold manyOk; rw [if_pos (.inr d3)]; trivial⟩)
                  go_wp2
                  go_ret
                  exact ⟨by rw [RES.out]; rfl, (E0.out.trans (Q7.out.mono E0.out.size))⟩
                · have q3 : (k == 3) = false := by simp [d3]
                  have hnn : ¬ (k = 2 ∨ k = 3) := fun h => by rcases h with h | h; exact d2 h; exact d3 h
                  by_cases d5 : k = 5
                  · have q5 : (k == 5) = true := by simp [d5]
                    by_cases m1 : l.length = 1
                    · have qm : ((l.length : Int) == 1) = true := by simp [m1]
                      have RES := hide1 (show decide (okMs ⟨k, f, o, e, n, l⟩) = true from decide_eq_true ⟨CC.out.1, CC.out.2.1, CC.out.2.2.1, CC.out.2.2.2.1, CC.out.2.2.2.2.1, CC.out.2.2.2.2.2, by unfold manyOk; rw [if_neg hnn, if_pos d5]; exact m1⟩)
                      go_wp2
                      go_ret
                      exact ⟨by rw [RES.out]; rfl, (E0.out.trans (Q7.out.mono E0.out.size))⟩
                    · have qm : ((l.length : Int) == 1) = false := by simp only [beq_eq_false_iff_ne, ne_eq]; omega
                      have RES := hide1 (show decide (okMs ⟨k, f, o, e, n, l⟩) = false from decide_eq_false (fun h => by have h9 := h.2.2.2.2.2.2; unfold manyOk at h9; rw [if_neg hnn, if_pos d5] at h9; exact m1 h9))
                      go_wp2
                      go_ret
                      exact ⟨by rw [RES.out]; rfl, (E0.out.trans (Q7.out.mono E0.out.size))⟩
                  · have q5 : (k == 5) = false := by simp [d5]
                    by_cases m0 : l.length = 0
                    · have qm : ((l.length : Int) == 0) = true := by simp [m0]
                      have RES := hide1 (show decide (okMs ⟨k, f, o, e, n, l⟩) = true from decide_eq_true ⟨CC.out.1, CC.out.2.1, CC.out.2.2.1, CC.out.2.2.2.1, CC.out.2.2.2.2.1, CC.out.2.2.2.2.2, by unfold manyOk; rw [if_neg hnn, if_neg d5]; exact m0⟩)
                      go_wp2
                      go_ret
                      exact ⟨by rw [RES.out]; rfl, (E0.out.trans (Q7.out.mono E0.out.size))⟩
                    · have qm : ((l.length : Int) == 0) = false := by simp only [beq_eq_false_iff_ne, ne_eq]; omega
                      have RES := hide1 (show decide (okMs ⟨k, f, o, e, n, l⟩) = false from decide_eq_false (fun h => by have h9 := h.2.2.2.2.2.2; unfold manyOk at h9; rw [if_neg hnn, if_neg d5] at h9; exact m0 h9))
                      go_wp2
                      go_ret
                      exact ⟨by rw [RES.out]; rfl, (E0.out.trans (Q7.out.mono E0.out.size))⟩
            · rw [decide_eq_false c5] at C5
              have RES := hide1 (show decide (okMs ⟨k, f, o, e, n, l⟩) = false from decide_eq_false (fun h => c5 h.2.2.2.2.2.1))
              go_wp2_with (first | (go_at_call 29; (first | (with_reducible refine (C0.out _).mono ?_) | (with_reducible refine (C1.out _).mono ?_) | (with_reducible refine (C2.out _).mono ?_) | (with_reducible refine (C3.out _).mono ?_) | (with_reducible refine (C4.out _).mono ?_)); rintro r ww ⟨rfl, rfl⟩) | (go_at_call 30; refine C5.out.mono ?_; rintro r w7 ⟨rfl, hb7⟩; have Q7 := hide1 hb7; have z0 : w7.cell? ⟨X, 0, none⟩ = some (.int .i64 k) := (hb7.cell (p := ⟨X, 0, none⟩) lX).trans (KX.out.cell 0); have z5 : w7.cell? ⟨X, 5, none⟩ = some (.slice a l.length ca) := (hb7.cell (p := ⟨X, 5, none⟩) lX).trans (KX.out.cell 5); clear hb7))
              go_ret
              exact ⟨by rw [RES.out]; rfl, (E0.out.trans (Q7.out.mono E0.out.size))⟩
          · rw [in_noI c4] at C4
            have RES := hide1 (show decide (okMs ⟨k, f, o, e, n, l⟩) = false from decide_eq_false (fun h => c4 h.2.2.2.2.1))
            go_wp2_with (first | (go_at_call 29; (first | (with_reducible refine (C0.out _).mono ?_) | (with_reducible refine (C1.out _).mono ?_) | (with_reducible refine (C2.out _).mono ?_) | (with_reducible refine (C3.out _).mono ?_) | (with_reducible refine (C4.out _).mono ?_)); rintro r ww ⟨rfl, rfl⟩) | (go_at_call 30; refine C5.out.mono ?_; rintro r w7 ⟨rfl, hb7⟩; have Q7 := hide1 hb7; have z0 : w7.cell? ⟨X, 0, none⟩ = some (.int .i64 k) := (hb7.cell (p := ⟨X, 0, none⟩) lX).trans (KX.out.cell 0); have z5 : w7.cell? ⟨X, 5, none⟩ = some (.slice a l.length ca) := (hb7.cell (p := ⟨X, 5, none⟩) lX).trans (KX.out.cell 5); clear hb7))
            go_ret
            exact ⟨by rw [RES.out]; rfl, E0.out⟩
        · rw [in_noI c3] at C3
          have RES := hide1 (show decide (okMs ⟨k, f, o, e, n, l⟩) = false from decide_eq_false (fun h => c3 h.2.2.2.1))
          go_wp2_with (first | (go_at_call 29; (first | (with_reducible refine (C0.out _).mono ?_) | (with_reducible refine (C1.out _).mono ?_) | (with_reducible refine (C2.out _).mono ?_) | (with_reducible refine (C3.out _).mono ?_) | (with_reducible refine (C4.out _).mono ?_)); rintro r ww ⟨rfl, rfl⟩) | (go_at_call 30; refine C5.out.mono ?_; rintro r w7 ⟨rfl, hb7⟩; have Q7 := hide1 hb7; have z0 : w7.cell? ⟨X, 0, none⟩ = some (.int .i64 k) := (hb7.cell (p := ⟨X, 0, none⟩) lX).trans (KX.out.cell 0); have z5 : w7.cell? ⟨X, 5, none⟩ = some (.slice a l.length ca) := (hb7.cell (p := ⟨X, 5, none⟩) lX).trans (KX.out.cell 5); clear hb7))
          go_ret
          exact ⟨by rw [RES.out]; rfl, E0.out⟩
      · rw [in_noI c2] at C2
        have RES := hide1 (show decide (okMs ⟨k, f, o, e, n, l⟩) = false from decide_eq_false (fun h => c2 h.2.2.1))
        go_wp2_with (first | (go_at_call 29; (first | (with_reducible refine (C0.out _).mono ?_) | (with_reducible refine (C1.out _).mono ?_) | (with_reducible refine (C2.out _).mono ?_) | (with_reducible refine (C3.out _).mono ?_) | (with_reducible refine (C4.out _).mono ?_)); rintro r ww ⟨rfl, rfl⟩) | (go_at_call 30; refine C5.out.mono ?_; rintro r w7 ⟨rfl, hb7⟩; have Q7 := hide1 hb7; have z0 : w7.cell? ⟨X, 0, none⟩ = some (.int .i64 k) := (hb7.cell (p := ⟨X, 0, none⟩) lX).trans (KX.out.cell 0); have z5 : w7.cell? ⟨X, 5, none⟩ = some (.slice a l.length ca) := (hb7.cell (p := ⟨X, 5, none⟩) lX).trans (KX.out.cell 5); clear hb7))
        go_ret
        exact ⟨by rw [RES.out]; rfl, E0.out⟩
    · rw [in_noI c1] at C1
      have RES := hide1 (show decide (okMs ⟨k, f, o, e, n, l⟩) = false from decide_eq_false (fun h => c1 h.2.1))
      go_wp2_with (first | (go_at_call 29; (first | (with_reducible refine (C0.out _).mono ?_) | (with_reducible refine (C1.out _).mono ?_) | (with_reducible refine (C2.out _).mono ?_) | (with_reducible refine (C3.out _).mono ?_) | (with_reducible refine (C4.out _).mono ?_)); rintro r ww ⟨rfl, rfl⟩) | (go_at_call 30; refine C5.out.mono ?_; rintro r w7 ⟨rfl, hb7⟩; have Q7 := hide1 hb7; have z0 : w7.cell? ⟨X, 0, none⟩ = some (.int .i64 k) := (hb7.cell (p := ⟨X, 0, none⟩) lX).trans (KX.out.cell 0); have z5 : w7.cell? ⟨X, 5, none⟩ = some (.slice a l.length ca) := (hb7.cell (p := ⟨X, 5, none⟩) lX).trans (KX.out.cell 5); clear hb7))
      go_ret
      exact ⟨by rw [RES.out]; rfl, E0.out⟩
  · rw [in_noI c0] at C0
    have RES := hide1 (show decide (okMs ⟨k, f, o, e, n, l⟩) = false from decide_eq_false (fun h => c0 h.1))
    go_wp2_with (first | (go_at_call 29; (first | (with_reducible refine (C0.out _).mono ?_) | (with_reducible refine (C1.out _).mono ?_) | (with_reducible refine (C2.out _).mono ?_) | (with_reducible refine (C3.out _).mono ?_) | (with_reducible refine (C4.out _).mono ?_)); rintro r ww ⟨rfl, rfl⟩) | (go_at_call 30; refine C5.out.mono ?_; rintro r w7 ⟨rfl, hb7⟩; have Q7 := hide1 hb7; have z0 : w7.cell? ⟨X, 0, none⟩ = some (.int .i64 k) := (hb7.cell (p := ⟨X, 0, none⟩) lX).trans (KX.out.cell 0); have z5 : w7.cell? ⟨X, 5, none⟩ = some (.slice a l.length ca) := (hb7.cell (p := ⟨X, 5, none⟩) lX).trans (KX.out.cell 5); clear hb7))
    go_ret
    exact ⟨by rw [RES.out]; rfl, E0.out⟩
end Go.Proofs.YtbkhhkknhbddeaaDoor
