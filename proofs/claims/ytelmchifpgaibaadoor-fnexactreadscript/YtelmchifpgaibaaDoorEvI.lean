/- The program's wishFits and EventOk. -/
import Derived.Test.YtelmchifpgaibaaDoorSAL
import Derived.Test.YtelmchifpgaibaaDoorSAQ
import Derived.Test.YtelmchifpgaibaaDoorSAR
import Derived.Deep.RegionHeld3
namespace Go.Proofs.YtelmchifpgaibaaDoor
open Go.RowKit
set_option linter.unusedVariables false

/-- What a caller may ask for. -/
def wishP (op cl : Int) (key val : ByteArray) : Prop := (op = 1 ∨ op = 2) ∧ (0 ≤ cl ∧ cl ≤ 1000) ∧ fitX key val ∧ (op = 2 → val = ⟨#[]⟩)
instance (op cl : Int) (key val : ByteArray) : Decidable (wishP op cl key val) := by unfold wishP; infer_instance
set_option maxRecDepth 100000 in
set_option maxHeartbeats 4000000 in
theorem implWish_any (t : Tk) (a : Option Addr) (ca : Nat) (w : World) :
    Calls Tryd.prog 60 #[.agg #[.int .i64 t.op, .int .i64 t.cl, .int .i64 t.nu, .string t.it.k, .string t.it.v, .int .i64 t.it.n, .slice a t.lf.length ca]] w fun r w' => r = .returned (.bool (decide (wishP t.op t.cl t.it.k t.it.v))) ∧ Below w.heap.size w w' := by
  have F0 := hide1 (And.intro (Blk.new w 78 #[.int .i64 t.op, .int .i64 t.cl, .int .i64 t.nu, .string t.it.k, .string t.it.v, .int .i64 t.it.n, .slice a t.lf.length ca]) ((Below.refl w.heap.size w).alloc (Nat.le_refl _) (.cells #[.int .i64 t.op, .int .i64 t.cl, .int .i64 t.nu, .string t.it.k, .string t.it.v, .int .i64 t.it.n, .slice a t.lf.length ca] 78)))
  have CC := hide1 (fun w' => implCall_any t.cl w')
  have CF := hide1 (fun w' => fitX_any t.it.k t.it.v w')
  go_enter Tryd.func60, Tryd.ntmps60
  go_upto_region 1 with fail
  generalize (w.alloc (.cells #[.int .i64 t.op, .int .i64 t.cl, .int .i64 t.nu, .string t.it.k, .string t.it.v, .int .i64 t.it.n, .slice a t.lf.length ca] 78)) = u at F0 ⊢
  obtain ⟨X, hX⟩ : ∃ G, G = w.heap.size := ⟨_, rfl⟩
  have KX := hide1 F0.out.1
  rw [← hX] at KX ⊢
  have E0 := hide1 F0.out.2
  clear F0 hX
  have y0 : u.cell? ⟨X, 0, none⟩ = some (.int .i64 t.op) := KX.out.cell 0
  have y1 : u.cell? ⟨X, 1, none⟩ = some (.int .i64 t.cl) := KX.out.cell 1
  have y3 : u.cell? ⟨X, 3, none⟩ = some (.string t.it.k) := KX.out.cell 3
  have y4 : u.cell? ⟨X, 4, none⟩ = some (.string t.it.v) := KX.out.cell 4
  obtain ⟨top, tcl, tnu, ⟨tk, tv, tn⟩, tlf⟩ := t
  dsimp only at *
  by_cases d0 : top = 1
  · have q0 : (top == 1) = true := by simp [d0]
    by_cases d1 : 0 ≤ tcl ∧ tcl ≤ 1000
    · rw [decide_eq_true d1] at CC
      by_cases d2 : fitX tk tv
      · rw [decide_eq_true d2] at CF
        have RES := hide1 (show decide (wishP top tcl tk tv) = true from decide_eq_true (⟨.inl d0, d1, d2, fun h => absurd h (by omega)⟩))
        try clear c0
        try clear c1
        try clear c2
        try clear c3
        try clear c4
        try clear c4b
        try clear c5
        try clear c6
        try clear c7
        try clear d0
        try clear d0b
        try clear d1
        try clear d2
        try clear d3
        try clear k2
        try clear k3
        try clear k4
        try clear k5
        try clear k6
        go_wp2_with (first | (go_at_call 64; refine (CC.out _).mono ?_; rintro r wx ⟨rfl, rfl⟩) | (go_at_call 65; refine (CF.out _).mono ?_; rintro r wy ⟨rfl, rfl⟩))
        go_ret
        exact ⟨by rw [RES.out]; first | done | rfl | (simp; done), E0.out⟩
      · rw [decide_eq_false d2] at CF
        have RES := hide1 (show decide (wishP top tcl tk tv) = false from decide_eq_false (fun h => d2 h.2.2.1))
        try clear c0
        try clear c1
        try clear c2
        try clear c3
        try clear c4
        try clear c4b
        try clear c5
        try clear c6
        try clear c7
        try clear d0
        try clear d0b
        try clear d1
        try clear d2
        try clear d3
        try clear k2
        try clear k3
        try clear k4
        try clear k5
        try clear k6
        go_wp2_with (first | (go_at_call 64; refine (CC.out _).mono ?_; rintro r wx ⟨rfl, rfl⟩) | (go_at_call 65; refine (CF.out _).mono ?_; rintro r wy ⟨rfl, rfl⟩))
        go_ret
        exact ⟨by rw [RES.out]; first | done | rfl | (simp; done), E0.out⟩
    · rw [decide_eq_false d1] at CC
      have RES := hide1 (show decide (wishP top tcl tk tv) = false from decide_eq_false (fun h => d1 h.2.1))
      try clear c0
      try clear c1
      try clear c2
      try clear c3
      try clear c4
      try clear c4b
      try clear c5
      try clear c6
      try clear c7
      try clear d0
      try clear d0b
      try clear d1
      try clear d2
      try clear d3
      try clear k2
      try clear k3
      try clear k4
      try clear k5
      try clear k6
      go_wp2_with (first | (go_at_call 64; refine (CC.out _).mono ?_; rintro r wx ⟨rfl, rfl⟩) | (go_at_call 65; refine (CF.out _).mono ?_; rintro r wy ⟨rfl, rfl⟩))
      go_ret
      exact ⟨by rw [RES.out]; first | done | rfl | (simp; done), E0.out⟩
  · have q0 : (top == 1) = false := by simp [d0]
    by_cases d0b : top = 2
    · have q0b : (top == 2) = true := by simp [d0b]
      by_cases d1 : 0 ≤ tcl ∧ tcl ≤ 1000
      · rw [decide_eq_true d1] at CC
        by_cases d2 : fitX tk tv
        · rw [decide_eq_true d2] at CF
          by_cases d3 : tv = ⟨#[]⟩
          · obtain ⟨q3, q3b⟩ := bytes_isE d3
            have RES := hide1 (show decide (wishP top tcl tk tv) = true from decide_eq_true (⟨.inr d0b, d1, d2, fun _ => d3⟩))
            try clear c0
            try clear c1
            try clear c2
            try clear c3
            try clear c4
            try clear c4b
            try clear c5
            try clear c6
            try clear c7
            try clear d0
            try clear d0b
            try clear d1
            try clear d2
            try clear d3
            try clear k2
            try clear k3
            try clear k4
            try clear k5
            try clear k6
            go_wp2_with (first | (go_at_call 64; refine (CC.out _).mono ?_; rintro r wx ⟨rfl, rfl⟩) | (go_at_call 65; refine (CF.out _).mono ?_; rintro r wy ⟨rfl, rfl⟩))
            go_ret
            exact ⟨by rw [RES.out]; first | done | rfl | (simp; done), E0.out⟩
          · obtain ⟨q3, q3b⟩ := bytes_isN d3
            have RES := hide1 (show decide (wishP top tcl tk tv) = false from decide_eq_false (fun h => d3 (h.2.2.2 d0b)))
            try clear c0
            try clear c1
            try clear c2
            try clear c3
            try clear c4
            try clear c4b
            try clear c5
            try clear c6
            try clear c7
            try clear d0
            try clear d0b
            try clear d1
            try clear d2
            try clear d3
            try clear k2
            try clear k3
            try clear k4
            try clear k5
            try clear k6
            go_wp2_with (first | (go_at_call 64; refine (CC.out _).mono ?_; rintro r wx ⟨rfl, rfl⟩) | (go_at_call 65; refine (CF.out _).mono ?_; rintro r wy ⟨rfl, rfl⟩))
            go_ret
            exact ⟨by rw [RES.out]; first | done | rfl | (simp; done), E0.out⟩
        · rw [decide_eq_false d2] at CF
          have RES := hide1 (show decide (wishP top tcl tk tv) = false from decide_eq_false (fun h => d2 h.2.2.1))
          try clear c0
          try clear c1
          try clear c2
          try clear c3
          try clear c4
          try clear c4b
          try clear c5
          try clear c6
          try clear c7
          try clear d0
          try clear d0b
          try clear d1
          try clear d2
          try clear d3
          try clear k2
          try clear k3
          try clear k4
          try clear k5
          try clear k6
          go_wp2_with (first | (go_at_call 64; refine (CC.out _).mono ?_; rintro r wx ⟨rfl, rfl⟩) | (go_at_call 65; refine (CF.out _).mono ?_; rintro r wy ⟨rfl, rfl⟩))
          go_ret
          exact ⟨by rw [RES.out]; first | done | rfl | (simp; done), E0.out⟩
      · rw [decide_eq_false d1] at CC
        have RES := hide1 (show decide (wishP top tcl tk tv) = false from decide_eq_false (fun h => d1 h.2.1))
        try clear c0
        try clear c1
        try clear c2
        try clear c3
        try clear c4
        try clear c4b
        try clear c5
        try clear c6
        try clear c7
        try clear d0
        try clear d0b
        try clear d1
        try clear d2
        try clear d3
        try clear k2
        try clear k3
        try clear k4
        try clear k5
        try clear k6
        go_wp2_with (first | (go_at_call 64; refine (CC.out _).mono ?_; rintro r wx ⟨rfl, rfl⟩) | (go_at_call 65; refine (CF.out _).mono ?_; rintro r wy ⟨rfl, rfl⟩))
        go_ret
        exact ⟨by rw [RES.out]; first | done | rfl | (simp; done), E0.out⟩
    · have q0b : (top == 2) = false := by simp [d0b]
      have RES := hide1 (show decide (wishP top tcl tk tv) = false from decide_eq_false (fun h => by rcases h.1 with e | e; exact d0 e; exact d0b e))
      try clear c0
      try clear c1
      try clear c2
      try clear c3
      try clear c4
      try clear c4b
      try clear c5
      try clear c6
      try clear c7
      try clear d0
      try clear d0b
      try clear d1
      try clear d2
      try clear d3
      try clear k2
      try clear k3
      try clear k4
      try clear k5
      try clear k6
      go_wp2_with (first | (go_at_call 64; refine (CC.out _).mono ?_; rintro r wx ⟨rfl, rfl⟩) | (go_at_call 65; refine (CF.out _).mono ?_; rintro r wy ⟨rfl, rfl⟩))
      go_ret
      exact ⟨by rw [RES.out]; first | done | rfl | (simp; done), E0.out⟩
end Go.Proofs.YtelmchifpgaibaaDoor
