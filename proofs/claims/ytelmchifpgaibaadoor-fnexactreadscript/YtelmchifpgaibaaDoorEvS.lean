/- The model's EventOk. -/
import Derived.Test.YtelmchifpgaibaaDoorSAL
import Derived.Test.YtelmchifpgaibaaDoorSAI
import Derived.Deep.RegionHeld3
namespace Go.Proofs.YtelmchifpgaibaaDoor
open Go.RowKit
set_option linter.unusedVariables false

set_option maxRecDepth 100000 in
set_option maxHeartbeats 4000000 in
theorem specEventOk_any (k n pl op : Int) (key val : ByteArray) (w : World) :
    Calls Tryd.prog 17 #[.agg #[.int .i64 k, .int .i64 n, .int .i64 pl, .int .i64 op, .string key, .string val]] w fun r w' => r = .returned (.bool (decide (okEv ⟨k, n, pl, op, key, val⟩))) ∧ Below w.heap.size w w' := by
  have F0 := hide1 (And.intro (Blk.new w 40 #[.int .i64 k, .int .i64 n, .int .i64 pl, .int .i64 op, .string key, .string val]) ((Below.refl w.heap.size w).alloc (Nat.le_refl _) (.cells #[.int .i64 k, .int .i64 n, .int .i64 pl, .int .i64 op, .string key, .string val] 40)))
  go_enter Tryd.func17, Tryd.ntmps17
  go_upto_region 1 with fail
  generalize (w.alloc (.cells #[.int .i64 k, .int .i64 n, .int .i64 pl, .int .i64 op, .string key, .string val] 40)) = u at F0 ⊢
  obtain ⟨X, hX⟩ : ∃ G, G = w.heap.size := ⟨_, rfl⟩
  have KX := hide1 F0.out.1
  rw [← hX] at KX ⊢
  have E0 := hide1 F0.out.2
  clear F0 hX
  have y0 : u.cell? ⟨X, 0, none⟩ = some (.int .i64 k) := KX.out.cell 0
  have y1 : u.cell? ⟨X, 1, none⟩ = some (.int .i64 n) := KX.out.cell 1
  have y2 : u.cell? ⟨X, 2, none⟩ = some (.int .i64 pl) := KX.out.cell 2
  have y3 : u.cell? ⟨X, 3, none⟩ = some (.int .i64 op) := KX.out.cell 3
  have y4 : u.cell? ⟨X, 4, none⟩ = some (.string key) := KX.out.cell 4
  have y5 : u.cell? ⟨X, 5, none⟩ = some (.string val) := KX.out.cell 5
  have C0 := hide1 (fun w' => in_anyR k 1 6 w')
  have C1 := hide1 (fun w' => in_anyR n 1 6 w')
  have C2 := hide1 (fun w' => in_anyR (key.size : Int) 1 12 w')
  by_cases c0 : 1 ≤ k ∧ k ≤ 6
  · rw [in_yesI c0] at C0
    by_cases c1 : 1 ≤ n ∧ n ≤ 6
    · rw [in_yesI c1] at C1
      by_cases c2 : 0 ≤ pl
      · have q2 : decide (pl < 0) = false := decide_eq_false (by omega)
        by_cases c3 : k = 1
        · have q3 : (k != 1) = false := by simp [c3]
          by_cases c4 : op = 1
          · have q4 : (op == 1) = true := by simp [c4]
            by_cases c5 : 1 ≤ key.size ∧ key.size ≤ 12
            · rw [in_yesI (show (1 : Int) ≤ (key.size : Int) ∧ (key.size : Int) ≤ 12 by omega)] at C2
              by_cases c6 : val.size ≤ 20
              · have q6 : decide ((val.size : Int) ≤ 20) = true := decide_eq_true (by omega)
                have RES := hide1 (show decide (okEv ⟨k, n, pl, op, key, val⟩) = true from decide_eq_true (⟨c0, c1, c2, fun h => absurd c3 h, fun _ => ⟨.inl c4, c5, c6, .inl c4⟩⟩))
                try clear c0
                try clear c1
                try clear c2
                try clear c3
                try clear c4
                try clear c4b
                try clear c5
                try clear c6
                try clear c7
                try clear d0
                try clear d0b
                try clear d1
                try clear d2
                try clear d3
                try clear k2
                try clear k3
                try clear k4
                try clear k5
                try clear k6
                go_wp2_with (go_at_call 26; (first | (with_reducible refine (C0.out _).mono ?_) | (with_reducible refine (C1.out _).mono ?_) | (with_reducible refine (C2.out _).mono ?_)); rintro r ww ⟨rfl, rfl⟩)
                go_ret
                exact ⟨by rw [RES.out]; first | done | rfl | (simp; done), E0.out⟩
              · have q6 : decide ((val.size : Int) ≤ 20) = false := decide_eq_false (by omega)
                have RES := hide1 (show decide (okEv ⟨k, n, pl, op, key, val⟩) = false from decide_eq_false (fun h => c6 (h.2.2.2.2 c3).2.2.1))
                try clear c0
                try clear c1
                try clear c2
                try clear c3
                try clear c4
                try clear c4b
                try clear c5
                try clear c6
                try clear c7
                try clear d0
                try clear d0b
                try clear d1
                try clear d2
                try clear d3
                try clear k2
                try clear k3
                try clear k4
                try clear k5
                try clear k6
                go_wp2_with (go_at_call 26; (first | (with_reducible refine (C0.out _).mono ?_) | (with_reducible refine (C1.out _).mono ?_) | (with_reducible refine (C2.out _).mono ?_)); rintro r ww ⟨rfl, rfl⟩)
                go_ret
                exact ⟨by rw [RES.out]; first | done | rfl | (simp; done), E0.out⟩
            · rw [in_noI (show ¬ ((1 : Int) ≤ (key.size : Int) ∧ (key.size : Int) ≤ 12) by omega)] at C2
              have RES := hide1 (show decide (okEv ⟨k, n, pl, op, key, val⟩) = false from decide_eq_false (fun h => c5 (h.2.2.2.2 c3).2.1))
              try clear c0
              try clear c1
              try clear c2
              try clear c3
              try clear c4
              try clear c4b
              try clear c5
              try clear c6
              try clear c7
              try clear d0
              try clear d0b
              try clear d1
              try clear d2
              try clear d3
              try clear k2
              try clear k3
              try clear k4
              try clear k5
              try clear k6
              go_wp2_with (go_at_call 26; (first | (with_reducible refine (C0.out _).mono ?_) | (with_reducible refine (C1.out _).mono ?_) | (with_reducible refine (C2.out _).mono ?_)); rintro r ww ⟨rfl, rfl⟩)
              go_ret
              exact ⟨by rw [RES.out]; first | done | rfl | (simp; done), E0.out⟩
          · have q4 : (op == 1) = false := by simp [c4]
            by_cases c4b : op = 2
            · have q4b : (op == 2) = true := by simp [c4b]
              by_cases c5 : 1 ≤ key.size ∧ key.size ≤ 12
              · rw [in_yesI (show (1 : Int) ≤ (key.size : Int) ∧ (key.size : Int) ≤ 12 by omega)] at C2
                by_cases c6 : val.size ≤ 20
                · have q6 : decide ((val.size : Int) ≤ 20) = true := decide_eq_true (by omega)
                  by_cases c7 : val = ⟨#[]⟩
                  · obtain ⟨q7, q7b⟩ := bytes_isE c7
                    have RES := hide1 (show decide (okEv ⟨k, n, pl, op, key, val⟩) = true from decide_eq_true (⟨c0, c1, c2, fun h => absurd c3 h, fun _ => ⟨.inr c4b, c5, c6, .inr c7⟩⟩))
                    try clear c0
                    try clear c1
                    try clear c2
                    try clear c3
                    try clear c4
                    try clear c4b
                    try clear c5
                    try clear c6
                    try clear c7
                    try clear d0
                    try clear d0b
                    try clear d1
                    try clear d2
                    try clear d3
                    try clear k2
                    try clear k3
                    try clear k4
                    try clear k5
                    try clear k6
                    go_wp2_with (go_at_call 26; (first | (with_reducible refine (C0.out _).mono ?_) | (with_reducible refine (C1.out _).mono ?_) | (with_reducible refine (C2.out _).mono ?_)); rintro r ww ⟨rfl, rfl⟩)
                    go_ret
                    exact ⟨by rw [RES.out]; first | done | rfl | (simp; done), E0.out⟩
                  · obtain ⟨q7, q7b⟩ := bytes_isN c7
                    have RES := hide1 (show decide (okEv ⟨k, n, pl, op, key, val⟩) = false from decide_eq_false (fun h => by rcases (h.2.2.2.2 c3).2.2.2 with e | e; exact c4 e; exact c7 e))
                    try clear c0
                    try clear c1
                    try clear c2
                    try clear c3
                    try clear c4
                    try clear c4b
                    try clear c5
                    try clear c6
                    try clear c7
                    try clear d0
                    try clear d0b
                    try clear d1
                    try clear d2
                    try clear d3
                    try clear k2
                    try clear k3
                    try clear k4
                    try clear k5
                    try clear k6
                    go_wp2_with (go_at_call 26; (first | (with_reducible refine (C0.out _).mono ?_) | (with_reducible refine (C1.out _).mono ?_) | (with_reducible refine (C2.out _).mono ?_)); rintro r ww ⟨rfl, rfl⟩)
                    go_ret
                    exact ⟨by rw [RES.out]; first | done | rfl | (simp; done), E0.out⟩
                · have q6 : decide ((val.size : Int) ≤ 20) = false := decide_eq_false (by omega)
                  have RES := hide1 (show decide (okEv ⟨k, n, pl, op, key, val⟩) = false from decide_eq_false (fun h => c6 (h.2.2.2.2 c3).2.2.1))
                  try clear c0
                  try clear c1
                  try clear c2
                  try clear c3
                  try clear c4
                  try clear c4b
                  try clear c5
                  try clear c6
                  try clear c7
                  try clear d0
                  try clear d0b
                  try clear d1
                  try clear d2
                  try clear d3
                  try clear k2
                  try clear k3
                  try clear k4
                  try clear k5
                  try clear k6
                  go_wp2_with (go_at_call 26; (first | (with_reducible refine (C0.out _).mono ?_) | (with_reducible refine (C1.out _).mono ?_) | (with_reducible refine (C2.out _).mono ?_)); rintro r ww ⟨rfl, rfl⟩)
                  go_ret
                  exact ⟨by rw [RES.out]; first | done | rfl | (simp; done), E0.out⟩
              · rw [in_noI (show ¬ ((1 : Int) ≤ (key.size : Int) ∧ (key.size : Int) ≤ 12) by omega)] at C2
                have RES := hide1 (show decide (okEv ⟨k, n, pl, op, key, val⟩) = false from decide_eq_false (fun h => c5 (h.2.2.2.2 c3).2.1))
                try clear c0
                try clear c1
                try clear c2
                try clear c3
                try clear c4
                try clear c4b
                try clear c5
                try clear c6
                try clear c7
                try clear d0
                try clear d0b
                try clear d1
                try clear d2
                try clear d3
                try clear k2
                try clear k3
                try clear k4
                try clear k5
                try clear k6
                go_wp2_with (go_at_call 26; (first | (with_reducible refine (C0.out _).mono ?_) | (with_reducible refine (C1.out _).mono ?_) | (with_reducible refine (C2.out _).mono ?_)); rintro r ww ⟨rfl, rfl⟩)
                go_ret
                exact ⟨by rw [RES.out]; first | done | rfl | (simp; done), E0.out⟩
            · have q4b : (op == 2) = false := by simp [c4b]
              have RES := hide1 (show decide (okEv ⟨k, n, pl, op, key, val⟩) = false from decide_eq_false (fun h => by rcases (h.2.2.2.2 c3).1 with e | e; exact c4 e; exact c4b e))
              try clear c0
              try clear c1
              try clear c2
              try clear c3
              try clear c4
              try clear c4b
              try clear c5
              try clear c6
              try clear c7
              try clear d0
              try clear d0b
              try clear d1
              try clear d2
              try clear d3
              try clear k2
              try clear k3
              try clear k4
              try clear k5
              try clear k6
              go_wp2_with (go_at_call 26; (first | (with_reducible refine (C0.out _).mono ?_) | (with_reducible refine (C1.out _).mono ?_) | (with_reducible refine (C2.out _).mono ?_)); rintro r ww ⟨rfl, rfl⟩)
              go_ret
              exact ⟨by rw [RES.out]; first | done | rfl | (simp; done), E0.out⟩
        · have q3 : (k != 1) = true := by simp [c3]
          by_cases c4 : op = 0
          · have q4 : (op == 0) = true := by simp [c4]
            by_cases c5 : key = ⟨#[]⟩
            · obtain ⟨q5, q5b⟩ := bytes_isE c5
              by_cases c6 : val = ⟨#[]⟩
              · obtain ⟨q6, q6b⟩ := bytes_isE c6
                have RES := hide1 (show decide (okEv ⟨k, n, pl, op, key, val⟩) = true from decide_eq_true (⟨c0, c1, c2, fun _ => ⟨c4, c5, c6⟩, fun h => absurd h c3⟩))
                try clear c0
                try clear c1
                try clear c2
                try clear c3
                try clear c4
                try clear c4b
                try clear c5
                try clear c6
                try clear c7
                try clear d0
                try clear d0b
                try clear d1
                try clear d2
                try clear d3
                try clear k2
                try clear k3
                try clear k4
                try clear k5
                try clear k6
                go_wp2_with (go_at_call 26; (first | (with_reducible refine (C0.out _).mono ?_) | (with_reducible refine (C1.out _).mono ?_) | (with_reducible refine (C2.out _).mono ?_)); rintro r ww ⟨rfl, rfl⟩)
                go_ret
                exact ⟨by rw [RES.out]; first | done | rfl | (simp; done), E0.out⟩
              · obtain ⟨q6, q6b⟩ := bytes_isN c6
                have RES := hide1 (show decide (okEv ⟨k, n, pl, op, key, val⟩) = false from decide_eq_false (fun h => c6 (h.2.2.2.1 c3).2.2))
                try clear c0
                try clear c1
                try clear c2
                try clear c3
                try clear c4
                try clear c4b
                try clear c5
                try clear c6
                try clear c7
                try clear d0
                try clear d0b
                try clear d1
                try clear d2
                try clear d3
                try clear k2
                try clear k3
                try clear k4
                try clear k5
                try clear k6
                go_wp2_with (go_at_call 26; (first | (with_reducible refine (C0.out _).mono ?_) | (with_reducible refine (C1.out _).mono ?_) | (with_reducible refine (C2.out _).mono ?_)); rintro r ww ⟨rfl, rfl⟩)
                go_ret
                exact ⟨by rw [RES.out]; first | done | rfl | (simp; done), E0.out⟩
            · obtain ⟨q5, q5b⟩ := bytes_isN c5
              have RES := hide1 (show decide (okEv ⟨k, n, pl, op, key, val⟩) = false from decide_eq_false (fun h => c5 (h.2.2.2.1 c3).2.1))
              try clear c0
              try clear c1
              try clear c2
              try clear c3
              try clear c4
              try clear c4b
              try clear c5
              try clear c6
              try clear c7
              try clear d0
              try clear d0b
              try clear d1
              try clear d2
              try clear d3
              try clear k2
              try clear k3
              try clear k4
              try clear k5
              try clear k6
              go_wp2_with (go_at_call 26; (first | (with_reducible refine (C0.out _).mono ?_) | (with_reducible refine (C1.out _).mono ?_) | (with_reducible refine (C2.out _).mono ?_)); rintro r ww ⟨rfl, rfl⟩)
              go_ret
              exact ⟨by rw [RES.out]; first | done | rfl | (simp; done), E0.out⟩
          · have q4 : (op == 0) = false := by simp [c4]
            have RES := hide1 (show decide (okEv ⟨k, n, pl, op, key, val⟩) = false from decide_eq_false (fun h => c4 (h.2.2.2.1 c3).1))
            try clear c0
            try clear c1
            try clear c2
            try clear c3
            try clear c4
            try clear c4b
            try clear c5
            try clear c6
            try clear c7
            try clear d0
            try clear d0b
            try clear d1
            try clear d2
            try clear d3
            try clear k2
            try clear k3
            try clear k4
            try clear k5
            try clear k6
            go_wp2_with (go_at_call 26; (first | (with_reducible refine (C0.out _).mono ?_) | (with_reducible refine (C1.out _).mono ?_) | (with_reducible refine (C2.out _).mono ?_)); rintro r ww ⟨rfl, rfl⟩)
            go_ret
            exact ⟨by rw [RES.out]; first | done | rfl | (simp; done), E0.out⟩
      · have q2 : decide (pl < 0) = true := decide_eq_true (by omega)
        have RES := hide1 (show decide (okEv ⟨k, n, pl, op, key, val⟩) = false from decide_eq_false (fun h => c2 h.2.2.1))
        try clear c0
        try clear c1
        try clear c2
        try clear c3
        try clear c4
        try clear c4b
        try clear c5
        try clear c6
        try clear c7
        try clear d0
        try clear d0b
        try clear d1
        try clear d2
        try clear d3
        try clear k2
        try clear k3
        try clear k4
        try clear k5
        try clear k6
        go_wp2_with (go_at_call 26; (first | (with_reducible refine (C0.out _).mono ?_) | (with_reducible refine (C1.out _).mono ?_) | (with_reducible refine (C2.out _).mono ?_)); rintro r ww ⟨rfl, rfl⟩)
        go_ret
        exact ⟨by rw [RES.out]; first | done | rfl | (simp; done), E0.out⟩
    · rw [in_noI c1] at C1
      have RES := hide1 (show decide (okEv ⟨k, n, pl, op, key, val⟩) = false from decide_eq_false (fun h => c1 h.2.1))
      try clear c0
      try clear c1
      try clear c2
      try clear c3
      try clear c4
      try clear c4b
      try clear c5
      try clear c6
      try clear c7
      try clear d0
      try clear d0b
      try clear d1
      try clear d2
      try clear d3
      try clear k2
      try clear k3
      try clear k4
      try clear k5
      try clear k6
      go_wp2_with (go_at_call 26; (first | (with_reducible refine (C0.out _).mono ?_) | (with_reducible refine (C1.out _).mono ?_) | (with_reducible refine (C2.out _).mono ?_)); rintro r ww ⟨rfl, rfl⟩)
      go_ret
      exact ⟨by rw [RES.out]; first | done | rfl | (simp; done), E0.out⟩
  · rw [in_noI c0] at C0
    have RES := hide1 (show decide (okEv ⟨k, n, pl, op, key, val⟩) = false from decide_eq_false (fun h => c0 h.1))
    try clear c0
    try clear c1
    try clear c2
    try clear c3
    try clear c4
    try clear c4b
    try clear c5
    try clear c6
    try clear c7
    try clear d0
    try clear d0b
    try clear d1
    try clear d2
    try clear d3
    try clear k2
    try clear k3
    try clear k4
    try clear k5
    try clear k6
    go_wp2_with (go_at_call 26; (first | (with_reducible refine (C0.out _).mono ?_) | (with_reducible refine (C1.out _).mono ?_) | (with_reducible refine (C2.out _).mono ?_)); rintro r ww ⟨rfl, rfl⟩)
    go_ret
    exact ⟨by rw [RES.out]; first | done | rfl | (simp; done), E0.out⟩
end Go.Proofs.YtelmchifpgaibaaDoor
