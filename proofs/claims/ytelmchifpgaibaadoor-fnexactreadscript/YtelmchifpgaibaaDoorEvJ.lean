/- The program's EventOk. -/
import Derived.Test.YtelmchifpgaibaaDoorEvI
namespace Go.Proofs.YtelmchifpgaibaaDoor
open Go.RowKit
set_option linter.unusedVariables false
set_option maxRecDepth 100000 in
set_option maxHeartbeats 4000000 in
theorem implEventOk_any (k n pl op : Int) (key val : ByteArray) (w : World) :
    Calls Tryd.prog 54 #[.agg #[.int .i64 k, .int .i64 n, .int .i64 pl, .int .i64 op, .string key, .string val]] w fun r w' => r = .returned (.bool (decide (okEv ⟨k, n, pl, op, key, val⟩))) ∧ Below w.heap.size w w' := by
  have F0 := hide1 (And.intro (Blk.new w 40 #[.int .i64 k, .int .i64 n, .int .i64 pl, .int .i64 op, .string key, .string val]) ((Below.refl w.heap.size w).alloc (Nat.le_refl _) (.cells #[.int .i64 k, .int .i64 n, .int .i64 pl, .int .i64 op, .string key, .string val] 40)))
  go_enter Tryd.func54, Tryd.ntmps54
  go_upto_region 1 with fail
  generalize (w.alloc (.cells #[.int .i64 k, .int .i64 n, .int .i64 pl, .int .i64 op, .string key, .string val] 40)) = u at F0 ⊢
  obtain ⟨X, hX⟩ : ∃ G, G = w.heap.size := ⟨_, rfl⟩
  have KX := hide1 F0.out.1
  rw [← hX] at KX ⊢
  have E0 := hide1 F0.out.2
  clear F0 hX
  have y0 : u.cell? ⟨X, 0, none⟩ = some (.int .i64 k) := KX.out.cell 0
  have y1 : u.cell? ⟨X, 1, none⟩ = some (.int .i64 n) := KX.out.cell 1
  have y2 : u.cell? ⟨X, 2, none⟩ = some (.int .i64 pl) := KX.out.cell 2
  have y3 : u.cell? ⟨X, 3, none⟩ = some (.int .i64 op) := KX.out.cell 3
  have y4 : u.cell? ⟨X, 4, none⟩ = some (.string key) := KX.out.cell 4
  have y5 : u.cell? ⟨X, 5, none⟩ = some (.string val) := KX.out.cell 5
  have CN := hide1 (fun w' => nodeFits_any n w')
  have CW := hide1 (fun w' => implWish_any ⟨op, 0, 0, ⟨key, val, 0⟩, []⟩ none 0 w')
  dsimp only [List.length_nil] at CW
  by_cases c1 : 1 ≤ n ∧ n ≤ 6
  · rw [decide_eq_true c1] at CN
    by_cases c2 : 0 ≤ pl
    · have q2 : decide (pl < 0) = false := decide_eq_false (by omega)
      by_cases c3 : k = 1
      · have qk1 : (k == 1) = true := by simp [c3]
        by_cases c4 : wishP op 0 key val
        · rw [decide_eq_true c4] at CW
          have RES := hide1 (show decide (okEv ⟨k, n, pl, op, key, val⟩) = true from decide_eq_true (⟨by dsimp only; omega, c1, c2, fun h => absurd c3 h, fun _ => ⟨c4.1, c4.2.2.1.1, c4.2.2.1.2, by rcases c4.1 with e | e; exact .inl e; exact .inr (c4.2.2.2 e)⟩⟩))
          try clear c0
          try clear c1
          try clear c2
          try clear c3
          try clear c4
          try clear c4b
          try clear c5
          try clear c6
          try clear c7
          try clear d0
          try clear d0b
          try clear d1
          try clear d2
          try clear d3
          try clear k2
          try clear k3
          try clear k4
          try clear k5
          try clear k6
          go_wp2_with (first | (go_at_call 59; refine (CN.out _).mono ?_; rintro r ww ⟨rfl, rfl⟩) | (go_at_call 60; refine (CW.out _).mono ?_; rintro r wv ⟨rfl, hbv⟩))
          go_ret
          exact ⟨by rw [RES.out]; first | done | rfl | (simp; done), E0.out.trans (hbv.mono E0.out.size)⟩
        · rw [decide_eq_false c4] at CW
          have RES := hide1 (show decide (okEv ⟨k, n, pl, op, key, val⟩) = false from decide_eq_false (fun h => c4 ⟨(h.2.2.2.2 c3).1, by omega, ⟨(h.2.2.2.2 c3).2.1, (h.2.2.2.2 c3).2.2.1⟩, fun e => by rcases (h.2.2.2.2 c3).2.2.2 with g | g; exact absurd g (by dsimp only; omega); exact g⟩))
          try clear c0
          try clear c1
          try clear c2
          try clear c3
          try clear c4
          try clear c4b
          try clear c5
          try clear c6
          try clear c7
          try clear d0
          try clear d0b
          try clear d1
          try clear d2
          try clear d3
          try clear k2
          try clear k3
          try clear k4
          try clear k5
          try clear k6
          go_wp2_with (first | (go_at_call 59; refine (CN.out _).mono ?_; rintro r ww ⟨rfl, rfl⟩) | (go_at_call 60; refine (CW.out _).mono ?_; rintro r wv ⟨rfl, hbv⟩))
          go_ret
          exact ⟨by rw [RES.out]; first | done | rfl | (simp; done), E0.out.trans (hbv.mono E0.out.size)⟩
      · have qk1 : (k == 1) = false := by simp [c3]
        by_cases k2 : k = 2
        · have qk2 : (k == 2) = true := by simp [k2]
          by_cases c4 : op = 0
          · have q4 : (op == 0) = true := by simp [c4]
            by_cases c5 : key = ⟨#[]⟩
            · obtain ⟨q5, q5b⟩ := bytes_isE c5
              by_cases c6 : val = ⟨#[]⟩
              · obtain ⟨q6, q6b⟩ := bytes_isE c6
                have RES := hide1 (show decide (okEv ⟨k, n, pl, op, key, val⟩) = true from decide_eq_true (⟨by dsimp only; omega, c1, c2, fun _ => ⟨c4, c5, c6⟩, fun h => by exfalso; dsimp only at h; omega⟩))
                try clear c0
                try clear c1
                try clear c2
                try clear c3
                try clear c4
                try clear c4b
                try clear c5
                try clear c6
                try clear c7
                try clear d0
                try clear d0b
                try clear d1
                try clear d2
                try clear d3
                try clear k2
                try clear k3
                try clear k4
                try clear k5
                try clear k6
                go_wp2_with (first | (go_at_call 59; refine (CN.out _).mono ?_; rintro r ww ⟨rfl, rfl⟩) | (go_at_call 60; refine (CW.out _).mono ?_; rintro r wv ⟨rfl, hbv⟩))
                go_ret
                exact ⟨by rw [RES.out]; first | done | rfl | (simp; done), E0.out⟩
              · obtain ⟨q6, q6b⟩ := bytes_isN c6
                have RES := hide1 (show decide (okEv ⟨k, n, pl, op, key, val⟩) = false from decide_eq_false (fun h => c6 (h.2.2.2.1 (by dsimp only; omega)).2.2))
                try clear c0
                try clear c1
                try clear c2
                try clear c3
                try clear c4
                try clear c4b
                try clear c5
                try clear c6
                try clear c7
                try clear d0
                try clear d0b
                try clear d1
                try clear d2
                try clear d3
                try clear k2
                try clear k3
                try clear k4
                try clear k5
                try clear k6
                go_wp2_with (first | (go_at_call 59; refine (CN.out _).mono ?_; rintro r ww ⟨rfl, rfl⟩) | (go_at_call 60; refine (CW.out _).mono ?_; rintro r wv ⟨rfl, hbv⟩))
                go_ret
                exact ⟨by rw [RES.out]; first | done | rfl | (simp; done), E0.out⟩
            · obtain ⟨q5, q5b⟩ := bytes_isN c5
              have RES := hide1 (show decide (okEv ⟨k, n, pl, op, key, val⟩) = false from decide_eq_false (fun h => c5 (h.2.2.2.1 (by dsimp only; omega)).2.1))
              try clear c0
              try clear c1
              try clear c2
              try clear c3
              try clear c4
              try clear c4b
              try clear c5
              try clear c6
              try clear c7
              try clear d0
              try clear d0b
              try clear d1
              try clear d2
              try clear d3
              try clear k2
              try clear k3
              try clear k4
              try clear k5
              try clear k6
              go_wp2_with (first | (go_at_call 59; refine (CN.out _).mono ?_; rintro r ww ⟨rfl, rfl⟩) | (go_at_call 60; refine (CW.out _).mono ?_; rintro r wv ⟨rfl, hbv⟩))
              go_ret
              exact ⟨by rw [RES.out]; first | done | rfl | (simp; done), E0.out⟩
          · have q4 : (op == 0) = false := by simp [c4]
            have RES := hide1 (show decide (okEv ⟨k, n, pl, op, key, val⟩) = false from decide_eq_false (fun h => c4 (h.2.2.2.1 (by dsimp only; omega)).1))
            try clear c0
            try clear c1
            try clear c2
            try clear c3
            try clear c4
            try clear c4b
            try clear c5
            try clear c6
            try clear c7
            try clear d0
            try clear d0b
            try clear d1
            try clear d2
            try clear d3
            try clear k2
            try clear k3
            try clear k4
            try clear k5
            try clear k6
            go_wp2_with (first | (go_at_call 59; refine (CN.out _).mono ?_; rintro r ww ⟨rfl, rfl⟩) | (go_at_call 60; refine (CW.out _).mono ?_; rintro r wv ⟨rfl, hbv⟩))
            go_ret
            exact ⟨by rw [RES.out]; first | done | rfl | (simp; done), E0.out⟩
        · have qk2 : (k == 2) = false := by simp [k2]
          by_cases k3 : k = 3
          · have qk3 : (k == 3) = true := by simp [k3]
            by_cases c4 : op = 0
            · have q4 : (op == 0) = true := by simp [c4]
              by_cases c5 : key = ⟨#[]⟩
              · obtain ⟨q5, q5b⟩ := bytes_isE c5
                by_cases c6 : val = ⟨#[]⟩
                · obtain ⟨q6, q6b⟩ := bytes_isE c6
                  have RES := hide1 (show decide (okEv ⟨k, n, pl, op, key, val⟩) = true from decide_eq_true (⟨by dsimp only; omega, c1, c2, fun _ => ⟨c4, c5, c6⟩, fun h => by exfalso; dsimp only at h; omega⟩))
                  try clear c0
                  try clear c1
                  try clear c2
                  try clear c3
                  try clear c4
                  try clear c4b
                  try clear c5
                  try clear c6
                  try clear c7
                  try clear d0
                  try clear d0b
                  try clear d1
                  try clear d2
                  try clear d3
                  try clear k2
                  try clear k3
                  try clear k4
                  try clear k5
                  try clear k6
                  go_wp2_with (first | (go_at_call 59; refine (CN.out _).mono ?_; rintro r ww ⟨rfl, rfl⟩) | (go_at_call 60; refine (CW.out _).mono ?_; rintro r wv ⟨rfl, hbv⟩))
                  go_ret
                  exact ⟨by rw [RES.out]; first | done | rfl | (simp; done), E0.out⟩
                · obtain ⟨q6, q6b⟩ := bytes_isN c6
                  have RES := hide1 (show decide (okEv ⟨k, n, pl, op, key, val⟩) = false from decide_eq_false (fun h => c6 (h.2.2.2.1 (by dsimp only; omega)).2.2))
                  try clear c0
                  try clear c1
                  try clear c2
                  try clear c3
                  try clear c4
                  try clear c4b
                  try clear c5
                  try clear c6
                  try clear c7
                  try clear d0
                  try clear d0b
                  try clear d1
                  try clear d2
                  try clear d3
                  try clear k2
                  try clear k3
                  try clear k4
                  try clear k5
                  try clear k6
                  go_wp2_with (first | (go_at_call 59; refine (CN.out _).mono ?_; rintro r ww ⟨rfl, rfl⟩) | (go_at_call 60; refine (CW.out _).mono ?_; rintro r wv ⟨rfl, hbv⟩))
                  go_ret
                  exact ⟨by rw [RES.out]; first | done | rfl | (simp; done), E0.out⟩
              · obtain ⟨q5, q5b⟩ := bytes_isN c5
                have RES := hide1 (show decide (okEv ⟨k, n, pl, op, key, val⟩) = false from decide_eq_false (fun h => c5 (h.2.2.2.1 (by dsimp only; omega)).2.1))
                try clear c0
                try clear c1
                try clear c2
                try clear c3
                try clear c4
                try clear c4b
                try clear c5
                try clear c6
                try clear c7
                try clear d0
                try clear d0b
                try clear d1
                try clear d2
                try clear d3
                try clear k2
                try clear k3
                try clear k4
                try clear k5
                try clear k6
                go_wp2_with (first | (go_at_call 59; refine (CN.out _).mono ?_; rintro r ww ⟨rfl, rfl⟩) | (go_at_call 60; refine (CW.out _).mono ?_; rintro r wv ⟨rfl, hbv⟩))
                go_ret
                exact ⟨by rw [RES.out]; first | done | rfl | (simp; done), E0.out⟩
            · have q4 : (op == 0) = false := by simp [c4]
              have RES := hide1 (show decide (okEv ⟨k, n, pl, op, key, val⟩) = false from decide_eq_false (fun h => c4 (h.2.2.2.1 (by dsimp only; omega)).1))
              try clear c0
              try clear c1
              try clear c2
              try clear c3
              try clear c4
              try clear c4b
              try clear c5
              try clear c6
              try clear c7
              try clear d0
              try clear d0b
              try clear d1
              try clear d2
              try clear d3
              try clear k2
              try clear k3
              try clear k4
              try clear k5
              try clear k6
              go_wp2_with (first | (go_at_call 59; refine (CN.out _).mono ?_; rintro r ww ⟨rfl, rfl⟩) | (go_at_call 60; refine (CW.out _).mono ?_; rintro r wv ⟨rfl, hbv⟩))
              go_ret
              exact ⟨by rw [RES.out]; first | done | rfl | (simp; done), E0.out⟩
          · have qk3 : (k == 3) = false := by simp [k3]
            by_cases k4 : k = 4
            · have qk4 : (k == 4) = true := by simp [k4]
              by_cases c4 : op = 0
              · have q4 : (op == 0) = true := by simp [c4]
                by_cases c5 : key = ⟨#[]⟩
                · obtain ⟨q5, q5b⟩ := bytes_isE c5
                  by_cases c6 : val = ⟨#[]⟩
                  · obtain ⟨q6, q6b⟩ := bytes_isE c6
                    have RES := hide1 (show decide (okEv ⟨k, n, pl, op, key, val⟩) = true from decide_eq_true (⟨by dsimp only; omega, c1, c2, fun _ => ⟨c4, c5, c6⟩, fun h => by exfalso; dsimp only at h; omega⟩))
                    try clear c0
                    try clear c1
                    try clear c2
                    try clear c3
                    try clear c4
                    try clear c4b
                    try clear c5
                    try clear c6
                    try clear c7
                    try clear d0
                    try clear d0b
                    try clear d1
                    try clear d2
                    try clear d3
                    try clear k2
                    try clear k3
                    try clear k4
                    try clear k5
                    try clear k6
                    go_wp2_with (first | (go_at_call 59; refine (CN.out _).mono ?_; rintro r ww ⟨rfl, rfl⟩) | (go_at_call 60; refine (CW.out _).mono ?_; rintro r wv ⟨rfl, hbv⟩))
                    go_ret
                    exact ⟨by rw [RES.out]; first | done | rfl | (simp; done), E0.out⟩
                  · obtain ⟨q6, q6b⟩ := bytes_isN c6
                    have RES := hide1 (show decide (okEv ⟨k, n, pl, op, key, val⟩) = false from decide_eq_false (fun h => c6 (h.2.2.2.1 (by dsimp only; omega)).2.2))
                    try clear c0
                    try clear c1
                    try clear c2
                    try clear c3
                    try clear c4
                    try clear c4b
                    try clear c5
                    try clear c6
                    try clear c7
                    try clear d0
                    try clear d0b
                    try clear d1
                    try clear d2
                    try clear d3
                    try clear k2
                    try clear k3
                    try clear k4
                    try clear k5
                    try clear k6
                    go_wp2_with (first | (go_at_call 59; refine (CN.out _).mono ?_; rintro r ww ⟨rfl, rfl⟩) | (go_at_call 60; refine (CW.out _).mono ?_; rintro r wv ⟨rfl, hbv⟩))
                    go_ret
                    exact ⟨by rw [RES.out]; first | done | rfl | (simp; done), E0.out⟩
                · obtain ⟨q5, q5b⟩ := bytes_isN c5
                  have RES := hide1 (show decide (okEv ⟨k, n, pl, op, key, val⟩) = false from decide_eq_false (fun h => c5 (h.2.2.2.1 (by dsimp only; omega)).2.1))
                  try clear c0
                  try clear c1
                  try clear c2
                  try clear c3
                  try clear c4
                  try clear c4b
                  try clear c5
                  try clear c6
                  try clear c7
                  try clear d0
                  try clear d0b
                  try clear d1
                  try clear d2
                  try clear d3
                  try clear k2
                  try clear k3
                  try clear k4
                  try clear k5
                  try clear k6
                  go_wp2_with (first | (go_at_call 59; refine (CN.out _).mono ?_; rintro r ww ⟨rfl, rfl⟩) | (go_at_call 60; refine (CW.out _).mono ?_; rintro r wv ⟨rfl, hbv⟩))
                  go_ret
                  exact ⟨by rw [RES.out]; first | done | rfl | (simp; done), E0.out⟩
              · have q4 : (op == 0) = false := by simp [c4]
                have RES := hide1 (show decide (okEv ⟨k, n, pl, op, key, val⟩) = false from decide_eq_false (fun h => c4 (h.2.2.2.1 (by dsimp only; omega)).1))
                try clear c0
                try clear c1
                try clear c2
                try clear c3
                try clear c4
                try clear c4b
                try clear c5
                try clear c6
                try clear c7
                try clear d0
                try clear d0b
                try clear d1
                try clear d2
                try clear d3
                try clear k2
                try clear k3
                try clear k4
                try clear k5
                try clear k6
                go_wp2_with (first | (go_at_call 59; refine (CN.out _).mono ?_; rintro r ww ⟨rfl, rfl⟩) | (go_at_call 60; refine (CW.out _).mono ?_; rintro r wv ⟨rfl, hbv⟩))
                go_ret
                exact ⟨by rw [RES.out]; first | done | rfl | (simp; done), E0.out⟩
            · have qk4 : (k == 4) = false := by simp [k4]
              by_cases k5 : k = 5
              · have qk5 : (k == 5) = true := by simp [k5]
                by_cases c4 : op = 0
                · have q4 : (op == 0) = true := by simp [c4]
                  by_cases c5 : key = ⟨#[]⟩
                  · obtain ⟨q5, q5b⟩ := bytes_isE c5
                    by_cases c6 : val = ⟨#[]⟩
                    · obtain ⟨q6, q6b⟩ := bytes_isE c6
                      have RES := hide1 (show decide (okEv ⟨k, n, pl, op, key, val⟩) = true from decide_eq_true (⟨by dsimp only; omega, c1, c2, fun _ => ⟨c4, c5, c6⟩, fun h => by exfalso; dsimp only at h; omega⟩))
                      try clear c0
                      try clear c1
                      try clear c2
                      try clear c3
                      try clear c4
                      try clear c4b
                      try clear c5
                      try clear c6
                      try clear c7
                      try clear d0
                      try clear d0b
                      try clear d1
                      try clear d2
                      try clear d3
                      try clear k2
                      try clear k3
                      try clear k4
                      try clear k5
                      try clear k6
                      go_wp2_with (first | (go_at_call 59; refine (CN.out _).mono ?_; rintro r ww ⟨rfl, rfl⟩) | (go_at_call 60; refine (CW.out _).mono ?_; rintro r wv ⟨rfl, hbv⟩))
                      go_ret
                      exact ⟨by rw [RES.out]; first | done | rfl | (simp; done), E0.out⟩
                    · obtain ⟨q6, q6b⟩ := bytes_isN c6
                      have RES := hide1 (show decide (okEv ⟨k, n, pl, op, key, val⟩) = false from decide_eq_false (fun h => c6 (h.2.2.2.1 (by dsimp only; omega)).2.2))
                      try clear c0
                      try clear c1
                      try clear c2
                      try clear c3
                      try clear c4
                      try clear c4b
                      try clear c5
                      try clear c6
                      try clear c7
                      try clear d0
                      try clear d0b
                      try clear d1
                      try clear d2
                      try clear d3
                      try clear k2
                      try clear k3
                      try clear k4
                      try clear k5
                      try clear k6
                      go_wp2_with (first | (go_at_call 59; refine (CN.out _).mono ?_; rintro r ww ⟨rfl, rfl⟩) | (go_at_call 60; refine (CW.out _).mono ?_; rintro r wv ⟨rfl, hbv⟩))
                      go_ret
                      exact ⟨by rw [RES.out]; first | done | rfl | (simp; done), E0.out⟩
                  · obtain ⟨q5, q5b⟩ := bytes_isN c5
                    have RES := hide1 (show decide (okEv ⟨k, n, pl, op, key, val⟩) = false from decide_eq_false (fun h => c5 (h.2.2.2.1 (by dsimp only; omega)).2.1))
                    try clear c0
                    try clear c1
                    try clear c2
                    try clear c3
                    try clear c4
                    try clear c4b
                    try clear c5
                    try clear c6
                    try clear c7
                    try clear d0
                    try clear d0b
                    try clear d1
                    try clear d2
                    try clear d3
                    try clear k2
                    try clear k3
                    try clear k4
                    try clear k5
                    try clear k6
                    go_wp2_with (first | (go_at_call 59; refine (CN.out _).mono ?_; rintro r ww ⟨rfl, rfl⟩) | (go_at_call 60; refine (CW.out _).mono ?_; rintro r wv ⟨rfl, hbv⟩))
                    go_ret
                    exact ⟨by rw [RES.out]; first | done | rfl | (simp; done), E0.out⟩
                · have q4 : (op == 0) = false := by simp [c4]
                  have RES := hide1 (show decide (okEv ⟨k, n, pl, op, key, val⟩) = false from decide_eq_false (fun h => c4 (h.2.2.2.1 (by dsimp only; omega)).1))
                  try clear c0
                  try clear c1
                  try clear c2
                  try clear c3
                  try clear c4
                  try clear c4b
                  try clear c5
                  try clear c6
                  try clear c7
                  try clear d0
                  try clear d0b
                  try clear d1
                  try clear d2
                  try clear d3
                  try clear k2
                  try clear k3
                  try clear k4
                  try clear k5
                  try clear k6
                  go_wp2_with (first | (go_at_call 59; refine (CN.out _).mono ?_; rintro r ww ⟨rfl, rfl⟩) | (go_at_call 60; refine (CW.out _).mono ?_; rintro r wv ⟨rfl, hbv⟩))
                  go_ret
                  exact ⟨by rw [RES.out]; first | done | rfl | (simp; done), E0.out⟩
              · have qk5 : (k == 5) = false := by simp [k5]
                by_cases k6 : k = 6
                · have qk6 : (k == 6) = true := by simp [k6]
                  by_cases c4 : op = 0
                  · have q4 : (op == 0) = true := by simp [c4]
                    by_cases c5 : key = ⟨#[]⟩
                    · obtain ⟨q5, q5b⟩ := bytes_isE c5
                      by_cases c6 : val = ⟨#[]⟩
                      · obtain ⟨q6, q6b⟩ := bytes_isE c6
                        have RES := hide1 (show decide (okEv ⟨k, n, pl, op, key, val⟩) = true from decide_eq_true (⟨by dsimp only; omega, c1, c2, fun _ => ⟨c4, c5, c6⟩, fun h => by exfalso; dsimp only at h; omega⟩))
                        try clear c0
                        try clear c1
                        try clear c2
                        try clear c3
                        try clear c4
                        try clear c4b
                        try clear c5
                        try clear c6
                        try clear c7
                        try clear d0
                        try clear d0b
                        try clear d1
                        try clear d2
                        try clear d3
                        try clear k2
                        try clear k3
                        try clear k4
                        try clear k5
                        try clear k6
                        go_wp2_with (first | (go_at_call 59; refine (CN.out _).mono ?_; rintro r ww ⟨rfl, rfl⟩) | (go_at_call 60; refine (CW.out _).mono ?_; rintro r wv ⟨rfl, hbv⟩))
                        go_ret
                        exact ⟨by rw [RES.out]; first | done | rfl | (simp; done), E0.out⟩
                      · obtain ⟨q6, q6b⟩ := bytes_isN c6
                        have RES := hide1 (show decide (okEv ⟨k, n, pl, op, key, val⟩) = false from decide_eq_false (fun h => c6 (h.2.2.2.1 (by dsimp only; omega)).2.2))
                        try clear c0
                        try clear c1
                        try clear c2
                        try clear c3
                        try clear c4
                        try clear c4b
                        try clear c5
                        try clear c6
                        try clear c7
                        try clear d0
                        try clear d0b
                        try clear d1
                        try clear d2
                        try clear d3
                        try clear k2
                        try clear k3
                        try clear k4
                        try clear k5
                        try clear k6
                        go_wp2_with (first | (go_at_call 59; refine (CN.out _).mono ?_; rintro r ww ⟨rfl, rfl⟩) | (go_at_call 60; refine (CW.out _).mono ?_; rintro r wv ⟨rfl, hbv⟩))
                        go_ret
                        exact ⟨by rw [RES.out]; first | done | rfl | (simp; done), E0.out⟩
                    · obtain ⟨q5, q5b⟩ := bytes_isN c5
                      have RES := hide1 (show decide (okEv ⟨k, n, pl, op, key, val⟩) = false from decide_eq_false (fun h => c5 (h.2.2.2.1 (by dsimp only; omega)).2.1))
                      try clear c0
                      try clear c1
                      try clear c2
                      try clear c3
                      try clear c4
                      try clear c4b
                      try clear c5
                      try clear c6
                      try clear c7
                      try clear d0
                      try clear d0b
                      try clear d1
                      try clear d2
                      try clear d3
                      try clear k2
                      try clear k3
                      try clear k4
                      try clear k5
                      try clear k6
                      go_wp2_with (first | (go_at_call 59; refine (CN.out _).mono ?_; rintro r ww ⟨rfl, rfl⟩) | (go_at_call 60; refine (CW.out _).mono ?_; rintro r wv ⟨rfl, hbv⟩))
                      go_ret
                      exact ⟨by rw [RES.out]; first | done | rfl | (simp; done), E0.out⟩
                  · have q4 : (op == 0) = false := by simp [c4]
                    have RES := hide1 (show decide (okEv ⟨k, n, pl, op, key, val⟩) = false from decide_eq_false (fun h => c4 (h.2.2.2.1 (by dsimp only; omega)).1))
                    try clear c0
                    try clear c1
                    try clear c2
                    try clear c3
                    try clear c4
                    try clear c4b
                    try clear c5
                    try clear c6
                    try clear c7
                    try clear d0
                    try clear d0b
                    try clear d1
                    try clear d2
                    try clear d3
                    try clear k2
                    try clear k3
                    try clear k4
                    try clear k5
                    try clear k6
                    go_wp2_with (first | (go_at_call 59; refine (CN.out _).mono ?_; rintro r ww ⟨rfl, rfl⟩) | (go_at_call 60; refine (CW.out _).mono ?_; rintro r wv ⟨rfl, hbv⟩))
                    go_ret
                    exact ⟨by rw [RES.out]; first | done | rfl | (simp; done), E0.out⟩
                · have qk6 : (k == 6) = false := by simp [k6]
                  have RES := hide1 (show decide (okEv ⟨k, n, pl, op, key, val⟩) = false from decide_eq_false (fun h => by have := h.1; dsimp only at this; omega))
                  try clear c0
                  try clear c1
                  try clear c2
                  try clear c3
                  try clear c4
                  try clear c4b
                  try clear c5
                  try clear c6
                  try clear c7
                  try clear d0
                  try clear d0b
                  try clear d1
                  try clear d2
                  try clear d3
                  try clear k2
                  try clear k3
                  try clear k4
                  try clear k5
                  try clear k6
                  go_wp2_with (first | (go_at_call 59; refine (CN.out _).mono ?_; rintro r ww ⟨rfl, rfl⟩) | (go_at_call 60; refine (CW.out _).mono ?_; rintro r wv ⟨rfl, hbv⟩))
                  go_ret
                  exact ⟨by rw [RES.out]; first | done | rfl | (simp; done), E0.out⟩
    · have q2 : decide (pl < 0) = true := decide_eq_true (by omega)
      have RES := hide1 (show decide (okEv ⟨k, n, pl, op, key, val⟩) = false from decide_eq_false (fun h => c2 h.2.2.1))
      try clear c0
      try clear c1
      try clear c2
      try clear c3
      try clear c4
      try clear c4b
      try clear c5
      try clear c6
      try clear c7
      try clear d0
      try clear d0b
      try clear d1
      try clear d2
      try clear d3
      try clear k2
      try clear k3
      try clear k4
      try clear k5
      try clear k6
      go_wp2_with (first | (go_at_call 59; refine (CN.out _).mono ?_; rintro r ww ⟨rfl, rfl⟩) | (go_at_call 60; refine (CW.out _).mono ?_; rintro r wv ⟨rfl, hbv⟩))
      go_ret
      exact ⟨by rw [RES.out]; first | done | rfl | (simp; done), E0.out⟩
  · rw [decide_eq_false c1] at CN
    have RES := hide1 (show decide (okEv ⟨k, n, pl, op, key, val⟩) = false from decide_eq_false (fun h => c1 h.2.1))
    try clear c0
    try clear c1
    try clear c2
    try clear c3
    try clear c4
    try clear c4b
    try clear c5
    try clear c6
    try clear c7
    try clear d0
    try clear d0b
    try clear d1
    try clear d2
    try clear d3
    try clear k2
    try clear k3
    try clear k4
    try clear k5
    try clear k6
    go_wp2_with (first | (go_at_call 59; refine (CN.out _).mono ?_; rintro r ww ⟨rfl, rfl⟩) | (go_at_call 60; refine (CW.out _).mono ?_; rintro r wv ⟨rfl, hbv⟩))
    go_ret
    exact ⟨by rw [RES.out]; first | done | rfl | (simp; done), E0.out⟩
end Go.Proofs.YtelmchifpgaibaaDoor
