/- The program's small functions on items and messages. -/
import Derived.Test.YtgmiohmglffidaaImM
import Derived.Test.YtgmiohmglffidaaMsS
import Derived.Deep.RegionHeld3
namespace Go.Proofs.Ytgmiohmglffidaa
open Go.RowKit
set_option linter.unusedVariables false

theorem conv_newX {P : Program} (w : World) (src dst e : TypeId) (s : ByteArray) (hs : P.underlying src = some .string) (hd : P.underlying dst = some (.slice e)) (he : P.underlying e = some (.int .u8)) :
    ∃ v w1, (convert src dst (.string s)).run P w = .ok v w1 ∧ (convert dst src v).run P w1 = .ok (.string s) w1 ∧ Below w.heap.size w w1 := by
  refine ⟨_, _, run_bytes_of_string w src dst e s hs hd he, ?_, (Below.refl _ _).drew.alloc (Nat.le_refl _) _⟩
  have hl : s.size = s.data.toList.length := by simp
  rw [hl, run_convert_bytes_back _ dst src e ⟨w.heap.size, 0, none⟩ _ s.data.toList hd he hs]
  intro j hj
  have hj' : j < s.data.size := by simpa using hj
  rw [Addr.add_lit, Nat.zero_add]
  have := World.cell?_alloc_mark w.drew (bytesRow s (grownCap w s.size 0 e)) e ((bytesRow s (grownCap w s.size 0 e)).size, (bytesRow s (grownCap w s.size 0 e)).size + 1) j
  rw [bytesRow_at s _ j hj'] at this
  rw [← hl]
  simpa using this

theorem keyX_any (k : ByteArray) (w : World) : Calls Try.prog 59 #[.string k] w fun e w' => e = .returned (.bool (decide (1 ≤ k.size ∧ k.size ≤ 12))) ∧ w' = w := by
  by_cases h1 : 1 ≤ k.size
  · by_cases h2 : k.size ≤ 12
    · have HF := hide1 (show decide (1 ≤ k.size ∧ k.size ≤ 12) = true by simp [h1, h2])
      go_enter Try.func59, Try.ntmps59
      go_wp2
      go_ret
      exact ⟨by first | rfl | (rw [HF.out]; first | rfl | (show Ending.returned (.bool (decide ((k.size : Int) ≤ 12))) = _; rw [decide_eq_true (by omega)])), rfl⟩
    · have HF := hide1 (show decide (1 ≤ k.size ∧ k.size ≤ 12) = false by simp [h2])
      go_enter Try.func59, Try.ntmps59
      go_wp2
      go_ret
      exact ⟨by rw [HF.out]; first | rfl | (show Ending.returned (.bool (decide ((k.size : Int) ≤ 12))) = _; rw [decide_eq_false (by omega)]), rfl⟩
  · have HF := hide1 (show decide (1 ≤ k.size ∧ k.size ≤ 12) = false by simp [h1])
    go_enter Try.func59, Try.ntmps59
    go_wp2
    go_ret
    exact ⟨by first | rfl | (rw [HF.out]; rfl), rfl⟩

def fitX (k v : ByteArray) : Prop := (1 ≤ k.size ∧ k.size ≤ 12) ∧ v.size ≤ 20
instance (k v : ByteArray) : Decidable (fitX k v) := by unfold fitX; infer_instance
theorem fitX_any (k v : ByteArray) (w : World) : Calls Try.prog 58 #[.string k, .string v] w fun e w' => e = .returned (.bool (decide (fitX k v))) ∧ w' = w := by
  have CK := hide1 (fun w => keyX_any k w)
  by_cases hk : 1 ≤ k.size ∧ k.size ≤ 12
  · rw [decide_eq_true hk] at CK
    by_cases h3 : v.size ≤ 20
    · have HF := hide1 (show decide (fitX k v) = true from decide_eq_true ⟨hk, h3⟩)
      clear hk
      go_enter Try.func58, Try.ntmps58
      go_wp2_with fail
      refine (CK.out _).mono ?_
      rintro e w1 ⟨rfl, rfl⟩
      go_wp2
      go_ret
      exact ⟨by rw [HF.out]; first | rfl | (show Ending.returned (.bool (decide ((v.size : Int) ≤ 20))) = _; rw [decide_eq_true (by omega)]), rfl⟩
    · have HF := hide1 (show decide (fitX k v) = false from decide_eq_false (fun h => h3 h.2))
      clear hk
      go_enter Try.func58, Try.ntmps58
      go_wp2_with fail
      refine (CK.out _).mono ?_
      rintro e w1 ⟨rfl, rfl⟩
      go_wp2
      go_ret
      exact ⟨by rw [HF.out]; first | rfl | (show Ending.returned (.bool (decide ((v.size : Int) ≤ 20))) = _; rw [decide_eq_false (by omega)]), rfl⟩
  · have HF := hide1 (show decide (fitX k v) = false from decide_eq_false (fun h => hk h.1))
    rw [decide_eq_false hk] at CK
    clear hk
    go_enter Try.func58, Try.ntmps58
    go_wp2_with fail
    refine (CK.out _).mono ?_
    rintro e w1 ⟨rfl, rfl⟩
    go_wp2
    go_ret
    exact ⟨by rw [HF.out]; rfl, rfl⟩

theorem okIm_fit (x : Im) : okIm x ↔ fitX x.k x.v ∧ 1 ≤ x.n ∧ x.n ≤ 1000000000 := by unfold okIm fitX; constructor <;> (intro h; exact ⟨by first | exact ⟨h.1, h.2.1⟩ | exact h.1.1, by first | exact h.2.2 | exact ⟨h.1.2, h.2⟩⟩)
set_option maxRecDepth 100000 in
set_option maxHeartbeats 2000000 in
theorem itemFits_any (x : Im) (w : World) : Calls Try.prog 56 #[.agg #[.string x.k, .string x.v, .int .i64 x.n]] w fun e w' => e = .returned (.bool (decide (okIm x))) ∧ Below w.heap.size w w' := by
  obtain ⟨k, v, n⟩ := x
  have HI := hide1 (okIm_fit ⟨k, v, n⟩)
  dsimp only at HI ⊢
  have CF := hide1 (fun w => fitX_any k v w)
  have F0 := hide1 (And.intro (Blk.new w 27 #[.string k, .string v, .int .i64 n]) ((Below.refl w.heap.size w).alloc (Nat.le_refl _) (.cells #[.string k, .string v, .int .i64 n] 27)))
  go_enter Try.func56, Try.ntmps56
  go_upto_region 1 with fail
  generalize (w.alloc (.cells #[.string k, .string v, .int .i64 n] 27)) = u at F0 ⊢
  obtain ⟨K0, B0⟩ := F0.out
  have y0 : u.cell? ⟨w.heap.size, 0, none⟩ = some (.string k) := K0.cell 0
  have y1 : u.cell? ⟨w.heap.size, 1, none⟩ = some (.string v) := K0.cell 1
  have y2 : u.cell? ⟨w.heap.size, 2, none⟩ = some (.int .i64 n) := K0.cell 2
  have HB := hide1 B0
  clear K0 B0 F0
  by_cases c1 : fitX k v
  · rw [decide_eq_true c1] at CF
    by_cases c2 : 1 ≤ n
    · have q2 : decide ((1 : Int) ≤ n) = true := decide_eq_true c2
      by_cases c3 : n ≤ 1000000000
      · have q3 : decide (n ≤ (1000000000 : Int)) = true := decide_eq_true c3
        have RES := hide1 (decide_eq_true (HI.out.2 ⟨c1, c2, c3⟩))
        clear HI c1
        go_wp2_with fail
        refine (CF.out _).mono ?_
        rintro e w1 ⟨rfl, rfl⟩
        go_wp2
        go_ret
        exact ⟨by rw [RES.out]; rfl, HB.out⟩
      · have q3 : decide (n ≤ (1000000000 : Int)) = false := decide_eq_false c3
        have RES := hide1 (decide_eq_false (fun h => c3 (HI.out.1 h).2.2))
        clear HI c1
        go_wp2_with fail
        refine (CF.out _).mono ?_
        rintro e w1 ⟨rfl, rfl⟩
        go_wp2
        go_ret
        exact ⟨by rw [RES.out]; rfl, HB.out⟩
    · have q2 : decide ((1 : Int) ≤ n) = false := decide_eq_false c2
      have RES := hide1 (decide_eq_false (fun h => c2 (HI.out.1 h).2.1))
      clear HI c1
      go_wp2_with fail
      refine (CF.out _).mono ?_
      rintro e w1 ⟨rfl, rfl⟩
      go_wp2
      go_ret
      exact ⟨by rw [RES.out]; rfl, HB.out⟩
  · rw [decide_eq_false c1] at CF
    have RES := hide1 (decide_eq_false (fun h => c1 (HI.out.1 h).1))
    clear HI c1
    go_wp2_with fail
    refine (CF.out _).mono ?_
    rintro e w1 ⟨rfl, rfl⟩
    go_wp2
    go_ret
    exact ⟨by rw [RES.out]; rfl, HB.out⟩

set_option maxRecDepth 100000 in
theorem nodeFits_any (n : Int) (w : World) : Calls Try.prog 27 #[.int .i64 n] w fun e w' => e = .returned (.bool (decide (1 ≤ n ∧ n ≤ 6))) ∧ w' = w := by
  by_cases h1 : 1 ≤ n
  · by_cases h2 : n ≤ 6
    · rw [show decide (1 ≤ n ∧ n ≤ 6) = true by simp [h1, h2]]
      go_enter Try.func27, Try.ntmps27
      go_wp2
      go_ret
      exact ⟨rfl, rfl⟩
    · rw [show decide (1 ≤ n ∧ n ≤ 6) = false by simp [h2]]
      go_enter Try.func27, Try.ntmps27
      go_wp2
      go_ret
      exact ⟨rfl, rfl⟩
  · rw [show decide (1 ≤ n ∧ n ≤ 6) = false by simp [h1]]
    go_enter Try.func27, Try.ntmps27
    go_wp2
    go_ret
    exact ⟨rfl, rfl⟩
/-- What the program's countFits answers: no count fits where there is no such kind. -/
def cntF (k : Int) (c : Nat) : Prop := (1 ≤ k ∧ k ≤ 8) ∧ manyOk k c
instance (k : Int) (c : Nat) : Decidable (cntF k c) := by unfold cntF; infer_instance
end Go.Proofs.Ytgmiohmglffidaa

