/- The program's small functions on items and messages. -/
import Derived.Test.YtmfpgnoeemjhiaaImM
import Derived.Test.YtmfpgnoeemjhiaaMsS
import Derived.Deep.RegionHeld3
namespace Go.Proofs.Ytmfpgnoeemjhiaa
open Go.RowKit
set_option linter.unusedVariables false

theorem conv_newX {P : Program} (w : World) (src dst e : TypeId) (s : ByteArray) (hs : P.underlying src = some .string) (hd : P.underlying dst = some (.slice e)) (he : P.underlying e = some (.int .u8)) :
    ∃ v w1, (convert src dst (.string s)).run P w = .ok v w1 ∧ (convert dst src v).run P w1 = .ok (.string s) w1 ∧ Below w.heap.size w w1 := by
  refine ⟨_, _, run_bytes_of_string w src dst e s hs hd he, ?_, (Below.refl _ _).drew.alloc (Nat.le_refl _) _⟩
  have hl : s.size = s.data.toList.length := by simp
  rw [hl, run_convert_bytes_back _ dst src e ⟨w.heap.size, 0, none⟩ _ s.data.toList hd he hs]
  intro j hj
  have hj' : j < s.data.size := by simpa using hj
  rw [Addr.add_lit, Nat.zero_add]
  have := World.cell?_alloc_mark w.drew (bytesRow s (grownCap w s.size 0 e)) e ((bytesRow s (grownCap w s.size 0 e)).size, (bytesRow s (grownCap w s.size 0 e)).size + 1) j
  rw [bytesRow_at s _ j hj'] at this
  rw [← hl]
  simpa using this

theorem keyX_any (k : ByteArray) (w : World) : Calls Try.prog 55 #[.string k] w fun e w' => e = .returned (.bool (decide (1 ≤ k.size ∧ k.size ≤ 12))) ∧ w' = w := by
  by_cases h1 : 1 ≤ k.size
  · by_cases h2 : k.size ≤ 12
    · have HF := hide1 (show decide (1 ≤ k.size ∧ k.size ≤ 12) = true by simp [h1, h2])
      go_enter Try.func55, Try.ntmps55
      go_wp2
      go_ret
      exact ⟨by first | rfl | (rw [HF.out]; first | rfl | (show Ending.returned (.bool (decide ((k.size : Int) ≤ 12))) = _; rw [decide_eq_true (by omega)])), rfl⟩
    · have HF := hide1 (show decide (1 ≤ k.size ∧ k.size ≤ 12) = false by simp [h2])
      go_enter Try.func55, Try.ntmps55
      go_wp2
      go_ret
      exact ⟨by rw [HF.out]; first | rfl | (show Ending.returned (.bool (decide ((k.size : Int) ≤ 12))) = _; rw [decide_eq_false (by omega)]), rfl⟩
  · have HF := hide1 (show decide (1 ≤ k.size ∧ k.size ≤ 12) = false by simp [h1])
    go_enter Try.func55, Try.ntmps55
    go_wp2
    go_ret
    exact ⟨by first | rfl | (rw [HF.out]; rfl), rfl⟩

def fitX (k v : ByteArray) : Prop := (1 ≤ k.size ∧ k.size ≤ 12) ∧ v.size ≤ 20
instance (k v : ByteArray) : Decidable (fitX k v) := by unfold fitX; infer_instance
theorem fitX_any (k v : ByteArray) (w : World) : Calls Try.prog 43 #[.string k, .string v] w fun e w' => e = .returned (.bool (decide (fitX k v))) ∧ w' = w := by
  have CK := hide1 (fun w => keyX_any k w)
  by_cases hk : 1 ≤ k.size ∧ k.size ≤ 12
  · rw [decide_eq_true hk] at CK
    by_cases h3 : v.size ≤ 20
    · have HF := hide1 (show decide (fitX k v) = true from decide_eq_true ⟨hk, h3⟩)
      clear hk
      go_enter Try.func43, Try.ntmps43
      go_wp2_with fail
      refine (CK.out _).mono ?_
      rintro e w1 ⟨rfl, rfl⟩
      go_wp2
      go_ret
      exact ⟨by rw [HF.out]; first | rfl | (show Ending.returned (.bool (decide ((v.size : Int) ≤ 20))) = _; rw [decide_eq_true (by omega)]), rfl⟩
    · have HF := hide1 (show decide (fitX k v) = false from decide_eq_false (fun h => h3 h.2))
      clear hk
      go_enter Try.func43, Try.ntmps43
      go_wp2_with fail
      refine (CK.out _).mono ?_
      rintro e w1 ⟨rfl, rfl⟩
      go_wp2
      go_ret
      exact ⟨by rw [HF.out]; first | rfl | (show Ending.returned (.bool (decide ((v.size : Int) ≤ 20))) = _; rw [decide_eq_false (by omega)]), rfl⟩
  · have HF := hide1 (show decide (fitX k v) = false from decide_eq_false (fun h => hk h.1))
    rw [decide_eq_false hk] at CK
    clear hk
    go_enter Try.func43, Try.ntmps43
    go_wp2_with fail
    refine (CK.out _).mono ?_
    rintro e w1 ⟨rfl, rfl⟩
    go_wp2
    go_ret
    exact ⟨by rw [HF.out]; rfl, rfl⟩

theorem okIm_fit (x : Im) : okIm x ↔ fitX x.k x.v ∧ 1 ≤ x.n ∧ x.n ≤ 1000000000 := by unfold okIm fitX; constructor <;> (intro h; exact ⟨by first | exact ⟨h.1, h.2.1⟩ | exact h.1.1, by first | exact h.2.2 | exact ⟨h.1.2, h.2⟩⟩)
set_option maxRecDepth 100000 in
theorem nodeFits_any (n : Int) (w : World) : Calls Try.prog 19 #[.int .i64 n] w fun e w' => e = .returned (.bool (decide (1 ≤ n ∧ n ≤ 6))) ∧ w' = w := by
  by_cases h1 : 1 ≤ n
  · by_cases h2 : n ≤ 6
    · rw [show decide (1 ≤ n ∧ n ≤ 6) = true by simp [h1, h2]]
      go_enter Try.func19, Try.ntmps19
      go_wp2
      go_ret
      exact ⟨rfl, rfl⟩
    · rw [show decide (1 ≤ n ∧ n ≤ 6) = false by simp [h2]]
      go_enter Try.func19, Try.ntmps19
      go_wp2
      go_ret
      exact ⟨rfl, rfl⟩
  · rw [show decide (1 ≤ n ∧ n ≤ 6) = false by simp [h1]]
    go_enter Try.func19, Try.ntmps19
    go_wp2
    go_ret
    exact ⟨rfl, rfl⟩
/-- What the program's countFits answers: no count fits where there is no such kind. -/
def cntF (k : Int) (c : Nat) : Prop := (1 ≤ k ∧ k ≤ 8) ∧ manyOk k c
instance (k : Int) (c : Nat) : Decidable (cntF k c) := by unfold cntF; infer_instance
end Go.Proofs.Ytmfpgnoeemjhiaa

