/- The program's small functions on items and messages. -/
import Derived.Test.YtbkhhkknhbddeaaImM
import Derived.Test.YtbkhhkknhbddeaaMsS
import Derived.Deep.RegionHeld3
namespace Go.Proofs.Ytbkhhkknhbddeaa
open Go.RowKit
set_option linter.unusedVariables false

theorem conv_newX {P : Program} (w : World) (src dst e : TypeId) (s : ByteArray) (hs : P.underlying src = some .string) (hd : P.underlying dst = some (.slice e)) (he : P.underlying e = some (.int .u8)) :
    ∃ v w1, (convert src dst (.string s)).run P w = .ok v w1 ∧ (convert dst src v).run P w1 = .ok (.string s) w1 ∧ Below w.heap.size w w1 := by
  refine ⟨_, _, run_bytes_of_string w src dst e s hs hd he, ?_, (Below.refl _ _).drew.alloc (Nat.le_refl _) _⟩
  have hl : s.size = s.data.toList.length := by simp
  rw [hl, run_convert_bytes_back _ dst src e ⟨w.heap.size, 0, none⟩ _ s.data.toList hd he hs]
  intro j hj
  have hj' : j < s.data.size := by simpa using hj
  rw [Addr.add_lit, Nat.zero_add]
  have := World.cell?_alloc_mark w.drew (bytesRow s (grownCap w s.size 0 e)) e ((bytesRow s (grownCap w s.size 0 e)).size, (bytesRow s (grownCap w s.size 0 e)).size + 1) j
  rw [bytesRow_at s _ j hj'] at this
  rw [← hl]
  simpa using this

theorem newX_any (s : ByteArray) (w : World) : Calls Try.prog 56 #[.string s] w fun e w' => e = .returned (.string s) ∧ Below w.heap.size w w' := by
  obtain ⟨v, w1, r1, r2, hb⟩ := conv_newX (P := Try.prog) w 9 22 5 s Try.underlying9 Try.underlying22 Try.underlying5
  go_enter Try.func56, Try.ntmps56
  go_wp2
  go_ret
  exact ⟨rfl, hb⟩

theorem keyX_any (k : ByteArray) (w : World) : Calls Try.prog 64 #[.string k] w fun e w' => e = .returned (.bool (decide (1 ≤ k.size ∧ k.size ≤ 12))) ∧ w' = w := by
  by_cases h1 : 1 ≤ k.size
  · by_cases h2 : k.size ≤ 12
    · have HF := hide1 (show decide (1 ≤ k.size ∧ k.size ≤ 12) = true by simp [h1, h2])
      go_enter Try.func64, Try.ntmps64
      go_wp2
      go_ret
      exact ⟨by first | rfl | (rw [HF.out]; first | rfl | (show Ending.returned (.bool (decide ((k.size : Int) ≤ 12))) = _; rw [decide_eq_true (by omega)])), rfl⟩
    · have HF := hide1 (show decide (1 ≤ k.size ∧ k.size ≤ 12) = false by simp [h2])
      go_enter Try.func64, Try.ntmps64
      go_wp2
      go_ret
      exact ⟨by rw [HF.out]; first | rfl | (show Ending.returned (.bool (decide ((k.size : Int) ≤ 12))) = _; rw [decide_eq_false (by omega)]), rfl⟩
  · have HF := hide1 (show decide (1 ≤ k.size ∧ k.size ≤ 12) = false by simp [h1])
    go_enter Try.func64, Try.ntmps64
    go_wp2
    go_ret
    exact ⟨by first | rfl | (rw [HF.out]; rfl), rfl⟩

def fitX (k v : ByteArray) : Prop := (1 ≤ k.size ∧ k.size ≤ 12) ∧ v.size ≤ 20
instance (k v : ByteArray) : Decidable (fitX k v) := by unfold fitX; infer_instance
theorem fitX_any (k v : ByteArray) (w : World) : Calls Try.prog 57 #[.string k, .string v] w fun e w' => e = .returned (.bool (decide (fitX k v))) ∧ w' = w := by
  have CK := hide1 (fun w => keyX_any k w)
  by_cases hk : 1 ≤ k.size ∧ k.size ≤ 12
  · rw [decide_eq_true hk] at CK
    by_cases h3 : v.size ≤ 20
    · have HF := hide1 (show decide (fitX k v) = true from decide_eq_true ⟨hk, h3⟩)
      clear hk
      go_enter Try.func57, Try.ntmps57
      go_wp2_with fail
      refine (CK.out _).mono ?_
      rintro e w1 ⟨rfl, rfl⟩
      go_wp2
      go_ret
      exact ⟨by rw [HF.out]; first | rfl | (show Ending.returned (.bool (decide ((v.size : Int) ≤ 20))) = _; rw [decide_eq_true (by omega)]), rfl⟩
    · have HF := hide1 (show decide (fitX k v) = false from decide_eq_false (fun h => h3 h.2))
      clear hk
      go_enter Try.func57, Try.ntmps57
      go_wp2_with fail
      refine (CK.out _).mono ?_
      rintro e w1 ⟨rfl, rfl⟩
      go_wp2
      go_ret
      exact ⟨by rw [HF.out]; first | rfl | (show Ending.returned (.bool (decide ((v.size : Int) ≤ 20))) = _; rw [decide_eq_false (by omega)]), rfl⟩
  · have HF := hide1 (show decide (fitX k v) = false from decide_eq_false (fun h => hk h.1))
    rw [decide_eq_false hk] at CK
    clear hk
    go_enter Try.func57, Try.ntmps57
    go_wp2_with fail
    refine (CK.out _).mono ?_
    rintro e w1 ⟨rfl, rfl⟩
    go_wp2
    go_ret
    exact ⟨by rw [HF.out]; rfl, rfl⟩

theorem okIm_fit (x : Im) : okIm x ↔ fitX x.k x.v ∧ 1 ≤ x.n ∧ x.n ≤ 1000000000 := by unfold okIm fitX; constructor <;> (intro h; exact ⟨by first | exact ⟨h.1, h.2.1⟩ | exact h.1.1, by first | exact h.2.2 | exact ⟨h.1.2, h.2⟩⟩)
set_option maxRecDepth 100000 in
set_option maxHeartbeats 2000000 in
theorem itemFits_any (x : Im) (w : World) : Calls Try.prog 42 #[.agg #[.string x.k, .string x.v, .int .i64 x.n]] w fun e w' => e = .returned (.bool (decide (okIm x))) ∧ Below w.heap.size w w' := by
  obtain ⟨k, v, n⟩ := x
  have HI := hide1 (okIm_fit ⟨k, v, n⟩)
  dsimp only at HI ⊢
  have CF := hide1 (fun w => fitX_any k v w)
  have F0 := hide1 (And.intro (Blk.new w 26 #[.string k, .string v, .int .i64 n]) ((Below.refl w.heap.size w).alloc (Nat.le_refl _) (.cells #[.string k, .string v, .int .i64 n] 26)))
  go_enter Try.func42, Try.ntmps42
  go_upto_region 1 with fail
  generalize (w.alloc (.cells #[.string k, .string v, .int .i64 n] 26)) = u at F0 ⊢
  obtain ⟨K0, B0⟩ := F0.out
  have y0 : u.cell? ⟨w.heap.size, 0, none⟩ = some (.string k) := K0.cell 0
  have y1 : u.cell? ⟨w.heap.size, 1, none⟩ = some (.string v) := K0.cell 1
  have y2 : u.cell? ⟨w.heap.size, 2, none⟩ = some (.int .i64 n) := K0.cell 2
  have HB := hide1 B0
  clear K0 B0 F0
  by_cases c1 : fitX k v
  · rw [decide_eq_true c1] at CF
    by_cases c2 : 1 ≤ n
    · have q2 : decide ((1 : Int) ≤ n) = true := decide_eq_true c2
      by_cases c3 : n ≤ 1000000000
      · have q3 : decide (n ≤ (1000000000 : Int)) = true := decide_eq_true c3
        have RES := hide1 (decide_eq_true (HI.out.2 ⟨c1, c2, c3⟩))
        clear HI c1
        go_wp2_with fail
        refine (CF.out _).mono ?_
        rintro e w1 ⟨rfl, rfl⟩
        go_wp2
        go_ret
        exact ⟨by rw [RES.out]; rfl, HB.out⟩
      · have q3 : decide (n ≤ (1000000000 : Int)) = false := decide_eq_false c3
        have RES := hide1 (decide_eq_false (fun h => c3 (HI.out.1 h).2.2))
        clear HI c1
        go_wp2_with fail
        refine (CF.out _).mono ?_
        rintro e w1 ⟨rfl, rfl⟩
        go_wp2
        go_ret
        exact ⟨by rw [RES.out]; rfl, HB.out⟩
    · have q2 : decide ((1 : Int) ≤ n) = false := decide_eq_false c2
      have RES := hide1 (decide_eq_false (fun h => c2 (HI.out.1 h).2.1))
      clear HI c1
      go_wp2_with fail
      refine (CF.out _).mono ?_
      rintro e w1 ⟨rfl, rfl⟩
      go_wp2
      go_ret
      exact ⟨by rw [RES.out]; rfl, HB.out⟩
  · rw [decide_eq_false c1] at CF
    have RES := hide1 (decide_eq_false (fun h => c1 (HI.out.1 h).1))
    clear HI c1
    go_wp2_with fail
    refine (CF.out _).mono ?_
    rintro e w1 ⟨rfl, rfl⟩
    go_wp2
    go_ret
    exact ⟨by rw [RES.out]; rfl, HB.out⟩

set_option maxRecDepth 100000 in
set_option maxHeartbeats 2000000 in
theorem newItem_any (x : Im) (w : World) : Calls Try.prog 41 #[.agg #[.string x.k, .string x.v, .int .i64 x.n]] w fun e w' => e = .returned (.agg #[.string x.k, .string x.v, .int .i64 x.n]) ∧ Below w.heap.size w w' := by
  obtain ⟨k, v, n⟩ := x
  dsimp only
  have F0 := hide1 (blkN2 w #[.string k, .string v, .int .i64 n] #[.string ⟨#[]⟩, .string ⟨#[]⟩, .int .i64 0] 26 26)
  go_enter Try.func41, Try.ntmps41
  go_wp2_with fail
  generalize ((w.alloc (.cells #[.string k, .string v, .int .i64 n] 26)).alloc (.cells #[.string ⟨#[]⟩, .string ⟨#[]⟩, .int .i64 0] 26)) = w0 at F0 ⊢
  obtain ⟨K0, K1, B0⟩ := F0.out
  have HK0 := hide1 K0
  have HK1 := hide1 K1
  have HB0 := hide1 B0
  have hs0 : w.heap.size + 1 < w0.heap.size := K1.lt
  have a0 : w0.cell? ⟨w.heap.size, 0, none⟩ = some (.string k) := K0.cell 0
  have a1 : w0.cell? ⟨w.heap.size, 1, none⟩ = some (.string v) := K0.cell 1
  have a2 : w0.cell? ⟨w.heap.size, 2, none⟩ = some (.int .i64 n) := K0.cell 2
  have z0 : w0.cell? ⟨w.heap.size + 1, 0, none⟩ = some (.string ⟨#[]⟩) := K1.cell 0
  have z1 : w0.cell? ⟨w.heap.size + 1, 1, none⟩ = some (.string ⟨#[]⟩) := K1.cell 1
  have z2 : w0.cell? ⟨w.heap.size + 1, 2, none⟩ = some (.int .i64 0) := K1.cell 2
  have zf : ∀ j, w0.frozen? ⟨w.heap.size + 1, j, none⟩ = false := fun j => K1.froz j
  clear F0 K0 K1 B0
  have k01 : ∀ (u : World) (i j : Nat) (y : Value), (u.setCell ⟨w.heap.size + 1, i, none⟩ y).cell? ⟨w.heap.size, j, none⟩ = u.cell? ⟨w.heap.size, j, none⟩ := fun u i j y => World.cell?_setCell_far _ _ _ _ (by dsimp only; omega)
  go_region_held3 (fun w' => w'.cell? ⟨w.heap.size, 0, none⟩ = some (.string k) ∧ w'.cell? ⟨w.heap.size, 1, none⟩ = some (.string v) ∧ w'.cell? ⟨w.heap.size, 2, none⟩ = some (.int .i64 n)) (first | go_keep | simp only [World.cell?_drew, k01, a0, a1, a2, and_self]) ((go_at_call 56; first | (have hasB := b1.out; clear hasB; refine (newX_any _ _).mono ?_; rintro e w2 ⟨rfl, hb2⟩; have b2 : Hid (Below w0.heap.size w0 w2) := (b1.out.trans (show Below w0.heap.size w1 _ by go_grown)).trans (hb2.mono (by have := b1.out.size; go_size)); clear hb2; clear zf a0 a1 a2 z0 z1 z2; have a0 : w2.cell? ⟨w.heap.size, 0, none⟩ = some (.string k) := (HK0.out.below b2.out HK0.out.lt).cell 0; have a1 : w2.cell? ⟨w.heap.size, 1, none⟩ = some (.string v) := (HK0.out.below b2.out HK0.out.lt).cell 1; have a2 : w2.cell? ⟨w.heap.size, 2, none⟩ = some (.int .i64 n) := (HK0.out.below b2.out HK0.out.lt).cell 2; have z0 : w2.cell? ⟨w.heap.size + 1, 0, none⟩ = some (.string ⟨#[]⟩) := (HK1.out.below b2.out HK1.out.lt).cell 0; have z1 : w2.cell? ⟨w.heap.size + 1, 1, none⟩ = some (.string ⟨#[]⟩) := (HK1.out.below b2.out HK1.out.lt).cell 1; have z2 : w2.cell? ⟨w.heap.size + 1, 2, none⟩ = some (.int .i64 0) := (HK1.out.below b2.out HK1.out.lt).cell 2; have zf : ∀ j, w2.frozen? ⟨w.heap.size + 1, j, none⟩ = false := fun j => (HK1.out.below b2.out HK1.out.lt).froz j; have hs2 : w.heap.size + 1 < w2.heap.size := Nat.lt_of_lt_of_le hs0 b2.out.size) | (refine (newX_any _ _).mono ?_; rintro e w1 ⟨rfl, hb1⟩; have b1 : Hid (Below w0.heap.size w0 w1) := (show Below w0.heap.size w0 _ by go_grown).trans (hb1.mono (by go_size)); clear hb1; clear zf a0 a1 a2 z0 z1 z2; have a0 : w1.cell? ⟨w.heap.size, 0, none⟩ = some (.string k) := (HK0.out.below b1.out HK0.out.lt).cell 0; have a1 : w1.cell? ⟨w.heap.size, 1, none⟩ = some (.string v) := (HK0.out.below b1.out HK0.out.lt).cell 1; have a2 : w1.cell? ⟨w.heap.size, 2, none⟩ = some (.int .i64 n) := (HK0.out.below b1.out HK0.out.lt).cell 2; have z0 : w1.cell? ⟨w.heap.size + 1, 0, none⟩ = some (.string ⟨#[]⟩) := (HK1.out.below b1.out HK1.out.lt).cell 0; have z1 : w1.cell? ⟨w.heap.size + 1, 1, none⟩ = some (.string ⟨#[]⟩) := (HK1.out.below b1.out HK1.out.lt).cell 1; have z2 : w1.cell? ⟨w.heap.size + 1, 2, none⟩ = some (.int .i64 0) := (HK1.out.below b1.out HK1.out.lt).cell 2; have zf : ∀ j, w1.frozen? ⟨w.heap.size + 1, j, none⟩ = false := fun j => (HK1.out.below b1.out HK1.out.lt).froz j; have hs1 : w.heap.size + 1 < w1.heap.size := Nat.lt_of_lt_of_le hs0 b1.out.size)))
  go_wp2
  have NB : Blk (((w2.setCell ⟨w.heap.size + 1, 0, none⟩ (.string k)).setCell ⟨w.heap.size + 1, 1, none⟩ (.string v)).setCell ⟨w.heap.size + 1, 2, none⟩ (.int .i64 n)) (w.heap.size + 1) 26 [.string k, .string v, .int .i64 n] := (Blk.set (Blk.set (Blk.set (HK1.out.below b2.out HK1.out.lt) 0 (.string k)) 1 (.string v)) 2 (.int .i64 n))
  have BF : Below w.heap.size w (((w2.setCell ⟨w.heap.size + 1, 0, none⟩ (.string k)).setCell ⟨w.heap.size + 1, 1, none⟩ (.string v)).setCell ⟨w.heap.size + 1, 2, none⟩ (.int .i64 n)) := ((((HB0.out.trans (b2.out.mono HB0.out.size)).setCell (p := ⟨w.heap.size + 1, 0, none⟩) (by dsimp only; omega) _).setCell (p := ⟨w.heap.size + 1, 1, none⟩) (by dsimp only; omega) _).setCell (p := ⟨w.heap.size + 1, 2, none⟩) (by dsimp only; omega) _)
  generalize (((w2.setCell ⟨w.heap.size + 1, 0, none⟩ (.string k)).setCell ⟨w.heap.size + 1, 1, none⟩ (.string v)).setCell ⟨w.heap.size + 1, 2, none⟩ (.int .i64 n)) = w9 at NB BF ⊢
  refine bodyPost_ret (results_cell_row Try.results41 _ _ (w.heap.size + 1) 26 #[.string k, .string v, .int .i64 n] (0, 0) _ rfl NB Try.underlying26 rfl (by kernel_rfl)) rfl ?_
  first | exact ⟨rfl, BF⟩ | exact ⟨rfl, BF.drew⟩

set_option maxRecDepth 100000 in
theorem nodeFits_any (n : Int) (w : World) : Calls Try.prog 50 #[.int .i64 n] w fun e w' => e = .returned (.bool (decide (1 ≤ n ∧ n ≤ 6))) ∧ w' = w := by
  by_cases h1 : 1 ≤ n
  · by_cases h2 : n ≤ 6
    · rw [show decide (1 ≤ n ∧ n ≤ 6) = true by simp [h1, h2]]
      go_enter Try.func50, Try.ntmps50
      go_wp2
      go_ret
      exact ⟨rfl, rfl⟩
    · rw [show decide (1 ≤ n ∧ n ≤ 6) = false by simp [h2]]
      go_enter Try.func50, Try.ntmps50
      go_wp2
      go_ret
      exact ⟨rfl, rfl⟩
  · rw [show decide (1 ≤ n ∧ n ≤ 6) = false by simp [h1]]
    go_enter Try.func50, Try.ntmps50
    go_wp2
    go_ret
    exact ⟨rfl, rfl⟩
/-- What the program's countFits answers: no count fits where there is no such kind. -/
def cntF (k : Int) (c : Nat) : Prop := (1 ≤ k ∧ k ≤ 8) ∧ manyOk k c
instance (k : Int) (c : Nat) : Decidable (cntF k c) := by unfold cntF; infer_instance
set_option maxRecDepth 100000 in
theorem countFits_any (k : Int) (c : Nat) (w : World) (hc : c ≤ 1048576) : Calls Try.prog 51 #[.int .i64 k, .int .i64 (c : Int)] w fun e w' => e = .returned (.bool (decide (cntF k c))) ∧ w' = w := by
  by_cases c2 : k = 2
  · subst c2
    rw [decide_eq_true (show cntF 2 c from ⟨by omega, by unfold manyOk; simp⟩)]
    go_enter Try.func51, Try.ntmps51
    go_wp2
    go_ret
    exact ⟨rfl, rfl⟩
  by_cases c3 : k = 3
  · subst c3
    rw [decide_eq_true (show cntF 3 c from ⟨by omega, by unfold manyOk; simp⟩)]
    go_enter Try.func51, Try.ntmps51
    go_wp2
    go_ret
    exact ⟨rfl, rfl⟩
  by_cases c5 : k = 5
  · subst c5
    by_cases h : c = 1
    · subst h
      rw [decide_eq_true (show cntF 5 1 from ⟨by omega, by unfold manyOk; simp⟩)]
      go_enter Try.func51, Try.ntmps51
      go_wp2
      go_ret
      exact ⟨rfl, rfl⟩
    · have q : ((c : Int) == 1) = false := by rw [beq_eq_false_iff_ne]; omega
      rw [decide_eq_false (show ¬ cntF 5 c from fun e => by have := e.2; unfold manyOk at this; simp at this; exact h this)]
      clear h
      go_enter Try.func51, Try.ntmps51
      go_wp2
      go_ret
      exact ⟨rfl, rfl⟩
  by_cases c1 : k = 1
  · subst c1
    by_cases h : c = 0
    · subst h
      rw [decide_eq_true (show cntF 1 0 from ⟨by omega, by unfold manyOk; simp⟩)]
      go_enter Try.func51, Try.ntmps51
      go_wp2
      go_ret
      exact ⟨rfl, rfl⟩
    · have q : ((c : Int) == 0) = false := by rw [beq_eq_false_iff_ne]; omega
      rw [decide_eq_false (show ¬ cntF 1 c from fun e => by have := e.2; unfold manyOk at this; simp at this; exact h this)]
      clear h
      go_enter Try.func51, Try.ntmps51
      go_wp2
      go_ret
      exact ⟨rfl, rfl⟩
  by_cases c4 : k = 4
  · subst c4
    by_cases h : c = 0
    · subst h
      rw [decide_eq_true (show cntF 4 0 from ⟨by omega, by unfold manyOk; simp⟩)]
      go_enter Try.func51, Try.ntmps51
      go_wp2
      go_ret
      exact ⟨rfl, rfl⟩
    · have q : ((c : Int) == 0) = false := by rw [beq_eq_false_iff_ne]; omega
      rw [decide_eq_false (show ¬ cntF 4 c from fun e => by have := e.2; unfold manyOk at this; simp at this; exact h this)]
      clear h
      go_enter Try.func51, Try.ntmps51
      go_wp2
      go_ret
      exact ⟨rfl, rfl⟩
  by_cases c6 : k = 6
  · subst c6
    by_cases h : c = 0
    · subst h
      rw [decide_eq_true (show cntF 6 0 from ⟨by omega, by unfold manyOk; simp⟩)]
      go_enter Try.func51, Try.ntmps51
      go_wp2
      go_ret
      exact ⟨rfl, rfl⟩
    · have q : ((c : Int) == 0) = false := by rw [beq_eq_false_iff_ne]; omega
      rw [decide_eq_false (show ¬ cntF 6 c from fun e => by have := e.2; unfold manyOk at this; simp at this; exact h this)]
      clear h
      go_enter Try.func51, Try.ntmps51
      go_wp2
      go_ret
      exact ⟨rfl, rfl⟩
  by_cases c7 : k = 7
  · subst c7
    by_cases h : c = 0
    · subst h
      rw [decide_eq_true (show cntF 7 0 from ⟨by omega, by unfold manyOk; simp⟩)]
      go_enter Try.func51, Try.ntmps51
      go_wp2
      go_ret
      exact ⟨rfl, rfl⟩
    · have q : ((c : Int) == 0) = false := by rw [beq_eq_false_iff_ne]; omega
      rw [decide_eq_false (show ¬ cntF 7 c from fun e => by have := e.2; unfold manyOk at this; simp at this; exact h this)]
      clear h
      go_enter Try.func51, Try.ntmps51
      go_wp2
      go_ret
      exact ⟨rfl, rfl⟩
  by_cases c8 : k = 8
  · subst c8
    by_cases h : c = 0
    · subst h
      rw [decide_eq_true (show cntF 8 0 from ⟨by omega, by unfold manyOk; simp⟩)]
      go_enter Try.func51, Try.ntmps51
      go_wp2
      go_ret
      exact ⟨rfl, rfl⟩
    · have q : ((c : Int) == 0) = false := by rw [beq_eq_false_iff_ne]; omega
      rw [decide_eq_false (show ¬ cntF 8 c from fun e => by have := e.2; unfold manyOk at this; simp at this; exact h this)]
      clear h
      go_enter Try.func51, Try.ntmps51
      go_wp2
      go_ret
      exact ⟨rfl, rfl⟩
  have q1 : (k == 1) = false := by rw [beq_eq_false_iff_ne]; exact c1
  have q2 : (k == 2) = false := by rw [beq_eq_false_iff_ne]; exact c2
  have q3 : (k == 3) = false := by rw [beq_eq_false_iff_ne]; exact c3
  have q4 : (k == 4) = false := by rw [beq_eq_false_iff_ne]; exact c4
  have q5 : (k == 5) = false := by rw [beq_eq_false_iff_ne]; exact c5
  have q6 : (k == 6) = false := by rw [beq_eq_false_iff_ne]; exact c6
  have q7 : (k == 7) = false := by rw [beq_eq_false_iff_ne]; exact c7
  have q8 : (k == 8) = false := by rw [beq_eq_false_iff_ne]; exact c8
  rw [decide_eq_false (show ¬ cntF k c from fun e => by have := e.1; omega)]
  clear c1 c2 c3 c4 c5 c6 c7 c8
  go_enter Try.func51, Try.ntmps51
  go_wp2
  go_ret
  exact ⟨rfl, rfl⟩
end Go.Proofs.Ytbkhhkknhbddeaa

