/- Ballots, by the model: whether a voice is right, how many are most, what a voice hears, what is picked. -/
import Derived.Test.YtgehdgmllilmgaaYB
import Derived.Test.YtgehdgmllilmgaaYA
import Derived.Deep.RegionHeld3
namespace Go.Proofs.Ytgehdgmllilmgaa
open Go.RowKit
set_option linter.unusedVariables false

/-- A voice, a note as values. -/
def voV (x : Vo) : Value := .agg #[.int .i64 x.p, .int .i64 x.t, .string x.v]
def ntV (m : Nt) : Value := .agg #[.int .i64 m.k, .int .i64 m.f, .int .i64 m.o, .int .i64 m.b, .int .i64 m.t, .string m.v]
theorem in_yes {x lo hi : Int} (h : lo ≤ x ∧ x ≤ hi) : (decide (lo ≤ x) && decide (x ≤ hi)) = true := by rw [Bool.and_eq_true, decide_eq_true_iff, decide_eq_true_iff]; exact h
theorem in_no {x lo hi : Int} (h : ¬ (lo ≤ x ∧ x ≤ hi)) : (decide (lo ≤ x) && decide (x ≤ hi)) = false := by rw [Bool.and_eq_false_iff, decide_eq_false_iff_not, decide_eq_false_iff_not]; omega

set_option maxRecDepth 100000 in
set_option maxHeartbeats 1000000 in
theorem specVoice_any (x : Vo) (w : World) (hx : x.v.size ≤ 1048576) :
    Calls Try.prog 112 #[voV x] w fun e w' => e = .returned (.bool (decide (okVo x))) ∧ Below w.heap.size w w' := by
  obtain ⟨p, t, v⟩ := x
  have F0 := hide1 ((Below.refl w.heap.size w).alloc (Nat.le_refl _) (.cells #[.int .i64 p, .int .i64 t, .string v] 43))
  have C1 := hide1 (fun w' => in_any p 0 10000 w')
  have C2 := hide1 (fun w' => in_any t 0 p w')
  unfold voV
  dsimp only at hx ⊢
  by_cases c1 : 0 ≤ p ∧ p ≤ 10000
  · rw [in_yes c1] at C1
    by_cases c2 : 0 ≤ t ∧ t ≤ p
    · rw [in_yes c2] at C2
      by_cases c3 : v.size ≤ 40
      · have q3 : (v.size : Int) ≤ 40 := by omega
        by_cases c4 : 0 < t
        · have HR := hide1 (decide_eq_true (show okVo ⟨p, t, v⟩ from ⟨c1, c2, c3, .inl c4⟩))
          go_enter Try.func112, Try.ntmps112
          go_wp2_with (first | (have := M1.out; go_at_call 46; refine (C2.out _).mono ?_; rintro e w2 ⟨rfl, rfl⟩) | (go_at_call 46; refine (C1.out _).mono ?_; rintro e w1 ⟨rfl, rfl⟩; have M1 := hide1 trivial))
          go_ret
          exact ⟨by first | (rw [HR.out]; rfl) | (rw [HR.out]; show Ending.returned (.bool (decide (0 < t))) = _; rw [decide_eq_false (by omega)]), F0.out⟩
        · by_cases c5 : v.toList = []
          · have q5 : v.toList.isEmpty = true := by rw [c5]; rfl
            have HR := hide1 (decide_eq_true (show okVo ⟨p, t, v⟩ from ⟨c1, c2, c3, .inr c5⟩))
            clear c5
            go_enter Try.func112, Try.ntmps112
            go_wp2_with (first | (have := M1.out; go_at_call 46; refine (C2.out _).mono ?_; rintro e w2 ⟨rfl, rfl⟩) | (go_at_call 46; refine (C1.out _).mono ?_; rintro e w1 ⟨rfl, rfl⟩; have M1 := hide1 trivial))
            go_ret
            exact ⟨by first | (rw [HR.out]; rfl) | (rw [HR.out]; show Ending.returned (.bool (decide (0 < t))) = _; rw [decide_eq_false (by omega)]), F0.out⟩
          · have q5 : v.toList.isEmpty = false := by cases e : v.toList with | nil => exact absurd e c5 | cons a b => rfl
            have HR := hide1 (decide_eq_false (show ¬ okVo ⟨p, t, v⟩ from fun h => by rcases h.2.2.2 with h | h; exact c4 h; exact c5 h))
            clear c5
            go_enter Try.func112, Try.ntmps112
            go_wp2_with (first | (have := M1.out; go_at_call 46; refine (C2.out _).mono ?_; rintro e w2 ⟨rfl, rfl⟩) | (go_at_call 46; refine (C1.out _).mono ?_; rintro e w1 ⟨rfl, rfl⟩; have M1 := hide1 trivial))
            go_ret
            exact ⟨by first | (rw [HR.out]; rfl) | (rw [HR.out]; show Ending.returned (.bool (decide (0 < t))) = _; rw [decide_eq_false (by omega)]), F0.out⟩
      · have q3 : ¬ (v.size : Int) ≤ 40 := by omega
        have HR := hide1 (decide_eq_false (show ¬ okVo ⟨p, t, v⟩ from fun h => c3 h.2.2.1))
        go_enter Try.func112, Try.ntmps112
        go_wp2_with (first | (have := M1.out; go_at_call 46; refine (C2.out _).mono ?_; rintro e w2 ⟨rfl, rfl⟩) | (go_at_call 46; refine (C1.out _).mono ?_; rintro e w1 ⟨rfl, rfl⟩; have M1 := hide1 trivial))
        go_ret
        exact ⟨by first | (rw [HR.out]; rfl) | (rw [HR.out]; show Ending.returned (.bool (decide (0 < t))) = _; rw [decide_eq_false (by omega)]), F0.out⟩
    · rw [in_no c2] at C2
      have HR := hide1 (decide_eq_false (show ¬ okVo ⟨p, t, v⟩ from fun h => c2 h.2.1))
      go_enter Try.func112, Try.ntmps112
      go_wp2_with (first | (have := M1.out; go_at_call 46; refine (C2.out _).mono ?_; rintro e w2 ⟨rfl, rfl⟩) | (go_at_call 46; refine (C1.out _).mono ?_; rintro e w1 ⟨rfl, rfl⟩; have M1 := hide1 trivial))
      go_ret
      exact ⟨by first | (rw [HR.out]; rfl) | (rw [HR.out]; show Ending.returned (.bool (decide (0 < t))) = _; rw [decide_eq_false (by omega)]), F0.out⟩
  · rw [in_no c1] at C1
    have HR := hide1 (decide_eq_false (show ¬ okVo ⟨p, t, v⟩ from fun h => c1 h.1))
    go_enter Try.func112, Try.ntmps112
    go_wp2_with ((go_at_call 46; refine (C1.out _).mono ?_; rintro e w1 ⟨rfl, rfl⟩))
    go_ret
    exact ⟨by first | (rw [HR.out]; rfl) | (rw [HR.out]; show Ending.returned (.bool (decide (0 < t))) = _; rw [decide_eq_false (by omega)]), F0.out⟩

set_option maxRecDepth 100000 in
theorem specMost_any (n : Int) (w : World) (h2 : n ≤ 9223372036854775807) :
    Calls Try.prog 109 #[.int .i64 n] w fun e w' => e = .returned (.int .i64 (mostI n)) ∧ w' = w := by
  unfold mostI
  by_cases c : n < 0
  · rw [if_pos c]
    go_enter Try.func109, Try.ntmps109
    go_wp2
    go_ret
    exact ⟨rfl, rfl⟩
  · rw [if_neg c]
    have q1 : n.tdiv 2 = n / 2 := Int.tdiv_eq_ediv_of_nonneg (by omega)
    have q2 : IntKind.i64.wrap (n / 2) = n / 2 := IntWalk.i64_in _ ⟨by omega, by omega⟩
    have q3 : IntKind.i64.wrap (n / 2 + 1) = n / 2 + 1 := IntWalk.i64_in _ ⟨by omega, by omega⟩
    go_enter Try.func109, Try.ntmps109
    go_wp2
    go_ret
    first | exact ⟨rfl, rfl⟩ | exact ⟨by rw [q3]; rfl, rfl⟩

/-- Two boxes for what came, two for what is told. -/
theorem blkN4 (w : World) (c1 c2 c3 c4 : Array Value) (t1 t2 t3 t4 : TypeId) : Blk ((((w.alloc (.cells c1 t1)).alloc (.cells c2 t2)).alloc (.cells c3 t3)).alloc (.cells c4 t4)) w.heap.size t1 c1.toList ∧ Blk ((((w.alloc (.cells c1 t1)).alloc (.cells c2 t2)).alloc (.cells c3 t3)).alloc (.cells c4 t4)) (w.heap.size + 1) t2 c2.toList ∧ Blk ((((w.alloc (.cells c1 t1)).alloc (.cells c2 t2)).alloc (.cells c3 t3)).alloc (.cells c4 t4)) (w.heap.size + 1 + 1) t3 c3.toList ∧ Blk ((((w.alloc (.cells c1 t1)).alloc (.cells c2 t2)).alloc (.cells c3 t3)).alloc (.cells c4 t4)) (w.heap.size + 1 + 1 + 1) t4 c4.toList ∧ Below w.heap.size w ((((w.alloc (.cells c1 t1)).alloc (.cells c2 t2)).alloc (.cells c3 t3)).alloc (.cells c4 t4)) := by
  obtain ⟨h1, h2, h3, h4⟩ := blkN3 w c1 c2 c3 t1 t2 t3
  refine ⟨h1.more _, h2.more _, h3.more _, ?_, h4.alloc (by simp only [World.size_alloc]; omega) _⟩
  have := Blk.new (((w.alloc (.cells c1 t1)).alloc (.cells c2 t2)).alloc (.cells c3 t3)) t4 c4
  rw [World.size_alloc, World.size_alloc, World.size_alloc] at this
  exact this
theorem resH3 {P : Program} {fn : Func} {p q u : Tmp} {ty tz : TypeId} (h : fn.results = #[.cell p ty, .cell q tz, .tmp u]) (tmps : Array Value) (w : World) (g g' : Nat) (t t' : TypeId) (cs cs' : Array Value) (fr fr' : Nat × Nat) (d d' : TypeDesc)
    (hp : tmps.getD p undef = .pointer (some ⟨g, 0, none⟩)) (hg : w.heap[g]? = some (.cells cs t fr))
    (hu : P.underlying ty = some d) (hd : (match d with | .struct _ | .array _ _ => true | _ => false) = true) (hi : (P.info? ty).map (·.size) = some cs.size)
    (hq : tmps.getD q undef = .pointer (some ⟨g', 0, none⟩)) (hg' : w.heap[g']? = some (.cells cs' t' fr'))
    (hu' : P.underlying tz = some d') (hd' : (match d' with | .struct _ | .array _ _ => true | _ => false) = true) (hi' : (P.info? tz).map (·.size) = some cs'.size) :
    (results fn tmps).run P w = .ok (.tuple #[.agg cs, .agg cs', tmps.getD u undef]) w := by
  have hp' : tmps[p]?.getD undef = .pointer (some ⟨g, 0, none⟩) := by simpa using hp
  have hq' : tmps[q]?.getD undef = .pointer (some ⟨g', 0, none⟩) := by simpa using hq
  simp [results, h, hp', hq', asAddr, run_loadVar_row w g t ty cs fr d hg hu hd hi, run_loadVar_row w g' t' tz cs' fr' d' hg' hu' hd' hi']
-- HEAR
/-- What HearNote answers. -/
def HearE (x : Vo) (m : Nt) (e : Ending) : Prop := e = .returned (.tuple #[voV (hearA x m).1, ntV (hearA x m).2.1, .bool (hearA x m).2.2])

set_option maxRecDepth 100000 in
set_option maxHeartbeats 4000000 in
theorem specHear_any (x : Vo) (m : Nt) (w : World) (hx : x.v.size ≤ 1048576) (hm : m.v.size ≤ 1048576) :
    Calls Try.prog 102 #[voV x, ntV m] w fun e w' => HearE x m e ∧ Below w.heap.size w w' := by
  have CV := hide1 (fun w' => specVoice_any x w' hx)
  have CI := hide1 (fun w' => in_any m.b 1 10000 w')
  unfold HearE
  obtain ⟨p, t, v⟩ := x
  obtain ⟨k, f, o, b, u, z⟩ := m
  have F0 := hide1 (blkN4 w #[.int .i64 p, .int .i64 t, .string v] #[.int .i64 k, .int .i64 f, .int .i64 o, .int .i64 b, .int .i64 u, .string z] #[.int .i64 0, .int .i64 0, .string ⟨#[]⟩] #[.int .i64 0, .int .i64 0, .int .i64 0, .int .i64 0, .int .i64 0, .string ⟨#[]⟩] 43 111 43 111)
  unfold voV at CV
  unfold voV ntV
  dsimp only at hx hm CV CI
  go_enter Try.func102, Try.ntmps102
  go_wp2_with fail
  generalize ((((w.alloc (.cells #[.int .i64 p, .int .i64 t, .string v] 43)).alloc (.cells #[.int .i64 k, .int .i64 f, .int .i64 o, .int .i64 b, .int .i64 u, .string z] 111)).alloc (.cells #[.int .i64 0, .int .i64 0, .string ⟨#[]⟩] 43)).alloc (.cells #[.int .i64 0, .int .i64 0, .int .i64 0, .int .i64 0, .int .i64 0, .string ⟨#[]⟩] 111)) = w0 at F0 ⊢
  obtain ⟨K0, K1, K2, K3, B0⟩ := F0.out
  refine (CV.out w0).mono ?_
  rintro e w1 ⟨rfl, hb1⟩
  have J0 := hide1 (K0.below hb1 K0.lt)
  have J1 := hide1 (K1.below hb1 K1.lt)
  have J2 := hide1 (K2.below hb1 K2.lt)
  have J3 := hide1 (K3.below hb1 K3.lt)
  have B1 := hide1 (B0.trans (hb1.mono B0.size))
  have hs1 : w.heap.size + 1 + 1 + 1 < w1.heap.size := J3.out.lt
  clear K0 K1 K2 K3 B0 hb1 F0 CV
  have a0 : w1.cell? ⟨w.heap.size, 0, none⟩ = some (.int .i64 p) := J0.out.cell 0
  have a1 : w1.cell? ⟨w.heap.size, 1, none⟩ = some (.int .i64 t) := J0.out.cell 1
  have a2 : w1.cell? ⟨w.heap.size, 2, none⟩ = some (.string v) := J0.out.cell 2
  have n0 : w1.cell? ⟨w.heap.size + 1, 0, none⟩ = some (.int .i64 k) := J1.out.cell 0
  have n1 : w1.cell? ⟨w.heap.size + 1, 1, none⟩ = some (.int .i64 f) := J1.out.cell 1
  have n2 : w1.cell? ⟨w.heap.size + 1, 2, none⟩ = some (.int .i64 o) := J1.out.cell 2
  have n3 : w1.cell? ⟨w.heap.size + 1, 3, none⟩ = some (.int .i64 b) := J1.out.cell 3
  have n4 : w1.cell? ⟨w.heap.size + 1, 4, none⟩ = some (.int .i64 u) := J1.out.cell 4
  have n5 : w1.cell? ⟨w.heap.size + 1, 5, none⟩ = some (.string z) := J1.out.cell 5
  have r0 : w1.cell? ⟨w.heap.size + 1 + 1, 0, none⟩ = some (.int .i64 0) := J2.out.cell 0
  have r1 : w1.cell? ⟨w.heap.size + 1 + 1, 1, none⟩ = some (.int .i64 0) := J2.out.cell 1
  have r2 : w1.cell? ⟨w.heap.size + 1 + 1, 2, none⟩ = some (.string ⟨#[]⟩) := J2.out.cell 2
  have s0 : w1.cell? ⟨w.heap.size + 1 + 1 + 1, 0, none⟩ = some (.int .i64 0) := J3.out.cell 0
  have s1 : w1.cell? ⟨w.heap.size + 1 + 1 + 1, 1, none⟩ = some (.int .i64 0) := J3.out.cell 1
  have s2 : w1.cell? ⟨w.heap.size + 1 + 1 + 1, 2, none⟩ = some (.int .i64 0) := J3.out.cell 2
  have s3 : w1.cell? ⟨w.heap.size + 1 + 1 + 1, 3, none⟩ = some (.int .i64 0) := J3.out.cell 3
  have s4 : w1.cell? ⟨w.heap.size + 1 + 1 + 1, 4, none⟩ = some (.int .i64 0) := J3.out.cell 4
  have s5 : w1.cell? ⟨w.heap.size + 1 + 1 + 1, 5, none⟩ = some (.string ⟨#[]⟩) := J3.out.cell 5
  have rf : ∀ j, w1.frozen? ⟨w.heap.size + 1 + 1, j, none⟩ = false := fun j => J2.out.froz j
  have sf : ∀ j, w1.frozen? ⟨w.heap.size + 1 + 1 + 1, j, none⟩ = false := fun j => J3.out.froz j
  by_cases c0 : okVo ⟨p, t, v⟩
  · rw [decide_eq_true c0]
    go_wp2_with fail
    refine (CI.out w1).mono ?_
    rintro e w1' ⟨rfl, hw1⟩
    obtain rfl : w1 = w1' := hw1
    by_cases c1 : 1 ≤ b ∧ b ≤ 10000
    · rw [in_yes c1]
      by_cases c2 : z.size ≤ 40
      · have q2 : ¬ (40 : Int) < (z.size : Int) := by omega
        have HF := hide1 (show fitN ⟨p, t, v⟩ ⟨k, f, o, b, u, z⟩ from ⟨c0, c1, c2⟩)
        clear c0
        by_cases c3 : k = 1
        · subst c3
          by_cases c4 : p < b
          · have q4 : (p : Int) < b := c4
            have HR := hide1 (hear_ask HF.out ⟨rfl, c4⟩)
            have G2 := hide1 (And.intro (Blk.new w1 43 #[.int .i64 b, .int .i64 t, .string v]) ((Below.refl w1.heap.size w1).alloc (Nat.le_refl _) (.cells #[.int .i64 b, .int .i64 t, .string v] 43)))
            go_wp2_with fail
            generalize (w1.alloc (.cells #[.int .i64 b, .int .i64 t, .string v] 43)) = w2 at G2 ⊢
            clear a0 a1 a2 n0 n1 n2 n3 n4 n5 r0 r1 r2 s0 s1 s2 s3 s4 s5 rf sf
            have I0 := hide1 (J0.out.below G2.out.2 J0.out.lt)
            have I1 := hide1 (J1.out.below G2.out.2 J1.out.lt)
            have I2 := hide1 (J2.out.below G2.out.2 J2.out.lt)
            have I3 := hide1 (J3.out.below G2.out.2 J3.out.lt)
            have B2 := hide1 (B1.out.trans (G2.out.2.mono B1.out.size))
            clear J0 J1 J2 J3
            have J0 := hide1 I0.out
            have J1 := hide1 I1.out
            have J2 := hide1 I2.out
            have J3 := hide1 I3.out
            clear I0 I1 I2 I3
            have a0 : w2.cell? ⟨w.heap.size, 0, none⟩ = some (.int .i64 p) := J0.out.cell 0
            have a1 : w2.cell? ⟨w.heap.size, 1, none⟩ = some (.int .i64 t) := J0.out.cell 1
            have a2 : w2.cell? ⟨w.heap.size, 2, none⟩ = some (.string v) := J0.out.cell 2
            have n0 : w2.cell? ⟨w.heap.size + 1, 0, none⟩ = some (.int .i64 1) := J1.out.cell 0
            have n1 : w2.cell? ⟨w.heap.size + 1, 1, none⟩ = some (.int .i64 f) := J1.out.cell 1
            have n2 : w2.cell? ⟨w.heap.size + 1, 2, none⟩ = some (.int .i64 o) := J1.out.cell 2
            have n3 : w2.cell? ⟨w.heap.size + 1, 3, none⟩ = some (.int .i64 b) := J1.out.cell 3
            have n4 : w2.cell? ⟨w.heap.size + 1, 4, none⟩ = some (.int .i64 u) := J1.out.cell 4
            have n5 : w2.cell? ⟨w.heap.size + 1, 5, none⟩ = some (.string z) := J1.out.cell 5
            have r0 : w2.cell? ⟨w.heap.size + 1 + 1, 0, none⟩ = some (.int .i64 0) := J2.out.cell 0
            have r1 : w2.cell? ⟨w.heap.size + 1 + 1, 1, none⟩ = some (.int .i64 0) := J2.out.cell 1
            have r2 : w2.cell? ⟨w.heap.size + 1 + 1, 2, none⟩ = some (.string ⟨#[]⟩) := J2.out.cell 2
            have s0 : w2.cell? ⟨w.heap.size + 1 + 1 + 1, 0, none⟩ = some (.int .i64 0) := J3.out.cell 0
            have s1 : w2.cell? ⟨w.heap.size + 1 + 1 + 1, 1, none⟩ = some (.int .i64 0) := J3.out.cell 1
            have s2 : w2.cell? ⟨w.heap.size + 1 + 1 + 1, 2, none⟩ = some (.int .i64 0) := J3.out.cell 2
            have s3 : w2.cell? ⟨w.heap.size + 1 + 1 + 1, 3, none⟩ = some (.int .i64 0) := J3.out.cell 3
            have s4 : w2.cell? ⟨w.heap.size + 1 + 1 + 1, 4, none⟩ = some (.int .i64 0) := J3.out.cell 4
            have s5 : w2.cell? ⟨w.heap.size + 1 + 1 + 1, 5, none⟩ = some (.string ⟨#[]⟩) := J3.out.cell 5
            have rf : ∀ j, w2.frozen? ⟨w.heap.size + 1 + 1, j, none⟩ = false := fun j => J2.out.froz j
            have sf : ∀ j, w2.frozen? ⟨w.heap.size + 1 + 1 + 1, j, none⟩ = false := fun j => J3.out.froz j
            have q0 : w2.cell? ⟨w1.heap.size, 0, none⟩ = some (.int .i64 b) := G2.out.1.cell 0
            have q1 : w2.cell? ⟨w1.heap.size, 1, none⟩ = some (.int .i64 t) := G2.out.1.cell 1
            have q2 : w2.cell? ⟨w1.heap.size, 2, none⟩ = some (.string v) := G2.out.1.cell 2
            have hw2 : w1.heap.size < w2.heap.size := G2.out.1.lt
            have k02 : ∀ (u : World) (i j : Nat) (y : Value), (u.setCell ⟨w.heap.size + 1 + 1, i, none⟩ y).cell? ⟨w.heap.size, j, none⟩ = u.cell? ⟨w.heap.size, j, none⟩ := fun u i j y => World.cell?_setCell_far _ _ _ _ (by dsimp only; omega)
            have k03 : ∀ (u : World) (i j : Nat) (y : Value), (u.setCell ⟨w.heap.size + 1 + 1 + 1, i, none⟩ y).cell? ⟨w.heap.size, j, none⟩ = u.cell? ⟨w.heap.size, j, none⟩ := fun u i j y => World.cell?_setCell_far _ _ _ _ (by dsimp only; omega)
            have k12 : ∀ (u : World) (i j : Nat) (y : Value), (u.setCell ⟨w.heap.size + 1 + 1, i, none⟩ y).cell? ⟨w.heap.size + 1, j, none⟩ = u.cell? ⟨w.heap.size + 1, j, none⟩ := fun u i j y => World.cell?_setCell_far _ _ _ _ (by dsimp only; omega)
            have k13 : ∀ (u : World) (i j : Nat) (y : Value), (u.setCell ⟨w.heap.size + 1 + 1 + 1, i, none⟩ y).cell? ⟨w.heap.size + 1, j, none⟩ = u.cell? ⟨w.heap.size + 1, j, none⟩ := fun u i j y => World.cell?_setCell_far _ _ _ _ (by dsimp only; omega)
            have kq2 : ∀ (u : World) (i j : Nat) (y : Value), (u.setCell ⟨w.heap.size + 1 + 1, i, none⟩ y).cell? ⟨w1.heap.size, j, none⟩ = u.cell? ⟨w1.heap.size, j, none⟩ := fun u i j y => World.cell?_setCell_far _ _ _ _ (by dsimp only; omega)
            have kq3 : ∀ (u : World) (i j : Nat) (y : Value), (u.setCell ⟨w.heap.size + 1 + 1 + 1, i, none⟩ y).cell? ⟨w1.heap.size, j, none⟩ = u.cell? ⟨w1.heap.size, j, none⟩ := fun u i j y => World.cell?_setCell_far _ _ _ _ (by dsimp only; omega)
            go_region_held3 (fun w' => w'.cell? ⟨w.heap.size, 0, none⟩ = some (.int .i64 p) ∧ w'.cell? ⟨w.heap.size, 1, none⟩ = some (.int .i64 t) ∧ w'.cell? ⟨w.heap.size, 2, none⟩ = some (.string v) ∧ w'.cell? ⟨w.heap.size + 1, 0, none⟩ = some (.int .i64 1) ∧ w'.cell? ⟨w.heap.size + 1, 1, none⟩ = some (.int .i64 f) ∧ w'.cell? ⟨w.heap.size + 1, 2, none⟩ = some (.int .i64 o) ∧ w'.cell? ⟨w.heap.size + 1, 3, none⟩ = some (.int .i64 b) ∧ w'.cell? ⟨w.heap.size + 1, 4, none⟩ = some (.int .i64 u) ∧ w'.cell? ⟨w.heap.size + 1, 5, none⟩ = some (.string z) ∧ w'.cell? ⟨w1.heap.size, 0, none⟩ = some (.int .i64 b) ∧ w'.cell? ⟨w1.heap.size, 1, none⟩ = some (.int .i64 t) ∧ w'.cell? ⟨w1.heap.size, 2, none⟩ = some (.string v)) (first | go_keep | simp only [World.cell?_drew, k02, k03, k12, k13, kq2, kq3, a0, a1, a2, n0, n1, n2, n3, n4, n5, q0, q1, q2, and_self]) (fail)
            go_wp2
            have VB : Blk (((((((((w2.setCell ⟨w.heap.size + 1 + 1, 0, none⟩ (.int .i64 b)).setCell ⟨w.heap.size + 1 + 1, 1, none⟩ (.int .i64 t)).setCell ⟨w.heap.size + 1 + 1, 2, none⟩ (.string v)).setCell ⟨w.heap.size + 1 + 1 + 1, 0, none⟩ (.int .i64 2)).setCell ⟨w.heap.size + 1 + 1 + 1, 1, none⟩ (.int .i64 o)).setCell ⟨w.heap.size + 1 + 1 + 1, 2, none⟩ (.int .i64 f)).setCell ⟨w.heap.size + 1 + 1 + 1, 3, none⟩ (.int .i64 b)).setCell ⟨w.heap.size + 1 + 1 + 1, 4, none⟩ (.int .i64 t)).setCell ⟨w.heap.size + 1 + 1 + 1, 5, none⟩ (.string v)) (w.heap.size + 1 + 1) 43 [.int .i64 b, .int .i64 t, .string v] := (Blk.far (Blk.far (Blk.far (Blk.far (Blk.far (Blk.far (Blk.set (Blk.set (Blk.set J2.out 0 (.int .i64 b)) 1 (.int .i64 t)) 2 (.string v)) ⟨w.heap.size + 1 + 1 + 1, 0, none⟩ _ (by dsimp only; omega)) ⟨w.heap.size + 1 + 1 + 1, 1, none⟩ _ (by dsimp only; omega)) ⟨w.heap.size + 1 + 1 + 1, 2, none⟩ _ (by dsimp only; omega)) ⟨w.heap.size + 1 + 1 + 1, 3, none⟩ _ (by dsimp only; omega)) ⟨w.heap.size + 1 + 1 + 1, 4, none⟩ _ (by dsimp only; omega)) ⟨w.heap.size + 1 + 1 + 1, 5, none⟩ _ (by dsimp only; omega))
            have NB : Blk (((((((((w2.setCell ⟨w.heap.size + 1 + 1, 0, none⟩ (.int .i64 b)).setCell ⟨w.heap.size + 1 + 1, 1, none⟩ (.int .i64 t)).setCell ⟨w.heap.size + 1 + 1, 2, none⟩ (.string v)).setCell ⟨w.heap.size + 1 + 1 + 1, 0, none⟩ (.int .i64 2)).setCell ⟨w.heap.size + 1 + 1 + 1, 1, none⟩ (.int .i64 o)).setCell ⟨w.heap.size + 1 + 1 + 1, 2, none⟩ (.int .i64 f)).setCell ⟨w.heap.size + 1 + 1 + 1, 3, none⟩ (.int .i64 b)).setCell ⟨w.heap.size + 1 + 1 + 1, 4, none⟩ (.int .i64 t)).setCell ⟨w.heap.size + 1 + 1 + 1, 5, none⟩ (.string v)) (w.heap.size + 1 + 1 + 1) 111 [.int .i64 2, .int .i64 o, .int .i64 f, .int .i64 b, .int .i64 t, .string v] := (Blk.set (Blk.set (Blk.set (Blk.set (Blk.set (Blk.set (Blk.far (Blk.far (Blk.far J3.out ⟨w.heap.size + 1 + 1, 0, none⟩ _ (by dsimp only; omega)) ⟨w.heap.size + 1 + 1, 1, none⟩ _ (by dsimp only; omega)) ⟨w.heap.size + 1 + 1, 2, none⟩ _ (by dsimp only; omega)) 0 (.int .i64 2)) 1 (.int .i64 o)) 2 (.int .i64 f)) 3 (.int .i64 b)) 4 (.int .i64 t)) 5 (.string v))
            have BF : Below w.heap.size w (((((((((w2.setCell ⟨w.heap.size + 1 + 1, 0, none⟩ (.int .i64 b)).setCell ⟨w.heap.size + 1 + 1, 1, none⟩ (.int .i64 t)).setCell ⟨w.heap.size + 1 + 1, 2, none⟩ (.string v)).setCell ⟨w.heap.size + 1 + 1 + 1, 0, none⟩ (.int .i64 2)).setCell ⟨w.heap.size + 1 + 1 + 1, 1, none⟩ (.int .i64 o)).setCell ⟨w.heap.size + 1 + 1 + 1, 2, none⟩ (.int .i64 f)).setCell ⟨w.heap.size + 1 + 1 + 1, 3, none⟩ (.int .i64 b)).setCell ⟨w.heap.size + 1 + 1 + 1, 4, none⟩ (.int .i64 t)).setCell ⟨w.heap.size + 1 + 1 + 1, 5, none⟩ (.string v)) := (((((((((B2.out.setCell (p := ⟨w.heap.size + 1 + 1, 0, none⟩) (by dsimp only; omega) _).setCell (p := ⟨w.heap.size + 1 + 1, 1, none⟩) (by dsimp only; omega) _).setCell (p := ⟨w.heap.size + 1 + 1, 2, none⟩) (by dsimp only; omega) _).setCell (p := ⟨w.heap.size + 1 + 1 + 1, 0, none⟩) (by dsimp only; omega) _).setCell (p := ⟨w.heap.size + 1 + 1 + 1, 1, none⟩) (by dsimp only; omega) _).setCell (p := ⟨w.heap.size + 1 + 1 + 1, 2, none⟩) (by dsimp only; omega) _).setCell (p := ⟨w.heap.size + 1 + 1 + 1, 3, none⟩) (by dsimp only; omega) _).setCell (p := ⟨w.heap.size + 1 + 1 + 1, 4, none⟩) (by dsimp only; omega) _).setCell (p := ⟨w.heap.size + 1 + 1 + 1, 5, none⟩) (by dsimp only; omega) _)
            generalize (((((((((w2.setCell ⟨w.heap.size + 1 + 1, 0, none⟩ (.int .i64 b)).setCell ⟨w.heap.size + 1 + 1, 1, none⟩ (.int .i64 t)).setCell ⟨w.heap.size + 1 + 1, 2, none⟩ (.string v)).setCell ⟨w.heap.size + 1 + 1 + 1, 0, none⟩ (.int .i64 2)).setCell ⟨w.heap.size + 1 + 1 + 1, 1, none⟩ (.int .i64 o)).setCell ⟨w.heap.size + 1 + 1 + 1, 2, none⟩ (.int .i64 f)).setCell ⟨w.heap.size + 1 + 1 + 1, 3, none⟩ (.int .i64 b)).setCell ⟨w.heap.size + 1 + 1 + 1, 4, none⟩ (.int .i64 t)).setCell ⟨w.heap.size + 1 + 1 + 1, 5, none⟩ (.string v)) = w9 at VB NB BF ⊢
            refine bodyPost_ret (resH3 Try.results102 _ w9.drew (w.heap.size + 1 + 1) (w.heap.size + 1 + 1 + 1) 43 111 #[.int .i64 b, .int .i64 t, .string v] #[.int .i64 2, .int .i64 o, .int .i64 f, .int .i64 b, .int .i64 t, .string v] (0, 0) (0, 0) _ _ rfl VB Try.underlying43 rfl (by kernel_rfl) rfl NB Try.underlying111 rfl (by kernel_rfl)) rfl ?_
            exact ⟨by rw [HR.out]; rfl, BF.drew⟩
          · have q5 : ¬ (p : Int) < b := c4
            have HR := hide1 (hear_else (x := ⟨p, t, v⟩) (m := ⟨1, f, o, b, u, z⟩) (fun h => c4 h.2) (fun h => by have := h.1; simp at this))
            go_wp2
            refine bodyPost_ret (resH3 Try.results102 _ _ (w.heap.size + 1 + 1) (w.heap.size + 1 + 1 + 1) 43 111 #[.int .i64 p, .int .i64 t, .string v] #[.int .i64 0, .int .i64 0, .int .i64 0, .int .i64 0, .int .i64 0, .string ⟨#[]⟩] (0, 0) (0, 0) _ _ rfl (Blk.far (Blk.far (Blk.far (Blk.far (Blk.far (Blk.far (Blk.set (Blk.set (Blk.set J2.out 0 (.int .i64 p)) 1 (.int .i64 t)) 2 (.string v)) ⟨w.heap.size + 1 + 1 + 1, 0, none⟩ _ (by dsimp only; omega)) ⟨w.heap.size + 1 + 1 + 1, 1, none⟩ _ (by dsimp only; omega)) ⟨w.heap.size + 1 + 1 + 1, 2, none⟩ _ (by dsimp only; omega)) ⟨w.heap.size + 1 + 1 + 1, 3, none⟩ _ (by dsimp only; omega)) ⟨w.heap.size + 1 + 1 + 1, 4, none⟩ _ (by dsimp only; omega)) ⟨w.heap.size + 1 + 1 + 1, 5, none⟩ _ (by dsimp only; omega)) Try.underlying43 rfl (by kernel_rfl) rfl (Blk.set (Blk.set (Blk.set (Blk.set (Blk.set (Blk.set (Blk.far (Blk.far (Blk.far J3.out ⟨w.heap.size + 1 + 1, 0, none⟩ _ (by dsimp only; omega)) ⟨w.heap.size + 1 + 1, 1, none⟩ _ (by dsimp only; omega)) ⟨w.heap.size + 1 + 1, 2, none⟩ _ (by dsimp only; omega)) 0 (.int .i64 0)) 1 (.int .i64 0)) 2 (.int .i64 0)) 3 (.int .i64 0)) 4 (.int .i64 0)) 5 (.string ⟨#[]⟩)) Try.underlying111 rfl (by kernel_rfl)) rfl ?_
            exact ⟨by rw [HR.out]; rfl, (((((((((B1.out.setCell (p := ⟨w.heap.size + 1 + 1, 0, none⟩) (by dsimp only; omega) _).setCell (p := ⟨w.heap.size + 1 + 1, 1, none⟩) (by dsimp only; omega) _).setCell (p := ⟨w.heap.size + 1 + 1, 2, none⟩) (by dsimp only; omega) _).setCell (p := ⟨w.heap.size + 1 + 1 + 1, 0, none⟩) (by dsimp only; omega) _).setCell (p := ⟨w.heap.size + 1 + 1 + 1, 1, none⟩) (by dsimp only; omega) _).setCell (p := ⟨w.heap.size + 1 + 1 + 1, 2, none⟩) (by dsimp only; omega) _).setCell (p := ⟨w.heap.size + 1 + 1 + 1, 3, none⟩) (by dsimp only; omega) _).setCell (p := ⟨w.heap.size + 1 + 1 + 1, 4, none⟩) (by dsimp only; omega) _).setCell (p := ⟨w.heap.size + 1 + 1 + 1, 5, none⟩) (by dsimp only; omega) _)⟩
        · by_cases c5 : k = 3
          · subst c5
            by_cases c4 : p ≤ b
            · have q4 : (p : Int) ≤ b := c4
              have HR := hide1 (hear_take HF.out ⟨rfl, c4⟩)
              have G2 := hide1 (And.intro (Blk.new w1 43 #[.int .i64 b, .int .i64 b, .string z]) ((Below.refl w1.heap.size w1).alloc (Nat.le_refl _) (.cells #[.int .i64 b, .int .i64 b, .string z] 43)))
              go_wp2_with fail
              generalize (w1.alloc (.cells #[.int .i64 b, .int .i64 b, .string z] 43)) = w2 at G2 ⊢
              clear a0 a1 a2 n0 n1 n2 n3 n4 n5 r0 r1 r2 s0 s1 s2 s3 s4 s5 rf sf
              have I0 := hide1 (J0.out.below G2.out.2 J0.out.lt)
              have I1 := hide1 (J1.out.below G2.out.2 J1.out.lt)
              have I2 := hide1 (J2.out.below G2.out.2 J2.out.lt)
              have I3 := hide1 (J3.out.below G2.out.2 J3.out.lt)
              have B2 := hide1 (B1.out.trans (G2.out.2.mono B1.out.size))
              clear J0 J1 J2 J3
              have J0 := hide1 I0.out
              have J1 := hide1 I1.out
              have J2 := hide1 I2.out
              have J3 := hide1 I3.out
              clear I0 I1 I2 I3
              have a0 : w2.cell? ⟨w.heap.size, 0, none⟩ = some (.int .i64 p) := J0.out.cell 0
              have a1 : w2.cell? ⟨w.heap.size, 1, none⟩ = some (.int .i64 t) := J0.out.cell 1
              have a2 : w2.cell? ⟨w.heap.size, 2, none⟩ = some (.string v) := J0.out.cell 2
              have n0 : w2.cell? ⟨w.heap.size + 1, 0, none⟩ = some (.int .i64 3) := J1.out.cell 0
              have n1 : w2.cell? ⟨w.heap.size + 1, 1, none⟩ = some (.int .i64 f) := J1.out.cell 1
              have n2 : w2.cell? ⟨w.heap.size + 1, 2, none⟩ = some (.int .i64 o) := J1.out.cell 2
              have n3 : w2.cell? ⟨w.heap.size + 1, 3, none⟩ = some (.int .i64 b) := J1.out.cell 3
              have n4 : w2.cell? ⟨w.heap.size + 1, 4, none⟩ = some (.int .i64 u) := J1.out.cell 4
              have n5 : w2.cell? ⟨w.heap.size + 1, 5, none⟩ = some (.string z) := J1.out.cell 5
              have r0 : w2.cell? ⟨w.heap.size + 1 + 1, 0, none⟩ = some (.int .i64 0) := J2.out.cell 0
              have r1 : w2.cell? ⟨w.heap.size + 1 + 1, 1, none⟩ = some (.int .i64 0) := J2.out.cell 1
              have r2 : w2.cell? ⟨w.heap.size + 1 + 1, 2, none⟩ = some (.string ⟨#[]⟩) := J2.out.cell 2
              have s0 : w2.cell? ⟨w.heap.size + 1 + 1 + 1, 0, none⟩ = some (.int .i64 0) := J3.out.cell 0
              have s1 : w2.cell? ⟨w.heap.size + 1 + 1 + 1, 1, none⟩ = some (.int .i64 0) := J3.out.cell 1
              have s2 : w2.cell? ⟨w.heap.size + 1 + 1 + 1, 2, none⟩ = some (.int .i64 0) := J3.out.cell 2
              have s3 : w2.cell? ⟨w.heap.size + 1 + 1 + 1, 3, none⟩ = some (.int .i64 0) := J3.out.cell 3
              have s4 : w2.cell? ⟨w.heap.size + 1 + 1 + 1, 4, none⟩ = some (.int .i64 0) := J3.out.cell 4
              have s5 : w2.cell? ⟨w.heap.size + 1 + 1 + 1, 5, none⟩ = some (.string ⟨#[]⟩) := J3.out.cell 5
              have rf : ∀ j, w2.frozen? ⟨w.heap.size + 1 + 1, j, none⟩ = false := fun j => J2.out.froz j
              have sf : ∀ j, w2.frozen? ⟨w.heap.size + 1 + 1 + 1, j, none⟩ = false := fun j => J3.out.froz j
              have q0 : w2.cell? ⟨w1.heap.size, 0, none⟩ = some (.int .i64 b) := G2.out.1.cell 0
              have q1 : w2.cell? ⟨w1.heap.size, 1, none⟩ = some (.int .i64 b) := G2.out.1.cell 1
              have q2 : w2.cell? ⟨w1.heap.size, 2, none⟩ = some (.string z) := G2.out.1.cell 2
              have hw2 : w1.heap.size < w2.heap.size := G2.out.1.lt
              have k02 : ∀ (u : World) (i j : Nat) (y : Value), (u.setCell ⟨w.heap.size + 1 + 1, i, none⟩ y).cell? ⟨w.heap.size, j, none⟩ = u.cell? ⟨w.heap.size, j, none⟩ := fun u i j y => World.cell?_setCell_far _ _ _ _ (by dsimp only; omega)
              have k03 : ∀ (u : World) (i j : Nat) (y : Value), (u.setCell ⟨w.heap.size + 1 + 1 + 1, i, none⟩ y).cell? ⟨w.heap.size, j, none⟩ = u.cell? ⟨w.heap.size, j, none⟩ := fun u i j y => World.cell?_setCell_far _ _ _ _ (by dsimp only; omega)
              have k12 : ∀ (u : World) (i j : Nat) (y : Value), (u.setCell ⟨w.heap.size + 1 + 1, i, none⟩ y).cell? ⟨w.heap.size + 1, j, none⟩ = u.cell? ⟨w.heap.size + 1, j, none⟩ := fun u i j y => World.cell?_setCell_far _ _ _ _ (by dsimp only; omega)
              have k13 : ∀ (u : World) (i j : Nat) (y : Value), (u.setCell ⟨w.heap.size + 1 + 1 + 1, i, none⟩ y).cell? ⟨w.heap.size + 1, j, none⟩ = u.cell? ⟨w.heap.size + 1, j, none⟩ := fun u i j y => World.cell?_setCell_far _ _ _ _ (by dsimp only; omega)
              have kq2 : ∀ (u : World) (i j : Nat) (y : Value), (u.setCell ⟨w.heap.size + 1 + 1, i, none⟩ y).cell? ⟨w1.heap.size, j, none⟩ = u.cell? ⟨w1.heap.size, j, none⟩ := fun u i j y => World.cell?_setCell_far _ _ _ _ (by dsimp only; omega)
              have kq3 : ∀ (u : World) (i j : Nat) (y : Value), (u.setCell ⟨w.heap.size + 1 + 1 + 1, i, none⟩ y).cell? ⟨w1.heap.size, j, none⟩ = u.cell? ⟨w1.heap.size, j, none⟩ := fun u i j y => World.cell?_setCell_far _ _ _ _ (by dsimp only; omega)
              go_region_held3 (fun w' => w'.cell? ⟨w.heap.size, 0, none⟩ = some (.int .i64 p) ∧ w'.cell? ⟨w.heap.size, 1, none⟩ = some (.int .i64 t) ∧ w'.cell? ⟨w.heap.size, 2, none⟩ = some (.string v) ∧ w'.cell? ⟨w.heap.size + 1, 0, none⟩ = some (.int .i64 3) ∧ w'.cell? ⟨w.heap.size + 1, 1, none⟩ = some (.int .i64 f) ∧ w'.cell? ⟨w.heap.size + 1, 2, none⟩ = some (.int .i64 o) ∧ w'.cell? ⟨w.heap.size + 1, 3, none⟩ = some (.int .i64 b) ∧ w'.cell? ⟨w.heap.size + 1, 4, none⟩ = some (.int .i64 u) ∧ w'.cell? ⟨w.heap.size + 1, 5, none⟩ = some (.string z) ∧ w'.cell? ⟨w1.heap.size, 0, none⟩ = some (.int .i64 b) ∧ w'.cell? ⟨w1.heap.size, 1, none⟩ = some (.int .i64 b) ∧ w'.cell? ⟨w1.heap.size, 2, none⟩ = some (.string z)) (first | go_keep | simp only [World.cell?_drew, k02, k03, k12, k13, kq2, kq3, a0, a1, a2, n0, n1, n2, n3, n4, n5, q0, q1, q2, and_self]) (fail)
              go_wp2
              have VB : Blk (((((((((w2.setCell ⟨w.heap.size + 1 + 1, 0, none⟩ (.int .i64 b)).setCell ⟨w.heap.size + 1 + 1, 1, none⟩ (.int .i64 b)).setCell ⟨w.heap.size + 1 + 1, 2, none⟩ (.string z)).setCell ⟨w.heap.size + 1 + 1 + 1, 0, none⟩ (.int .i64 4)).setCell ⟨w.heap.size + 1 + 1 + 1, 1, none⟩ (.int .i64 o)).setCell ⟨w.heap.size + 1 + 1 + 1, 2, none⟩ (.int .i64 f)).setCell ⟨w.heap.size + 1 + 1 + 1, 3, none⟩ (.int .i64 b)).setCell ⟨w.heap.size + 1 + 1 + 1, 4, none⟩ (.int .i64 0)).setCell ⟨w.heap.size + 1 + 1 + 1, 5, none⟩ (.string z)) (w.heap.size + 1 + 1) 43 [.int .i64 b, .int .i64 b, .string z] := (Blk.far (Blk.far (Blk.far (Blk.far (Blk.far (Blk.far (Blk.set (Blk.set (Blk.set J2.out 0 (.int .i64 b)) 1 (.int .i64 b)) 2 (.string z)) ⟨w.heap.size + 1 + 1 + 1, 0, none⟩ _ (by dsimp only; omega)) ⟨w.heap.size + 1 + 1 + 1, 1, none⟩ _ (by dsimp only; omega)) ⟨w.heap.size + 1 + 1 + 1, 2, none⟩ _ (by dsimp only; omega)) ⟨w.heap.size + 1 + 1 + 1, 3, none⟩ _ (by dsimp only; omega)) ⟨w.heap.size + 1 + 1 + 1, 4, none⟩ _ (by dsimp only; omega)) ⟨w.heap.size + 1 + 1 + 1, 5, none⟩ _ (by dsimp only; omega))
              have NB : Blk (((((((((w2.setCell ⟨w.heap.size + 1 + 1, 0, none⟩ (.int .i64 b)).setCell ⟨w.heap.size + 1 + 1, 1, none⟩ (.int .i64 b)).setCell ⟨w.heap.size + 1 + 1, 2, none⟩ (.string z)).setCell ⟨w.heap.size + 1 + 1 + 1, 0, none⟩ (.int .i64 4)).setCell ⟨w.heap.size + 1 + 1 + 1, 1, none⟩ (.int .i64 o)).setCell ⟨w.heap.size + 1 + 1 + 1, 2, none⟩ (.int .i64 f)).setCell ⟨w.heap.size + 1 + 1 + 1, 3, none⟩ (.int .i64 b)).setCell ⟨w.heap.size + 1 + 1 + 1, 4, none⟩ (.int .i64 0)).setCell ⟨w.heap.size + 1 + 1 + 1, 5, none⟩ (.string z)) (w.heap.size + 1 + 1 + 1) 111 [.int .i64 4, .int .i64 o, .int .i64 f, .int .i64 b, .int .i64 0, .string z] := (Blk.set (Blk.set (Blk.set (Blk.set (Blk.set (Blk.set (Blk.far (Blk.far (Blk.far J3.out ⟨w.heap.size + 1 + 1, 0, none⟩ _ (by dsimp only; omega)) ⟨w.heap.size + 1 + 1, 1, none⟩ _ (by dsimp only; omega)) ⟨w.heap.size + 1 + 1, 2, none⟩ _ (by dsimp only; omega)) 0 (.int .i64 4)) 1 (.int .i64 o)) 2 (.int .i64 f)) 3 (.int .i64 b)) 4 (.int .i64 0)) 5 (.string z))
              have BF : Below w.heap.size w (((((((((w2.setCell ⟨w.heap.size + 1 + 1, 0, none⟩ (.int .i64 b)).setCell ⟨w.heap.size + 1 + 1, 1, none⟩ (.int .i64 b)).setCell ⟨w.heap.size + 1 + 1, 2, none⟩ (.string z)).setCell ⟨w.heap.size + 1 + 1 + 1, 0, none⟩ (.int .i64 4)).setCell ⟨w.heap.size + 1 + 1 + 1, 1, none⟩ (.int .i64 o)).setCell ⟨w.heap.size + 1 + 1 + 1, 2, none⟩ (.int .i64 f)).setCell ⟨w.heap.size + 1 + 1 + 1, 3, none⟩ (.int .i64 b)).setCell ⟨w.heap.size + 1 + 1 + 1, 4, none⟩ (.int .i64 0)).setCell ⟨w.heap.size + 1 + 1 + 1, 5, none⟩ (.string z)) := (((((((((B2.out.setCell (p := ⟨w.heap.size + 1 + 1, 0, none⟩) (by dsimp only; omega) _).setCell (p := ⟨w.heap.size + 1 + 1, 1, none⟩) (by dsimp only; omega) _).setCell (p := ⟨w.heap.size + 1 + 1, 2, none⟩) (by dsimp only; omega) _).setCell (p := ⟨w.heap.size + 1 + 1 + 1, 0, none⟩) (by dsimp only; omega) _).setCell (p := ⟨w.heap.size + 1 + 1 + 1, 1, none⟩) (by dsimp only; omega) _).setCell (p := ⟨w.heap.size + 1 + 1 + 1, 2, none⟩) (by dsimp only; omega) _).setCell (p := ⟨w.heap.size + 1 + 1 + 1, 3, none⟩) (by dsimp only; omega) _).setCell (p := ⟨w.heap.size + 1 + 1 + 1, 4, none⟩) (by dsimp only; omega) _).setCell (p := ⟨w.heap.size + 1 + 1 + 1, 5, none⟩) (by dsimp only; omega) _)
              generalize (((((((((w2.setCell ⟨w.heap.size + 1 + 1, 0, none⟩ (.int .i64 b)).setCell ⟨w.heap.size + 1 + 1, 1, none⟩ (.int .i64 b)).setCell ⟨w.heap.size + 1 + 1, 2, none⟩ (.string z)).setCell ⟨w.heap.size + 1 + 1 + 1, 0, none⟩ (.int .i64 4)).setCell ⟨w.heap.size + 1 + 1 + 1, 1, none⟩ (.int .i64 o)).setCell ⟨w.heap.size + 1 + 1 + 1, 2, none⟩ (.int .i64 f)).setCell ⟨w.heap.size + 1 + 1 + 1, 3, none⟩ (.int .i64 b)).setCell ⟨w.heap.size + 1 + 1 + 1, 4, none⟩ (.int .i64 0)).setCell ⟨w.heap.size + 1 + 1 + 1, 5, none⟩ (.string z)) = w9 at VB NB BF ⊢
              refine bodyPost_ret (resH3 Try.results102 _ w9.drew (w.heap.size + 1 + 1) (w.heap.size + 1 + 1 + 1) 43 111 #[.int .i64 b, .int .i64 b, .string z] #[.int .i64 4, .int .i64 o, .int .i64 f, .int .i64 b, .int .i64 0, .string z] (0, 0) (0, 0) _ _ rfl VB Try.underlying43 rfl (by kernel_rfl) rfl NB Try.underlying111 rfl (by kernel_rfl)) rfl ?_
              exact ⟨by rw [HR.out]; rfl, BF.drew⟩
            · have q5 : ¬ (p : Int) ≤ b := c4
              have HR := hide1 (hear_else (x := ⟨p, t, v⟩) (m := ⟨3, f, o, b, u, z⟩) (fun h => by have := h.1; simp at this) (fun h => c4 h.2))
              go_wp2
              refine bodyPost_ret (resH3 Try.results102 _ _ (w.heap.size + 1 + 1) (w.heap.size + 1 + 1 + 1) 43 111 #[.int .i64 p, .int .i64 t, .string v] #[.int .i64 0, .int .i64 0, .int .i64 0, .int .i64 0, .int .i64 0, .string ⟨#[]⟩] (0, 0) (0, 0) _ _ rfl (Blk.far (Blk.far (Blk.far (Blk.far (Blk.far (Blk.far (Blk.set (Blk.set (Blk.set J2.out 0 (.int .i64 p)) 1 (.int .i64 t)) 2 (.string v)) ⟨w.heap.size + 1 + 1 + 1, 0, none⟩ _ (by dsimp only; omega)) ⟨w.heap.size + 1 + 1 + 1, 1, none⟩ _ (by dsimp only; omega)) ⟨w.heap.size + 1 + 1 + 1, 2, none⟩ _ (by dsimp only; omega)) ⟨w.heap.size + 1 + 1 + 1, 3, none⟩ _ (by dsimp only; omega)) ⟨w.heap.size + 1 + 1 + 1, 4, none⟩ _ (by dsimp only; omega)) ⟨w.heap.size + 1 + 1 + 1, 5, none⟩ _ (by dsimp only; omega)) Try.underlying43 rfl (by kernel_rfl) rfl (Blk.set (Blk.set (Blk.set (Blk.set (Blk.set (Blk.set (Blk.far (Blk.far (Blk.far J3.out ⟨w.heap.size + 1 + 1, 0, none⟩ _ (by dsimp only; omega)) ⟨w.heap.size + 1 + 1, 1, none⟩ _ (by dsimp only; omega)) ⟨w.heap.size + 1 + 1, 2, none⟩ _ (by dsimp only; omega)) 0 (.int .i64 0)) 1 (.int .i64 0)) 2 (.int .i64 0)) 3 (.int .i64 0)) 4 (.int .i64 0)) 5 (.string ⟨#[]⟩)) Try.underlying111 rfl (by kernel_rfl)) rfl ?_
              exact ⟨by rw [HR.out]; rfl, (((((((((B1.out.setCell (p := ⟨w.heap.size + 1 + 1, 0, none⟩) (by dsimp only; omega) _).setCell (p := ⟨w.heap.size + 1 + 1, 1, none⟩) (by dsimp only; omega) _).setCell (p := ⟨w.heap.size + 1 + 1, 2, none⟩) (by dsimp only; omega) _).setCell (p := ⟨w.heap.size + 1 + 1 + 1, 0, none⟩) (by dsimp only; omega) _).setCell (p := ⟨w.heap.size + 1 + 1 + 1, 1, none⟩) (by dsimp only; omega) _).setCell (p := ⟨w.heap.size + 1 + 1 + 1, 2, none⟩) (by dsimp only; omega) _).setCell (p := ⟨w.heap.size + 1 + 1 + 1, 3, none⟩) (by dsimp only; omega) _).setCell (p := ⟨w.heap.size + 1 + 1 + 1, 4, none⟩) (by dsimp only; omega) _).setCell (p := ⟨w.heap.size + 1 + 1 + 1, 5, none⟩) (by dsimp only; omega) _)⟩
          · have q5 : (k == 1) = false := by rw [beq_eq_false_iff_ne]; exact c3
            have q6 : (k == 3) = false := by rw [beq_eq_false_iff_ne]; exact c5
            have HR := hide1 (hear_else (x := ⟨p, t, v⟩) (m := ⟨k, f, o, b, u, z⟩) (fun h => c3 h.1) (fun h => c5 h.1))
            go_wp2
            refine bodyPost_ret (resH3 Try.results102 _ _ (w.heap.size + 1 + 1) (w.heap.size + 1 + 1 + 1) 43 111 #[.int .i64 p, .int .i64 t, .string v] #[.int .i64 0, .int .i64 0, .int .i64 0, .int .i64 0, .int .i64 0, .string ⟨#[]⟩] (0, 0) (0, 0) _ _ rfl (Blk.far (Blk.far (Blk.far (Blk.far (Blk.far (Blk.far (Blk.set (Blk.set (Blk.set J2.out 0 (.int .i64 p)) 1 (.int .i64 t)) 2 (.string v)) ⟨w.heap.size + 1 + 1 + 1, 0, none⟩ _ (by dsimp only; omega)) ⟨w.heap.size + 1 + 1 + 1, 1, none⟩ _ (by dsimp only; omega)) ⟨w.heap.size + 1 + 1 + 1, 2, none⟩ _ (by dsimp only; omega)) ⟨w.heap.size + 1 + 1 + 1, 3, none⟩ _ (by dsimp only; omega)) ⟨w.heap.size + 1 + 1 + 1, 4, none⟩ _ (by dsimp only; omega)) ⟨w.heap.size + 1 + 1 + 1, 5, none⟩ _ (by dsimp only; omega)) Try.underlying43 rfl (by kernel_rfl) rfl (Blk.set (Blk.set (Blk.set (Blk.set (Blk.set (Blk.set (Blk.far (Blk.far (Blk.far J3.out ⟨w.heap.size + 1 + 1, 0, none⟩ _ (by dsimp only; omega)) ⟨w.heap.size + 1 + 1, 1, none⟩ _ (by dsimp only; omega)) ⟨w.heap.size + 1 + 1, 2, none⟩ _ (by dsimp only; omega)) 0 (.int .i64 0)) 1 (.int .i64 0)) 2 (.int .i64 0)) 3 (.int .i64 0)) 4 (.int .i64 0)) 5 (.string ⟨#[]⟩)) Try.underlying111 rfl (by kernel_rfl)) rfl ?_
            exact ⟨by rw [HR.out]; rfl, (((((((((B1.out.setCell (p := ⟨w.heap.size + 1 + 1, 0, none⟩) (by dsimp only; omega) _).setCell (p := ⟨w.heap.size + 1 + 1, 1, none⟩) (by dsimp only; omega) _).setCell (p := ⟨w.heap.size + 1 + 1, 2, none⟩) (by dsimp only; omega) _).setCell (p := ⟨w.heap.size + 1 + 1 + 1, 0, none⟩) (by dsimp only; omega) _).setCell (p := ⟨w.heap.size + 1 + 1 + 1, 1, none⟩) (by dsimp only; omega) _).setCell (p := ⟨w.heap.size + 1 + 1 + 1, 2, none⟩) (by dsimp only; omega) _).setCell (p := ⟨w.heap.size + 1 + 1 + 1, 3, none⟩) (by dsimp only; omega) _).setCell (p := ⟨w.heap.size + 1 + 1 + 1, 4, none⟩) (by dsimp only; omega) _).setCell (p := ⟨w.heap.size + 1 + 1 + 1, 5, none⟩) (by dsimp only; omega) _)⟩
      · have q2 : (40 : Int) < (z.size : Int) := by omega
        have HR := hide1 (hear_no (x := ⟨p, t, v⟩) (m := ⟨k, f, o, b, u, z⟩) (fun h => c2 h.2.2))
        go_wp2
        refine bodyPost_ret (resH3 Try.results102 _ _ (w.heap.size + 1 + 1) (w.heap.size + 1 + 1 + 1) 43 111 #[.int .i64 p, .int .i64 t, .string v] #[.int .i64 0, .int .i64 0, .int .i64 0, .int .i64 0, .int .i64 0, .string ⟨#[]⟩] (0, 0) (0, 0) _ _ rfl (Blk.far (Blk.far (Blk.far (Blk.far (Blk.far (Blk.far (Blk.set (Blk.set (Blk.set J2.out 0 (.int .i64 p)) 1 (.int .i64 t)) 2 (.string v)) ⟨w.heap.size + 1 + 1 + 1, 0, none⟩ _ (by dsimp only; omega)) ⟨w.heap.size + 1 + 1 + 1, 1, none⟩ _ (by dsimp only; omega)) ⟨w.heap.size + 1 + 1 + 1, 2, none⟩ _ (by dsimp only; omega)) ⟨w.heap.size + 1 + 1 + 1, 3, none⟩ _ (by dsimp only; omega)) ⟨w.heap.size + 1 + 1 + 1, 4, none⟩ _ (by dsimp only; omega)) ⟨w.heap.size + 1 + 1 + 1, 5, none⟩ _ (by dsimp only; omega)) Try.underlying43 rfl (by kernel_rfl) rfl (Blk.set (Blk.set (Blk.set (Blk.set (Blk.set (Blk.set (Blk.far (Blk.far (Blk.far J3.out ⟨w.heap.size + 1 + 1, 0, none⟩ _ (by dsimp only; omega)) ⟨w.heap.size + 1 + 1, 1, none⟩ _ (by dsimp only; omega)) ⟨w.heap.size + 1 + 1, 2, none⟩ _ (by dsimp only; omega)) 0 (.int .i64 0)) 1 (.int .i64 0)) 2 (.int .i64 0)) 3 (.int .i64 0)) 4 (.int .i64 0)) 5 (.string ⟨#[]⟩)) Try.underlying111 rfl (by kernel_rfl)) rfl ?_
        exact ⟨by rw [HR.out]; rfl, (((((((((B1.out.setCell (p := ⟨w.heap.size + 1 + 1, 0, none⟩) (by dsimp only; omega) _).setCell (p := ⟨w.heap.size + 1 + 1, 1, none⟩) (by dsimp only; omega) _).setCell (p := ⟨w.heap.size + 1 + 1, 2, none⟩) (by dsimp only; omega) _).setCell (p := ⟨w.heap.size + 1 + 1 + 1, 0, none⟩) (by dsimp only; omega) _).setCell (p := ⟨w.heap.size + 1 + 1 + 1, 1, none⟩) (by dsimp only; omega) _).setCell (p := ⟨w.heap.size + 1 + 1 + 1, 2, none⟩) (by dsimp only; omega) _).setCell (p := ⟨w.heap.size + 1 + 1 + 1, 3, none⟩) (by dsimp only; omega) _).setCell (p := ⟨w.heap.size + 1 + 1 + 1, 4, none⟩) (by dsimp only; omega) _).setCell (p := ⟨w.heap.size + 1 + 1 + 1, 5, none⟩) (by dsimp only; omega) _)⟩
    · rw [in_no c1]
      have HR := hide1 (hear_no (x := ⟨p, t, v⟩) (m := ⟨k, f, o, b, u, z⟩) (fun h => c1 h.2.1))
      go_wp2
      refine bodyPost_ret (resH3 Try.results102 _ _ (w.heap.size + 1 + 1) (w.heap.size + 1 + 1 + 1) 43 111 #[.int .i64 p, .int .i64 t, .string v] #[.int .i64 0, .int .i64 0, .int .i64 0, .int .i64 0, .int .i64 0, .string ⟨#[]⟩] (0, 0) (0, 0) _ _ rfl (Blk.far (Blk.far (Blk.far (Blk.far (Blk.far (Blk.far (Blk.set (Blk.set (Blk.set J2.out 0 (.int .i64 p)) 1 (.int .i64 t)) 2 (.string v)) ⟨w.heap.size + 1 + 1 + 1, 0, none⟩ _ (by dsimp only; omega)) ⟨w.heap.size + 1 + 1 + 1, 1, none⟩ _ (by dsimp only; omega)) ⟨w.heap.size + 1 + 1 + 1, 2, none⟩ _ (by dsimp only; omega)) ⟨w.heap.size + 1 + 1 + 1, 3, none⟩ _ (by dsimp only; omega)) ⟨w.heap.size + 1 + 1 + 1, 4, none⟩ _ (by dsimp only; omega)) ⟨w.heap.size + 1 + 1 + 1, 5, none⟩ _ (by dsimp only; omega)) Try.underlying43 rfl (by kernel_rfl) rfl (Blk.set (Blk.set (Blk.set (Blk.set (Blk.set (Blk.set (Blk.far (Blk.far (Blk.far J3.out ⟨w.heap.size + 1 + 1, 0, none⟩ _ (by dsimp only; omega)) ⟨w.heap.size + 1 + 1, 1, none⟩ _ (by dsimp only; omega)) ⟨w.heap.size + 1 + 1, 2, none⟩ _ (by dsimp only; omega)) 0 (.int .i64 0)) 1 (.int .i64 0)) 2 (.int .i64 0)) 3 (.int .i64 0)) 4 (.int .i64 0)) 5 (.string ⟨#[]⟩)) Try.underlying111 rfl (by kernel_rfl)) rfl ?_
      exact ⟨by rw [HR.out]; rfl, (((((((((B1.out.setCell (p := ⟨w.heap.size + 1 + 1, 0, none⟩) (by dsimp only; omega) _).setCell (p := ⟨w.heap.size + 1 + 1, 1, none⟩) (by dsimp only; omega) _).setCell (p := ⟨w.heap.size + 1 + 1, 2, none⟩) (by dsimp only; omega) _).setCell (p := ⟨w.heap.size + 1 + 1 + 1, 0, none⟩) (by dsimp only; omega) _).setCell (p := ⟨w.heap.size + 1 + 1 + 1, 1, none⟩) (by dsimp only; omega) _).setCell (p := ⟨w.heap.size + 1 + 1 + 1, 2, none⟩) (by dsimp only; omega) _).setCell (p := ⟨w.heap.size + 1 + 1 + 1, 3, none⟩) (by dsimp only; omega) _).setCell (p := ⟨w.heap.size + 1 + 1 + 1, 4, none⟩) (by dsimp only; omega) _).setCell (p := ⟨w.heap.size + 1 + 1 + 1, 5, none⟩) (by dsimp only; omega) _)⟩
  · rw [decide_eq_false c0]
    have HR := hide1 (hear_no (m := ⟨k, f, o, b, u, z⟩) (fun h => c0 h.1))
    go_wp2
    refine bodyPost_ret (resH3 Try.results102 _ _ (w.heap.size + 1 + 1) (w.heap.size + 1 + 1 + 1) 43 111 #[.int .i64 p, .int .i64 t, .string v] #[.int .i64 0, .int .i64 0, .int .i64 0, .int .i64 0, .int .i64 0, .string ⟨#[]⟩] (0, 0) (0, 0) _ _ rfl (Blk.far (Blk.far (Blk.far (Blk.far (Blk.far (Blk.far (Blk.set (Blk.set (Blk.set J2.out 0 (.int .i64 p)) 1 (.int .i64 t)) 2 (.string v)) ⟨w.heap.size + 1 + 1 + 1, 0, none⟩ _ (by dsimp only; omega)) ⟨w.heap.size + 1 + 1 + 1, 1, none⟩ _ (by dsimp only; omega)) ⟨w.heap.size + 1 + 1 + 1, 2, none⟩ _ (by dsimp only; omega)) ⟨w.heap.size + 1 + 1 + 1, 3, none⟩ _ (by dsimp only; omega)) ⟨w.heap.size + 1 + 1 + 1, 4, none⟩ _ (by dsimp only; omega)) ⟨w.heap.size + 1 + 1 + 1, 5, none⟩ _ (by dsimp only; omega)) Try.underlying43 rfl (by kernel_rfl) rfl (Blk.set (Blk.set (Blk.set (Blk.set (Blk.set (Blk.set (Blk.far (Blk.far (Blk.far J3.out ⟨w.heap.size + 1 + 1, 0, none⟩ _ (by dsimp only; omega)) ⟨w.heap.size + 1 + 1, 1, none⟩ _ (by dsimp only; omega)) ⟨w.heap.size + 1 + 1, 2, none⟩ _ (by dsimp only; omega)) 0 (.int .i64 0)) 1 (.int .i64 0)) 2 (.int .i64 0)) 3 (.int .i64 0)) 4 (.int .i64 0)) 5 (.string ⟨#[]⟩)) Try.underlying111 rfl (by kernel_rfl)) rfl ?_
    exact ⟨by rw [HR.out]; rfl, (((((((((B1.out.setCell (p := ⟨w.heap.size + 1 + 1, 0, none⟩) (by dsimp only; omega) _).setCell (p := ⟨w.heap.size + 1 + 1, 1, none⟩) (by dsimp only; omega) _).setCell (p := ⟨w.heap.size + 1 + 1, 2, none⟩) (by dsimp only; omega) _).setCell (p := ⟨w.heap.size + 1 + 1 + 1, 0, none⟩) (by dsimp only; omega) _).setCell (p := ⟨w.heap.size + 1 + 1 + 1, 1, none⟩) (by dsimp only; omega) _).setCell (p := ⟨w.heap.size + 1 + 1 + 1, 2, none⟩) (by dsimp only; omega) _).setCell (p := ⟨w.heap.size + 1 + 1 + 1, 3, none⟩) (by dsimp only; omega) _).setCell (p := ⟨w.heap.size + 1 + 1 + 1, 4, none⟩) (by dsimp only; omega) _).setCell (p := ⟨w.heap.size + 1 + 1 + 1, 5, none⟩) (by dsimp only; omega) _)⟩
end Go.Proofs.Ytgehdgmllilmgaa
