/- Ballots, by the program: notes as what they say, voices that answer. -/
import Derived.Test.YtgehdgmllilmgaaYV
namespace Go.Proofs.Ytgehdgmllilmgaa
open Go.RowKit
set_option linter.unusedVariables false

theorem conv_newB {P : Program} (w : World) (src dst e : TypeId) (s : ByteArray) (hs : P.underlying src = some .string) (hd : P.underlying dst = some (.slice e)) (he : P.underlying e = some (.int .u8)) :
    ∃ v w1, (convert src dst (.string s)).run P w = .ok v w1 ∧ (convert dst src v).run P w1 = .ok (.string s) w1 ∧ Below w.heap.size w w1 := by
  refine ⟨_, _, run_bytes_of_string w src dst e s hs hd he, ?_, (Below.refl _ _).drew.alloc (Nat.le_refl _) _⟩
  have hl : s.size = s.data.toList.length := by simp
  rw [hl, run_convert_bytes_back _ dst src e ⟨w.heap.size, 0, none⟩ _ s.data.toList hd he hs]
  intro j hj
  have hj' : j < s.data.size := by simpa using hj
  rw [Addr.add_lit, Nat.zero_add]
  have := World.cell?_alloc_mark w.drew (bytesRow s (grownCap w s.size 0 e)) e ((bytesRow s (grownCap w s.size 0 e)).size, (bytesRow s (grownCap w s.size 0 e)).size + 1) j
  rw [bytesRow_at s _ j hj'] at this
  rw [← hl]
  simpa using this

theorem newB_any (s : ByteArray) (w : World) : Calls Try.prog 98 #[.string s] w fun e w' => e = .returned (.string s) ∧ Below w.heap.size w w' := by
  obtain ⟨v, w1, r1, r2, hb⟩ := conv_newB (P := Try.prog) w 9 22 5 s Try.underlying9 Try.underlying22 Try.underlying5
  go_enter Try.func98, Try.ntmps98
  go_wp2
  go_ret
  exact ⟨rfl, hb⟩

set_option maxRecDepth 100000 in
theorem implMost_any (n : Int) (w : World) (h1 : -9223372036854775808 ≤ n) (h2 : n ≤ 9223372036854775807) :
    Calls Try.prog 19 #[.int .i64 n] w fun e w' => e = .returned (.int .i64 (mostI n)) ∧ Below w.heap.size w w' := by
  unfold mostI
  by_cases c : n < 0
  · rw [if_pos c]
    go_enter Try.func19, Try.ntmps19
    go_wp2
    go_ret
    exact ⟨rfl, Below.refl _ _⟩
  · rw [if_neg c]
    have q1 : n.tdiv 2 = n / 2 := Int.tdiv_eq_ediv_of_nonneg (by omega)
    have q2 : IntKind.i64.wrap (n / 2) = n / 2 := IntWalk.i64_in _ ⟨by omega, by omega⟩
    have q3 : IntKind.i64.wrap (n / 2 + 1) = n / 2 + 1 := IntWalk.i64_in _ ⟨by omega, by omega⟩
    go_enter Try.func19, Try.ntmps19
    go_wp2
    go_ret
    first | exact ⟨rfl, Below.refl _ _⟩ | exact ⟨by rw [q3]; rfl, Below.refl _ _⟩

set_option maxRecDepth 100000 in
set_option maxHeartbeats 1000000 in
theorem implVoice_any (x : Vo) (w : World) (hx : x.v.size ≤ 1048576) :
    Calls Try.prog 18 #[voV x] w fun e w' => e = .returned (.bool (decide (okVo x))) ∧ Below w.heap.size w w' := by
  obtain ⟨p, t, v⟩ := x
  unfold voV
  dsimp only at hx ⊢
  by_cases c1 : t < 0
  · have HR := hide1 (decide_eq_false (show ¬ okVo ⟨p, t, v⟩ from fun h => by have := h.2.1.1; dsimp only at this; omega))
    go_enter Try.func18, Try.ntmps18
    go_wp2
    go_ret
    exact ⟨by rw [HR.out]; rfl, by go_grown⟩
  · by_cases c2 : p < t
    · have HR := hide1 (decide_eq_false (show ¬ okVo ⟨p, t, v⟩ from fun h => by have := h.2.1.2; dsimp only at this; omega))
      go_enter Try.func18, Try.ntmps18
      go_wp2
      go_ret
      exact ⟨by rw [HR.out]; rfl, by go_grown⟩
    · by_cases c3 : 10000 < p
      · have HR := hide1 (decide_eq_false (show ¬ okVo ⟨p, t, v⟩ from fun h => by have := h.1.2; dsimp only at this; omega))
        go_enter Try.func18, Try.ntmps18
        go_wp2
        go_ret
        exact ⟨by rw [HR.out]; rfl, by go_grown⟩
      · by_cases c4 : v.size ≤ 40
        · have q4 : (v.size : Int) ≤ 40 := by omega
          by_cases c5 : 0 < t
          · have HR := hide1 (decide_eq_true (show okVo ⟨p, t, v⟩ from ⟨⟨by dsimp only; omega, by dsimp only; omega⟩, ⟨by dsimp only; omega, by dsimp only; omega⟩, c4, .inl c5⟩))
            go_enter Try.func18, Try.ntmps18
            go_wp2
            go_ret
            exact ⟨by rw [HR.out]; rfl, by go_grown⟩
          · by_cases c6 : v.toList = []
            · have q5 : v.toList.isEmpty = true := by rw [c6]; rfl
              have HR := hide1 (decide_eq_true (show okVo ⟨p, t, v⟩ from ⟨⟨by dsimp only; omega, by dsimp only; omega⟩, ⟨by dsimp only; omega, by dsimp only; omega⟩, c4, .inr c6⟩))
              clear c6
              go_enter Try.func18, Try.ntmps18
              go_wp2
              go_ret
              exact ⟨by rw [HR.out]; rfl, by go_grown⟩
            · have q5 : v.toList.isEmpty = false := by cases e : v.toList with | nil => exact absurd e c6 | cons a b => rfl
              have HR := hide1 (decide_eq_false (show ¬ okVo ⟨p, t, v⟩ from fun h => by rcases h.2.2.2 with h | h; exact c5 h; exact c6 h))
              clear c6
              go_enter Try.func18, Try.ntmps18
              go_wp2
              go_ret
              exact ⟨by rw [HR.out]; rfl, by go_grown⟩
        · have q4 : ¬ (v.size : Int) ≤ 40 := by omega
          have HR := hide1 (decide_eq_false (show ¬ okVo ⟨p, t, v⟩ from fun h => c4 h.2.2.1))
          go_enter Try.func18, Try.ntmps18
          go_wp2
          go_ret
          exact ⟨by rw [HR.out]; rfl, by go_grown⟩

/-- What may be listened to. -/
def fitM (m : Nt) : Prop := (1 ≤ m.b ∧ m.b ≤ 10000) ∧ m.v.size ≤ 40
instance (m : Nt) : Decidable (fitM m) := by unfold fitM; infer_instance

set_option maxRecDepth 100000 in
theorem fitsB_any (m : Nt) (w : World) (hm : m.v.size ≤ 1048576) :
    Calls Try.prog 113 #[ntV m] w fun e w' => e = .returned (.bool (decide (fitM m))) ∧ Below w.heap.size w w' := by
  obtain ⟨k, f, o, b, u, z⟩ := m
  unfold ntV
  dsimp only at hm
  by_cases c1 : 1 ≤ b
  · by_cases c2 : b ≤ 10000
    · by_cases c3 : z.size ≤ 40
      · have q3 : (z.size : Int) ≤ 40 := by omega
        have HR := hide1 (decide_eq_true (show fitM ⟨k, f, o, b, u, z⟩ from ⟨⟨c1, c2⟩, c3⟩))
        go_enter Try.func113, Try.ntmps113
        go_wp2
        go_ret
        exact ⟨by rw [HR.out]; rfl, by go_grown⟩
      · have q3 : ¬ (z.size : Int) ≤ 40 := by omega
        have HR := hide1 (decide_eq_false (show ¬ fitM ⟨k, f, o, b, u, z⟩ from fun h => c3 h.2))
        go_enter Try.func113, Try.ntmps113
        go_wp2
        go_ret
        exact ⟨by rw [HR.out]; rfl, by go_grown⟩
    · have HR := hide1 (decide_eq_false (show ¬ fitM ⟨k, f, o, b, u, z⟩ from fun h => c2 h.1.2))
      go_enter Try.func113, Try.ntmps113
      go_wp2
      go_ret
      exact ⟨by rw [HR.out]; rfl, by go_grown⟩
  · have HR := hide1 (decide_eq_false (show ¬ fitM ⟨k, f, o, b, u, z⟩ from fun h => c1 h.1.1))
    go_enter Try.func113, Try.ntmps113
    go_wp2
    go_ret
    exact ⟨by rw [HR.out]; rfl, by go_grown⟩

/-- What a note says, as a value behind the interface. -/
def saV1 (b : Int) : Value := .iface 137 (.agg #[.int .i64 b])
def saV2 (b t : Int) (v : ByteArray) : Value := .iface 162 (.agg #[.int .i64 b, .int .i64 t, .string v])
def saV3 (b : Int) (v : ByteArray) : Value := .iface 159 (.agg #[.int .i64 b, .string v])
def saV4 (b : Int) (v : ByteArray) : Value := .iface 163 (.agg #[.int .i64 b, .string v])
def sayV (m : Nt) : Value := if m.k = 1 then saV1 m.b else if m.k = 2 then saV2 m.b m.t m.v else if m.k = 3 then saV3 m.b m.v else if m.k = 4 then saV4 m.b m.v else .nilIface

set_option maxRecDepth 100000 in
theorem sayingOf_any (m : Nt) (w : World) :
    Calls Try.prog 116 #[ntV m] w fun e w' => e = .returned (sayV m) ∧ Below w.heap.size w w' := by
  obtain ⟨k, f, o, b, u, z⟩ := m
  unfold ntV sayV
  dsimp only
  by_cases c1 : k = 1
  · subst c1
    go_enter Try.func116, Try.ntmps116
    go_wp2
    go_ret
    exact ⟨rfl, by go_grown⟩
  · by_cases c2 : k = 2
    · subst c2
      go_enter Try.func116, Try.ntmps116
      go_wp2
      go_ret
      exact ⟨rfl, by go_grown⟩
    · by_cases c3 : k = 3
      · subst c3
        go_enter Try.func116, Try.ntmps116
        go_wp2
        go_ret
        exact ⟨rfl, by go_grown⟩
      · by_cases c4 : k = 4
        · subst c4
          go_enter Try.func116, Try.ntmps116
          go_wp2
          go_ret
          exact ⟨rfl, by go_grown⟩
        · have q1 : (k == 1) = false := by rw [beq_eq_false_iff_ne]; exact c1
          have q2 : (k == 2) = false := by rw [beq_eq_false_iff_ne]; exact c2
          have q3 : (k == 3) = false := by rw [beq_eq_false_iff_ne]; exact c3
          have q4 : (k == 4) = false := by rw [beq_eq_false_iff_ne]; exact c4
          rw [if_neg c1, if_neg c2, if_neg c3, if_neg c4]
          clear c1 c2 c3 c4
          go_enter Try.func116, Try.ntmps116
          go_wp2
          go_ret
          exact ⟨rfl, by go_grown⟩
end Go.Proofs.Ytgehdgmllilmgaa
namespace Go.Proofs.Ytgehdgmllilmgaa
open Go.RowKit
set_option linter.unusedVariables false

set_option maxRecDepth 100000 in
set_option maxHeartbeats 2000000 in
theorem newVoice_any (x : Vo) (w : World) : Calls Try.prog 114 #[voV x] w fun e w' => e = .returned (voV x) ∧ Below w.heap.size w w' := by
  obtain ⟨p, t, v⟩ := x
  unfold voV
  dsimp only
  have F0 := hide1 (blkN2 w #[.int .i64 p, .int .i64 t, .string v] #[.int .i64 0, .int .i64 0, .string ⟨#[]⟩] 43 43)
  go_enter Try.func114, Try.ntmps114
  go_wp2_with fail
  generalize ((w.alloc (.cells #[.int .i64 p, .int .i64 t, .string v] 43)).alloc (.cells #[.int .i64 0, .int .i64 0, .string ⟨#[]⟩] 43)) = w0 at F0 ⊢
  obtain ⟨K0, K1, B0⟩ := F0.out
  have HK0 := hide1 K0
  have HK1 := hide1 K1
  have HB0 := hide1 B0
  have hs0 : w.heap.size + 1 < w0.heap.size := K1.lt
  have a0 : w0.cell? ⟨w.heap.size, 0, none⟩ = some (.int .i64 p) := K0.cell 0
  have a1 : w0.cell? ⟨w.heap.size, 1, none⟩ = some (.int .i64 t) := K0.cell 1
  have a2 : w0.cell? ⟨w.heap.size, 2, none⟩ = some (.string v) := K0.cell 2
  have z0 : w0.cell? ⟨w.heap.size + 1, 0, none⟩ = some (.int .i64 0) := K1.cell 0
  have z1 : w0.cell? ⟨w.heap.size + 1, 1, none⟩ = some (.int .i64 0) := K1.cell 1
  have z2 : w0.cell? ⟨w.heap.size + 1, 2, none⟩ = some (.string ⟨#[]⟩) := K1.cell 2
  have zf : ∀ j, w0.frozen? ⟨w.heap.size + 1, j, none⟩ = false := fun j => K1.froz j
  clear F0 K0 K1 B0
  have k01 : ∀ (u : World) (i j : Nat) (y : Value), (u.setCell ⟨w.heap.size + 1, i, none⟩ y).cell? ⟨w.heap.size, j, none⟩ = u.cell? ⟨w.heap.size, j, none⟩ := fun u i j y => World.cell?_setCell_far _ _ _ _ (by dsimp only; omega)
  go_region_held3 (fun w' => w'.cell? ⟨w.heap.size, 0, none⟩ = some (.int .i64 p) ∧ w'.cell? ⟨w.heap.size, 1, none⟩ = some (.int .i64 t) ∧ w'.cell? ⟨w.heap.size, 2, none⟩ = some (.string v)) (first | go_keep | simp only [World.cell?_drew, k01, a0, a1, a2, and_self]) ((go_at_call 98; refine (newB_any _ _).mono ?_; rintro e w1 ⟨rfl, hb1⟩; have b1 : Hid (Below w0.heap.size w0 w1) := (show Below w0.heap.size w0 _ by go_grown).trans (hb1.mono (by go_size)); clear hb1 zf a0 a1 a2 z0 z1 z2; have a0 : w1.cell? ⟨w.heap.size, 0, none⟩ = some (.int .i64 p) := (HK0.out.below b1.out HK0.out.lt).cell 0; have a1 : w1.cell? ⟨w.heap.size, 1, none⟩ = some (.int .i64 t) := (HK0.out.below b1.out HK0.out.lt).cell 1; have a2 : w1.cell? ⟨w.heap.size, 2, none⟩ = some (.string v) := (HK0.out.below b1.out HK0.out.lt).cell 2; have z0 : w1.cell? ⟨w.heap.size + 1, 0, none⟩ = some (.int .i64 0) := (HK1.out.below b1.out HK1.out.lt).cell 0; have z1 : w1.cell? ⟨w.heap.size + 1, 1, none⟩ = some (.int .i64 0) := (HK1.out.below b1.out HK1.out.lt).cell 1; have z2 : w1.cell? ⟨w.heap.size + 1, 2, none⟩ = some (.string ⟨#[]⟩) := (HK1.out.below b1.out HK1.out.lt).cell 2; have zf : ∀ j, w1.frozen? ⟨w.heap.size + 1, j, none⟩ = false := fun j => (HK1.out.below b1.out HK1.out.lt).froz j; have hs1 : w.heap.size + 1 < w1.heap.size := Nat.lt_of_lt_of_le hs0 b1.out.size))
  go_wp2
  have NB : Blk (((w1.setCell ⟨w.heap.size + 1, 0, none⟩ (.int .i64 p)).setCell ⟨w.heap.size + 1, 1, none⟩ (.int .i64 t)).setCell ⟨w.heap.size + 1, 2, none⟩ (.string v)) (w.heap.size + 1) 43 [.int .i64 p, .int .i64 t, .string v] := (Blk.set (Blk.set (Blk.set (HK1.out.below b1.out HK1.out.lt) 0 (.int .i64 p)) 1 (.int .i64 t)) 2 (.string v))
  have BF : Below w.heap.size w (((w1.setCell ⟨w.heap.size + 1, 0, none⟩ (.int .i64 p)).setCell ⟨w.heap.size + 1, 1, none⟩ (.int .i64 t)).setCell ⟨w.heap.size + 1, 2, none⟩ (.string v)) := ((((HB0.out.trans (b1.out.mono HB0.out.size)).setCell (p := ⟨w.heap.size + 1, 0, none⟩) (by dsimp only; omega) _).setCell (p := ⟨w.heap.size + 1, 1, none⟩) (by dsimp only; omega) _).setCell (p := ⟨w.heap.size + 1, 2, none⟩) (by dsimp only; omega) _)
  generalize (((w1.setCell ⟨w.heap.size + 1, 0, none⟩ (.int .i64 p)).setCell ⟨w.heap.size + 1, 1, none⟩ (.int .i64 t)).setCell ⟨w.heap.size + 1, 2, none⟩ (.string v)) = w9 at NB BF ⊢
  refine bodyPost_ret (results_cell_row Try.results114 _ _ (w.heap.size + 1) 43 #[.int .i64 p, .int .i64 t, .string v] (0, 0) _ rfl NB Try.underlying43 rfl (by kernel_rfl)) rfl ?_
  first | exact ⟨rfl, BF⟩ | exact ⟨rfl, BF.drew⟩

set_option maxRecDepth 100000 in
set_option maxHeartbeats 2000000 in
theorem note2_any (b t f o : Int) (v : ByteArray) (w : World) : Calls Try.prog 139 #[.agg #[.int .i64 b, .int .i64 t, .string v], .int .i64 f, .int .i64 o] w fun e w' => e = .returned (.agg #[.int .i64 2, .int .i64 f, .int .i64 o, .int .i64 b, .int .i64 t, .string v]) ∧ Below w.heap.size w w' := by
  have F0 := hide1 (blkN2 w #[.int .i64 b, .int .i64 t, .string v] #[.int .i64 0, .int .i64 0, .int .i64 0, .int .i64 0, .int .i64 0, .string ⟨#[]⟩] 162 111)
  go_enter Try.func139, Try.ntmps139
  go_wp2_with fail
  generalize ((w.alloc (.cells #[.int .i64 b, .int .i64 t, .string v] 162)).alloc (.cells #[.int .i64 0, .int .i64 0, .int .i64 0, .int .i64 0, .int .i64 0, .string ⟨#[]⟩] 111)) = w0 at F0 ⊢
  obtain ⟨K0, K1, B0⟩ := F0.out
  have HK0 := hide1 K0
  have HK1 := hide1 K1
  have HB0 := hide1 B0
  have hs0 : w.heap.size + 1 < w0.heap.size := K1.lt
  have a0 : w0.cell? ⟨w.heap.size, 0, none⟩ = some (.int .i64 b) := K0.cell 0
  have a1 : w0.cell? ⟨w.heap.size, 1, none⟩ = some (.int .i64 t) := K0.cell 1
  have a2 : w0.cell? ⟨w.heap.size, 2, none⟩ = some (.string v) := K0.cell 2
  have z0 : w0.cell? ⟨w.heap.size + 1, 0, none⟩ = some (.int .i64 0) := K1.cell 0
  have z1 : w0.cell? ⟨w.heap.size + 1, 1, none⟩ = some (.int .i64 0) := K1.cell 1
  have z2 : w0.cell? ⟨w.heap.size + 1, 2, none⟩ = some (.int .i64 0) := K1.cell 2
  have z3 : w0.cell? ⟨w.heap.size + 1, 3, none⟩ = some (.int .i64 0) := K1.cell 3
  have z4 : w0.cell? ⟨w.heap.size + 1, 4, none⟩ = some (.int .i64 0) := K1.cell 4
  have z5 : w0.cell? ⟨w.heap.size + 1, 5, none⟩ = some (.string ⟨#[]⟩) := K1.cell 5
  have zf : ∀ j, w0.frozen? ⟨w.heap.size + 1, j, none⟩ = false := fun j => K1.froz j
  clear F0 K0 K1 B0
  have k01 : ∀ (u : World) (i j : Nat) (y : Value), (u.setCell ⟨w.heap.size + 1, i, none⟩ y).cell? ⟨w.heap.size, j, none⟩ = u.cell? ⟨w.heap.size, j, none⟩ := fun u i j y => World.cell?_setCell_far _ _ _ _ (by dsimp only; omega)
  go_region_held3 (fun w' => w'.cell? ⟨w.heap.size, 0, none⟩ = some (.int .i64 b) ∧ w'.cell? ⟨w.heap.size, 1, none⟩ = some (.int .i64 t) ∧ w'.cell? ⟨w.heap.size, 2, none⟩ = some (.string v)) (first | go_keep | simp only [World.cell?_drew, k01, a0, a1, a2, and_self]) ((go_at_call 98; refine (newB_any _ _).mono ?_; rintro e w1 ⟨rfl, hb1⟩; have b1 : Hid (Below w0.heap.size w0 w1) := (show Below w0.heap.size w0 _ by go_grown).trans (hb1.mono (by go_size)); clear hb1 zf a0 a1 a2 z0 z1 z2 z3 z4 z5; have a0 : w1.cell? ⟨w.heap.size, 0, none⟩ = some (.int .i64 b) := (HK0.out.below b1.out HK0.out.lt).cell 0; have a1 : w1.cell? ⟨w.heap.size, 1, none⟩ = some (.int .i64 t) := (HK0.out.below b1.out HK0.out.lt).cell 1; have a2 : w1.cell? ⟨w.heap.size, 2, none⟩ = some (.string v) := (HK0.out.below b1.out HK0.out.lt).cell 2; have z0 : w1.cell? ⟨w.heap.size + 1, 0, none⟩ = some (.int .i64 0) := (HK1.out.below b1.out HK1.out.lt).cell 0; have z1 : w1.cell? ⟨w.heap.size + 1, 1, none⟩ = some (.int .i64 0) := (HK1.out.below b1.out HK1.out.lt).cell 1; have z2 : w1.cell? ⟨w.heap.size + 1, 2, none⟩ = some (.int .i64 0) := (HK1.out.below b1.out HK1.out.lt).cell 2; have z3 : w1.cell? ⟨w.heap.size + 1, 3, none⟩ = some (.int .i64 0) := (HK1.out.below b1.out HK1.out.lt).cell 3; have z4 : w1.cell? ⟨w.heap.size + 1, 4, none⟩ = some (.int .i64 0) := (HK1.out.below b1.out HK1.out.lt).cell 4; have z5 : w1.cell? ⟨w.heap.size + 1, 5, none⟩ = some (.string ⟨#[]⟩) := (HK1.out.below b1.out HK1.out.lt).cell 5; have zf : ∀ j, w1.frozen? ⟨w.heap.size + 1, j, none⟩ = false := fun j => (HK1.out.below b1.out HK1.out.lt).froz j; have hs1 : w.heap.size + 1 < w1.heap.size := Nat.lt_of_lt_of_le hs0 b1.out.size))
  go_wp2
  have NB : Blk ((((((w1.setCell ⟨w.heap.size + 1, 0, none⟩ (.int .i64 2)).setCell ⟨w.heap.size + 1, 1, none⟩ (.int .i64 f)).setCell ⟨w.heap.size + 1, 2, none⟩ (.int .i64 o)).setCell ⟨w.heap.size + 1, 3, none⟩ (.int .i64 b)).setCell ⟨w.heap.size + 1, 4, none⟩ (.int .i64 t)).setCell ⟨w.heap.size + 1, 5, none⟩ (.string v)) (w.heap.size + 1) 111 [.int .i64 2, .int .i64 f, .int .i64 o, .int .i64 b, .int .i64 t, .string v] := (Blk.set (Blk.set (Blk.set (Blk.set (Blk.set (Blk.set (HK1.out.below b1.out HK1.out.lt) 0 (.int .i64 2)) 1 (.int .i64 f)) 2 (.int .i64 o)) 3 (.int .i64 b)) 4 (.int .i64 t)) 5 (.string v))
  have BF : Below w.heap.size w ((((((w1.setCell ⟨w.heap.size + 1, 0, none⟩ (.int .i64 2)).setCell ⟨w.heap.size + 1, 1, none⟩ (.int .i64 f)).setCell ⟨w.heap.size + 1, 2, none⟩ (.int .i64 o)).setCell ⟨w.heap.size + 1, 3, none⟩ (.int .i64 b)).setCell ⟨w.heap.size + 1, 4, none⟩ (.int .i64 t)).setCell ⟨w.heap.size + 1, 5, none⟩ (.string v)) := (((((((HB0.out.trans (b1.out.mono HB0.out.size)).setCell (p := ⟨w.heap.size + 1, 0, none⟩) (by dsimp only; omega) _).setCell (p := ⟨w.heap.size + 1, 1, none⟩) (by dsimp only; omega) _).setCell (p := ⟨w.heap.size + 1, 2, none⟩) (by dsimp only; omega) _).setCell (p := ⟨w.heap.size + 1, 3, none⟩) (by dsimp only; omega) _).setCell (p := ⟨w.heap.size + 1, 4, none⟩) (by dsimp only; omega) _).setCell (p := ⟨w.heap.size + 1, 5, none⟩) (by dsimp only; omega) _)
  generalize ((((((w1.setCell ⟨w.heap.size + 1, 0, none⟩ (.int .i64 2)).setCell ⟨w.heap.size + 1, 1, none⟩ (.int .i64 f)).setCell ⟨w.heap.size + 1, 2, none⟩ (.int .i64 o)).setCell ⟨w.heap.size + 1, 3, none⟩ (.int .i64 b)).setCell ⟨w.heap.size + 1, 4, none⟩ (.int .i64 t)).setCell ⟨w.heap.size + 1, 5, none⟩ (.string v)) = w9 at NB BF ⊢
  refine bodyPost_ret (results_cell_row Try.results139 _ _ (w.heap.size + 1) 111 #[.int .i64 2, .int .i64 f, .int .i64 o, .int .i64 b, .int .i64 t, .string v] (0, 0) _ rfl NB Try.underlying111 rfl (by kernel_rfl)) rfl ?_
  first | exact ⟨rfl, BF⟩ | exact ⟨rfl, BF.drew⟩

set_option maxRecDepth 100000 in
set_option maxHeartbeats 2000000 in
theorem note4_any (b f o : Int) (v : ByteArray) (w : World) : Calls Try.prog 140 #[.agg #[.int .i64 b, .string v], .int .i64 f, .int .i64 o] w fun e w' => e = .returned (.agg #[.int .i64 4, .int .i64 f, .int .i64 o, .int .i64 b, .int .i64 0, .string v]) ∧ Below w.heap.size w w' := by
  have F0 := hide1 (blkN2 w #[.int .i64 b, .string v] #[.int .i64 0, .int .i64 0, .int .i64 0, .int .i64 0, .int .i64 0, .string ⟨#[]⟩] 163 111)
  go_enter Try.func140, Try.ntmps140
  go_wp2_with fail
  generalize ((w.alloc (.cells #[.int .i64 b, .string v] 163)).alloc (.cells #[.int .i64 0, .int .i64 0, .int .i64 0, .int .i64 0, .int .i64 0, .string ⟨#[]⟩] 111)) = w0 at F0 ⊢
  obtain ⟨K0, K1, B0⟩ := F0.out
  have HK0 := hide1 K0
  have HK1 := hide1 K1
  have HB0 := hide1 B0
  have hs0 : w.heap.size + 1 < w0.heap.size := K1.lt
  have a0 : w0.cell? ⟨w.heap.size, 0, none⟩ = some (.int .i64 b) := K0.cell 0
  have a1 : w0.cell? ⟨w.heap.size, 1, none⟩ = some (.string v) := K0.cell 1
  have z0 : w0.cell? ⟨w.heap.size + 1, 0, none⟩ = some (.int .i64 0) := K1.cell 0
  have z1 : w0.cell? ⟨w.heap.size + 1, 1, none⟩ = some (.int .i64 0) := K1.cell 1
  have z2 : w0.cell? ⟨w.heap.size + 1, 2, none⟩ = some (.int .i64 0) := K1.cell 2
  have z3 : w0.cell? ⟨w.heap.size + 1, 3, none⟩ = some (.int .i64 0) := K1.cell 3
  have z4 : w0.cell? ⟨w.heap.size + 1, 4, none⟩ = some (.int .i64 0) := K1.cell 4
  have z5 : w0.cell? ⟨w.heap.size + 1, 5, none⟩ = some (.string ⟨#[]⟩) := K1.cell 5
  have zf : ∀ j, w0.frozen? ⟨w.heap.size + 1, j, none⟩ = false := fun j => K1.froz j
  clear F0 K0 K1 B0
  have k01 : ∀ (u : World) (i j : Nat) (y : Value), (u.setCell ⟨w.heap.size + 1, i, none⟩ y).cell? ⟨w.heap.size, j, none⟩ = u.cell? ⟨w.heap.size, j, none⟩ := fun u i j y => World.cell?_setCell_far _ _ _ _ (by dsimp only; omega)
  go_region_held3 (fun w' => w'.cell? ⟨w.heap.size, 0, none⟩ = some (.int .i64 b) ∧ w'.cell? ⟨w.heap.size, 1, none⟩ = some (.string v)) (first | go_keep | simp only [World.cell?_drew, k01, a0, a1, and_self]) ((go_at_call 98; refine (newB_any _ _).mono ?_; rintro e w1 ⟨rfl, hb1⟩; have b1 : Hid (Below w0.heap.size w0 w1) := (show Below w0.heap.size w0 _ by go_grown).trans (hb1.mono (by go_size)); clear hb1 zf a0 a1 z0 z1 z2 z3 z4 z5; have a0 : w1.cell? ⟨w.heap.size, 0, none⟩ = some (.int .i64 b) := (HK0.out.below b1.out HK0.out.lt).cell 0; have a1 : w1.cell? ⟨w.heap.size, 1, none⟩ = some (.string v) := (HK0.out.below b1.out HK0.out.lt).cell 1; have z0 : w1.cell? ⟨w.heap.size + 1, 0, none⟩ = some (.int .i64 0) := (HK1.out.below b1.out HK1.out.lt).cell 0; have z1 : w1.cell? ⟨w.heap.size + 1, 1, none⟩ = some (.int .i64 0) := (HK1.out.below b1.out HK1.out.lt).cell 1; have z2 : w1.cell? ⟨w.heap.size + 1, 2, none⟩ = some (.int .i64 0) := (HK1.out.below b1.out HK1.out.lt).cell 2; have z3 : w1.cell? ⟨w.heap.size + 1, 3, none⟩ = some (.int .i64 0) := (HK1.out.below b1.out HK1.out.lt).cell 3; have z4 : w1.cell? ⟨w.heap.size + 1, 4, none⟩ = some (.int .i64 0) := (HK1.out.below b1.out HK1.out.lt).cell 4; have z5 : w1.cell? ⟨w.heap.size + 1, 5, none⟩ = some (.string ⟨#[]⟩) := (HK1.out.below b1.out HK1.out.lt).cell 5; have zf : ∀ j, w1.frozen? ⟨w.heap.size + 1, j, none⟩ = false := fun j => (HK1.out.below b1.out HK1.out.lt).froz j; have hs1 : w.heap.size + 1 < w1.heap.size := Nat.lt_of_lt_of_le hs0 b1.out.size))
  go_wp2
  have NB : Blk ((((((w1.setCell ⟨w.heap.size + 1, 0, none⟩ (.int .i64 4)).setCell ⟨w.heap.size + 1, 1, none⟩ (.int .i64 f)).setCell ⟨w.heap.size + 1, 2, none⟩ (.int .i64 o)).setCell ⟨w.heap.size + 1, 3, none⟩ (.int .i64 b)).setCell ⟨w.heap.size + 1, 4, none⟩ (.int .i64 0)).setCell ⟨w.heap.size + 1, 5, none⟩ (.string v)) (w.heap.size + 1) 111 [.int .i64 4, .int .i64 f, .int .i64 o, .int .i64 b, .int .i64 0, .string v] := (Blk.set (Blk.set (Blk.set (Blk.set (Blk.set (Blk.set (HK1.out.below b1.out HK1.out.lt) 0 (.int .i64 4)) 1 (.int .i64 f)) 2 (.int .i64 o)) 3 (.int .i64 b)) 4 (.int .i64 0)) 5 (.string v))
  have BF : Below w.heap.size w ((((((w1.setCell ⟨w.heap.size + 1, 0, none⟩ (.int .i64 4)).setCell ⟨w.heap.size + 1, 1, none⟩ (.int .i64 f)).setCell ⟨w.heap.size + 1, 2, none⟩ (.int .i64 o)).setCell ⟨w.heap.size + 1, 3, none⟩ (.int .i64 b)).setCell ⟨w.heap.size + 1, 4, none⟩ (.int .i64 0)).setCell ⟨w.heap.size + 1, 5, none⟩ (.string v)) := (((((((HB0.out.trans (b1.out.mono HB0.out.size)).setCell (p := ⟨w.heap.size + 1, 0, none⟩) (by dsimp only; omega) _).setCell (p := ⟨w.heap.size + 1, 1, none⟩) (by dsimp only; omega) _).setCell (p := ⟨w.heap.size + 1, 2, none⟩) (by dsimp only; omega) _).setCell (p := ⟨w.heap.size + 1, 3, none⟩) (by dsimp only; omega) _).setCell (p := ⟨w.heap.size + 1, 4, none⟩) (by dsimp only; omega) _).setCell (p := ⟨w.heap.size + 1, 5, none⟩) (by dsimp only; omega) _)
  generalize ((((((w1.setCell ⟨w.heap.size + 1, 0, none⟩ (.int .i64 4)).setCell ⟨w.heap.size + 1, 1, none⟩ (.int .i64 f)).setCell ⟨w.heap.size + 1, 2, none⟩ (.int .i64 o)).setCell ⟨w.heap.size + 1, 3, none⟩ (.int .i64 b)).setCell ⟨w.heap.size + 1, 4, none⟩ (.int .i64 0)).setCell ⟨w.heap.size + 1, 5, none⟩ (.string v)) = w9 at NB BF ⊢
  refine bodyPost_ret (results_cell_row Try.results140 _ _ (w.heap.size + 1) 111 #[.int .i64 4, .int .i64 f, .int .i64 o, .int .i64 b, .int .i64 0, .string v] (0, 0) _ rfl NB Try.underlying111 rfl (by kernel_rfl)) rfl ?_
  first | exact ⟨rfl, BF⟩ | exact ⟨rfl, BF.drew⟩

end Go.Proofs.Ytgehdgmllilmgaa
