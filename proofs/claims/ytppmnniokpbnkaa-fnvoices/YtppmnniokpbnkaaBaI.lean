/- Ballots, by the program: notes as what they say, voices that answer. -/
import Derived.Test.YtppmnniokpbnkaaBaV
namespace Go.Proofs.Ytppmnniokpbnkaa
open Go.RowKit
set_option linter.unusedVariables false

theorem conv_newB {P : Program} (w : World) (src dst e : TypeId) (s : ByteArray) (hs : P.underlying src = some .string) (hd : P.underlying dst = some (.slice e)) (he : P.underlying e = some (.int .u8)) :
    ∃ v w1, (convert src dst (.string s)).run P w = .ok v w1 ∧ (convert dst src v).run P w1 = .ok (.string s) w1 ∧ Below w.heap.size w w1 := by
  refine ⟨_, _, run_bytes_of_string w src dst e s hs hd he, ?_, (Below.refl _ _).drew.alloc (Nat.le_refl _) _⟩
  have hl : s.size = s.data.toList.length := by simp
  rw [hl, run_convert_bytes_back _ dst src e ⟨w.heap.size, 0, none⟩ _ s.data.toList hd he hs]
  intro j hj
  have hj' : j < s.data.size := by simpa using hj
  rw [Addr.add_lit, Nat.zero_add]
  have := World.cell?_alloc_mark w.drew (bytesRow s (grownCap w s.size 0 e)) e ((bytesRow s (grownCap w s.size 0 e)).size, (bytesRow s (grownCap w s.size 0 e)).size + 1) j
  rw [bytesRow_at s _ j hj'] at this
  rw [← hl]
  simpa using this

theorem newB_any (s : ByteArray) (w : World) : Calls Try.prog 41 #[.string s] w fun e w' => e = .returned (.string s) ∧ Below w.heap.size w w' := by
  obtain ⟨v, w1, r1, r2, hb⟩ := conv_newB (P := Try.prog) w 9 22 5 s Try.underlying9 Try.underlying22 Try.underlying5
  go_enter Try.func41, Try.ntmps41
  go_wp2
  go_ret
  exact ⟨rfl, hb⟩

set_option maxRecDepth 100000 in
theorem implMost_any (n : Int) (w : World) (h1 : -9223372036854775808 ≤ n) (h2 : n ≤ 9223372036854775807) :
    Calls Try.prog 18 #[.int .i64 n] w fun e w' => e = .returned (.int .i64 (mostI n)) ∧ Below w.heap.size w w' := by
  unfold mostI
  by_cases c : n < 0
  · rw [if_pos c]
    go_enter Try.func18, Try.ntmps18
    go_wp2
    go_ret
    exact ⟨rfl, Below.refl _ _⟩
  · rw [if_neg c]
    have q1 : n.tdiv 2 = n / 2 := Int.tdiv_eq_ediv_of_nonneg (by omega)
    have q2 : IntKind.i64.wrap (n / 2) = n / 2 := IntWalk.i64_in _ ⟨by omega, by omega⟩
    have q3 : IntKind.i64.wrap (n / 2 + 1) = n / 2 + 1 := IntWalk.i64_in _ ⟨by omega, by omega⟩
    go_enter Try.func18, Try.ntmps18
    go_wp2
    go_ret
    first | exact ⟨rfl, Below.refl _ _⟩ | exact ⟨by rw [q3]; rfl, Below.refl _ _⟩

set_option maxRecDepth 100000 in
set_option maxHeartbeats 1000000 in
theorem implVoice_any (x : Vo) (w : World) (hx : x.v.size ≤ 1048576) :
    Calls Try.prog 14 #[voV x] w fun e w' => e = .returned (.bool (decide (okVo x))) ∧ Below w.heap.size w w' := by
  obtain ⟨p, t, v⟩ := x
  unfold voV
  dsimp only at hx ⊢
  by_cases c1 : t < 0
  · have HR := hide1 (decide_eq_false (show ¬ okVo ⟨p, t, v⟩ from fun h => by have := h.2.1.1; dsimp only at this; omega))
    go_enter Try.func14, Try.ntmps14
    go_wp2
    go_ret
    exact ⟨by rw [HR.out]; rfl, by go_grown⟩
  · by_cases c2 : p < t
    · have HR := hide1 (decide_eq_false (show ¬ okVo ⟨p, t, v⟩ from fun h => by have := h.2.1.2; dsimp only at this; omega))
      go_enter Try.func14, Try.ntmps14
      go_wp2
      go_ret
      exact ⟨by rw [HR.out]; rfl, by go_grown⟩
    · by_cases c3 : 10000 < p
      · have HR := hide1 (decide_eq_false (show ¬ okVo ⟨p, t, v⟩ from fun h => by have := h.1.2; dsimp only at this; omega))
        go_enter Try.func14, Try.ntmps14
        go_wp2
        go_ret
        exact ⟨by rw [HR.out]; rfl, by go_grown⟩
      · by_cases c4 : v.size ≤ 40
        · have q4 : (v.size : Int) ≤ 40 := by omega
          by_cases c5 : 0 < t
          · have HR := hide1 (decide_eq_true (show okVo ⟨p, t, v⟩ from ⟨⟨by dsimp only; omega, by dsimp only; omega⟩, ⟨by dsimp only; omega, by dsimp only; omega⟩, c4, .inl c5⟩))
            go_enter Try.func14, Try.ntmps14
            go_wp2
            go_ret
            exact ⟨by rw [HR.out]; rfl, by go_grown⟩
          · by_cases c6 : v.toList = []
            · have q5 : v.toList.isEmpty = true := by rw [c6]; rfl
              have HR := hide1 (decide_eq_true (show okVo ⟨p, t, v⟩ from ⟨⟨by dsimp only; omega, by dsimp only; omega⟩, ⟨by dsimp only; omega, by dsimp only; omega⟩, c4, .inr c6⟩))
              clear c6
              go_enter Try.func14, Try.ntmps14
              go_wp2
              go_ret
              exact ⟨by rw [HR.out]; rfl, by go_grown⟩
            · have q5 : v.toList.isEmpty = false := by cases e : v.toList with | nil => exact absurd e c6 | cons a b => rfl
              have HR := hide1 (decide_eq_false (show ¬ okVo ⟨p, t, v⟩ from fun h => by rcases h.2.2.2 with h | h; exact c5 h; exact c6 h))
              clear c6
              go_enter Try.func14, Try.ntmps14
              go_wp2
              go_ret
              exact ⟨by rw [HR.out]; rfl, by go_grown⟩
        · have q4 : ¬ (v.size : Int) ≤ 40 := by omega
          have HR := hide1 (decide_eq_false (show ¬ okVo ⟨p, t, v⟩ from fun h => c4 h.2.2.1))
          go_enter Try.func14, Try.ntmps14
          go_wp2
          go_ret
          exact ⟨by rw [HR.out]; rfl, by go_grown⟩

/-- What may be listened to. -/
def fitM (m : Nt) : Prop := (1 ≤ m.b ∧ m.b ≤ 10000) ∧ m.v.size ≤ 40
instance (m : Nt) : Decidable (fitM m) := by unfold fitM; infer_instance

set_option maxRecDepth 100000 in
theorem fitsB_any (m : Nt) (w : World) (hm : m.v.size ≤ 1048576) :
    Calls Try.prog 34 #[ntV m] w fun e w' => e = .returned (.bool (decide (fitM m))) ∧ Below w.heap.size w w' := by
  obtain ⟨k, f, o, b, u, z⟩ := m
  unfold ntV
  dsimp only at hm
  by_cases c1 : 1 ≤ b
  · by_cases c2 : b ≤ 10000
    · by_cases c3 : z.size ≤ 40
      · have q3 : (z.size : Int) ≤ 40 := by omega
        have HR := hide1 (decide_eq_true (show fitM ⟨k, f, o, b, u, z⟩ from ⟨⟨c1, c2⟩, c3⟩))
        go_enter Try.func34, Try.ntmps34
        go_wp2
        go_ret
        exact ⟨by rw [HR.out]; rfl, by go_grown⟩
      · have q3 : ¬ (z.size : Int) ≤ 40 := by omega
        have HR := hide1 (decide_eq_false (show ¬ fitM ⟨k, f, o, b, u, z⟩ from fun h => c3 h.2))
        go_enter Try.func34, Try.ntmps34
        go_wp2
        go_ret
        exact ⟨by rw [HR.out]; rfl, by go_grown⟩
    · have HR := hide1 (decide_eq_false (show ¬ fitM ⟨k, f, o, b, u, z⟩ from fun h => c2 h.1.2))
      go_enter Try.func34, Try.ntmps34
      go_wp2
      go_ret
      exact ⟨by rw [HR.out]; rfl, by go_grown⟩
  · have HR := hide1 (decide_eq_false (show ¬ fitM ⟨k, f, o, b, u, z⟩ from fun h => c1 h.1.1))
    go_enter Try.func34, Try.ntmps34
    go_wp2
    go_ret
    exact ⟨by rw [HR.out]; rfl, by go_grown⟩

/-- What a note says, as a value behind the interface. -/
def saV1 (b : Int) : Value := .iface 79 (.agg #[.int .i64 b])
def saV2 (b t : Int) (v : ByteArray) : Value := .iface 81 (.agg #[.int .i64 b, .int .i64 t, .string v])
def saV3 (b : Int) (v : ByteArray) : Value := .iface 83 (.agg #[.int .i64 b, .string v])
def saV4 (b : Int) (v : ByteArray) : Value := .iface 84 (.agg #[.int .i64 b, .string v])
def sayV (m : Nt) : Value := if m.k = 1 then saV1 m.b else if m.k = 2 then saV2 m.b m.t m.v else if m.k = 3 then saV3 m.b m.v else if m.k = 4 then saV4 m.b m.v else .nilIface

set_option maxRecDepth 100000 in
theorem sayingOf_any (m : Nt) (w : World) :
    Calls Try.prog 37 #[ntV m] w fun e w' => e = .returned (sayV m) ∧ Below w.heap.size w w' := by
  obtain ⟨k, f, o, b, u, z⟩ := m
  unfold ntV sayV
  dsimp only
  by_cases c1 : k = 1
  · subst c1
    go_enter Try.func37, Try.ntmps37
    go_wp2
    go_ret
    exact ⟨rfl, by go_grown⟩
  · by_cases c2 : k = 2
    · subst c2
      go_enter Try.func37, Try.ntmps37
      go_wp2
      go_ret
      exact ⟨rfl, by go_grown⟩
    · by_cases c3 : k = 3
      · subst c3
        go_enter Try.func37, Try.ntmps37
        go_wp2
        go_ret
        exact ⟨rfl, by go_grown⟩
      · by_cases c4 : k = 4
        · subst c4
          go_enter Try.func37, Try.ntmps37
          go_wp2
          go_ret
          exact ⟨rfl, by go_grown⟩
        · have q1 : (k == 1) = false := by rw [beq_eq_false_iff_ne]; exact c1
          have q2 : (k == 2) = false := by rw [beq_eq_false_iff_ne]; exact c2
          have q3 : (k == 3) = false := by rw [beq_eq_false_iff_ne]; exact c3
          have q4 : (k == 4) = false := by rw [beq_eq_false_iff_ne]; exact c4
          rw [if_neg c1, if_neg c2, if_neg c3, if_neg c4]
          clear c1 c2 c3 c4
          go_enter Try.func37, Try.ntmps37
          go_wp2
          go_ret
          exact ⟨rfl, by go_grown⟩
end Go.Proofs.Ytppmnniokpbnkaa
