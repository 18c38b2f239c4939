/- The statements' functions on voices and notes. -/
import Derived.Test.YtmejdblobikclaaBaS
namespace Go.Proofs.Ytmejdblobikclaa
open Go.RowKit
set_option linter.unusedVariables false

theorem tx_eq (s : ByteArray) : (s.toList != s.toList) = false ∧ (s.toList == s.toList) = true := by simp

set_option maxRecDepth 100000 in
theorem toVoice_any (x : Vo) (w : World) : Calls Try.prog 88 #[voV x] w fun e w' => e = .returned (voV x) ∧ Below w.heap.size w w' := by
  unfold voV
  go_enter Try.func88, Try.ntmps88
  go_wp2
  go_returns
  exact ⟨rfl, by go_grown⟩

set_option maxRecDepth 100000 in
theorem toNote_any (m : Nt) (w : World) : Calls Try.prog 90 #[ntV m] w fun e w' => e = .returned (ntV m) ∧ Below w.heap.size w w' := by
  unfold ntV
  go_enter Try.func90, Try.ntmps90
  go_wp2
  go_returns
  exact ⟨rfl, by go_grown⟩

set_option maxRecDepth 100000 in
theorem eqVoice_same (x : Vo) (w : World) : Calls Try.prog 82 #[voV x, voV x] w fun e w' => e = .returned (.bool true) ∧ Below w.heap.size w w' := by
  obtain ⟨p, t, v⟩ := x
  unfold voV
  dsimp only
  have q1 : (p != p) = false := by simp
  have q2 : (t != t) = false := by simp
  obtain ⟨q3, q4⟩ := tx_eq v
  go_enter Try.func82, Try.ntmps82
  go_wp2
  go_ret
  exact ⟨rfl, by go_grown⟩

set_option maxRecDepth 100000 in
theorem eqNote_same (m : Nt) (w : World) : Calls Try.prog 84 #[ntV m, ntV m] w fun e w' => e = .returned (.bool true) ∧ Below w.heap.size w w' := by
  obtain ⟨k, f, o, b, u, z⟩ := m
  unfold ntV
  dsimp only
  have q1 : (k != k) = false := by simp
  have q2 : (f != f) = false := by simp
  have q3 : (o != o) = false := by simp
  have q4 : (b != b) = false := by simp
  have q5 : (u != u) = false := by simp
  obtain ⟨q6, q7⟩ := tx_eq z
  go_enter Try.func84, Try.ntmps84
  go_wp2
  go_ret
  exact ⟨rfl, by go_grown⟩

set_option maxRecDepth 100000 in
theorem szVoice_any (x : Vo) (left : Nat) (w : World) (hk : x.v.size ≤ 9223372036854775807) (hl : left ≤ 1048576) :
    Calls Try.prog 85 #[voV x, .int .i64 (left : Int)] w fun e w' => (e = .returned (.int .i64 (-1)) ∨ ∃ r : Nat, e = .returned (.int .i64 (r : Int)) ∧ r + x.v.size = left) ∧ Below w.heap.size w w' := by
  unfold voV
  by_cases c1 : x.v.size ≤ left
  · have q1 : decide ((left : Int) - (x.v.size : Int) < 0) = false := by simp; omega
    go_enter Try.func85, Try.ntmps85
    go_wp2
    go_ret
    exact ⟨.inr ⟨left - x.v.size, by show Ending.returned (.int .i64 ((left : Int) - (x.v.size : Int))) = _; rw [show ((left - x.v.size : Nat) : Int) = (left : Int) - (x.v.size : Int) by omega], by omega⟩, by go_grown⟩
  · have q1 : decide ((left : Int) - (x.v.size : Int) < 0) = true := by simp; omega
    go_enter Try.func85, Try.ntmps85
    go_wp2
    go_ret
    exact ⟨.inl rfl, by go_grown⟩

set_option maxRecDepth 100000 in
theorem szNote_any (m : Nt) (left : Nat) (w : World) (hk : m.v.size ≤ 9223372036854775807) (hl : left ≤ 1048576) :
    Calls Try.prog 87 #[ntV m, .int .i64 (left : Int)] w fun e w' => (e = .returned (.int .i64 (-1)) ∨ ∃ r : Nat, e = .returned (.int .i64 (r : Int)) ∧ r + m.v.size = left) ∧ Below w.heap.size w w' := by
  unfold ntV
  by_cases c1 : m.v.size ≤ left
  · have q1 : decide ((left : Int) - (m.v.size : Int) < 0) = false := by simp; omega
    go_enter Try.func87, Try.ntmps87
    go_wp2
    go_ret
    exact ⟨.inr ⟨left - m.v.size, by show Ending.returned (.int .i64 ((left : Int) - (m.v.size : Int))) = _; rw [show ((left - m.v.size : Nat) : Int) = (left : Int) - (m.v.size : Int) by omega], by omega⟩, by go_grown⟩
  · have q1 : decide ((left : Int) - (m.v.size : Int) < 0) = true := by simp; omega
    go_enter Try.func87, Try.ntmps87
    go_wp2
    go_ret
    exact ⟨.inl rfl, by go_grown⟩

/-- The cells of a note, and of a row of them. -/
def ntC (m : Nt) : List Value := [.int .i64 m.k, .int .i64 m.f, .int .i64 m.o, .int .i64 m.b, .int .i64 m.t, .string m.v]
/-- A note in a row that came in, or is the call's own: six cells from a place on. -/
def noteAt (w : World) (b o i : Nat) (m : Nt) : Prop := w.cell? ⟨b, o + i * 6, none⟩ = some (.int .i64 m.k) ∧ w.cell? ⟨b, o + i * 6 + 1, none⟩ = some (.int .i64 m.f) ∧ w.cell? ⟨b, o + i * 6 + 2, none⟩ = some (.int .i64 m.o) ∧ w.cell? ⟨b, o + i * 6 + 3, none⟩ = some (.int .i64 m.b) ∧ w.cell? ⟨b, o + i * 6 + 4, none⟩ = some (.int .i64 m.t) ∧ w.cell? ⟨b, o + i * 6 + 5, none⟩ = some (.string m.v)
def RdN6 (w : World) (a : Option Addr) (l : List Nt) : Prop := ∀ i (h : i < l.length), ∃ b o, a = some ⟨b, o, none⟩ ∧ b < w.heap.size ∧ noteAt w b o i l[i]
theorem noteAt.below {w w' : World} {B b o i : Nat} {m : Nt} (h : noteAt w b o i m) (hb : Below B w w') (hg : b < B) : noteAt w' b o i m :=
  ⟨(hb.cell hg).trans h.1, (hb.cell hg).trans h.2.1, (hb.cell hg).trans h.2.2.1, (hb.cell hg).trans h.2.2.2.1, (hb.cell hg).trans h.2.2.2.2.1, (hb.cell hg).trans h.2.2.2.2.2⟩
theorem RdN6.later {w w' : World} {a : Option Addr} {l : List Nt} (h : RdN6 w a l) (hb : Below w.heap.size w w') : RdN6 w' a l := by
  intro i hi
  obtain ⟨b, o, ha, hg, hc⟩ := h i hi
  exact ⟨b, o, ha, Nat.lt_of_lt_of_le hg hb.size, hc.below hb hg⟩

set_option maxRecDepth 100000 in
set_option maxHeartbeats 1000000 in
theorem specPick_any (ao : Option Addr) (l : List Nt) (ca : Nat) (own : ByteArray) (w : World) (hl : l.length ≤ 1048576) (hA : RdN6 w ao l) :
    Calls Try.prog 110 #[.slice ao l.length ca, .string own] w fun e w' => e = .returned (.string (pickS l own).2) ∧ Below w.heap.size w w' := by
  have HA := hide1 hA
  clear hA
  go_enter Try.func110, Try.ntmps110
  go_wp2
  go_loopw [5, 6, 7] (fun mv vv iv wr => ∃ i : Nat, i ≤ l.length ∧ iv = .int .i64 (i : Int) ∧ ∃ a : Int × ByteArray, mv = .int .i64 a.1 ∧ vv = .string a.2 ∧ Hid (pickS (l.take i) own = a) ∧ Below w.heap.size w wr) (fun _ _ iv _ => l.length - (intOf iv).toNat)
  case atStart => exact ⟨0, by omega, rfl, (0, own), rfl, rfl, rfl, Below.refl _ _⟩
  case round =>
    obtain ⟨i, hi, rfl, a, rfl, rfl, ha, hbel⟩ := hrel
    by_cases hlt : i < l.length
    · have k1 : (i : Int) < (l.length : Int) := by omega
      obtain ⟨b, o, rfl, hb, h1⟩ := HA.out i hlt
      obtain ⟨x0, x1, x2, x3, x4, x5⟩ := h1.below hbel hb
      have HN := hide1 (show pickS (l.take (i + 1)) own = pickN a l[i] by rw [pickS_next hlt, ha.out])
      clear h1 ha
      generalize l[i] = m at *
      obtain ⟨k, f, o', b', u, z⟩ := m
      obtain ⟨am, av⟩ := a
      dsimp only at x0 x1 x2 x3 x4 x5 ⊢
      by_cases c1 : k = 2
      · subst c1
        by_cases c2 : am < u
        · have HP := hide1 (show pickS (l.take (i + 1)) own = (u, z) by rw [HN.out]; unfold pickN; exact if_pos ⟨rfl, c2⟩)
          clear HN
          go_wp2
          go_roundw
          case rel => exact ⟨i + 1, by omega, by go_num, (u, z), rfl, rfl, HP, by first | exact hbel | exact hbel.drew | exact below_drewN hbel _⟩
          case measure => simp [intOf]; omega
        · have HP := hide1 (show pickS (l.take (i + 1)) own = (am, av) by rw [HN.out]; unfold pickN; exact if_neg (fun h => c2 h.2))
          clear HN
          go_wp2
          go_roundw
          case rel => exact ⟨i + 1, by omega, by go_num, (am, av), rfl, rfl, HP, by first | exact hbel | exact hbel.drew | exact below_drewN hbel _⟩
          case measure => simp [intOf]; omega
      · have q1 : (k == 2) = false := by rw [beq_eq_false_iff_ne]; exact c1
        have HP := hide1 (show pickS (l.take (i + 1)) own = (am, av) by rw [HN.out]; unfold pickN; exact if_neg (fun h => c1 h.1))
        clear HN
        go_wp2
        go_roundw
        case rel => exact ⟨i + 1, by omega, by go_num, (am, av), rfl, rfl, HP, by first | exact hbel | exact hbel.drew | exact below_drewN hbel _⟩
        case measure => simp [intOf]; omega
    · obtain rfl : i = l.length := by omega
      have HP := hide1 (show pickS l own = a by have := ha.out; rwa [List.take_length] at this)
      go_wp2
      go_ret
      exact ⟨by rw [HP.out]; rfl, hbel⟩
end Go.Proofs.Ytmejdblobikclaa
