/- The statements' functions on voices and notes. -/
import Derived.Test.YtgehdgmllilmgaaBaS
import Derived.Test.YtgehdgmllilmgaaYR
namespace Go.Proofs.Ytgehdgmllilmgaa
open Go.RowKit
set_option linter.unusedVariables false

theorem tx_eq (s : ByteArray) : (s.toList != s.toList) = false ∧ (s.toList == s.toList) = true := by simp

set_option maxRecDepth 100000 in
theorem toVoice_any (x : Vo) (w : World) : Calls Try.prog 88 #[voV x] w fun e w' => e = .returned (voV x) ∧ Below w.heap.size w w' := by
  unfold voV
  go_enter Try.func88, Try.ntmps88
  go_wp2
  go_returns
  exact ⟨rfl, by go_grown⟩

set_option maxRecDepth 100000 in
theorem toNote_any (m : Nt) (w : World) : Calls Try.prog 90 #[ntV m] w fun e w' => e = .returned (ntV m) ∧ Below w.heap.size w w' := by
  unfold ntV
  go_enter Try.func90, Try.ntmps90
  go_wp2
  go_returns
  exact ⟨rfl, by go_grown⟩

set_option maxRecDepth 100000 in
theorem eqVoice_same (x : Vo) (w : World) : Calls Try.prog 82 #[voV x, voV x] w fun e w' => e = .returned (.bool true) ∧ Below w.heap.size w w' := by
  obtain ⟨p, t, v⟩ := x
  unfold voV
  dsimp only
  have q1 : (p != p) = false := by simp
  have q2 : (t != t) = false := by simp
  obtain ⟨q3, q4⟩ := tx_eq v
  go_enter Try.func82, Try.ntmps82
  go_wp2
  go_ret
  exact ⟨rfl, by go_grown⟩

set_option maxRecDepth 100000 in
theorem eqNote_same (m : Nt) (w : World) : Calls Try.prog 84 #[ntV m, ntV m] w fun e w' => e = .returned (.bool true) ∧ Below w.heap.size w w' := by
  obtain ⟨k, f, o, b, u, z⟩ := m
  unfold ntV
  dsimp only
  have q1 : (k != k) = false := by simp
  have q2 : (f != f) = false := by simp
  have q3 : (o != o) = false := by simp
  have q4 : (b != b) = false := by simp
  have q5 : (u != u) = false := by simp
  obtain ⟨q6, q7⟩ := tx_eq z
  go_enter Try.func84, Try.ntmps84
  go_wp2
  go_ret
  exact ⟨rfl, by go_grown⟩

set_option maxRecDepth 100000 in
theorem szVoice_any (x : Vo) (left : Nat) (w : World) (hk : x.v.size ≤ 9223372036854775807) (hl : left ≤ 1048576) :
    Calls Try.prog 85 #[voV x, .int .i64 (left : Int)] w fun e w' => (e = .returned (.int .i64 (-1)) ∨ ∃ r : Nat, e = .returned (.int .i64 (r : Int)) ∧ r + x.v.size = left) ∧ Below w.heap.size w w' := by
  unfold voV
  by_cases c1 : x.v.size ≤ left
  · have q1 : decide ((left : Int) - (x.v.size : Int) < 0) = false := by simp; omega
    go_enter Try.func85, Try.ntmps85
    go_wp2
    go_ret
    exact ⟨.inr ⟨left - x.v.size, by show Ending.returned (.int .i64 ((left : Int) - (x.v.size : Int))) = _; rw [show ((left - x.v.size : Nat) : Int) = (left : Int) - (x.v.size : Int) by omega], by omega⟩, by go_grown⟩
  · have q1 : decide ((left : Int) - (x.v.size : Int) < 0) = true := by simp; omega
    go_enter Try.func85, Try.ntmps85
    go_wp2
    go_ret
    exact ⟨.inl rfl, by go_grown⟩

set_option maxRecDepth 100000 in
theorem szNote_any (m : Nt) (left : Nat) (w : World) (hk : m.v.size ≤ 9223372036854775807) (hl : left ≤ 1048576) :
    Calls Try.prog 87 #[ntV m, .int .i64 (left : Int)] w fun e w' => (e = .returned (.int .i64 (-1)) ∨ ∃ r : Nat, e = .returned (.int .i64 (r : Int)) ∧ r + m.v.size = left) ∧ Below w.heap.size w w' := by
  unfold ntV
  by_cases c1 : m.v.size ≤ left
  · have q1 : decide ((left : Int) - (m.v.size : Int) < 0) = false := by simp; omega
    go_enter Try.func87, Try.ntmps87
    go_wp2
    go_ret
    exact ⟨.inr ⟨left - m.v.size, by show Ending.returned (.int .i64 ((left : Int) - (m.v.size : Int))) = _; rw [show ((left - m.v.size : Nat) : Int) = (left : Int) - (m.v.size : Int) by omega], by omega⟩, by go_grown⟩
  · have q1 : decide ((left : Int) - (m.v.size : Int) < 0) = true := by simp; omega
    go_enter Try.func87, Try.ntmps87
    go_wp2
    go_ret
    exact ⟨.inl rfl, by go_grown⟩

/-- The cells of a note, and of a row of them. -/
def ntC (m : Nt) : List Value := [.int .i64 m.k, .int .i64 m.f, .int .i64 m.o, .int .i64 m.b, .int .i64 m.t, .string m.v]
/-- A note in a row that came in, or is the call's own: six cells from a place on. -/
def noteAt (w : World) (b o i : Nat) (m : Nt) : Prop := w.cell? ⟨b, o + i * 6, none⟩ = some (.int .i64 m.k) ∧ w.cell? ⟨b, o + i * 6 + 1, none⟩ = some (.int .i64 m.f) ∧ w.cell? ⟨b, o + i * 6 + 2, none⟩ = some (.int .i64 m.o) ∧ w.cell? ⟨b, o + i * 6 + 3, none⟩ = some (.int .i64 m.b) ∧ w.cell? ⟨b, o + i * 6 + 4, none⟩ = some (.int .i64 m.t) ∧ w.cell? ⟨b, o + i * 6 + 5, none⟩ = some (.string m.v)
def RdN6 (w : World) (a : Option Addr) (l : List Nt) : Prop := ∀ i (h : i < l.length), ∃ b o, a = some ⟨b, o, none⟩ ∧ b < w.heap.size ∧ noteAt w b o i l[i]
theorem noteAt.below {w w' : World} {B b o i : Nat} {m : Nt} (h : noteAt w b o i m) (hb : Below B w w') (hg : b < B) : noteAt w' b o i m :=
  ⟨(hb.cell hg).trans h.1, (hb.cell hg).trans h.2.1, (hb.cell hg).trans h.2.2.1, (hb.cell hg).trans h.2.2.2.1, (hb.cell hg).trans h.2.2.2.2.1, (hb.cell hg).trans h.2.2.2.2.2⟩
theorem RdN6.later {w w' : World} {a : Option Addr} {l : List Nt} (h : RdN6 w a l) (hb : Below w.heap.size w w') : RdN6 w' a l := by
  intro i hi
  obtain ⟨b, o, ha, hg, hc⟩ := h i hi
  exact ⟨b, o, ha, Nat.lt_of_lt_of_le hg hb.size, hc.below hb hg⟩

set_option maxRecDepth 100000 in
set_option maxHeartbeats 1000000 in
theorem specPick_any (ao : Option Addr) (l : List Nt) (ca : Nat) (own : ByteArray) (w : World) (hl : l.length ≤ 1048576) (hA : RdN6 w ao l) :
    Calls Try.prog 110 #[.slice ao l.length ca, .string own] w fun e w' => e = .returned (.string (pickS l own).2) ∧ Below w.heap.size w w' := by
  have HA := hide1 hA
  clear hA
  go_enter Try.func110, Try.ntmps110
  go_wp2
  go_loopw [5, 6, 7] (fun mv vv iv wr => ∃ i : Nat, i ≤ l.length ∧ iv = .int .i64 (i : Int) ∧ ∃ a : Int × ByteArray, mv = .int .i64 a.1 ∧ vv = .string a.2 ∧ Hid (pickS (l.take i) own = a) ∧ Below w.heap.size w wr) (fun _ _ iv _ => l.length - (intOf iv).toNat)
  case atStart => exact ⟨0, by omega, rfl, (0, own), rfl, rfl, rfl, Below.refl _ _⟩
  case round =>
    obtain ⟨i, hi, rfl, a, rfl, rfl, ha, hbel⟩ := hrel
    by_cases hlt : i < l.length
    · have k1 : (i : Int) < (l.length : Int) := by omega
      obtain ⟨b, o, rfl, hb, h1⟩ := HA.out i hlt
      obtain ⟨x0, x1, x2, x3, x4, x5⟩ := h1.below hbel hb
      have HN := hide1 (show pickS (l.take (i + 1)) own = pickN a l[i] by rw [pickS_next hlt, ha.out])
      clear h1 ha
      generalize l[i] = m at *
      obtain ⟨k, f, o', b', u, z⟩ := m
      obtain ⟨am, av⟩ := a
      dsimp only at x0 x1 x2 x3 x4 x5 ⊢
      by_cases c1 : k = 2
      · subst c1
        by_cases c2 : am < u
        · have HP := hide1 (show pickS (l.take (i + 1)) own = (u, z) by rw [HN.out]; unfold pickN; exact if_pos ⟨rfl, c2⟩)
          clear HN
          go_wp2
          go_roundw
          case rel => exact ⟨i + 1, by omega, by go_num, (u, z), rfl, rfl, HP, by first | exact hbel | exact hbel.drew | exact below_drewN hbel _⟩
          case measure => simp [intOf]; omega
        · have HP := hide1 (show pickS (l.take (i + 1)) own = (am, av) by rw [HN.out]; unfold pickN; exact if_neg (fun h => c2 h.2))
          clear HN
          go_wp2
          go_roundw
          case rel => exact ⟨i + 1, by omega, by go_num, (am, av), rfl, rfl, HP, by first | exact hbel | exact hbel.drew | exact below_drewN hbel _⟩
          case measure => simp [intOf]; omega
      · have q1 : (k == 2) = false := by rw [beq_eq_false_iff_ne]; exact c1
        have HP := hide1 (show pickS (l.take (i + 1)) own = (am, av) by rw [HN.out]; unfold pickN; exact if_neg (fun h => c1 h.1))
        clear HN
        go_wp2
        go_roundw
        case rel => exact ⟨i + 1, by omega, by go_num, (am, av), rfl, rfl, HP, by first | exact hbel | exact hbel.drew | exact below_drewN hbel _⟩
        case measure => simp [intOf]; omega
    · obtain rfl : i = l.length := by omega
      have HP := hide1 (show pickS l own = a by have := ha.out; rwa [List.take_length] at this)
      go_wp2
      go_ret
      exact ⟨by rw [HP.out]; rfl, hbel⟩
end Go.Proofs.Ytgehdgmllilmgaa
namespace Go.Proofs.Ytgehdgmllilmgaa
open Go.RowKit
set_option linter.unusedVariables false

theorem ntC_length (m : Nt) : (ntC m).length = 6 := rfl
/-- The zero note. -/
def zN : Nt := ⟨0, 0, 0, 0, 0, ⟨#[]⟩⟩
theorem Try.infoNote : (Try.prog.info? 111).map (fun i => (i.zero, i.size, i.bytes)) = some (some (ntV zN), 6, 56) := by kernel_rfl
theorem rdN6_of_rdG {w : World} {a : Option Addr} {l : List Nt} (h : RdG ntC 6 w a l) : RdN6 w a l := by
  intro i hi
  obtain ⟨b, o, ha, hg, hc⟩ := h i hi
  exact ⟨b, o, ha, hg, hc 0 (by omega), hc 1 (by omega), hc 2 (by omega), hc 3 (by omega), hc 4 (by omega), hc 5 (by omega)⟩
theorem rdN6_of_own {w : World} {base ca n : Nat} {e : TypeId} {ao : Option Addr} {l : List Nt} (h : w.ownsRow base e 6 (.slice ao n ca) n (rowG ntC l)) (hn : l.length = n) : RdN6 w ao l :=
  rdN6_of_rdG (rdG_of_own ntC_length h hn)
theorem made6 : ∀ n : Nat, (madeCells (ntV zN).cells (n * 6)).toList = rowG ntC (List.replicate n zN) := by
  intro n
  refine List.ext_getElem? fun j => ?_
  have hz : (ntV zN).cells = #[.int .i64 0, .int .i64 0, .int .i64 0, .int .i64 0, .int .i64 0, .string ⟨#[]⟩] := rfl
  by_cases hj : j < n * 6
  · have h5 : j % 6 < 6 := Nat.mod_lt _ (by decide)
    have hr := rowG_at ntC 6 ntC_length (List.replicate n zN) (j / 6) (j % 6) (by simp; omega) h5
    rw [show j / 6 * 6 + j % 6 = j by omega, List.getElem_replicate] at hr
    rw [hr, hz]
    simp only [madeCells, Array.getElem?_toList]
    rw [Array.getElem?_map, Array.getElem?_range, if_pos hj]
    simp only [Option.map_some]
    show some ((#[Value.int .i64 0, .int .i64 0, .int .i64 0, .int .i64 0, .int .i64 0, .string ⟨#[]⟩] : Array Value)[j % 6]!) = _
    generalize j % 6 = q at h5
    match q, h5 with
    | 0, _ => rfl
    | 1, _ => rfl
    | 2, _ => rfl
    | 3, _ => rfl
    | 4, _ => rfl
    | 5, _ => rfl
    | q + 6, h => omega
  · rw [List.getElem?_eq_none (by simp [madeCells]; omega), List.getElem?_eq_none (by rw [rowG_length ntC 6 ntC_length]; simp; omega)]

set_option maxRecDepth 100000 in
set_option maxHeartbeats 400000 in
theorem toNoteS_any (ao : Option Addr) (l : List Nt) (ca : Nat) (w : World) (hl : l.length ≤ 1048576) (hA : RdN6 w ao l) :
    Calls Try.prog 69 #[.slice ao l.length ca] w fun e w' => ∃ b c, e = .returned (.slice b l.length c) ∧ w'.ownsRow w.heap.size 111 6 (.slice b l.length c) l.length (rowG ntC l) ∧ Below w.heap.size w w' := by
  obtain ⟨i0, hi, hz0, hz1, hz2⟩ := info_parts Try.infoNote
  have HA := hide1 hA
  clear hA
  go_enter Try.func69, Try.ntmps69
  go_wp2_with (at_make; (refine wpList_make_full _ rfl _ _ 29 rfl w.heap.size 111 i0 (ntV zN) 6 Try.underlying29 hi hz0 hz1 _ _ _ _ l.length rfl rfl rfl rfl (by rw [hz2]; omega) (by unfold maxLen; omega) (Nat.le_refl _) ?_; intro w0 hown0 hg0))
  rw [made6] at hown0
  have HO := hide1 hown0
  clear hown0
  go_loopw [4] (fun iv wr => ∃ i : Nat, i ≤ l.length ∧ iv = .int .i64 (i : Int) ∧ wr.ownsRow w.heap.size 111 6 (.slice (some ⟨w.heap.size, 0, none⟩) l.length l.length) l.length (rowG ntC (l.take i ++ List.replicate (l.length - i) zN)) ∧ Below w.heap.size w wr) (fun iv _ => l.length - (intOf iv).toNat)
  case atStart => exact ⟨0, by omega, rfl, by simpa using HO.out, Below.grown (Below.refl _ _) hg0 (Nat.le_refl _) (by intro k hk; cases hk)⟩
  case round =>
    obtain ⟨i, hi, rfl, hown, hbel⟩ := hrel
    by_cases hlt : i < l.length
    · have k1 : (i : Int) < (l.length : Int) := by omega
      obtain ⟨b, o, rfl, hb, h1⟩ := HA.out i hlt
      obtain ⟨x0, x1, x2, x3, x4, x5⟩ := h1.below hbel hb
      have cc := hide1 (fun w => toNote_any l[i] w)
      generalize hs : l[i] = s at *
      have HS := hide1 hs
      clear h1 hs
      have HO1 := hide1 hown
      clear hown
      unfold ntV at cc
      go_wp2_with fail
      refine (cc.out _).mono ?_
      rintro e w2 ⟨rfl, hb2⟩
      have o2 := own_kept HO1.out hb2
      obtain ⟨u0, y0⟩ := own_some o2 (i * 6) (by omega)
      obtain ⟨u1, y1⟩ := own_some o2 (i * 6 + 1) (by omega)
      obtain ⟨u2, y2⟩ := own_some o2 (i * 6 + 2) (by omega)
      obtain ⟨u3, y3⟩ := own_some o2 (i * 6 + 3) (by omega)
      obtain ⟨u4, y4⟩ := own_some o2 (i * 6 + 4) (by omega)
      obtain ⟨u5, y5⟩ := own_some o2 (i * 6 + 5) (by omega)
      have f0 := o2.frozenAt (i * 6)
      have f1 := o2.frozenAt (i * 6 + 1)
      have f2 := o2.frozenAt (i * 6 + 2)
      have f3 := o2.frozenAt (i * 6 + 3)
      have f4 := o2.frozenAt (i * 6 + 4)
      have f5 := o2.frozenAt (i * 6 + 5)
      have O2 := hide1 o2
      clear o2
      go_wp2
      go_roundw
      case rel =>
        refine ⟨i + 1, by omega, by go_num, ?_, below_putG (ntC s) (i * 6) (hbel.trans (hb2.mono hbel.size)) (Nat.le_refl _)⟩
        rw [← fillG l zN s i hlt HS.out, rowG_set ntC 6 ntC_length _ _ _ (by simp; omega)]
        exact own_putG (ntC s) (i * 6) O2.out
      case measure => simp [intOf]; omega
    · obtain rfl : i = l.length := by omega
      go_wp2
      go_ret
      exact ⟨_, _, rfl, by simpa using hown, hbel⟩

/-- What a row of notes asks to be looked at whole. -/
def smallN6 (l : List Nt) : Prop := l.length ≤ 1048576 ∧ ∀ i (h : i < l.length), l[i].v.size ≤ 1048576

set_option maxRecDepth 100000 in
set_option maxHeartbeats 400000 in
theorem szNoteS_any (ao : Option Addr) (l : List Nt) (ca left0 : Nat) (w : World) (hl0 : left0 ≤ 1048576) (hl : l.length ≤ 9223372036854775807) (hA : RdN6 w ao l) (hS : ∀ i (h : i < l.length), l[i].v.size ≤ 9223372036854775807) :
    Calls Try.prog 65 #[.slice ao l.length ca, .int .i64 (left0 : Int)] w fun e w' => (e = .returned (.int .i64 (-1)) ∨ ∃ r : Nat, e = .returned (.int .i64 (r : Int)) ∧ r ≤ left0 ∧ smallN6 l) ∧ Below w.heap.size w w' := by
  by_cases c0 : l.length ≤ left0
  · have q0 : decide ((left0 : Int) - (l.length : Int) < 0) = false := by simp; omega
    have HA := hide1 hA
    have HS := hide1 hS
    clear hA hS
    go_enter Try.func65, Try.ntmps65
    go_wp2
    go_loopw [1, 5] (fun lv iv wr => ∃ i left : Nat, i ≤ l.length ∧ iv = .int .i64 (i : Int) ∧ lv = .int .i64 (left : Int) ∧ left ≤ left0 ∧ Hid (∀ j (h : j < l.length), j < i → l[j].v.size ≤ 1048576) ∧ Below w.heap.size w wr) (fun _ iv _ => l.length - (intOf iv).toNat)
    case atStart => exact ⟨0, left0 - l.length, by omega, rfl, by rw [show ((left0 - l.length : Nat) : Int) = (left0 : Int) - (l.length : Int) by omega], by omega, fun j _ h => by omega, Below.refl _ _⟩
    case round =>
      obtain ⟨i, left, hi, rfl, rfl, hle, hdone, hbel⟩ := hrel
      by_cases hlt : i < l.length
      · have k1 : (i : Int) < (l.length : Int) := by omega
        obtain ⟨b, o, rfl, hb, h1⟩ := HA.out i hlt
        obtain ⟨x0, x1, x2, x3, x4, x5⟩ := h1.below hbel hb
        have m1 := HS.out i hlt
        have cc := hide1 (fun w => szNote_any l[i] left w m1 (by omega))
        generalize hs : l[i] = s at *
        have HSS := hide1 hs
        clear h1 hs
        unfold ntV at cc
        go_wp2_with fail
        refine (cc.out _).mono ?_
        rintro e w2 ⟨hr, hb2⟩
        have B2 := hide1 (hbel.trans (hb2.mono hbel.size))
        rcases hr with rfl | ⟨r, rfl, hr⟩
        · go_wp2
          go_ret
          exact ⟨.inl rfl, B2.out⟩
        · have q : decide ((r : Int) < 0) = false := by simp
          have HR := hide1 hr
          have hr2 : r ≤ left0 := by omega
          clear hr
          go_wp2
          go_roundw
          case rel => exact ⟨i + 1, r, by omega, by go_num, rfl, hr2, (fun j h hj => by
            by_cases e : j < i
            · exact hdone.out j h e
            · obtain rfl : j = i := by omega
              have := HR.out
              rw [HSS.out]
              omega), B2.out⟩
          case measure => simp [intOf]; omega
      · go_wp2
        go_ret
        exact ⟨.inr ⟨left, rfl, hle, by omega, fun j h => hdone.out j h (by omega)⟩, hbel⟩
  · have q0 : decide ((left0 : Int) - (l.length : Int) < 0) = true := by simp; omega
    clear hA hS
    go_enter Try.func65, Try.ntmps65
    go_wp2
    go_ret
    exact ⟨.inl rfl, Below.refl _ _⟩

set_option maxRecDepth 100000 in
set_option maxHeartbeats 400000 in
theorem eqNoteS_same (a b : Option Addr) (l : List Nt) (ca cb : Nat) (w : World) (hl : l.length ≤ 1048576) (ha : RdN6 w a l) (hb : RdN6 w b l) :
    Calls Try.prog 49 #[.slice a l.length ca, .slice b l.length cb] w fun e w' => e = .returned (.bool true) ∧ Below w.heap.size w w' := by
  have HA := hide1 ha
  have HB := hide1 hb
  clear ha hb
  have q0 : ((l.length : Int) != (l.length : Int)) = false := by simp
  go_enter Try.func49, Try.ntmps49
  go_wp2
  go_loopw [5] (fun iv wr => ∃ i : Nat, i ≤ l.length ∧ iv = .int .i64 (i : Int) ∧ Below w.heap.size w wr) (fun iv _ => l.length - (intOf iv).toNat)
  case atStart => exact ⟨0, by omega, rfl, Below.refl _ _⟩
  case round =>
    obtain ⟨i, hi, rfl, hbel⟩ := hrel
    by_cases hlt : i < l.length
    · have k1 : (i : Int) < (l.length : Int) := by omega
      obtain ⟨b1, o1, rfl, hg1, h1⟩ := HA.out i hlt
      obtain ⟨b2, o2, rfl, hg2, h2⟩ := HB.out i hlt
      obtain ⟨x0, x1, x2, x3, x4, x5⟩ := h1.below hbel hg1
      obtain ⟨y0, y1, y2, y3, y4, y5⟩ := h2.below hbel hg2
      have cc := hide1 (fun w => eqNote_same l[i] w)
      have hw1 : b1 < wr.heap.size := Nat.lt_of_lt_of_le hg1 hbel.size
      have hw2 : b2 < wr.heap.size := Nat.lt_of_lt_of_le hg2 hbel.size
      generalize l[i] = s at *
      clear h1 h2
      unfold ntV at cc
      go_wp2
      go_region_held3 (fun w' => w'.cell? ⟨b1, o1 + i * 6, none⟩ = some (.int .i64 s.k) ∧ w'.cell? ⟨b1, o1 + i * 6 + 1, none⟩ = some (.int .i64 s.f) ∧ w'.cell? ⟨b1, o1 + i * 6 + 2, none⟩ = some (.int .i64 s.o) ∧ w'.cell? ⟨b1, o1 + i * 6 + 3, none⟩ = some (.int .i64 s.b) ∧ w'.cell? ⟨b1, o1 + i * 6 + 4, none⟩ = some (.int .i64 s.t) ∧ w'.cell? ⟨b1, o1 + i * 6 + 5, none⟩ = some (.string s.v) ∧ w'.cell? ⟨b2, o2 + i * 6, none⟩ = some (.int .i64 s.k) ∧ w'.cell? ⟨b2, o2 + i * 6 + 1, none⟩ = some (.int .i64 s.f) ∧ w'.cell? ⟨b2, o2 + i * 6 + 2, none⟩ = some (.int .i64 s.o) ∧ w'.cell? ⟨b2, o2 + i * 6 + 3, none⟩ = some (.int .i64 s.b) ∧ w'.cell? ⟨b2, o2 + i * 6 + 4, none⟩ = some (.int .i64 s.t) ∧ w'.cell? ⟨b2, o2 + i * 6 + 5, none⟩ = some (.string s.v)) (first | go_keep | exact (hb2.cell hw1).trans x0 | exact (hb2.cell hw1).trans x1 | exact (hb2.cell hw1).trans x2 | exact (hb2.cell hw1).trans x3 | exact (hb2.cell hw1).trans x4 | exact (hb2.cell hw1).trans x5 | exact (hb2.cell hw2).trans y0 | exact (hb2.cell hw2).trans y1 | exact (hb2.cell hw2).trans y2 | exact (hb2.cell hw2).trans y3 | exact (hb2.cell hw2).trans y4 | exact (hb2.cell hw2).trans y5 | exact ⟨(hb2.cell hw1).trans x0, (hb2.cell hw1).trans x1, (hb2.cell hw1).trans x2, (hb2.cell hw1).trans x3, (hb2.cell hw1).trans x4, (hb2.cell hw1).trans x5, (hb2.cell hw2).trans y0, (hb2.cell hw2).trans y1, (hb2.cell hw2).trans y2, (hb2.cell hw2).trans y3, (hb2.cell hw2).trans y4, (hb2.cell hw2).trans y5⟩) ((go_at_call 84; refine (cc.out _).mono ?_; rintro e w2 ⟨rfl, hb2⟩))
      go_wp2
      go_roundw
      case rel => exact ⟨i + 1, by omega, by go_num, hbel.trans ((Below.refl _ _).drew.trans (hb2.mono hbel.size))⟩
      case measure => simp [intOf]; omega
    · go_wp2
      go_ret
      exact ⟨rfl, hbel⟩
end Go.Proofs.Ytgehdgmllilmgaa
