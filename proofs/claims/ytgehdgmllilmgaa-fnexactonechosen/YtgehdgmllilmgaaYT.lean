/- Rows of voices in the statements' words. -/
import Derived.Test.YtgehdgmllilmgaaRowO
import Derived.Test.YtgehdgmllilmgaaYM
import Derived.Test.YtgehdgmllilmgaaYV
import Derived.Deep.RegionHeld3
namespace Go.Proofs.Ytgehdgmllilmgaa
open Go.ChangeShapes Go.WideShapes Go.ChangeAt Go.RowKit Go.Deep Go.Joins
set_option linter.unusedVariables false

set_option maxRecDepth 100000 in
set_option maxHeartbeats 400000 in
theorem toVoiceS_any (ao : Option Addr) (l : List Vo) (ca : Nat) (w : World) (hl : l.length ≤ 1048576) (hA : RdG voC 3 w ao l) :
    Calls Try.prog 67 #[.slice ao l.length ca] w fun e w' => ∃ b c, e = .returned (.slice b l.length c) ∧ w'.ownsRow w.heap.size 43 3 (.slice b l.length c) l.length (rowG voC l) ∧ Below w.heap.size w w' := by
  obtain ⟨i0, hi, hz0, hz1, hz2⟩ := info_parts Try.infoV
  have HA := hide1 hA
  clear hA
  go_enter Try.func67, Try.ntmps67
  go_wp2_with (at_make; (refine wpList_make_full _ rfl _ _ 27 rfl w.heap.size 43 i0 (.agg #[.int .i64 0, .int .i64 0, .string ⟨#[]⟩]) 3 Try.underlying27 hi hz0 hz1 _ _ _ _ l.length rfl rfl rfl rfl (by rw [hz2]; omega) (by unfold maxLen; omega) (Nat.le_refl _) ?_; intro w0 hown0 hg0))
  rw [show (madeCells (.agg #[.int .i64 0, .int .i64 0, .string ⟨#[]⟩] : Value).cells (l.length * 3)).toList = rowG voC (List.replicate l.length (⟨0, 0, ⟨#[]⟩⟩ : Vo)) from madeG encV (by decide) (⟨0, 0, ⟨#[]⟩⟩ : Vo) l.length] at hown0
  have HO := hide1 hown0
  clear hown0
  go_loopw [4] (fun iv wr => ∃ i : Nat, i ≤ l.length ∧ iv = .int .i64 (i : Int) ∧ wr.ownsRow w.heap.size 43 3 (.slice (some ⟨w.heap.size, 0, none⟩) l.length l.length) l.length (rowG voC (l.take i ++ List.replicate (l.length - i) (⟨0, 0, ⟨#[]⟩⟩ : Vo))) ∧ Below w.heap.size w wr) (fun iv _ => l.length - (intOf iv).toNat)
  case atStart => exact ⟨0, by omega, rfl, by simpa using HO.out, Below.grown (Below.refl _ _) hg0 (Nat.le_refl _) (by intro k hk; cases hk)⟩
  case round =>
    obtain ⟨i, hi, rfl, hown, hbel⟩ := hrel
    by_cases hlt : i < l.length
    · have k1 : (i : Int) < (l.length : Int) := by omega
      obtain ⟨b, o, rfl, hb, h1⟩ := HA.out i hlt
      have x0 : wr.cell? ⟨b, o + i * 3, none⟩ = some (.int .i64 l[i].p) := (hbel.cell (p := ⟨b, o + i * 3 + 0, none⟩) hb).trans (h1 0 (by omega))
      have x1 : wr.cell? ⟨b, o + i * 3 + 1, none⟩ = some (.int .i64 l[i].t) := (hbel.cell (p := ⟨b, o + i * 3 + 1, none⟩) hb).trans (h1 1 (by omega))
      have x2 : wr.cell? ⟨b, o + i * 3 + 2, none⟩ = some (.string l[i].v) := (hbel.cell (p := ⟨b, o + i * 3 + 2, none⟩) hb).trans (h1 2 (by omega))
      have cc := hide1 (fun w => toVoice_any l[i] w)
      generalize hs : l[i] = s at *
      have HS := hide1 hs
      clear h1 hs
      have HO1 := hide1 hown
      clear hown
      unfold voV at cc
      go_wp2_with fail
      refine (cc.out _).mono ?_
      rintro e w2 ⟨rfl, hb2⟩
      have o2 := own_kept HO1.out hb2
      obtain ⟨u0, y0⟩ := own_some o2 (i * 3) (by omega)
      obtain ⟨u1, y1⟩ := own_some o2 (i * 3 + 1) (by omega)
      obtain ⟨u2, y2⟩ := own_some o2 (i * 3 + 2) (by omega)
      have f0 := o2.frozenAt (i * 3)
      have f1 := o2.frozenAt (i * 3 + 1)
      have f2 := o2.frozenAt (i * 3 + 2)
      have O2 := hide1 o2
      clear o2
      go_wp2
      go_roundw
      case rel =>
        refine ⟨i + 1, by omega, by go_num, ?_, below_putG (voC s) (i * 3) (hbel.trans (hb2.mono hbel.size)) (Nat.le_refl _)⟩
        rw [← fillG l (⟨0, 0, ⟨#[]⟩⟩ : Vo) s i hlt HS.out, rowG_set voC 3 encV.len _ _ _ (by simp; omega)]
        exact own_putG (voC s) (i * 3) O2.out
      case measure => simp [intOf]; omega
    · obtain rfl : i = l.length := by omega
      go_wp2
      go_ret
      exact ⟨_, _, rfl, by simpa using hown, hbel⟩

set_option maxRecDepth 100000 in
set_option maxHeartbeats 400000 in
theorem szVoiceS_any (ao : Option Addr) (l : List Vo) (ca left0 : Nat) (w : World) (hl0 : left0 ≤ 1048576) (hl : l.length ≤ 9223372036854775807) (hA : RdG voC 3 w ao l) (hS : ∀ i (h : i < l.length), l[i].v.size ≤ 9223372036854775807) :
    Calls Try.prog 63 #[.slice ao l.length ca, .int .i64 (left0 : Int)] w fun e w' => (e = .returned (.int .i64 (-1)) ∨ ∃ r : Nat, e = .returned (.int .i64 (r : Int)) ∧ r ≤ left0 ∧ l.length ≤ left0 ∧ ∀ i (h : i < l.length), l[i].v.size ≤ 1048576) ∧ Below w.heap.size w w' := by
  by_cases c0 : l.length ≤ left0
  · have q0 : decide ((left0 : Int) - (l.length : Int) < 0) = false := by simp; omega
    have HA := hide1 hA
    have HS := hide1 hS
    clear hA hS
    go_enter Try.func63, Try.ntmps63
    go_wp2
    go_loopw [1, 5] (fun lv iv wr => ∃ i left : Nat, i ≤ l.length ∧ iv = .int .i64 (i : Int) ∧ lv = .int .i64 (left : Int) ∧ left ≤ left0 ∧ Hid (∀ j (h : j < l.length), j < i → l[j].v.size ≤ 1048576) ∧ Below w.heap.size w wr) (fun _ iv _ => l.length - (intOf iv).toNat)
    case atStart => exact ⟨0, left0 - l.length, by omega, rfl, by rw [show ((left0 - l.length : Nat) : Int) = (left0 : Int) - (l.length : Int) by omega], by omega, fun j _ h => by omega, Below.refl _ _⟩
    case round =>
      obtain ⟨i, left, hi, rfl, rfl, hle, hdone, hbel⟩ := hrel
      by_cases hlt : i < l.length
      · have k1 : (i : Int) < (l.length : Int) := by omega
        obtain ⟨b, o, rfl, hb, h1⟩ := HA.out i hlt
        have x0 : wr.cell? ⟨b, o + i * 3, none⟩ = some (.int .i64 l[i].p) := (hbel.cell (p := ⟨b, o + i * 3 + 0, none⟩) hb).trans (h1 0 (by omega))
        have x1 : wr.cell? ⟨b, o + i * 3 + 1, none⟩ = some (.int .i64 l[i].t) := (hbel.cell (p := ⟨b, o + i * 3 + 1, none⟩) hb).trans (h1 1 (by omega))
        have x2 : wr.cell? ⟨b, o + i * 3 + 2, none⟩ = some (.string l[i].v) := (hbel.cell (p := ⟨b, o + i * 3 + 2, none⟩) hb).trans (h1 2 (by omega))
        have m1 := HS.out i hlt
        have cc := hide1 (fun w => szVoice_any l[i] left w m1 (by omega))
        generalize hs : l[i] = s at *
        have HSS := hide1 hs
        clear h1 hs
        unfold voV at cc
        go_wp2_with fail
        refine (cc.out _).mono ?_
        rintro e w2 ⟨hr, hb2⟩
        have B2 := hide1 (hbel.trans (hb2.mono hbel.size))
        rcases hr with rfl | ⟨r, rfl, hr⟩
        · go_wp2
          go_ret
          exact ⟨.inl rfl, B2.out⟩
        · have q : decide ((r : Int) < 0) = false := by simp
          have HR := hide1 hr
          have hr2 : r ≤ left0 := by omega
          clear hr
          go_wp2
          go_roundw
          case rel => exact ⟨i + 1, r, by omega, by go_num, rfl, hr2, (fun j h hj => by
            by_cases e : j < i
            · exact hdone.out j h e
            · obtain rfl : j = i := by omega
              have := HR.out
              rw [HSS.out]
              omega), B2.out⟩
          case measure => simp [intOf]; omega
      · go_wp2
        go_ret
        exact ⟨.inr ⟨left, rfl, hle, c0, fun j h => hdone.out j h (by omega)⟩, hbel⟩
  · have q0 : decide ((left0 : Int) - (l.length : Int) < 0) = true := by simp; omega
    clear hA hS
    go_enter Try.func63, Try.ntmps63
    go_wp2
    go_ret
    exact ⟨.inl rfl, Below.refl _ _⟩

def wfVoice (s : Vo) : Prop := (-9223372036854775808 ≤ s.p ∧ s.p ≤ 9223372036854775807) ∧ (-9223372036854775808 ≤ s.t ∧ s.t ≤ 9223372036854775807) ∧ s.v.size ≤ maxLen
set_option maxRecDepth 100000 in
theorem open_voiceE {H : Type} {enc : TypeId × Value → H} {w : World} {base fuel : Nat} {sp : Nat → Bool} {held : Bool} {cs : List Value} {x : DataW H × List MemPlace} (h : DataW.trod enc Try.prog w base sp held fuel 122 cs = some x) :
    ∃ s : Vo, cs = voC s ∧ wfVoice s := by
  obtain ⟨xs, n, _, _, hlen, hxl, hf⟩ := DataW.trod_struct Try.underlying122 h
  have hc : Try.prog.cellsOf 122 = 3 := by kernel_rfl
  rw [hc] at hlen
  match xs, hxl, cs, hlen with
  | [p0, p1, p2], _, [v0, v1, v2], _ =>
    have g0 := hf 0 _ rfl
    have g1 := hf 1 _ rfl
    have g2 := hf 2 _ rfl
    have ci : Try.prog.cellsOf 3 = 1 := by kernel_rfl
    have cst : Try.prog.cellsOf 9 = 1 := by kernel_rfl
    simp [ci, cst] at g0 g1 g2
    obtain ⟨n0, e0, _, w0⟩ := DataW.trod_int Try.underlying3 g0
    obtain ⟨n1, e1, _, w1⟩ := DataW.trod_int Try.underlying3 g1
    obtain ⟨s2, e2, _, w2⟩ := DataW.trod_string Try.underlying9 g2
    simp at e0 e1 e2
    subst e0 e1 e2
    exact ⟨⟨n0, n1, s2⟩, rfl, bounds_i64 w0, bounds_i64 w1, w2⟩
instance : Inhabited Vo := ⟨(⟨0, 0, ⟨#[]⟩⟩ : Vo)⟩
set_option maxRecDepth 100000 in
theorem open_voicesE {H : Type} {enc : TypeId × Value → H} {w : World} {base fuel : Nat} {sp : Nat → Bool} {held : Bool} {cs : List Value} {x : DataW H × List MemPlace} (h : DataW.trod enc Try.prog w base sp held fuel 62 cs = some x) :
    ∃ (ao : Option Addr) (l : List Vo) (ca : Nat), cs = [.slice ao l.length ca] ∧ RdG voC 3 w ao l ∧ l.length ≤ maxLen ∧ ∀ s ∈ l, wfVoice s := by
  rcases open_slice Try.underlying62 h with ⟨rfl, _⟩ | ⟨a, len, cap, m, n, D, Pl, rfl, hb, hl, hm, hmm, _, hx⟩
  · exact ⟨none, [], 0, rfl, RdG.nil _ _, Nat.zero_le _, fun i hi => by simp at hi⟩
  have hlm : len ≤ m := by rw [hmm]; split <;> omega
  have hc : Try.prog.cellsOf 122 = 3 := by kernel_rfl
  refine open_rowG (P := wfVoice) encV (by decide) (.inr (Nat.le_trans hl hm)) hlm (fun i hi => ?_)
  obtain ⟨cs', h1, h2⟩ := hx i hi
  rw [hc] at h1
  obtain ⟨_, hlen, hcell⟩ := World.cells?_some h1
  obtain ⟨s, rfl, hw⟩ := open_voiceE h2
  exact ⟨s, hw, fun j hj => hcell j (by omega)⟩

end Go.Proofs.Ytgehdgmllilmgaa
namespace Go.Proofs.Ytgehdgmllilmgaa
open Go.ChangeShapes Go.WideShapes Go.ChangeAt Go.RowKit Go.Deep Go.Joins
set_option linter.unusedVariables false

def wfNote (s : Nt) : Prop := (-9223372036854775808 ≤ s.k ∧ s.k ≤ 9223372036854775807) ∧ (-9223372036854775808 ≤ s.f ∧ s.f ≤ 9223372036854775807) ∧ (-9223372036854775808 ≤ s.o ∧ s.o ≤ 9223372036854775807) ∧ (-9223372036854775808 ≤ s.b ∧ s.b ≤ 9223372036854775807) ∧ (-9223372036854775808 ≤ s.t ∧ s.t ≤ 9223372036854775807) ∧ s.v.size ≤ maxLen
set_option maxRecDepth 100000 in
theorem open_noteE {H : Type} {enc : TypeId × Value → H} {w : World} {base fuel : Nat} {sp : Nat → Bool} {held : Bool} {cs : List Value} {x : DataW H × List MemPlace} (h : DataW.trod enc Try.prog w base sp held fuel 127 cs = some x) :
    ∃ s : Nt, cs = ntC s ∧ wfNote s := by
  obtain ⟨xs, n, _, _, hlen, hxl, hf⟩ := DataW.trod_struct Try.underlying127 h
  have hc : Try.prog.cellsOf 127 = 6 := by kernel_rfl
  rw [hc] at hlen
  match xs, hxl, cs, hlen with
  | [p0, p1, p2, p3, p4, p5], _, [v0, v1, v2, v3, v4, v5], _ =>
    have g0 := hf 0 _ rfl
    have g1 := hf 1 _ rfl
    have g2 := hf 2 _ rfl
    have g3 := hf 3 _ rfl
    have g4 := hf 4 _ rfl
    have g5 := hf 5 _ rfl
    have ci : Try.prog.cellsOf 3 = 1 := by kernel_rfl
    have cst : Try.prog.cellsOf 9 = 1 := by kernel_rfl
    simp [ci, cst] at g0 g1 g2 g3 g4 g5
    obtain ⟨n0, e0, _, w0⟩ := DataW.trod_int Try.underlying3 g0
    obtain ⟨n1, e1, _, w1⟩ := DataW.trod_int Try.underlying3 g1
    obtain ⟨n2, e2, _, w2⟩ := DataW.trod_int Try.underlying3 g2
    obtain ⟨n3, e3, _, w3⟩ := DataW.trod_int Try.underlying3 g3
    obtain ⟨n4, e4, _, w4⟩ := DataW.trod_int Try.underlying3 g4
    obtain ⟨s5, e5, _, w5⟩ := DataW.trod_string Try.underlying9 g5
    simp at e0 e1 e2 e3 e4 e5
    subst e0 e1 e2 e3 e4 e5
    exact ⟨⟨n0, n1, n2, n3, n4, s5⟩, rfl, bounds_i64 w0, bounds_i64 w1, bounds_i64 w2, bounds_i64 w3, bounds_i64 w4, w5⟩
instance : Inhabited Nt := ⟨(⟨0, 0, 0, 0, 0, ⟨#[]⟩⟩ : Nt)⟩
set_option maxRecDepth 100000 in
theorem open_notesE {H : Type} {enc : TypeId × Value → H} {w : World} {base fuel : Nat} {sp : Nat → Bool} {held : Bool} {cs : List Value} {x : DataW H × List MemPlace} (h : DataW.trod enc Try.prog w base sp held fuel 64 cs = some x) :
    ∃ (ao : Option Addr) (l : List Nt) (ca : Nat), cs = [.slice ao l.length ca] ∧ RdG ntC 6 w ao l ∧ l.length ≤ maxLen ∧ ∀ s ∈ l, wfNote s := by
  rcases open_slice Try.underlying64 h with ⟨rfl, _⟩ | ⟨a, len, cap, m, n, D, Pl, rfl, hb, hl, hm, hmm, _, hx⟩
  · exact ⟨none, [], 0, rfl, RdG.nil _ _, Nat.zero_le _, fun i hi => by simp at hi⟩
  have hlm : len ≤ m := by rw [hmm]; split <;> omega
  have hc : Try.prog.cellsOf 127 = 6 := by kernel_rfl
  refine open_rowG (P := wfNote) encN (by decide) (.inr (Nat.le_trans hl hm)) hlm (fun i hi => ?_)
  obtain ⟨cs', h1, h2⟩ := hx i hi
  rw [hc] at h1
  obtain ⟨_, hlen, hcell⟩ := World.cells?_some h1
  obtain ⟨s, rfl, hw⟩ := open_noteE h2
  exact ⟨s, hw, fun j hj => hcell j (by omega)⟩

end Go.Proofs.Ytgehdgmllilmgaa
namespace Go.Proofs.Ytgehdgmllilmgaa
open Go.ChangeShapes Go.WideShapes Go.ChangeAt Go.RowKit Go.Deep Go.Joins
set_option linter.unusedVariables false

set_option maxRecDepth 100000 in
theorem toHappen_any (x : Hp) (w : World) : Calls Try.prog 60 #[.agg #[.int .i64 x.k, .int .i64 x.i, .int .i64 x.a, .string x.v]] w fun e w' => e = .returned (.agg #[.int .i64 x.k, .int .i64 x.i, .int .i64 x.a, .string x.v]) ∧ Below w.heap.size w w' := by
  go_enter Try.func60, Try.ntmps60
  go_wp2
  go_returns
  exact ⟨rfl, by go_grown⟩

set_option maxRecDepth 100000 in
theorem eqHappen_same (x : Hp) (w : World) : Calls Try.prog 61 #[.agg #[.int .i64 x.k, .int .i64 x.i, .int .i64 x.a, .string x.v], .agg #[.int .i64 x.k, .int .i64 x.i, .int .i64 x.a, .string x.v]] w fun e w' => e = .returned (.bool true) ∧ Below w.heap.size w w' := by
  have q0 : (x.k != x.k) = false := by simp
  have q1 : (x.i != x.i) = false := by simp
  have q2 : (x.a != x.a) = false := by simp
  obtain ⟨q8, q9⟩ := tx_eq x.v
  obtain ⟨k, i, a, v⟩ := x
  dsimp only at *
  go_enter Try.func61, Try.ntmps61
  go_wp2
  go_ret
  exact ⟨rfl, by go_grown⟩

set_option maxRecDepth 100000 in
theorem szHappen_any (x : Hp) (left : Nat) (w : World) (hk : x.v.size ≤ 9223372036854775807) (hl : left ≤ 1048576) :
    Calls Try.prog 59 #[.agg #[.int .i64 x.k, .int .i64 x.i, .int .i64 x.a, .string x.v], .int .i64 (left : Int)] w fun e w' => (e = .returned (.int .i64 (-1)) ∨ ∃ r : Nat, e = .returned (.int .i64 (r : Int)) ∧ r + x.v.size = left) ∧ Below w.heap.size w w' := by
  by_cases c1 : x.v.size ≤ left
  · have q1 : decide ((left : Int) - (x.v.size : Int) < 0) = false := by simp; omega
    go_enter Try.func59, Try.ntmps59
    go_wp2
    go_ret
    exact ⟨.inr ⟨left - x.v.size, by show Ending.returned (.int .i64 ((left : Int) - (x.v.size : Int))) = _; rw [show ((left - x.v.size : Nat) : Int) = (left : Int) - (x.v.size : Int) by omega], by omega⟩, by go_grown⟩
  · have q1 : decide ((left : Int) - (x.v.size : Int) < 0) = true := by simp; omega
    go_enter Try.func59, Try.ntmps59
    go_wp2
    go_ret
    exact ⟨.inl rfl, by go_grown⟩

set_option maxRecDepth 100000 in
set_option maxHeartbeats 400000 in
theorem toHappenS_any (ao : Option Addr) (l : List Hp) (ca : Nat) (w : World) (hl : l.length ≤ 1048576) (hA : RdG hpC 4 w ao l) :
    Calls Try.prog 28 #[.slice ao l.length ca] w fun e w' => ∃ b c, e = .returned (.slice b l.length c) ∧ w'.ownsRow w.heap.size 40 4 (.slice b l.length c) l.length (rowG hpC l) ∧ Below w.heap.size w w' := by
  obtain ⟨i0, hi, hz0, hz1, hz2⟩ := info_parts Try.infoH
  have HA := hide1 hA
  clear hA
  go_enter Try.func28, Try.ntmps28
  go_wp2_with (at_make; (refine wpList_make_full _ rfl _ _ 24 rfl w.heap.size 40 i0 (.agg #[.int .i64 0, .int .i64 0, .int .i64 0, .string ⟨#[]⟩]) 4 Try.underlying24 hi hz0 hz1 _ _ _ _ l.length rfl rfl rfl rfl (by rw [hz2]; omega) (by unfold maxLen; omega) (Nat.le_refl _) ?_; intro w0 hown0 hg0))
  rw [show (madeCells (.agg #[.int .i64 0, .int .i64 0, .int .i64 0, .string ⟨#[]⟩] : Value).cells (l.length * 4)).toList = rowG hpC (List.replicate l.length (⟨0, 0, 0, ⟨#[]⟩⟩ : Hp)) from madeG encH (by decide) (⟨0, 0, 0, ⟨#[]⟩⟩ : Hp) l.length] at hown0
  have HO := hide1 hown0
  clear hown0
  go_loopw [4] (fun iv wr => ∃ i : Nat, i ≤ l.length ∧ iv = .int .i64 (i : Int) ∧ wr.ownsRow w.heap.size 40 4 (.slice (some ⟨w.heap.size, 0, none⟩) l.length l.length) l.length (rowG hpC (l.take i ++ List.replicate (l.length - i) (⟨0, 0, 0, ⟨#[]⟩⟩ : Hp))) ∧ Below w.heap.size w wr) (fun iv _ => l.length - (intOf iv).toNat)
  case atStart => exact ⟨0, by omega, rfl, by simpa using HO.out, Below.grown (Below.refl _ _) hg0 (Nat.le_refl _) (by intro k hk; cases hk)⟩
  case round =>
    obtain ⟨i, hi, rfl, hown, hbel⟩ := hrel
    by_cases hlt : i < l.length
    · have k1 : (i : Int) < (l.length : Int) := by omega
      obtain ⟨b, o, rfl, hb, h1⟩ := HA.out i hlt
      have x0 : wr.cell? ⟨b, o + i * 4, none⟩ = some (.int .i64 l[i].k) := (hbel.cell (p := ⟨b, o + i * 4 + 0, none⟩) hb).trans (h1 0 (by omega))
      have x1 : wr.cell? ⟨b, o + i * 4 + 1, none⟩ = some (.int .i64 l[i].i) := (hbel.cell (p := ⟨b, o + i * 4 + 1, none⟩) hb).trans (h1 1 (by omega))
      have x2 : wr.cell? ⟨b, o + i * 4 + 2, none⟩ = some (.int .i64 l[i].a) := (hbel.cell (p := ⟨b, o + i * 4 + 2, none⟩) hb).trans (h1 2 (by omega))
      have x3 : wr.cell? ⟨b, o + i * 4 + 3, none⟩ = some (.string l[i].v) := (hbel.cell (p := ⟨b, o + i * 4 + 3, none⟩) hb).trans (h1 3 (by omega))
      have cc := hide1 (fun w => toHappen_any l[i] w)
      generalize hs : l[i] = s at *
      have HS := hide1 hs
      clear h1 hs
      have HO1 := hide1 hown
      clear hown
      skip
      go_wp2_with fail
      refine (cc.out _).mono ?_
      rintro e w2 ⟨rfl, hb2⟩
      have o2 := own_kept HO1.out hb2
      obtain ⟨u0, y0⟩ := own_some o2 (i * 4) (by omega)
      obtain ⟨u1, y1⟩ := own_some o2 (i * 4 + 1) (by omega)
      obtain ⟨u2, y2⟩ := own_some o2 (i * 4 + 2) (by omega)
      obtain ⟨u3, y3⟩ := own_some o2 (i * 4 + 3) (by omega)
      have f0 := o2.frozenAt (i * 4)
      have f1 := o2.frozenAt (i * 4 + 1)
      have f2 := o2.frozenAt (i * 4 + 2)
      have f3 := o2.frozenAt (i * 4 + 3)
      have O2 := hide1 o2
      clear o2
      go_wp2
      go_roundw
      case rel =>
        refine ⟨i + 1, by omega, by go_num, ?_, below_putG (hpC s) (i * 4) (hbel.trans (hb2.mono hbel.size)) (Nat.le_refl _)⟩
        rw [← fillG l (⟨0, 0, 0, ⟨#[]⟩⟩ : Hp) s i hlt HS.out, rowG_set hpC 4 encH.len _ _ _ (by simp; omega)]
        exact own_putG (hpC s) (i * 4) O2.out
      case measure => simp [intOf]; omega
    · obtain rfl : i = l.length := by omega
      go_wp2
      go_ret
      exact ⟨_, _, rfl, by simpa using hown, hbel⟩

set_option maxRecDepth 100000 in
set_option maxHeartbeats 400000 in
theorem szHappenS_any (ao : Option Addr) (l : List Hp) (ca left0 : Nat) (w : World) (hl0 : left0 ≤ 1048576) (hl : l.length ≤ 9223372036854775807) (hA : RdG hpC 4 w ao l) (hS : ∀ i (h : i < l.length), l[i].v.size ≤ 9223372036854775807) :
    Calls Try.prog 27 #[.slice ao l.length ca, .int .i64 (left0 : Int)] w fun e w' => (e = .returned (.int .i64 (-1)) ∨ ∃ r : Nat, e = .returned (.int .i64 (r : Int)) ∧ r ≤ left0 ∧ l.length ≤ left0 ∧ ∀ i (h : i < l.length), l[i].v.size ≤ 1048576) ∧ Below w.heap.size w w' := by
  by_cases c0 : l.length ≤ left0
  · have q0 : decide ((left0 : Int) - (l.length : Int) < 0) = false := by simp; omega
    have HA := hide1 hA
    have HS := hide1 hS
    clear hA hS
    go_enter Try.func27, Try.ntmps27
    go_wp2
    go_loopw [1, 5] (fun lv iv wr => ∃ i left : Nat, i ≤ l.length ∧ iv = .int .i64 (i : Int) ∧ lv = .int .i64 (left : Int) ∧ left ≤ left0 ∧ Hid (∀ j (h : j < l.length), j < i → l[j].v.size ≤ 1048576) ∧ Below w.heap.size w wr) (fun _ iv _ => l.length - (intOf iv).toNat)
    case atStart => exact ⟨0, left0 - l.length, by omega, rfl, by rw [show ((left0 - l.length : Nat) : Int) = (left0 : Int) - (l.length : Int) by omega], by omega, fun j _ h => by omega, Below.refl _ _⟩
    case round =>
      obtain ⟨i, left, hi, rfl, rfl, hle, hdone, hbel⟩ := hrel
      by_cases hlt : i < l.length
      · have k1 : (i : Int) < (l.length : Int) := by omega
        obtain ⟨b, o, rfl, hb, h1⟩ := HA.out i hlt
        have x0 : wr.cell? ⟨b, o + i * 4, none⟩ = some (.int .i64 l[i].k) := (hbel.cell (p := ⟨b, o + i * 4 + 0, none⟩) hb).trans (h1 0 (by omega))
        have x1 : wr.cell? ⟨b, o + i * 4 + 1, none⟩ = some (.int .i64 l[i].i) := (hbel.cell (p := ⟨b, o + i * 4 + 1, none⟩) hb).trans (h1 1 (by omega))
        have x2 : wr.cell? ⟨b, o + i * 4 + 2, none⟩ = some (.int .i64 l[i].a) := (hbel.cell (p := ⟨b, o + i * 4 + 2, none⟩) hb).trans (h1 2 (by omega))
        have x3 : wr.cell? ⟨b, o + i * 4 + 3, none⟩ = some (.string l[i].v) := (hbel.cell (p := ⟨b, o + i * 4 + 3, none⟩) hb).trans (h1 3 (by omega))
        have m1 := HS.out i hlt
        have cc := hide1 (fun w => szHappen_any l[i] left w m1 (by omega))
        generalize hs : l[i] = s at *
        have HSS := hide1 hs
        clear h1 hs
        skip
        go_wp2_with fail
        refine (cc.out _).mono ?_
        rintro e w2 ⟨hr, hb2⟩
        have B2 := hide1 (hbel.trans (hb2.mono hbel.size))
        rcases hr with rfl | ⟨r, rfl, hr⟩
        · go_wp2
          go_ret
          exact ⟨.inl rfl, B2.out⟩
        · have q : decide ((r : Int) < 0) = false := by simp
          have HR := hide1 hr
          have hr2 : r ≤ left0 := by omega
          clear hr
          go_wp2
          go_roundw
          case rel => exact ⟨i + 1, r, by omega, by go_num, rfl, hr2, (fun j h hj => by
            by_cases e : j < i
            · exact hdone.out j h e
            · obtain rfl : j = i := by omega
              have := HR.out
              rw [HSS.out]
              omega), B2.out⟩
          case measure => simp [intOf]; omega
      · go_wp2
        go_ret
        exact ⟨.inr ⟨left, rfl, hle, c0, fun j h => hdone.out j h (by omega)⟩, hbel⟩
  · have q0 : decide ((left0 : Int) - (l.length : Int) < 0) = true := by simp; omega
    clear hA hS
    go_enter Try.func27, Try.ntmps27
    go_wp2
    go_ret
    exact ⟨.inl rfl, Below.refl _ _⟩

set_option maxRecDepth 100000 in
set_option maxHeartbeats 400000 in
theorem eqHappenS_same (a b : Option Addr) (l : List Hp) (ca cb : Nat) (w : World) (hl : l.length ≤ 1048576) (ha : RdG hpC 4 w a l) (hb : RdG hpC 4 w b l) :
    Calls Try.prog 30 #[.slice a l.length ca, .slice b l.length cb] w fun e w' => e = .returned (.bool true) ∧ Below w.heap.size w w' := by
  have HA := hide1 ha
  have HB := hide1 hb
  clear ha hb
  have q0 : ((l.length : Int) != (l.length : Int)) = false := by simp
  go_enter Try.func30, Try.ntmps30
  go_wp2
  go_loopw [5] (fun iv wr => ∃ i : Nat, i ≤ l.length ∧ iv = .int .i64 (i : Int) ∧ Below w.heap.size w wr) (fun iv _ => l.length - (intOf iv).toNat)
  case atStart => exact ⟨0, by omega, rfl, Below.refl _ _⟩
  case round =>
    obtain ⟨i, hi, rfl, hbel⟩ := hrel
    by_cases hlt : i < l.length
    · have k1 : (i : Int) < (l.length : Int) := by omega
      obtain ⟨b1, o1, rfl, hg1, h1⟩ := HA.out i hlt
      obtain ⟨b2, o2, rfl, hg2, h2⟩ := HB.out i hlt
      have x0 : wr.cell? ⟨b1, o1 + i * 4, none⟩ = some (.int .i64 l[i].k) := (hbel.cell (p := ⟨b1, o1 + i * 4 + 0, none⟩) hg1).trans (h1 0 (by omega))
      have x1 : wr.cell? ⟨b1, o1 + i * 4 + 1, none⟩ = some (.int .i64 l[i].i) := (hbel.cell (p := ⟨b1, o1 + i * 4 + 1, none⟩) hg1).trans (h1 1 (by omega))
      have x2 : wr.cell? ⟨b1, o1 + i * 4 + 2, none⟩ = some (.int .i64 l[i].a) := (hbel.cell (p := ⟨b1, o1 + i * 4 + 2, none⟩) hg1).trans (h1 2 (by omega))
      have x3 : wr.cell? ⟨b1, o1 + i * 4 + 3, none⟩ = some (.string l[i].v) := (hbel.cell (p := ⟨b1, o1 + i * 4 + 3, none⟩) hg1).trans (h1 3 (by omega))
      have y0 : wr.cell? ⟨b2, o2 + i * 4, none⟩ = some (.int .i64 l[i].k) := (hbel.cell (p := ⟨b2, o2 + i * 4 + 0, none⟩) hg2).trans (h2 0 (by omega))
      have y1 : wr.cell? ⟨b2, o2 + i * 4 + 1, none⟩ = some (.int .i64 l[i].i) := (hbel.cell (p := ⟨b2, o2 + i * 4 + 1, none⟩) hg2).trans (h2 1 (by omega))
      have y2 : wr.cell? ⟨b2, o2 + i * 4 + 2, none⟩ = some (.int .i64 l[i].a) := (hbel.cell (p := ⟨b2, o2 + i * 4 + 2, none⟩) hg2).trans (h2 2 (by omega))
      have y3 : wr.cell? ⟨b2, o2 + i * 4 + 3, none⟩ = some (.string l[i].v) := (hbel.cell (p := ⟨b2, o2 + i * 4 + 3, none⟩) hg2).trans (h2 3 (by omega))
      have cc := hide1 (fun w => eqHappen_same l[i] w)
      have hw1 : b1 < wr.heap.size := Nat.lt_of_lt_of_le hg1 hbel.size
      have hw2 : b2 < wr.heap.size := Nat.lt_of_lt_of_le hg2 hbel.size
      clear h1 h2
      generalize l[i] = s at *
      skip
      go_wp2
      go_region_held3 (fun w' => w'.cell? ⟨b1, o1 + i * 4, none⟩ = some (.int .i64 s.k) ∧ w'.cell? ⟨b1, o1 + i * 4 + 1, none⟩ = some (.int .i64 s.i) ∧ w'.cell? ⟨b1, o1 + i * 4 + 2, none⟩ = some (.int .i64 s.a) ∧ w'.cell? ⟨b1, o1 + i * 4 + 3, none⟩ = some (.string s.v) ∧ w'.cell? ⟨b2, o2 + i * 4, none⟩ = some (.int .i64 s.k) ∧ w'.cell? ⟨b2, o2 + i * 4 + 1, none⟩ = some (.int .i64 s.i) ∧ w'.cell? ⟨b2, o2 + i * 4 + 2, none⟩ = some (.int .i64 s.a) ∧ w'.cell? ⟨b2, o2 + i * 4 + 3, none⟩ = some (.string s.v)) (first | go_keep | exact ⟨x0, x1, x2, x3, y0, y1, y2, y3⟩ | exact ⟨(hb2.cell hw1).trans x0, (hb2.cell hw1).trans x1, (hb2.cell hw1).trans x2, (hb2.cell hw1).trans x3, (hb2.cell hw2).trans y0, (hb2.cell hw2).trans y1, (hb2.cell hw2).trans y2, (hb2.cell hw2).trans y3⟩) ((go_at_call 61; refine (cc.out _).mono ?_; rintro e w2 ⟨rfl, hb2⟩))
      go_wp2
      go_roundw
      case rel => exact ⟨i + 1, by omega, by go_num, hbel.trans ((Below.refl _ _).drew.trans (hb2.mono hbel.size))⟩
      case measure => simp [intOf]; omega
    · go_wp2
      go_ret
      exact ⟨rfl, hbel⟩

def wfHappen (s : Hp) : Prop := (-9223372036854775808 ≤ s.k ∧ s.k ≤ 9223372036854775807) ∧ (-9223372036854775808 ≤ s.i ∧ s.i ≤ 9223372036854775807) ∧ (-9223372036854775808 ≤ s.a ∧ s.a ≤ 9223372036854775807) ∧ s.v.size ≤ maxLen
set_option maxRecDepth 100000 in
theorem open_happenE {H : Type} {enc : TypeId × Value → H} {w : World} {base fuel : Nat} {sp : Nat → Bool} {held : Bool} {cs : List Value} {x : DataW H × List MemPlace} (h : DataW.trod enc Try.prog w base sp held fuel 92 cs = some x) :
    ∃ s : Hp, cs = hpC s ∧ wfHappen s := by
  obtain ⟨xs, n, _, _, hlen, hxl, hf⟩ := DataW.trod_struct Try.underlying92 h
  have hc : Try.prog.cellsOf 92 = 4 := by kernel_rfl
  rw [hc] at hlen
  match xs, hxl, cs, hlen with
  | [p0, p1, p2, p3], _, [v0, v1, v2, v3], _ =>
    have g0 := hf 0 _ rfl
    have g1 := hf 1 _ rfl
    have g2 := hf 2 _ rfl
    have g3 := hf 3 _ rfl
    have ci : Try.prog.cellsOf 3 = 1 := by kernel_rfl
    have cst : Try.prog.cellsOf 9 = 1 := by kernel_rfl
    simp [ci, cst] at g0 g1 g2 g3
    obtain ⟨n0, e0, _, w0⟩ := DataW.trod_int Try.underlying3 g0
    obtain ⟨n1, e1, _, w1⟩ := DataW.trod_int Try.underlying3 g1
    obtain ⟨n2, e2, _, w2⟩ := DataW.trod_int Try.underlying3 g2
    obtain ⟨s3, e3, _, w3⟩ := DataW.trod_string Try.underlying9 g3
    simp at e0 e1 e2 e3
    subst e0 e1 e2 e3
    exact ⟨⟨n0, n1, n2, s3⟩, rfl, bounds_i64 w0, bounds_i64 w1, bounds_i64 w2, w3⟩
instance : Inhabited Hp := ⟨(⟨0, 0, 0, ⟨#[]⟩⟩ : Hp)⟩
set_option maxRecDepth 100000 in
theorem open_happensE {H : Type} {enc : TypeId × Value → H} {w : World} {base fuel : Nat} {sp : Nat → Bool} {held : Bool} {cs : List Value} {x : DataW H × List MemPlace} (h : DataW.trod enc Try.prog w base sp held fuel 55 cs = some x) :
    ∃ (ao : Option Addr) (l : List Hp) (ca : Nat), cs = [.slice ao l.length ca] ∧ RdG hpC 4 w ao l ∧ l.length ≤ maxLen ∧ ∀ s ∈ l, wfHappen s := by
  rcases open_slice Try.underlying55 h with ⟨rfl, _⟩ | ⟨a, len, cap, m, n, D, Pl, rfl, hb, hl, hm, hmm, _, hx⟩
  · exact ⟨none, [], 0, rfl, RdG.nil _ _, Nat.zero_le _, fun i hi => by simp at hi⟩
  have hlm : len ≤ m := by rw [hmm]; split <;> omega
  have hc : Try.prog.cellsOf 92 = 4 := by kernel_rfl
  refine open_rowG (P := wfHappen) encH (by decide) (.inr (Nat.le_trans hl hm)) hlm (fun i hi => ?_)
  obtain ⟨cs', h1, h2⟩ := hx i hi
  rw [hc] at h1
  obtain ⟨_, hlen, hcell⟩ := World.cells?_some h1
  obtain ⟨s, rfl, hw⟩ := open_happenE h2
  exact ⟨s, hw, fun j hj => hcell j (by omega)⟩

end Go.Proofs.Ytgehdgmllilmgaa
