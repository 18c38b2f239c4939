/- The model's reader: its steps. -/
import Derived.Test.YtbkhhkknhbddeaaDoorMsU
import Derived.Test.YtbkhhkknhbddeaaDoorRdK
namespace Go.Proofs.YtbkhhkknhbddeaaDoor
open Go.RowKit
set_option linter.unusedVariables false

/-- The model's reader in memory. -/
def CurM (w : World) (C : Nat) (s : ByteArray) (p : Nat) (b : Bool) : Prop := Blk w C 62 [.string s, .int .i64 (p : Int), .bool b]
theorem CurM.at {w : World} {C : Nat} {s : ByteArray} {p : Nat} {b : Bool} (h : CurM w C s p b) (q : Nat) : CurM (w.setCell ⟨C, 1, none⟩ (.int .i64 (q : Int))) C s q b := Blk.set h 1 _
theorem CurM.bad {w : World} {C : Nat} {s : ByteArray} {p : Nat} {b : Bool} (h : CurM w C s p b) : CurM (w.setCell ⟨C, 2, none⟩ (.bool true)) C s p true := Blk.set h 2 _
theorem rdV_form (o : Option (Nat × Nat)) : ∃ (n j : Nat) (ok : Bool), rdV o = .tuple #[.int .i64 (n : Int), .int .i64 (j : Int), .bool ok] ∧ ((ok = true ∧ o = some (n, j)) ∨ (ok = false ∧ o = none)) := by
  cases o with
  | none => exact ⟨0, 0, false, rfl, .inr ⟨rfl, rfl⟩⟩
  | some r => exact ⟨r.1, r.2, true, rfl, .inl ⟨rfl, rfl⟩⟩
set_option maxRecDepth 100000 in
set_option maxHeartbeats 2000000 in
theorem l13Var_any (C : Nat) (s : ByteArray) (p : Nat) (b : Bool) (w : World) (hs : s.size ≤ 1048576) (hp : p ≤ s.size) (hB : CurM w C s p b) :
    Calls Tryd.prog 39 #[.pointer (some ⟨C, 0, none⟩)] w fun e w' => e = .returned (.int .i64 ((cVar s (p, b)).1 : Int)) ∧ CurM w' C s (cVar s (p, b)).2.1 (cVar s (p, b)).2.2 ∧ (cVar s (p, b)).2.1 ≤ s.size ∧ w.grownBy w' (some C) := by
  have HB := hide1 hB
  have CV := hide1 (fun v => specReadVar_any s (p : Int) v hs)
  obtain ⟨n, j, ok, hv, hok⟩ := rdV_form (rdF (byt s) s.size 5 p 0 1)
  rw [readVarV_in hp, hv] at CV
  have g0 : ∀ n : Gr w, n.w.cell? ⟨C, 0, none⟩ = some (.string s) := fun n => n.cell (hB.cell 0)
  have g1 : ∀ n : Gr w, n.w.cell? ⟨C, 1, none⟩ = some (.int .i64 (p : Int)) := fun n => n.cell (hB.cell 1)
  have RES : ∃ (r q : Nat) (d : Bool), cVar s (p, b) = (r, q, d) ∧ q ≤ s.size ∧ ((b = true ∧ r = 0 ∧ q = p ∧ d = true) ∨ (b = false ∧ ok = false ∧ r = 0 ∧ q = p ∧ d = true) ∨ (b = false ∧ ok = true ∧ r = n ∧ q = j ∧ d = false)) := by
    unfold cVar
    cases b with
    | true => exact ⟨0, p, true, by simp, hp, .inl ⟨rfl, rfl, rfl, rfl⟩⟩
    | false =>
      rcases hok with ⟨h1, h2⟩ | ⟨h1, h2⟩
      · exact ⟨n, j, false, by simp [h2], pVar_le (show pVar s p = some (n, j) from h2), .inr (.inr ⟨rfl, h1, rfl, rfl, rfl⟩)⟩
      · exact ⟨0, p, true, by simp [h2], hp, .inr (.inl ⟨rfl, h1, rfl, rfl, rfl⟩)⟩
  obtain ⟨r, q, d, he, hq, hcase⟩ := RES
  rw [he]
  have HC := hide1 hcase
  clear hB hv hok he hcase
  go_enter Tryd.func39, Tryd.ntmps39
  go_upto_region 1 with fail
  refine wp_region_grown (by kernel_rfl) (by kernel_rfl) ?_
  (repeat (first | go_big_quiet_skip | (go_big_quiet_want; go_big_quiet_op; first | go_big_quiet_on | go_big_quiet_call ((go_at_call 63; exact quiet_grown (CV.out _))))))
  refine wpQuiet_nil ?_
  rintro w1 ⟨n1, rfl⟩
  have B1 := hide1 n1.b
  have K1 := hide1 (show CurM n1.w C s p b from HB.out.below n1.b HB.out.lt)
  clear g0 g1
  generalize n1.w = w1 at B1 K1 ⊢
  have y1 : w1.cell? ⟨C, 1, none⟩ = some (.int .i64 (p : Int)) := K1.out.cell 1
  have y2 : w1.cell? ⟨C, 2, none⟩ = some (.bool b) := K1.out.cell 2
  have yf : ∀ j, w1.frozen? ⟨C, j, none⟩ = false := fun j => K1.out.froz j
  rcases HC.out with ⟨rfl, rfl, rfl, rfl⟩ | ⟨rfl, rfl, rfl, rfl, rfl⟩ | ⟨rfl, rfl, rfl, rfl, rfl⟩
  · go_wp2
    go_ret
    first | exact ⟨rfl, K1.out.bad, hq, gset (gnew B1.out) 2 _⟩ | exact ⟨rfl, K1.out.bad, gset (gnew B1.out) 2 _⟩
  · go_wp2
    go_ret
    first | exact ⟨rfl, K1.out.bad, hq, gset (gnew B1.out) 2 _⟩ | exact ⟨rfl, K1.out.bad, gset (gnew B1.out) 2 _⟩
  · go_wp2
    go_ret
    first | exact ⟨rfl, K1.out.at _, hq, gset (gnew B1.out) 1 _⟩ | exact ⟨rfl, K1.out.at _, gset (gnew B1.out) 1 _⟩
set_option maxRecDepth 100000 in
set_option maxHeartbeats 2000000 in
theorem l13Take_any (C : Nat) (s : ByteArray) (p : Nat) (b : Bool) (n : Nat) (w : World) (hs : s.size ≤ 1048576) (hp : p ≤ s.size) (hn : n ≤ 1000000000) (hB : CurM w C s p b) :
    Calls Tryd.prog 40 #[.pointer (some ⟨C, 0, none⟩), .int .i64 (n : Int)] w fun e w' => e = .returned (.string (cTake s (p, b) n).1) ∧ CurM w' C s (cTake s (p, b) n).2.1 (cTake s (p, b) n).2.2 ∧ (cTake s (p, b) n).2.1 ≤ s.size ∧ w.grownBy w' (some C) := by
  have HB := hide1 hB
  have y0 : w.cell? ⟨C, 0, none⟩ = some (.string s) := hB.cell 0
  have y1 : w.cell? ⟨C, 1, none⟩ = some (.int .i64 (p : Int)) := hB.cell 1
  have y2 : w.cell? ⟨C, 2, none⟩ = some (.bool b) := hB.cell 2
  clear hB
  have kw : IntKind.i64.wrap ((s.size : Int) - (p : Int)) = (s.size : Int) - (p : Int) := IntWalk.i64_in _ ⟨by omega, by omega⟩
  cases b with
  | true =>
    have RES : cTake s (p, true) n = (⟨#[]⟩, p, true) := by unfold cTake; rw [if_pos (.inl rfl)]
    rw [RES]
    clear RES
    go_enter Tryd.func40, Tryd.ntmps40
    go_upto_region 1 with fail
    go_quiet (fail)
    have K1 := hide1 (show CurM (w.drewN nq) C s p true from HB.out.below (below_drewN (Below.refl _ _) _) HB.out.lt)
    have B1 := hide1 (below_drewN (Below.refl w.heap.size w) nq)
    generalize (w.drewN nq) = w1 at K1 B1 ⊢
    clear y0 y1 y2
    have y2 : w1.cell? ⟨C, 2, none⟩ = some (.bool true) := K1.out.cell 2
    have yf : ∀ j, w1.frozen? ⟨C, j, none⟩ = false := fun j => K1.out.froz j
    go_wp2
    go_ret
    first | exact ⟨rfl, K1.out.bad, hp, gset (gnew B1.out) 2 _⟩ | exact ⟨rfl, K1.out.bad, gset (gnew B1.out) 2 _⟩
  | false =>
    by_cases c : s.size - p < n
    · have RES : cTake s (p, false) n = (⟨#[]⟩, p, true) := by unfold cTake; rw [if_pos (.inr c)]
      rw [RES]
      have q1 : (s.size : Int) - (p : Int) < (n : Int) := by omega
      have q2 : decide ((s.size : Int) - (p : Int) < (n : Int)) = true := decide_eq_true q1
      clear RES c
      go_enter Tryd.func40, Tryd.ntmps40
      go_upto_region 1 with fail
      go_quiet (fail)
      have K1 := hide1 (show CurM (w.drewN nq) C s p false from HB.out.below (below_drewN (Below.refl _ _) _) HB.out.lt)
      have B1 := hide1 (below_drewN (Below.refl w.heap.size w) nq)
      generalize (w.drewN nq) = w1 at K1 B1 ⊢
      clear y0 y1 y2
      have y2 : w1.cell? ⟨C, 2, none⟩ = some (.bool false) := K1.out.cell 2
      have yf : ∀ j, w1.frozen? ⟨C, j, none⟩ = false := fun j => K1.out.froz j
      go_wp2
      go_ret
      first | exact ⟨rfl, K1.out.bad, hp, gset (gnew B1.out) 2 _⟩ | exact ⟨rfl, K1.out.bad, gset (gnew B1.out) 2 _⟩
    · have RES : cTake s (p, false) n = (s.extract p (p + n), p + n, false) := by unfold cTake; rw [if_neg (by simp; omega)]
      rw [RES]
      have q1 : ¬ ((s.size : Int) - (p : Int) < (n : Int)) := by omega
      have q2 : decide ((s.size : Int) - (p : Int) < (n : Int)) = false := decide_eq_false q1
      have hpn : p + n ≤ s.size := by omega
      clear RES c
      go_enter Tryd.func40, Tryd.ntmps40
      go_upto_region 1 with fail
      go_quiet (fail)
      have K1 := hide1 (show CurM (w.drewN nq) C s p false from HB.out.below (below_drewN (Below.refl _ _) _) HB.out.lt)
      have B1 := hide1 (below_drewN (Below.refl w.heap.size w) nq)
      generalize (w.drewN nq) = w1 at K1 B1 ⊢
      clear y0 y1 y2
      have y1 : w1.cell? ⟨C, 1, none⟩ = some (.int .i64 (p : Int)) := K1.out.cell 1
      have yf : ∀ j, w1.frozen? ⟨C, j, none⟩ = false := fun j => K1.out.froz j
      have K2 := hide1 (show CurM (w1.setCell ⟨C, 1, none⟩ (.int .i64 ((p : Int) + (n : Int)))) C s (p + n) false from K1.out.at (p + n))
      have G2 := hide1 (show w.grownBy (w1.setCell ⟨C, 1, none⟩ (.int .i64 ((p : Int) + (n : Int)))) (some C) from gset (gnew B1.out) 1 _)
      go_upto_region 5 with fail
      generalize (w1.setCell ⟨C, 1, none⟩ (.int .i64 ((p : Int) + (n : Int)))) = w2 at K2 G2 ⊢
      clear y1 yf
      have y0 : w2.cell? ⟨C, 0, none⟩ = some (.string s) := K2.out.cell 0
      have y1 : w2.cell? ⟨C, 1, none⟩ = some (.int .i64 ((p : Int) + (n : Int))) := K2.out.cell 1
      have k3 : IntKind.i64.wrap ((p : Int) + (n : Int) - (n : Int)) = (p : Int) := by rw [Int.add_sub_cancel]; exact IntWalk.i64_in _ ⟨by omega, by omega⟩
      have k4 : (0 : Int) ≤ (p : Int) := by omega
      have k5 : (p : Int) ≤ (p : Int) + (n : Int) := by omega
      have k6 : (p : Int) + (n : Int) ≤ (s.size : Int) := by omega
      have k7 : ((p : Int) + (n : Int)).toNat = p + n := by omega
      go_quiet (fail)
      go_wp2
      go_ret
      first | exact ⟨rfl, K2.out.below (below_drewN (Below.refl _ _) _) K2.out.lt, hpn, G2.out.trans (gnew (below_drewN (Below.refl _ _) _))⟩ | exact ⟨rfl, K2.out.below (below_drewN (Below.refl _ _) _) K2.out.lt, G2.out.trans (gnew (below_drewN (Below.refl _ _) _))⟩
set_option maxRecDepth 100000 in
set_option maxHeartbeats 2000000 in
theorem l13One_any (C : Nat) (s : ByteArray) (p : Nat) (b : Bool) (w : World) (hs : s.size ≤ 1048576) (hp : p ≤ s.size) (hB : CurM w C s p b) :
    Calls Tryd.prog 38 #[.pointer (some ⟨C, 0, none⟩)] w fun e w' => e = .returned (.int .i64 ((cOne s (p, b)).1 : Int)) ∧ CurM w' C s (cOne s (p, b)).2.1 (cOne s (p, b)).2.2 ∧ (cOne s (p, b)).2.1 ≤ s.size ∧ w.grownBy w' (some C) := by
  have CT := hide1 (l13Take_any C s p b 1 w hs hp (by omega) hB)
  clear hB
  by_cases c : b = true ∨ s.size - p < 1
  · have RES : cOne s (p, b) = (0, p, true) := by unfold cOne; rw [if_pos c]
    have RES2 : cTake s (p, b) 1 = (⟨#[]⟩, p, true) := by unfold cTake; rw [if_pos c]
    rw [RES2] at CT
    rw [RES]
    clear RES RES2 c
    go_enter Tryd.func38, Tryd.ntmps38
    go_wp2_with fail
    refine CT.out.mono ?_
    rintro e w1 ⟨rfl, hk, _, hg⟩
    have y2 : w1.cell? ⟨C, 2, none⟩ = some (.bool true) := hk.cell 2
    have HK := hide1 hk
    have HG := hide1 hg
    clear hk hg
    go_wp2
    go_ret
    first | exact ⟨rfl, HK.out, hp, HG.out⟩ | exact ⟨rfl, HK.out, HG.out⟩
  · have RES : cOne s (p, b) = (byt s p, p + 1, false) := by unfold cOne; rw [if_neg c]
    have RES2 : cTake s (p, b) 1 = (s.extract p (p + 1), p + 1, false) := by unfold cTake; rw [if_neg c]
    rw [RES2] at CT
    rw [RES]
    have hpl : p < s.size := by simp at c; omega
    have hx : (s.extract p (p + 1)).size = 1 := by rw [ByteArray.size_extract]; omega
    have hb0 : byt (s.extract p (p + 1)) 0 = byt s p := by
      unfold byt
      rw [ByteArray.data_extract, Array.toList_extract, List.extract_eq_take_drop, Nat.add_sub_cancel_left, List.getElem?_take, if_pos (by omega), List.getElem?_drop, Nat.add_zero]
    have hb := get_byt (s.extract p (p + 1))
    have HB0 := hide1 hb0
    generalize s.extract p (p + 1) = X at CT hx hb HB0
    have k1 : (0 : Int) < (X.size : Int) := by omega
    have hxl : 0 < X.size := by omega
    have hle := byt_le X 0
    clear RES RES2 c hb0
    go_enter Tryd.func38, Tryd.ntmps38
    go_wp2_with fail
    refine CT.out.mono ?_
    rintro e w1 ⟨rfl, hk, _, hg⟩
    have y2 : w1.cell? ⟨C, 2, none⟩ = some (.bool false) := hk.cell 2
    have HK := hide1 hk
    have HG := hide1 hg
    clear hk hg
    go_wp2
    go_ret
    exact ⟨by rw [← HB0.out]; rfl, HK.out, by show p + 1 ≤ s.size; omega, HG.out⟩
end Go.Proofs.YtbkhhkknhbddeaaDoor
