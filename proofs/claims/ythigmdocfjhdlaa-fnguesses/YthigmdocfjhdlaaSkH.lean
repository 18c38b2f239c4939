/- What the program does on its grid: a key's count found, counted, guessed, all halved. -/
import Derived.Test.YthigmdocfjhdlaaSkG
namespace Go.Proofs.Ythigmdocfjhdlaa
open Go.RowKit

theorem mod16 (x : Nat) : ((x : Nat) : Int).tmod 16 = ((x % 16 : Nat) : Int) := by rw [Int.tmod_eq_emod_of_nonneg (by omega)]; omega

set_option maxRecDepth 100000 in
set_option maxHeartbeats 1000000 in
theorem countOf_any (g : Nat) (key : ByteArray) (row : Nat) (w : World) (hs : key.size ≤ 1048576) (hr : row < 3) :
    Calls Try.prog 30 #[.pointer (some ⟨g, 0, none⟩), .string key, .int .i64 (row : Int)] w fun e w' => e = .returned (.pointer (some ⟨g, atK key row, none⟩)) ∧ Below w.heap.size w w' := by
  have CH := hide1 (fun w => (implHash_any key (row : Int) w hs (by omega) (by omega)).mono (fun e w' h => (⟨h.1, h.2.symm⟩ : _ ∧ w' = w)))
  obtain ⟨x, hx⟩ : ∃ x, hashN key (row : Int) = x := ⟨_, rfl⟩
  rw [hx] at CH
  have HX : Hid (atK key row = row * 16 + x % 16) := by show atK key row = _; rw [atK, hx]
  have e1 := mod16 x
  have k1 : x % 16 < 16 := by omega
  have xl : x < 4294967296 := by rw [← hx]; exact hashN_lt _ _
  obtain ⟨y, hy⟩ : ∃ y, x % 16 = y := ⟨_, rfl⟩
  rw [hy] at e1 k1 HX
  clear hx hy
  go_enter Try.func30, Try.ntmps30
  go_wp2_with fail
  go_quiet ((go_at_call 37; exact Calls.quiet_of_same (CH.out _)))
  go_wp2
  go_ret
  exact ⟨by rw [HX.out]; rfl, below_drewN (Below.refl _ _) _⟩

set_option maxRecDepth 100000 in
set_option maxHeartbeats 1000000 in
theorem add_any (g : Nat) (l : List Int) (ad : Int) (key : ByteArray) (w : World) (hs : key.size ≤ 1048576) (hl : l.length = 48) (h15 : InK15 l) (hG : Grd w g l ad) :
    Calls Try.prog 22 #[.pointer (some ⟨g, 0, none⟩), .string key] w fun e w' => e = .returned (.tuple #[]) ∧ Grd w' g (addK l key 3) ad ∧ w.grownBy w' (some g) := by
  have CC := hide1 (fun (r : Nat) (hr : r < 3) w => countOf_any g key r w hs hr)
  have HG := hide1 hG
  have HL := hide1 hl
  have H15 := hide1 h15
  clear hG hl h15
  go_enter Try.func22, Try.ntmps22
  go_wp2
  go_loopw [6] (fun iv wr => ∃ r : Nat, r ≤ 3 ∧ iv = .int .i64 (r : Int) ∧ Hid (Grd wr g (addK l key r) ad) ∧ Hid (w.grownBy wr (some g))) (fun iv _ => 3 - (intOf iv).toNat)
  case atStart => exact ⟨0, by omega, rfl, HG, gnew (Below.refl _ _)⟩
  case round =>
    obtain ⟨r, hr, rfl, hK, hg⟩ := hrel
    by_cases hlt : r < 3
    · have k1 : (r : Int) < 3 := by omega
      go_wp2_with fail
      refine (CC.out r hlt _).mono ?_
      rintro e w2 ⟨rfl, hb2⟩
      have K2 := hide1 (hK.out.later hb2)
      have G2 := hide1 (gtrans hg.out (gnew hb2))
      have ha := atK_lt key r hlt
      have hlen : Hid ((addK l key r).length = 48) := hide1 (by rw [addK_length]; exact HL.out)
      have x0 := K2.out.cell (atK key r) (by rw [hlen.out]; exact ha)
      have x1 := K2.out.froz (atK key r)
      have hc := (H15.out.add key r).g (atK key r)
      have HB : Hid (addK l key (r + 1) = (addK l key r).set (atK key r) (min (gK (addK l key r) (atK key r) + 1) 15)) := hide1 rfl
      generalize hs' : gK (addK l key r) (atK key r) = s at *
      generalize atK key r = k at *
      have m1 : (if 15 < s + 1 then 15 else s + 1) = min (s + 1) 15 := by split <;> omega
      have c1 := hc.1
      have c2 := hc.2
      clear hb2 hc hs'
      go_wp2
      go_roundw
      case rel =>
        refine ⟨r + 1, by omega, by go_num, ?_, gset G2.out k _⟩
        show Grd _ g (addK l key (r + 1)) ad
        rw [HB.out]
        have st := K2.out.set k (by rw [hlen.out]; exact ha) (min (s + 1) 15)
        first | exact st | (rw [← m1] at st ⊢; exact st)
      case measure => simp [intOf]; omega
    · obtain rfl : r = 3 := by omega
      go_wp2
      go_returns
      exact ⟨rfl, hK.out, hg.out⟩

set_option maxRecDepth 100000 in
set_option maxHeartbeats 1000000 in
theorem guess_any (g : Nat) (l : List Int) (ad : Int) (key : ByteArray) (w : World) (hs : key.size ≤ 1048576) (hl : l.length = 48) (hG : Grd w g l ad) :
    Calls Try.prog 24 #[.pointer (some ⟨g, 0, none⟩), .string key] w fun e w' => e = .returned (.int .i64 (leastK l key 3)) ∧ Below w.heap.size w w' := by
  have CC := hide1 (fun (r : Nat) (hr : r < 3) w => countOf_any g key r w hs hr)
  have HG := hide1 hG
  have HL := hide1 hl
  clear hG hl
  go_enter Try.func24, Try.ntmps24
  go_wp2
  go_loopw [5, 7] (fun v iv wr => ∃ (r : Nat) (z : Int), r ≤ 3 ∧ iv = .int .i64 (r : Int) ∧ v = .int .i64 z ∧ Hid (z = leastK l key r) ∧ Hid (Below w.heap.size w wr)) (fun _ iv _ => 3 - (intOf iv).toNat)
  case atStart => exact ⟨0, 15, by omega, rfl, rfl, rfl, Below.refl _ _⟩
  case round =>
    obtain ⟨r, z, hr, rfl, rfl, hz, hb⟩ := hrel
    by_cases hlt : r < 3
    · have k1 : (r : Int) < 3 := by omega
      go_wp2_with fail
      refine (CC.out r hlt _).mono ?_
      rintro e w2 ⟨rfl, hb2⟩
      have B2 := hide1 (hb.out.trans (hb2.mono hb.out.size))
      have ha := atK_lt key r hlt
      have x0 := (HG.out.later B2.out).cell (atK key r) (by rw [HL.out]; exact ha)
      have HB : Hid (leastK l key (r + 1) = min (leastK l key r) (gK l (atK key r))) := hide1 rfl
      generalize gK l (atK key r) = s at *
      generalize atK key r = k at *
      have m1 : (if s < z then s else z) = min z s := by split <;> omega
      have M1 := hide1 m1
      clear hb2
      go_wp2
      go_roundw
      case rel =>
        refine ⟨r + 1, min z s, by omega, by go_num, ?_, by rw [HB.out, ← hz.out]; exact hide1 rfl, B2.out⟩
        first | rfl | (rw [← M1.out]) | (congr 1; omega)
      case measure => simp [intOf]; omega
    · obtain rfl : r = 3 := by omega
      go_wp2
      go_ret
      exact ⟨by rw [← hz.out]; rfl, hb.out⟩

/-- Halved, the first places. -/
def halfI (l : List Int) (i : Nat) : List Int := (halfK l).take i ++ l.drop i
theorem halfI_length (l : List Int) (i : Nat) (hi : i ≤ l.length) : (halfI l i).length = l.length := by
  unfold halfI
  rw [List.length_append, List.length_take, List.length_drop, halfK_length]
  omega
theorem halfI_next (l : List Int) (i : Nat) (hi : i < l.length) : (halfI l i).set i (gK l i / 2) = halfI l (i + 1) := by
  have hh : i < (halfK l).length := by rw [halfK_length]; exact hi
  have ht : ((halfK l).take i).length = i := by rw [List.length_take]; omega
  unfold halfI
  rw [List.set_append_right _ _ (by omega), ht, Nat.sub_self, List.drop_eq_getElem_cons hi, List.set_cons_zero, List.take_succ_eq_append_getElem hh, List.append_assoc]
  simp [halfK, gK, hi]
theorem halfI_at (l : List Int) (i : Nat) (hi : i < l.length) : gK (halfI l i) i = gK l i := by
  have ht : ((halfK l).take i).length = i := by rw [List.length_take, halfK_length]; omega
  unfold gK halfI
  rw [List.getD_eq_getElem?_getD, List.getElem?_append_right (by omega), ht, Nat.sub_self, List.getElem?_drop, Nat.add_zero, List.getD_eq_getElem?_getD]
theorem halfI_all (l : List Int) (i : Nat) (hi : l.length ≤ i) : halfI l i = halfK l := by
  unfold halfI
  rw [List.drop_eq_nil_of_le hi, List.append_nil, List.take_of_length_le (by rw [halfK_length]; exact hi)]
theorem quo2 {s : Int} (h : 0 ≤ s) : s.tdiv 2 = s / 2 := Int.tdiv_eq_ediv_of_nonneg h

set_option maxRecDepth 100000 in
set_option maxHeartbeats 2000000 in
theorem halve_any (g : Nat) (l : List Int) (ad : Int) (w : World) (hl : l.length = 48) (h15 : InK15 l) (hG : Grd w g l ad) :
    Calls Try.prog 23 #[.pointer (some ⟨g, 0, none⟩)] w fun e w' => e = .returned (.tuple #[]) ∧ Grd w' g (halfK l) ad ∧ w.grownBy w' (some g) := by
  have HG := hide1 hG
  have HL := hide1 hl
  have H15 := hide1 h15
  clear hG hl h15
  go_enter Try.func23, Try.ntmps23
  go_wp2
  go_loopw [4] (fun iv wr => ∃ r : Nat, r ≤ 3 ∧ iv = .int .i64 (r : Int) ∧ Hid (Grd wr g (halfI l (r * 16)) ad) ∧ Hid (w.grownBy wr (some g))) (fun iv _ => 3 - (intOf iv).toNat)
  case atStart => exact ⟨0, by omega, rfl, HG, gnew (Below.refl _ _)⟩
  case round =>
    obtain ⟨r, hr, rfl, hK, hg⟩ := hrel
    by_cases hlt : r < 3
    · have k1 : (r : Int) < 3 := by omega
      go_wp2
      go_loopw [7] (fun iv wr => ∃ p : Nat, p ≤ 16 ∧ iv = .int .i64 (p : Int) ∧ Hid (Grd wr g (halfI l (r * 16 + p)) ad) ∧ Hid (w.grownBy wr (some g))) (fun iv _ => 16 - (intOf iv).toNat)
      case atStart => exact ⟨0, by omega, rfl, hK, hg⟩
      case round =>
        obtain ⟨p, hp, rfl, hK, hg⟩ := hrel
        by_cases hlt2 : p < 16
        · have k2 : (p : Int) < 16 := by omega
          have hi : Hid (r * 16 + p < l.length) := hide1 (by rw [HL.out]; omega)
          have hlen : Hid ((halfI l (r * 16 + p)).length = 48) := hide1 (by rw [halfI_length l _ (Nat.le_of_lt hi.out)]; exact HL.out)
          have x0 := hK.out.cell (r * 16 + p) (by rw [hlen.out]; omega)
          have x1 := hK.out.froz (r * 16 + p)
          rw [halfI_at l _ hi.out] at x0
          have HN := hide1 (halfI_next l _ hi.out)
          have hc := H15.out.g (r * 16 + p)
          generalize gK l (r * 16 + p) = s at *
          have q2 := quo2 hc.1
          have c1 := hc.1
          have c2 := hc.2
          clear hc
          go_wp2
          go_region
          all_goals
            go_wp2
            go_roundw
            case rel =>
              refine ⟨p + 1, by omega, by go_num, ?_, ?_⟩
              · show Grd _ g (halfI l (r * 16 + (p + 1))) ad
                rw [show r * 16 + (p + 1) = r * 16 + p + 1 by omega, ← HN.out]
                exact hK.out.set (r * 16 + p) (by rw [hlen.out]; omega) (s / 2)
              · exact gtrans (gset hg.out (r * 16 + p) (.int .i64 (s / 2))) (gnew (Below.refl _ _).drew)
            case measure => simp [intOf]; omega
        · obtain rfl : p = 16 := by omega
          go_wp2
          go_roundw
          case rel => exact ⟨r + 1, by omega, by go_num, by rw [show (r + 1) * 16 = r * 16 + 16 by omega]; exact hK, hg⟩
          case measure => simp [intOf]; omega
    · obtain rfl : r = 3 := by omega
      go_wp2
      go_returns
      exact ⟨rfl, by have := hK.out; rw [halfI_all l _ (by rw [HL.out]; omega)] at this; exact this, hg.out⟩
end Go.Proofs.Ythigmdocfjhdlaa
