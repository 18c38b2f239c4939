/- All keys of a table, by the model. -/
import Derived.Test.YtinjohpeanlalaaXM
namespace Go.Proofs.Ytinjohpeanlalaa
open Go.RowKit

/-- A row of texts that reads as ks. -/
def RdT (w : World) (lo : Option Addr) (ks : List ByteArray) : Prop := ∀ j (h : j < ks.length), ∃ g, lo = some ⟨g, 0, none⟩ ∧ g < w.heap.size ∧ w.cell? ⟨g, j, none⟩ = some (.string ks[j])
theorem RdT.later {w w' : World} {lo : Option Addr} {ks : List ByteArray} (h : RdT w lo ks) (hb : Below w.heap.size w w') : RdT w' lo ks := by
  intro j hj
  obtain ⟨g, h1, h2, h3⟩ := h j hj
  exact ⟨g, h1, Nat.lt_of_lt_of_le h2 hb.size, (hb.cell (p := ⟨g, j, none⟩) h2).trans h3⟩
theorem rdT_of_own {w : World} {base n ca : Nat} {lo : Option Addr} {ks : List ByteArray} (h : w.ownsRow base 9 1 (.slice lo n ca) n (sc ks)) : RdT w lo ks := by
  intro j hj
  have hn : ks.length = n := by have := h.1; rw [sc_length] at this; omega
  rcases h.2 with ⟨hv, h0⟩ | ⟨g, cap, cur, hv, hb, hh, r⟩
  · omega
  · injection hv with h1 h2 h3
    subst h1
    refine ⟨g, rfl, (Array.getElem?_eq_some_iff.1 hh).1, ?_⟩
    rw [h.cellAt j (by omega)]
    simp [sc, List.getElem?_eq_getElem hj]
/-- A key put into its place. -/
def insK (ks : List ByteArray) (x : ByteArray) : List ByteArray := ks.filter (fun y => kLt y x) ++ (x :: ks.filter (fun y => !kLt y x))
theorem insK_insE (L : List Ce) (x : Ce) : insK (keysL L) x.key = keysL (insE L x) := by
  unfold insK insE keysL
  rw [List.map_append, List.map_cons, List.filter_map, List.filter_map]
  rfl
theorem filter_take {p : ByteArray → Bool} {ks : List ByteArray} {i : Nat} (h : i < ks.length) : (ks.take (i + 1)).filter p = (ks.take i).filter p ++ (if p ks[i] then [ks[i]] else []) := by
  rw [List.take_succ_eq_append_getElem h, List.filter_append]
  congr 1
  cases e : p ks[i] <;> simp [e]

set_option maxRecDepth 100000 in
set_option maxHeartbeats 2000000 in
theorem specInsert_any (lo : Option Addr) (ks : List ByteArray) (lc : Nat) (x : ByteArray) (w : World) (hl : ks.length ≤ 65536) (hA : RdT w lo ks) :
    Calls Try.prog 55 #[.slice lo ks.length lc, .string x] w fun e w' => ∃ po pc, e = .returned (.slice po (insK ks x).length pc) ∧ w'.ownsRow w.heap.size 9 1 (.slice po (insK ks x).length pc) (insK ks x).length (sc (insK ks x)) ∧ Below w.heap.size w w' := by
  obtain ⟨i0, hi0, hz0, hz1, hz2⟩ := info_parts Try.infoStr
  have HA := hide1 hA
  clear hA
  go_enter Try.func55, Try.ntmps55
  go_wp2
  go_loopw [5, 6] (fun lv iv wr => ∃ (i : Nat) (R : List ByteArray) (po : Option Addr) (pc : Nat), i ≤ ks.length ∧ R.length ≤ i ∧ iv = .int .i64 (i : Int) ∧ lv = .slice po R.length pc ∧ Hid (R = (ks.take i).filter (fun y => kLt y x)) ∧ Hid (wr.ownsRow w.heap.size 9 1 (.slice po R.length pc) R.length (sc R)) ∧ Hid (Below w.heap.size w wr)) (fun _ iv _ => ks.length - (intOf iv).toNat)
  case atStart => exact ⟨0, [], _, _, by omega, Nat.le_refl _, rfl, rfl, rfl, owns_empty w 9, (Below.refl _ _).alloc (Nat.le_refl _) _⟩
  case round =>
    obtain ⟨i, R, po, pc, hi, hRi, rfl, rfl, hR, hown, hbel⟩ := hrel
    by_cases hlt : i < ks.length
    · have k1 : (i : Int) < (ks.length : Int) := by omega
      obtain ⟨g, hlo, hg, h1⟩ := HA.out i hlt
      have x0 : wr.cell? ⟨g, i, none⟩ = some (.string ks[i]) := (hbel.out.cell (p := ⟨g, i, none⟩) hg).trans h1
      have hft := hide1 (filter_take (p := fun y => kLt y x) hlt)
      generalize ks[i] = y at *
      have hbs := hbel.out.size
      rw [hlo]
      clear h1 hlo
      cases e : kLt y x with
      | true =>
        have b1 : Op.bytesLess y.toList x.toList = true := e
        have HR2 := hide1 (show R ++ [y] = (ks.take (i + 1)).filter (fun y => kLt y x) by rw [hft.out, if_pos e, hR.out])
        clear hft e
        go_wp2_with (at_builtin; (refine wpList_push1 rfl _ _ 38 rfl w.heap.size 9 i0 (.string ⟨#[]⟩) 16 Try.underlying38 hi0 hz0 hz1 hz2 rfl (by decide) _ R.length (sc R) rfl hown.out (.string y) rfl rfl (by omega) hbs ?_; intro v' w6 hown6 hb6))
        have O6 : Hid (w6.ownsRow w.heap.size 9 1 v' (R ++ [y]).length (sc (R ++ [y]))) := by
          show World.ownsRow _ _ _ _ _ _ _
          rw [sc_append, List.length_append]
          exact hown6
        obtain ⟨lo2, lc2, rfl⟩ := own_slice O6.out
        have B6 := hide1 (hbel.out.trans hb6)
        have hll : (R ++ [y]).length = R.length + 1 := by simp
        clear hown6 hb6
        go_wp2
        go_roundw
        case rel => exact ⟨i + 1, R ++ [y], lo2, lc2, by omega, by omega, by go_num, rfl, HR2, O6, B6⟩
        case measure => simp [intOf]; omega
      | false =>
        have b1 : Op.bytesLess y.toList x.toList = false := e
        have HR2 := hide1 (show R = (ks.take (i + 1)).filter (fun y => kLt y x) by rw [hft.out, if_neg (by rw [e]; simp), hR.out, List.append_nil])
        clear hft e
        go_wp2
        go_roundw
        case rel => exact ⟨i + 1, R, po, pc, by omega, by omega, by go_num, rfl, HR2, hown, hbel⟩
        case measure => simp [intOf]; omega
    · obtain rfl : i = ks.length := by omega
      have k1 : decide ((ks.length : Int) < (ks.length : Int)) = false := by simp
      have HR1 := hide1 (show R = ks.filter (fun y => kLt y x) by rw [hR.out, List.take_length])
      have hbs := hbel.out.size
      clear hR
      go_wp2_with (at_builtin; (refine wpList_push1 rfl _ _ 38 rfl w.heap.size 9 i0 (.string ⟨#[]⟩) 16 Try.underlying38 hi0 hz0 hz1 hz2 rfl (by decide) _ R.length (sc R) rfl hown.out (.string x) rfl rfl (by omega) hbs ?_; intro v' w6 hown6 hb6))
      have O6 : Hid (w6.ownsRow w.heap.size 9 1 v' (R ++ [x]).length (sc (R ++ [x]))) := by
        show World.ownsRow _ _ _ _ _ _ _
        rw [sc_append, List.length_append]
        exact hown6
      obtain ⟨lo2, lc2, rfl⟩ := own_slice O6.out
      have B6 := hide1 (hbel.out.trans hb6)
      have hll : (R ++ [x]).length ≤ ks.length + 1 := by simp; omega
      obtain ⟨R0, hR0⟩ : ∃ R0, R ++ [x] = R0 := ⟨_, rfl⟩
      rw [hR0] at O6 hll
      have HR0 := hide1 hR0
      rw [hR0]
      clear hown6 hb6 hown hbel hR0
      go_wp2
      go_loopw [5, 7] (fun lv iv wr => ∃ (i : Nat) (T : List ByteArray) (po : Option Addr) (pc : Nat), i ≤ ks.length ∧ T.length ≤ R0.length + i ∧ iv = .int .i64 (i : Int) ∧ lv = .slice po T.length pc ∧ Hid (T = R0 ++ (ks.take i).filter (fun y => !kLt y x)) ∧ Hid (wr.ownsRow w.heap.size 9 1 (.slice po T.length pc) T.length (sc T)) ∧ Hid (Below w.heap.size w wr)) (fun _ iv _ => ks.length - (intOf iv).toNat)
      case atStart => exact ⟨0, R0, lo2, lc2, by omega, Nat.le_refl _, rfl, rfl, by show R0 = _; simp, O6, B6⟩
      case round =>
        obtain ⟨i, T, po, pc, hi, hTi, rfl, rfl, hT, hown, hbel⟩ := hrel
        by_cases hlt : i < ks.length
        · have k2 : (i : Int) < (ks.length : Int) := by omega
          obtain ⟨g, hlo, hg, h1⟩ := HA.out i hlt
          have x0 : wr.cell? ⟨g, i, none⟩ = some (.string ks[i]) := (hbel.out.cell (p := ⟨g, i, none⟩) hg).trans h1
          have hft := hide1 (filter_take (p := fun y => !kLt y x) hlt)
          generalize ks[i] = y at *
          have hbs := hbel.out.size
          rw [hlo]
          clear h1 hlo
          cases e : kLt y x with
          | false =>
            have b1 : Op.bytesLess y.toList x.toList = false := e
            have HR2 := hide1 (show T ++ [y] = R0 ++ (ks.take (i + 1)).filter (fun y => !kLt y x) by rw [hft.out, if_pos (by rw [e]; rfl), hT.out, List.append_assoc])
            clear hft e
            go_wp2_with (at_builtin; (refine wpList_push1 rfl _ _ 38 rfl w.heap.size 9 i0 (.string ⟨#[]⟩) 16 Try.underlying38 hi0 hz0 hz1 hz2 rfl (by decide) _ T.length (sc T) rfl hown.out (.string y) rfl rfl (by omega) hbs ?_; intro v' w6 hown6 hb6))
            have O7 : Hid (w6.ownsRow w.heap.size 9 1 v' (T ++ [y]).length (sc (T ++ [y]))) := by
              show World.ownsRow _ _ _ _ _ _ _
              rw [sc_append, List.length_append]
              exact hown6
            obtain ⟨lo3, lc3, rfl⟩ := own_slice O7.out
            have B7 := hide1 (hbel.out.trans hb6)
            have hl2 : (T ++ [y]).length = T.length + 1 := by simp
            clear hown6 hb6
            go_wp2
            go_roundw
            case rel => exact ⟨i + 1, T ++ [y], lo3, lc3, by omega, by omega, by go_num, rfl, HR2, O7, B7⟩
            case measure => simp [intOf]; omega
          | true =>
            have b1 : Op.bytesLess y.toList x.toList = true := e
            have HR2 := hide1 (show T = R0 ++ (ks.take (i + 1)).filter (fun y => !kLt y x) by rw [hft.out, if_neg (by rw [e]; simp), hT.out, List.append_nil])
            clear hft e
            go_wp2
            go_roundw
            case rel => exact ⟨i + 1, T, po, pc, by omega, by omega, by go_num, rfl, HR2, hown, hbel⟩
            case measure => simp [intOf]; omega
        · obtain rfl : i = ks.length := by omega
          have HT := hide1 (show T = insK ks x by rw [hT.out, List.take_length, ← HR0.out, HR1.out, List.append_assoc]; rfl)
          clear hT
          go_wp2
          go_ret
          rw [← HT.out]
          exact ⟨po, pc, rfl, hown.out, hbel.out⟩
end Go.Proofs.Ytinjohpeanlalaa
