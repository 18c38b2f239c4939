/- All keys of a table, by the model: the whole. -/
import Derived.Test.YtinjohpeanlalaaTabKE
namespace Go.Proofs.Ytinjohpeanlalaa
open Go.RowKit

set_option maxRecDepth 100000 in
set_option maxHeartbeats 4000000 in
theorem specKeys_any (ao a' : Option Addr) (l o : List Ce) (ca ca' : Nat) (mv : Int) (w : World) (hl : l.length ≤ 1048576) (hl' : o.length ≤ 1048576) (hA : RdC w ao l) (hA' : RdC w a' o) :
    Calls Try.prog 27 #[tbV ao l.length ca a' o.length ca' mv] w fun e w' => ∃ po ks pc, e = .returned (.slice po ks.length pc) ∧ KeysA l o mv ks ∧ w'.ownsRow w.heap.size 9 1 (.slice po ks.length pc) ks.length (sc ks) ∧ Below w.heap.size w w' := by
  have CB := hide1 (fun w' (hb : Below w.heap.size w w') => specTOk_any ao a' l o ca ca' mv w' hl hl' (hA.later hb) (hA'.later hb))
  have HA := hide1 hA
  have HA' := hide1 hA'
  have F0 : Hid (Blk ((w.alloc (.cells #[.slice ao l.length ca, .slice a' o.length ca', .int .i64 mv] 29)).alloc (.cells #[] 9)) w.heap.size 29 [.slice ao l.length ca, .slice a' o.length ca', .int .i64 mv] ∧ ((w.alloc (.cells #[.slice ao l.length ca, .slice a' o.length ca', .int .i64 mv] 29)).alloc (.cells #[] 9)).ownsRow w.heap.size 9 1 (.slice (some ⟨w.heap.size + 1, 0, none⟩) 0 0) 0 [] ∧ Below w.heap.size w ((w.alloc (.cells #[.slice ao l.length ca, .slice a' o.length ca', .int .i64 mv] 29)).alloc (.cells #[] 9))) := by
    refine ⟨Blk.more (Blk.new w _ _) _, ?_, below2 w _ _⟩
    have := owns_empty (w.alloc (.cells #[.slice ao l.length ca, .slice a' o.length ca', .int .i64 mv] 29)) 9
    rw [World.size_alloc] at this
    exact own_base this (by omega)
  clear hA hA'
  unfold tbV at CB ⊢
  go_enter Try.func27, Try.ntmps27
  go_wp2_with fail
  generalize ((w.alloc (.cells #[.slice ao l.length ca, .slice a' o.length ca', .int .i64 mv] 29)).alloc (.cells #[] 9)) = wz at F0 ⊢
  obtain ⟨Kz, Oz, Bz⟩ := F0.out
  have Kz := hide1 Kz
  have Oz := hide1 Oz
  have Bz := hide1 Bz
  clear F0
  refine (CB.out wz Bz.out).mono ?_
  rintro e w0 ⟨x, rfl, hx, hb1⟩
  have HX := hide1 hx
  have K0 := hide1 (Kz.out.below hb1 Kz.out.lt)
  have O0 := hide1 (own_below Oz.out hb1)
  have B0 := hide1 (Bz.out.trans (hb1.mono Bz.out.size))
  have hs0 := K0.out.lt
  clear hb1 CB hx Kz Oz Bz
  rcases x with _ | _
  · have HN := hide1 (show KeysA l o mv [] from .inr ⟨(fun h => by have := HX.out.2 h; cases this), rfl⟩)
    clear HX
    go_wp2
    go_ret
    exact ⟨_, [], 0, rfl, HN.out, O0.out, B0.out⟩
  · have HOK := hide1 (HX.out.1 rfl)
    have hlen := HOK.out.len
    clear HX
    go_wp2
    go_loopw [3, 4] (fun lv iv wr => ∃ (i : Nat) (E : List Ce) (po : Option Addr) (pc : Nat), i ≤ l.length ∧ E.length ≤ 0 + i ∧ iv = .int .i64 (i : Int) ∧ lv = .slice po E.length pc ∧ Hid (E = sortE ( keyed (l.take i))) ∧ Hid (wr.ownsRow w0.heap.size 9 1 (.slice po E.length pc) E.length (sc (keysL E)) ∨ (E = [] ∧ wr.ownsRow w.heap.size 9 1 (.slice po E.length pc) E.length (sc (keysL E)))) ∧ Hid (Below w0.heap.size w0 wr)) (fun _ iv _ => l.length - (intOf iv).toNat)
    case atStart => exact ⟨0, [], some ⟨w.heap.size + 1, 0, none⟩, 0, by omega, by simp, rfl, rfl, rfl, .inr ⟨rfl, O0.out⟩, Below.refl _ _⟩
    case round =>
      obtain ⟨i, E, po, pc, hi, hEi, rfl, rfl, hE, hown, hbel⟩ := hrel
      have z : wr.cell? ⟨w.heap.size, 0, none⟩ = some (.slice ao l.length ca) := (K0.out.below hbel.out hs0).cell 0
      by_cases hlt : i < l.length
      · have k1 : (i : Int) < (l.length : Int) := by omega
        obtain ⟨g, hao, hg, hc⟩ := HA.out.at i hlt
        have hg0 : g < w0.heap.size := Nat.lt_of_lt_of_le hg B0.out.size
        have x0 : wr.cell? ⟨g, i * 2, none⟩ = some (.string l[i].key) := (hbel.out.cell (p := ⟨g, i * 2, none⟩) hg0).trans ((B0.out.cell (p := ⟨g, i * 2, none⟩) hg).trans hc.1)
        have hkt := hide1 (keyed_take hlt)
        generalize l[i] = s at *
        obtain ⟨ky, hh⟩ := s
        simp only at x0 hkt
        rw [hao] at z
        clear hc hao
        by_cases d1 : ky.toList = []
        · have b1 : ky.toList.isEmpty = true := by rw [d1]; rfl
          have HE := hide1 (show E = sortE ( keyed (l.take (i + 1))) by rw [hkt.out, if_pos b1, List.append_nil]; exact hE.out)
          clear hkt d1
          go_wp2
          go_roundw
          case rel => exact ⟨i + 1, E, po, pc, by omega, by omega, by go_num, rfl, HE, hown, hbel⟩
          case measure => simp [intOf]; omega
        · have b1 : ky.toList.isEmpty = false := by cases h : ky.toList with | nil => exact absurd h d1 | cons a b => rfl
          have HE := hide1 (show insE E ⟨ky, hh⟩ = sortE ( keyed (l.take (i + 1))) by
            rw [hkt.out, if_neg (by rw [b1]; simp),  sortE, List.foldl_append, ← sortE, ← hE.out]
            rfl)
          have HRT := hide1 (show RdT wr po (keysL E) by
            rcases hown.out with h | ⟨_, h⟩
            · exact rdT_of_own h
            · exact rdT_of_own h)
          have CI := hide1 (specInsert_any po (keysL E) pc ky wr (by rw [keysL_length]; omega) HRT.out)
          rw [keysL_length, insK_insE E ⟨ky, hh⟩] at CI
          have hil : (insE E ⟨ky, hh⟩).length = E.length + 1 := by have := (insE_perm E ⟨ky, hh⟩).length_eq; simpa using this
          have HIL := hide1 hil
          have hbs := hbel.out.size
          clear hkt d1 hown hil HRT
          go_wp2_with fail
          refine CI.out.mono ?_
          rintro e w6 ⟨lo2, lc2, rfl, ho6, hb6⟩
          have O6 : Hid (w6.ownsRow w0.heap.size 9 1 (.slice lo2 (insE E ⟨ky, hh⟩).length lc2) (insE E ⟨ky, hh⟩).length (sc (keysL (insE E ⟨ky, hh⟩)))) := by
            show World.ownsRow _ _ _ _ _ _ _
            have := own_base ho6 hbs
            rw [keysL_length] at this
            exact this
          have B6 := hide1 (hbel.out.trans (hb6.mono hbs))
          clear ho6 hb6 CI
          rw [keysL_length]
          have hle : (insE E ⟨ky, hh⟩).length ≤ 0 + (i + 1) := by rw [HIL.out]; omega
          generalize insE E ⟨ky, hh⟩ = E2 at *
          go_wp2
          go_roundw
          case rel => exact ⟨i + 1, E2, lo2, lc2, by omega, hle, by go_num, rfl, HE, .inl O6.out, B6⟩
          case measure => simp [intOf]; omega
      · obtain rfl : i = l.length := by omega
        have k1 : decide ((l.length : Int) < (l.length : Int)) = false := by simp
        have HE1 := hide1 (show E = sortE ( keyed l) by rw [hE.out, List.take_length])
        clear hE
        go_wp2
        clear z
        go_loopw [3, 5] (fun lv iv wr => ∃ (i : Nat) (E : List Ce) (po : Option Addr) (pc : Nat), i ≤ o.length ∧ E.length ≤ l.length + i ∧ iv = .int .i64 (i : Int) ∧ lv = .slice po E.length pc ∧ Hid (E = sortE (keyed l ++ keyed (o.take i))) ∧ Hid (wr.ownsRow w0.heap.size 9 1 (.slice po E.length pc) E.length (sc (keysL E)) ∨ (E = [] ∧ wr.ownsRow w.heap.size 9 1 (.slice po E.length pc) E.length (sc (keysL E)))) ∧ Hid (Below w0.heap.size w0 wr)) (fun _ iv _ => o.length - (intOf iv).toNat)
        case atStart => exact ⟨0, E, po, pc, by omega, by omega, rfl, rfl, (by show E = _; rw [HE1.out]; simp [keyed]), hown, hbel⟩
        case round =>
          obtain ⟨i, E, po, pc, hi, hEi, rfl, rfl, hE, hown, hbel⟩ := hrel
          have z : wr.cell? ⟨w.heap.size, 1, none⟩ = some (.slice a' o.length ca') := (K0.out.below hbel.out hs0).cell 1
          by_cases hlt : i < o.length
          · have k1 : (i : Int) < (o.length : Int) := by omega
            obtain ⟨g, hao, hg, hc⟩ := HA'.out.at i hlt
            have hg0 : g < w0.heap.size := Nat.lt_of_lt_of_le hg B0.out.size
            have x0 : wr.cell? ⟨g, i * 2, none⟩ = some (.string o[i].key) := (hbel.out.cell (p := ⟨g, i * 2, none⟩) hg0).trans ((B0.out.cell (p := ⟨g, i * 2, none⟩) hg).trans hc.1)
            have hkt := hide1 (keyed_take hlt)
            generalize o[i] = s at *
            obtain ⟨ky, hh⟩ := s
            simp only at x0 hkt
            rw [hao] at z
            clear hc hao
            by_cases d1 : ky.toList = []
            · have b1 : ky.toList.isEmpty = true := by rw [d1]; rfl
              have HE := hide1 (show E = sortE (keyed l ++ keyed (o.take (i + 1))) by rw [hkt.out, if_pos b1, List.append_nil]; exact hE.out)
              clear hkt d1
              go_wp2
              go_roundw
              case rel => exact ⟨i + 1, E, po, pc, by omega, by omega, by go_num, rfl, HE, hown, hbel⟩
              case measure => simp [intOf]; omega
            · have b1 : ky.toList.isEmpty = false := by cases h : ky.toList with | nil => exact absurd h d1 | cons a b => rfl
              have HE := hide1 (show insE E ⟨ky, hh⟩ = sortE (keyed l ++ keyed (o.take (i + 1))) by
                rw [hkt.out, if_neg (by rw [b1]; simp), ← List.append_assoc, sortE, List.foldl_append, ← sortE, ← hE.out]
                rfl)
              have HRT := hide1 (show RdT wr po (keysL E) by
                rcases hown.out with h | ⟨_, h⟩
                · exact rdT_of_own h
                · exact rdT_of_own h)
              have CI := hide1 (specInsert_any po (keysL E) pc ky wr (by rw [keysL_length]; omega) HRT.out)
              rw [keysL_length, insK_insE E ⟨ky, hh⟩] at CI
              have hil : (insE E ⟨ky, hh⟩).length = E.length + 1 := by have := (insE_perm E ⟨ky, hh⟩).length_eq; simpa using this
              have HIL := hide1 hil
              have hbs := hbel.out.size
              clear hkt d1 hown hil HRT
              go_wp2_with fail
              refine CI.out.mono ?_
              rintro e w6 ⟨lo2, lc2, rfl, ho6, hb6⟩
              have O6 : Hid (w6.ownsRow w0.heap.size 9 1 (.slice lo2 (insE E ⟨ky, hh⟩).length lc2) (insE E ⟨ky, hh⟩).length (sc (keysL (insE E ⟨ky, hh⟩)))) := by
                show World.ownsRow _ _ _ _ _ _ _
                have := own_base ho6 hbs
                rw [keysL_length] at this
                exact this
              have B6 := hide1 (hbel.out.trans (hb6.mono hbs))
              clear ho6 hb6 CI
              rw [keysL_length]
              have hle : (insE E ⟨ky, hh⟩).length ≤ l.length + (i + 1) := by rw [HIL.out]; omega
              generalize insE E ⟨ky, hh⟩ = E2 at *
              go_wp2
              go_roundw
              case rel => exact ⟨i + 1, E2, lo2, lc2, by omega, hle, by go_num, rfl, HE, .inl O6.out, B6⟩
              case measure => simp [intOf]; omega
          · obtain rfl : i = o.length := by omega
            have k1 : decide ((o.length : Int) < (o.length : Int)) = false := by simp
            have HE1 := hide1 (show E = sortE (keyed l ++ keyed o) by rw [hE.out, List.take_length])
            clear hE
            have HKA := hide1 (show KeysA l o mv (keysL E) from .inl ⟨HOK.out, by rw [HE1.out]; rfl⟩)
            have HKL := hide1 (keysL_length E)
            have O9 : Hid (wr.ownsRow w.heap.size 9 1 (.slice po E.length pc) E.length (sc (keysL E))) := by
              show World.ownsRow _ _ _ _ _ _ _
              rcases hown.out with h | ⟨_, h⟩
              · exact own_base h B0.out.size
              · exact h
            have B9 := hide1 (B0.out.trans (hbel.out.mono B0.out.size))
            clear hown hbel
            go_wp2
            go_ret
            exact ⟨po, keysL E, pc, by rw [HKL.out]; rfl, HKA.out, by rw [HKL.out]; exact O9.out, B9.out⟩
end Go.Proofs.Ytinjohpeanlalaa
