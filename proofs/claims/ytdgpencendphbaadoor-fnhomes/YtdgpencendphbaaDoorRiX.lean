/- Rings, by the model: the nodes of a ring, of 0 .. 9. -/
import Derived.Test.YtdgpencendphbaaDoorRiV
namespace Go.Proofs.YtdgpencendphbaaDoor
open Go.RowKit
set_option linter.unusedVariables false

/-- The nodes below v that stand there. -/
def nodesB (l : List Sp) (v : Nat) : List Int := ((List.range v).map (fun v : Nat => (v : Int))).filter (fun v => l.any (fun s => s.2 == v))
theorem nodesB_all (l : List Sp) : nodesB l 10 = nodesL l := rfl
theorem nodesB_next (l : List Sp) (v : Nat) : nodesB l (v + 1) = if l.any (fun s => s.2 == (v : Int)) then nodesB l v ++ [(v : Int)] else nodesB l v := by
  unfold nodesB
  rw [List.range_succ, List.map_append, List.filter_append]
  by_cases c : l.any (fun s => s.2 == (v : Int)) = true
  · rw [if_pos c, List.map_cons, List.map_nil, List.filter_cons, if_pos c, List.filter_nil]
  · rw [if_neg c, List.map_cons, List.map_nil, List.filter_cons, if_neg c, List.filter_nil, List.append_nil]
theorem nodesB_length (l : List Sp) (v : Nat) : (nodesB l v).length ≤ v := Nat.le_trans (List.length_filter_le _ _) (by simp)

set_option maxRecDepth 100000 in
set_option maxHeartbeats 2000000 in
theorem specNodes_any (ao : Option Addr) (l : List Sp) (ca : Nat) (w : World) (hl : l.length ≤ 1048576) (hA : RdP w ao l) :
    Calls Tryd.prog 55 #[riV ao l.length ca] w fun e w' => MadeH w w' e (nodesL l) := by
  obtain ⟨i0, hi0, hz0, hz1, hz2⟩ := info_parts Tryd.infoZ
  have F0 := hide1 (And.intro (blkN2 w #[.slice ao l.length ca] #[] 28 3) (owns_empty (w.alloc (.cells #[.slice ao l.length ca] 28)) 3))
  have HA := hide1 hA
  clear hA
  unfold riV
  go_enter Tryd.func55, Tryd.ntmps55
  go_wp2_with fail
  have e1 : (w.alloc (.cells #[.slice ao l.length ca] 28)).heap.size = w.heap.size + 1 := World.size_alloc _ _
  rw [e1] at F0
  generalize ((w.alloc (.cells #[.slice ao l.length ca] 28)).alloc (.cells #[] 3)) = w0 at F0 ⊢
  have hs0 : w.heap.size + 1 ≤ w0.heap.size := Nat.le_of_lt F0.out.1.2.1.lt
  clear e1
  go_loopw [3, 4] (fun v iv wr => ∃ i : Nat, i ≤ 10 ∧ iv = .int .i64 (i : Int) ∧ wr.ownsRow (w.heap.size + 1) 3 1 v (nodesB l i).length (iz (nodesB l i)) ∧ Hid (Below (w.heap.size + 1) w0 wr)) (fun _ iv _ => 10 - (intOf iv).toNat)
  case atStart => exact ⟨0, by omega, rfl, F0.out.2, hide1 (Below.refl _ _)⟩
  case round =>
    obtain ⟨i, hi, rfl, hown, hbel⟩ := hrel
    have hbs := hbel.out.size
    obtain ⟨vo, vc, rfl⟩ := own_slice hown
    have HBw := hide1 (F0.out.1.2.2.trans (hbel.out.mono (Nat.le_succ _)))
    by_cases c1 : i < 10
    · have k1 : (i : Int) ≤ 9 := by omega
      have hnl := nodesB_length l i
      have HN := hide1 (nodesB_next l i)
      have HO := hide1 hown
      have HE := hide1 hbel.out
      clear hown hbel
      generalize nodesB l i = acc at *
      go_wp2
      go_loopw [3, 5] (fun v jv wv => ∃ j : Nat, jv = .int .i64 (j : Int) ∧ j ≤ l.length + 1 ∧ ∃ L : List Int, wv.ownsRow (w.heap.size + 1) 3 1 v L.length (iz L) ∧ Hid (Below (w.heap.size + 1) w0 wv) ∧ L.length ≤ 10 ∧ ((j ≤ l.length ∧ L = acc ∧ Hid (∀ t (ht : t < j) (htl : t < l.length), l[t].2 ≠ (i : Int))) ∨ (j = l.length + 1 ∧ L = acc ++ [(i : Int)] ∧ Hid (l.any (fun s => s.2 == (i : Int)) = true)))) (fun _ jv _ => l.length + 1 - (intOf jv).toNat)
      case atStart => exact ⟨0, rfl, by omega, acc, HO.out, HE, by omega, .inl ⟨by omega, rfl, fun t ht _ => by omega⟩⟩
      case round =>
        obtain ⟨j, rfl, hj, L, hown, hbel, hLl, hor⟩ := hrel
        have hbs2 := hbel.out.size
        obtain ⟨vo2, vc2, rfl⟩ := own_slice hown
        have HBv := hide1 (F0.out.1.2.2.trans (hbel.out.mono (Nat.le_succ _)))
        have x0 : wr.cell? ⟨w.heap.size, 0, none⟩ = some (.slice ao l.length ca) := (hbel.out.cell (p := ⟨w.heap.size, 0, none⟩) (Nat.lt_succ_self _)).trans (F0.out.1.1.cell 0)
        by_cases c2 : j < l.length
        · have k2 : (j : Int) < (l.length : Int) := by omega
          rcases hor with ⟨_, rfl, hno⟩ | ⟨e, _, _⟩
          · obtain ⟨g, rfl, hg, -, x1⟩ := (HA.out.later HBv.out).at j c2
            by_cases c3 : l[j].2 = (i : Int)
            · have HY := hide1 (show l.any (fun s => s.2 == (i : Int)) = true from List.any_eq_true.2 ⟨l[j], List.getElem_mem _, by simpa using c3⟩)
              rw [c3] at x1
              have q1 : ((i : Int) == (i : Int)) = true := by simp
              have hs2 : w.heap.size + 1 ≤ wr.heap.size := by omega
              have HE2 := hide1 hbel.out
              clear hbel hno c3
              go_wp2_with (at_builtin; (refine wpList_push1 rfl _ _ 24 rfl (w.heap.size + 1) 3 i0 (.int .i64 0) 8 Tryd.underlying24 hi0 hz0 hz1 hz2 rfl (by decide) _ L.length (iz L) rfl hown _ rfl rfl (by omega) hs2 ?_; intro v' w7 hown' hb'; have x7 := (hb'.cell (p := ⟨w.heap.size, 0, none⟩) (Nat.lt_succ_self _)).trans x0))
              go_roundw
              case rel =>
                refine ⟨l.length + 1, by go_num, Nat.le_refl _, L ++ [(i : Int)], ?_, hide1 (HE2.out.trans hb'), by rw [List.length_append]; show L.length + 1 ≤ 10; omega, .inr ⟨rfl, rfl, HY⟩⟩
                rw [iz_append, List.length_append]
                exact hown'
              case measure => simp [intOf]; omega
            · obtain ⟨z, hz, y1⟩ : ∃ z, (z == (i : Int)) = false ∧ wr.cell? ⟨g, j * 2 + 1, none⟩ = some (.int .i64 z) := ⟨_, by simpa using c3, x1⟩
              have HC := hide1 c3
              have HO2 := hide1 hown
              clear hown x1 c3
              go_wp2
              go_roundw
              case rel =>
                refine ⟨j + 1, by go_num, by omega, L, HO2.out, hbel, hLl, .inl ⟨by omega, rfl, fun t ht htl => ?_⟩⟩
                by_cases e : t < j
                · exact hno.out t e htl
                · obtain rfl : t = j := by omega
                  exact HC.out
              case measure => simp [intOf]; omega
          · omega
        · have k2 : ¬ (j : Int) < (l.length : Int) := by omega
          have HX := hide1 (show nodesB l (i + 1) = L by
            rw [HN.out]
            rcases hor with ⟨h1, rfl, hno⟩ | ⟨_, rfl, h2⟩
            · rw [if_neg]
              intro h
              obtain ⟨s, hs, e⟩ := List.any_eq_true.1 h
              obtain ⟨t, ht, rfl⟩ := List.getElem_of_mem hs
              exact hno.out t (by omega) ht (by simpa using e)
            · rw [if_pos h2.out])
          have HO2 := hide1 hown
          clear hown hor
          go_wp2
          go_roundw
          case rel => exact ⟨i + 1, by omega, by go_num, by rw [HX.out]; exact HO2.out, hbel⟩
          case measure => simp [intOf]; omega
    · obtain rfl : i = 10 := by omega
      rw [nodesB_all] at hown ⊢
      have HO := hide1 hown
      clear hown
      go_wp2
      go_ret
      exact ⟨_, _, rfl, own_base HO.out (Nat.le_succ _), HBw.out⟩
end Go.Proofs.YtdgpencendphbaaDoor
