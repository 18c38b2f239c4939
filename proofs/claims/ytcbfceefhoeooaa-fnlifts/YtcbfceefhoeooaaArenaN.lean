/- The contract of the model's maker of a place. -/
import Derived.Test.YtcbfceefhoeooaaArenaW
namespace Go.Proofs.Ytcbfceefhoeooaa
open Go.RowKit

/-- 'out = append(out, s)' of one slot, out a row of the call's own. -/
theorem wpList_push5 {P : Program} {w : World} {ops : Array Oper} {rest : List Oper} {o : Oper} {a : Act} {Q : Exit → Act → World → Prop} (hgd : o.guard = none) (s x : Operand) (t : TypeId)
    (ho : o.op = .call { callee := .builtin .append, args := #[s, x], argTypes := #[t, t] })
    (base : Nat) (e : TypeId) (i : TypeInfo) (ht : P.underlying t = some (.slice e)) (hi : P.info? e = some i) (hz : i.zero = some (slV zS)) (hsize : i.size = 5) (hby : i.bytes = 56)
    (v : Value) (acc : List Sl) (n : Nat) (hn : acc.length = n) (hs : a.eval s = v) (hown : w.ownsRow base e 5 v n (sls acc)) (u : Sl)
    (hx : a.eval x = .slice (some ⟨w.heap.size, 0, none⟩) 1 1) (hlen : n ≤ 1048576) (hbase : base ≤ w.heap.size)
    (h : ∀ v' w', w'.ownsRow base e 5 v' (n + 1) (sls (acc ++ [u])) → Below base w w' → wpList P ops Q rest (a.put o.dst v') w') :
    wpList P ops Q (o :: rest) a (w.alloc (.cells #[.int .i64 u.gen, .bool u.used, .string u.key, .string u.val, .int .i64 u.next] e)) := by
  refine wpList_append_own _ hgd s x t ho base e i (slV zS) 5 56 ht hi hz hsize hby rfl (by decide) v n (sls acc) hs (hown.alloc _) ⟨w.heap.size, 0, none⟩ 1 1 (slC u) hx rfl ?_ ?_ ?_ ?_ ?_ ?_
  · intro j y hj
    rw [Addr.add_lit, Nat.zero_add, World.cell?_alloc_at _ _ _ _ rfl, ← Array.getElem?_toList]
    exact hj
  · intro y hy
    simp [slC] at hy
    rcases hy with rfl | rfl | rfl | rfl | rfl <;> rfl
  · unfold maxLen; omega
  · omega
  · rw [World.size_alloc]; omega
  · intro v' w' h1 h2 _
    refine h v' w' ?_ ?_
    · rw [sls_append]; simpa [sls] using h1
    · refine Below.grown ((Below.refl _ _).alloc hbase _) h2 (by rw [World.size_alloc]; omega) ?_
      intro k hk
      exact (hown.lt k hk).1

/-- The first slots of a new place of n. -/
def newL (n : Nat) : Nat → List Sl
  | 0 => []
  | i + 1 => newL n i ++ [⟨0, false, ⟨#[]⟩, ⟨#[]⟩, if i + 1 = n then -1 else (i : Int) + 1⟩]
theorem newL_length (n : Nat) : ∀ i, (newL n i).length = i
  | 0 => rfl
  | i + 1 => by rw [newL, List.length_append, newL_length n i]; rfl

set_option maxRecDepth 100000 in
set_option maxHeartbeats 1000000 in
theorem specNew_any (n : Int) (w : World) :
    Calls Try.prog 27 #[.int .i64 n] w fun e w' =>
      ((∃ (m b c : Nat), n = (m : Int) ∧ 1 ≤ m ∧ m ≤ 24 ∧ e = .returned (.tuple #[arV (some ⟨b, 0, none⟩) m c 0, .bool true]) ∧ w'.ownsRow w.heap.size 40 5 (.slice (some ⟨b, 0, none⟩) m c) m (sls (newL m m)))
       ∨ (e = .returned (.tuple #[arV none 0 0 0, .bool false]) ∧ ¬ (1 ≤ n ∧ n ≤ 24))) ∧ Below w.heap.size w w' := by
  obtain ⟨i0, hi, hz0, hz1, hz2⟩ := info_parts Try.infoSlot
  have c0 := fun w => in_any n 1 24 w
  unfold arV
  by_cases hn : 1 ≤ n ∧ n ≤ 24
  · rw [show (decide ((1 : Int) ≤ n) && decide (n ≤ 24)) = true by simp; omega] at c0
    have C0 := hide1 c0
    obtain ⟨m, rfl⟩ := Int.eq_ofNat_of_zero_le (show 0 ≤ n by omega)
    have hm1 : 1 ≤ m := by omega
    have hm2 : m ≤ 24 := by omega
    clear c0 hn
    go_enter Try.func27, Try.ntmps27
    go_wp2_with fail
    refine (C0.out _).mono ?_
    rintro e w1 ⟨rfl, rfl⟩
    go_wp2
    go_loopw [5] (fun iv wr => ∃ (i : Nat) (v : Value), i ≤ m ∧ iv = .int .i64 (i : Int) ∧ Hid (wr.heap[w.heap.size + 1]? = some (.cells #[v, .int .i64 0] 26 (0, 0))) ∧ Hid (wr.heap[w.heap.size]? = some (.cells #[.slice none 0 0, .int .i64 0] 26 (0, 0))) ∧ wr.ownsRow (w.heap.size + 1 + 1) 40 5 v i (sls (newL m i)) ∧ Below w.heap.size w wr) (fun iv _ => m - (intOf iv).toNat)
    case atStart => exact ⟨0, .slice none 0 0, by omega, rfl, hide1 (blocks2 w _ _).2, hide1 (blocks2 w _ _).1, World.ownsRow_nil _ _ _ _, below2 w _ _⟩
    case round =>
      obtain ⟨i, v, him, rfl, H1, H0, hown, hbel⟩ := hrel
      have x0 : wr.cell? ⟨w.heap.size + 1, 0, none⟩ = some v := by rw [cell_of_row wr (w.heap.size + 1) 0 _ _ _ H1.out]; rfl
      have hsz : w.heap.size + 1 < wr.heap.size := (Array.getElem?_eq_some_iff.1 H1.out).1
      by_cases hlt : i < m
      · have hns : Hid (newL m (i + 1) = newL m i ++ [⟨0, false, ⟨#[]⟩, ⟨#[]⟩, if i + 1 = m then -1 else (i : Int) + 1⟩]) := rfl
        by_cases hlast : i + 1 = m
        · have q : ((i : Int) + 1 == (m : Int)) = true := by rw [beq_iff_eq]; omega
          rw [if_pos hlast] at hns
          have HL := hide1 hlast
          clear hlast
          go_wp2_with (at_builtin; (refine wpList_push5 rfl _ _ 24 rfl (w.heap.size + 1 + 1) 40 i0 Try.underlying24 hi hz0 hz1 hz2 _ (newL m i) i (newL_length m i) rfl hown ⟨0, false, ⟨#[]⟩, ⟨#[]⟩, -1⟩ rfl (by omega) (by omega) ?_; intro v' w1 hown' hb'; obtain ⟨b, c, rfl, hbg, hbw⟩ := own_at5 hown' (by omega); have G1 := hide1 ((hb'.block (w.heap.size + 1) (by omega)).trans H1.out); have G0 := hide1 ((hb'.block w.heap.size (by omega)).trans H0.out); have y0 : w1.cell? ⟨w.heap.size + 1, 0, none⟩ = some v := (by rw [cell_of_row w1 (w.heap.size + 1) 0 _ _ _ G1.out]; rfl); have f0 : w1.frozen? ⟨w.heap.size + 1, 0, none⟩ = false := (by simp [World.frozen?, G1.out]); have HO := hide1 hown'; have HB := hide1 hb'; clear hown' hb'))
          go_roundw
          case rel =>
            refine ⟨i + 1, .slice (some ⟨b, 0, none⟩) (i + 1) c, by omega, by go_num, hide1 (heap_setCell_same _ (w.heap.size + 1) 0 _ _ _ G1.out), hide1 ((Below.heap_setCell _ _ _ _ (by dsimp only; omega)).trans G0.out), ?_, ?_⟩
            · rw [hns.out]
              refine own_far HO.out _ _ ?_
              intro j hj; have : j = b := (by simpa [Value.ownBlock] using hj.symm); dsimp only; omega
            · exact (hbel.trans (HB.out.mono (by omega))).setCell (p := ⟨w.heap.size + 1, 0, none⟩) (by dsimp only; omega) _
          case measure => simp [intOf]; omega
        · have q : ((i : Int) + 1 == (m : Int)) = false := by rw [beq_eq_false_iff_ne]; omega
          rw [if_neg hlast] at hns
          clear hlast
          go_wp2_with (at_builtin; (refine wpList_push5 rfl _ _ 24 rfl (w.heap.size + 1 + 1) 40 i0 Try.underlying24 hi hz0 hz1 hz2 _ (newL m i) i (newL_length m i) rfl hown ⟨0, false, ⟨#[]⟩, ⟨#[]⟩, (i : Int) + 1⟩ rfl (by omega) (by omega) ?_; intro v' w1 hown' hb'; obtain ⟨b, c, rfl, hbg, hbw⟩ := own_at5 hown' (by omega); have G1 := hide1 ((hb'.block (w.heap.size + 1) (by omega)).trans H1.out); have G0 := hide1 ((hb'.block w.heap.size (by omega)).trans H0.out); have y0 : w1.cell? ⟨w.heap.size + 1, 0, none⟩ = some v := (by rw [cell_of_row w1 (w.heap.size + 1) 0 _ _ _ G1.out]; rfl); have f0 : w1.frozen? ⟨w.heap.size + 1, 0, none⟩ = false := (by simp [World.frozen?, G1.out]); have HO := hide1 hown'; have HB := hide1 hb'; clear hown' hb'))
          go_roundw
          case rel =>
            refine ⟨i + 1, .slice (some ⟨b, 0, none⟩) (i + 1) c, by omega, by go_num, hide1 (heap_setCell_same _ (w.heap.size + 1) 0 _ _ _ G1.out), hide1 ((Below.heap_setCell _ _ _ _ (by dsimp only; omega)).trans G0.out), ?_, ?_⟩
            · rw [hns.out]
              refine own_far HO.out _ _ ?_
              intro j hj; have : j = b := (by simpa [Value.ownBlock] using hj.symm); dsimp only; omega
            · exact (hbel.trans (HB.out.mono (by omega))).setCell (p := ⟨w.heap.size + 1, 0, none⟩) (by dsimp only; omega) _
          case measure => simp [intOf]; omega
      · obtain rfl : i = m := by omega
        obtain ⟨b, c, rfl, hbg, hbw⟩ := own_at5 hown (by omega)
        have x1 : wr.cell? ⟨w.heap.size + 1, 1, none⟩ = some (.int .i64 0) := by rw [cell_of_row wr (w.heap.size + 1) 1 _ _ _ H1.out]; rfl
        have y0 : wr.cell? ⟨w.heap.size, 0, none⟩ = some (.slice none 0 0) := by rw [cell_of_row wr w.heap.size 0 _ _ _ H0.out]; rfl
        have y1 : wr.cell? ⟨w.heap.size, 1, none⟩ = some (.int .i64 0) := by rw [cell_of_row wr w.heap.size 1 _ _ _ H0.out]; rfl
        have fz : ∀ j, wr.frozen? ⟨w.heap.size, j, none⟩ = false := fun j => by simp [World.frozen?, H0.out]
        have HO := hide1 hown
        clear hown
        go_wp2
        refine bodyPost_ret (results_row2 Try.results27 _ _ w.heap.size 26 #[.slice (some ⟨b, 0, none⟩) i c, .int .i64 0] (0, 0) _ rfl (heap2 H0.out _ _) Try.underlying26 rfl (by kernel_rfl)) rfl ?_
        refine ⟨.inl ⟨i, b, c, rfl, hm1, hm2, rfl, ?_⟩, ?_⟩
        · refine own_base (own_far (own_far HO.out _ _ ?_) _ _ ?_) (by omega)
          · intro j hj; have : j = b := (by simpa [Value.ownBlock] using hj.symm); dsimp only; omega
          · intro j hj; have : j = b := (by simpa [Value.ownBlock] using hj.symm); dsimp only; omega
        · exact (hbel.setCell (p := ⟨w.heap.size, 0, none⟩) (by dsimp only; omega) _).setCell (p := ⟨w.heap.size, 1, none⟩) (by dsimp only; omega) _
  · rw [show (decide ((1 : Int) ≤ n) && decide (n ≤ 24)) = false by simp; omega] at c0
    have C0 := hide1 c0
    have HN := hide1 hn
    clear c0 hn
    go_enter Try.func27, Try.ntmps27
    go_wp2_with fail
    refine (C0.out _).mono ?_
    rintro e w1 ⟨rfl, rfl⟩
    go_wp2
    refine bodyPost_ret (results_row2 Try.results27 _ _ w.heap.size 26 #[.slice none 0 0, .int .i64 0] (0, 0) _ rfl (heap_alloc_new w _) Try.underlying26 rfl (by kernel_rfl)) rfl ?_
    exact ⟨.inr ⟨rfl, HN.out⟩, by go_grown⟩
end Go.Proofs.Ytcbfceefhoeooaa
