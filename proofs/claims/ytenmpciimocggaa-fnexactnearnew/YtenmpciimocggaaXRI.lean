/- The contracts of the program's functions that read a place: whether it is right, what lies there, handles, how many are used. -/
import Derived.Test.YtenmpciimocggaaXRO
import Derived.Test.YtenmpciimocggaaXBO
import Derived.Test.YtenmpciimocggaaXBW
namespace Go.Proofs.Ytenmpciimocggaa
open Go.RowKit

theorem fillup_get {l : List Sl} (h : l.length ≤ 24) (i : Nat) (hi : i < l.length) : (fillup l)[i]'(by rw [fillup_length h]; omega) = l[i] := by
  have := fillup_at i hi
  rw [List.getElem?_eq_getElem (by rw [fillup_length h]; omega)] at this
  exact Option.some.inj this
/-- The slot of a place, out of the room. -/
theorem RoomAt.of {w : World} {r : Nat} {l : List Sl} {p : Option Addr} (h : RoomAt w r l.length (fillup l) p) (h2 : l.length ≤ 24) (i : Nat) (hi : i < l.length) : slotO w r 1 i l[i] := by
  have := h.slot i (by rw [fillup_length h2]; omega)
  rw [fillup_get h2 i hi] at this
  exact this
end Go.Proofs.Ytenmpciimocggaa
namespace Go.Proofs.Ytenmpciimocggaa
open Go.RowKit

theorem fillup_set {l : List Sl} (k : Nat) (hk : k < l.length) (s : Sl) : (fillup l).set k s = fillup (l.set k s) := by
  rw [fillup, fillup, List.set_append_left _ _ hk, List.length_set]
/-- What the two first blocks of such a function hold, behind a call. -/
theorem two_blocks {w w1 : World} {ao : Option Addr} {n ca : Nat} {f : Int} {t : TypeId} (hb1 : Below ((w.alloc (.cells #[.slice ao n ca, .int .i64 f] t)).alloc (.cells #[.slice none 0 0, .int .i64 0] t)).heap.size ((w.alloc (.cells #[.slice ao n ca, .int .i64 f] t)).alloc (.cells #[.slice none 0 0, .int .i64 0] t)) w1) :
    Blk w1 (w.heap.size + 1) t [.slice none 0 0, .int .i64 0] ∧ Below w.heap.size w w1 ∧ w.heap.size + 1 + 1 ≤ w1.heap.size := by
  have bl := blocks2 w (.cells #[.slice ao n ca, .int .i64 f] t) (.cells #[.slice none 0 0, .int .i64 0] t)
  refine ⟨(hb1.block (w.heap.size + 1) (by simp only [World.size_alloc]; omega)).trans bl.2, (below2 w _ _).trans (hb1.mono (below2 w _ _).size), ?_⟩
  have := hb1.size
  simp only [World.size_alloc] at this
  exact this
theorem Blk.pair {w : World} {g : Nat} {t : TypeId} (h : Blk w g t [.slice none 0 0, .int .i64 0]) : w.cell? ⟨g, 0, none⟩ = some (.slice none 0 0) ∧ w.cell? ⟨g, 1, none⟩ = some (.int .i64 0) ∧ (∀ j, w.frozen? ⟨g, j, none⟩ = false) ∧ w.heap[g]? = some (.cells #[.slice none 0 0, .int .i64 0] t (0, 0)) :=
  ⟨h.cell 0, h.cell 1, fun j => h.froz j, h⟩

theorem range_cons (j m : Nat) (h : j < m) : List.range' j (m - j) = j :: List.range' (j + 1) (m - (j + 1)) := by
  rw [show m - j = (m - (j + 1)) + 1 by omega, List.range'_succ]

set_option maxRecDepth 100000 in
set_option maxHeartbeats 2000000 in
theorem implNewA_any (n : Int) (w : World) :
    Calls Try.prog 16 #[.int .i64 n] w fun e w' =>
      ((∃ (m b c : Nat), n = (m : Int) ∧ 1 ≤ m ∧ m ≤ 24 ∧ e = .returned (.tuple #[arV (some ⟨b, 0, none⟩) m c 0, .bool true]) ∧ w'.ownsRow w.heap.size 65 5 (.slice (some ⟨b, 0, none⟩) m c) m (sls (newL m m)))
       ∨ (e = .returned (.tuple #[arV none 0 0 0, .bool false]) ∧ ¬ (1 ≤ n ∧ n ≤ 24))) ∧ Below w.heap.size w w' := by
  unfold arV
  have hN : (w.alloc (.cells #[.slice none 0 0, .int .i64 0] 24)).heap[w.heap.size]? = some (.cells #[.slice none 0 0, .int .i64 0] 24 (0, 0)) := heap_alloc_last _ _
  have HN := hide1 hN
  clear hN
  by_cases c1 : n < 1
  · have q1 : decide (n < 1) = true := decide_eq_true c1
    have HNN := hide1 (show ¬ (1 ≤ n ∧ n ≤ 24) by omega)
    clear c1
    go_enter Try.func16, Try.ntmps16
    go_wp2
    refine bodyPost_ret (results_row2 Try.results16 _ _ w.heap.size 24 #[.slice none 0 0, .int .i64 0] (0, 0) _ rfl (by first | exact HN.out | exact heap2 HN.out _ _) Try.underlying24 rfl (by kernel_rfl)) rfl ?_
    exact ⟨.inr ⟨rfl, HNN.out⟩, by go_grown⟩
  · have q1 : decide (n < 1) = false := decide_eq_false c1
    by_cases c2 : 24 < n
    · have q2 : decide (24 < n) = true := decide_eq_true c2
      have HNN := hide1 (show ¬ (1 ≤ n ∧ n ≤ 24) by omega)
      clear c1 c2
      go_enter Try.func16, Try.ntmps16
      go_wp2
      refine bodyPost_ret (results_row2 Try.results16 _ _ w.heap.size 24 #[.slice none 0 0, .int .i64 0] (0, 0) _ rfl (by first | exact HN.out | exact heap2 HN.out _ _) Try.underlying24 rfl (by kernel_rfl)) rfl ?_
      exact ⟨.inr ⟨rfl, HNN.out⟩, by go_grown⟩
    · have q2 : decide (24 < n) = false := decide_eq_false c2
      obtain ⟨m, rfl⟩ := Int.eq_ofNat_of_zero_le (show 0 ≤ n by omega)
      have m1 : 1 ≤ m := by omega
      have m2 : m ≤ 24 := by omega
      obtain ⟨hz, _⟩ := zero_of_info Try.infoRoom
      obtain ⟨Z, hZ⟩ : ∃ Z, Z = (roomC 0 (List.replicate 24 zS) none).toArray := ⟨_, rfl⟩
      rw [← hZ] at hz
      have hne : ¬ Z = #[] := by rw [hZ]; intro e; have := congrArg Array.size e; simp [roomC] at this
      have F0 : Hid (RoomAt ((w.alloc (.cells #[.slice none 0 0, .int .i64 0] 24)).alloc (.cells (Z.setIfInBounds 0 (.int .i64 (m : Int))) 72)) (w.heap.size + 1) m (List.replicate 24 zS) none ∧ Blk ((w.alloc (.cells #[.slice none 0 0, .int .i64 0] 24)).alloc (.cells (Z.setIfInBounds 0 (.int .i64 (m : Int))) 72)) w.heap.size 24 [.slice none 0 0, .int .i64 0] ∧ Below w.heap.size w ((w.alloc (.cells #[.slice none 0 0, .int .i64 0] 24)).alloc (.cells (Z.setIfInBounds 0 (.int .i64 (m : Int))) 72))) := by
        refine ⟨?_, Blk.more (Blk.new w _ _) _, below2 w _ _⟩
        have := Blk.new (w.alloc (.cells #[.slice none 0 0, .int .i64 0] 24)) 72 (Z.setIfInBounds 0 (.int .i64 (m : Int)))
        have e : (Z.setIfInBounds 0 (.int .i64 (m : Int))).toList = roomC m (List.replicate 24 zS) none := by rw [hZ, Array.toList_setIfInBounds, List.toList_toArray, roomC, List.set_cons_zero]; rfl
        rw [World.size_alloc, e] at this
        exact this
      clear hZ c1 c2 HN
      go_enter Try.func16, Try.ntmps16
      go_upto_region 4 with fail
      generalize ((w.alloc (.cells #[.slice none 0 0, .int .i64 0] 24)).alloc (.cells (Z.setIfInBounds 0 (.int .i64 (m : Int))) 72)) = wn at F0 ⊢
      clear hz hne
      go_wp2
      go_loopw [5] (fun jv wr => ∃ (j : Nat) (p : Option Addr), j ≤ m ∧ jv = .int .i64 ((j : Int) - 1) ∧ Hid (RoomAt wr (w.heap.size + 1) m (List.replicate 24 zS) p) ∧ Hid (Lnk wr (w.heap.size + 1) p (List.range' j (m - j))) ∧ Hid (Blk wr w.heap.size 24 [.slice none 0 0, .int .i64 0]) ∧ Hid (Below w.heap.size w wr)) (fun jv _ => (intOf jv + 1).toNat)
      case atStart => exact ⟨m, none, Nat.le_refl _, rfl, F0.out.1, by rw [Nat.sub_self]; rfl, F0.out.2.1, F0.out.2.2⟩
      case round =>
        obtain ⟨j, p, hj, rfl, hR, hk, hN, hbel⟩ := hrel
        match j, hj, hk with
        | 0, hj, hk =>
          have q : decide (0 ≤ ((0 : Nat) : Int) - 1) = false := by decide
          have hw := hide1 (wrt_eq (L := List.replicate 24 zS) (OkA.new m m1 m2) (chain_new m m 0 (by omega) (by omega)) (by simp) (fun i hi => ⟨zS, by rw [newL_length] at hi; rw [List.getElem?_replicate, if_pos (by omega)], by rw [newL_at]; rfl, fun hno => absurd (by rw [newL_length] at hi; simp [List.mem_range'_1]; omega) hno⟩))
          have CA := hide1 (arena_any (M := newL m m) (L := List.replicate 24 zS) (V := List.range' 0 m) (p := p) (by rw [newL_length]; exact hR.out) (by simp) (by rw [newL_length]; exact m1) (by rw [newL_length]; exact m2) hk.out (fun i hi => by rw [List.mem_range'_1] at hi; omega) hw.out)
          rw [newL_length] at CA
          unfold arV at CA
          have hd : Hid (hdI (List.range' 0 m) = 0) := by show _ = _; rw [show m = (m - 1) + 1 by omega, List.range'_succ]; rfl
          have hsz : Hid (w.heap.size + 1 < wr.heap.size) := hR.out.lt
          clear hR hk hw F0
          go_wp2_with fail
          refine CA.out.mono ?_
          rintro e w6 ⟨b', c, rfl, hown, hb6⟩
          have OW := hide1 hown
          have B6 := hide1 hb6
          have K6 := hide1 (hN.out.below hb6 hN.out.lt)
          obtain ⟨t0, t1, ft, hbr⟩ := K6.out.pair
          have HBR := hide1 hbr
          rw [hd.out]
          clear hown hb6 hbr CA
          go_wp2
          refine bodyPost_ret (results_row2 Try.results16 _ _ w.heap.size 24 #[.slice (some ⟨b', 0, none⟩) m c, .int .i64 0] (0, 0) _ rfl (heap2 HBR.out _ _) Try.underlying24 rfl (by kernel_rfl)) rfl ?_
          have hlow : ∀ j, (Value.slice (some ⟨b', 0, none⟩) m c).ownBlock = some j → j ≠ w.heap.size := by
            intro j hj
            have := (OW.out.lt j hj).1
            have := hsz.out
            omega
          refine ⟨.inl ⟨m, b', c, rfl, m1, m2, rfl, own_base (own_far (own_far OW.out _ _ hlow) _ _ hlow) (by have := hsz.out; omega)⟩, ?_⟩
          exact ((hbel.out.trans (B6.out.mono hbel.out.size)).setCell (p := ⟨w.heap.size, 0, none⟩) (Nat.le_refl _) _).setCell (p := ⟨w.heap.size, 1, none⟩) (Nat.le_refl _) _
        | j + 1, hj, hk =>
          have q : decide (0 ≤ ((j + 1 : Nat) : Int) - 1) = true := decide_eq_true (by omega)
          have q' : ((j + 1 : Nat) : Int) - 1 = (j : Int) := by omega
          rw [q'] at q ⊢
          have x1 := hR.out.free (by simp)
          have hrl := hR.out.lt
          have RA : RoomAt (wr.alloc (.cells #[.int .i64 (j : Int), .pointer p] 74)) (w.heap.size + 1) m (List.replicate 24 zS) p := Blk.more hR.out _
          have c1 : (wr.alloc (.cells #[.int .i64 (j : Int), .pointer p] 74)).cell? ⟨w.heap.size + 1, 121, none⟩ = some (.pointer p) := RA.free (by simp)
          have c2 : ∀ i, (wr.alloc (.cells #[.int .i64 (j : Int), .pointer p] 74)).frozen? ⟨w.heap.size + 1, i, none⟩ = false := fun i => Blk.froz RA i
          have R5 : Hid (RoomAt ((wr.alloc (.cells #[.int .i64 (j : Int), .pointer p] 74)).setCell ⟨w.heap.size + 1, 121, none⟩ (.pointer (some ⟨wr.heap.size, 0, none⟩))) (w.heap.size + 1) m (List.replicate 24 zS) (some ⟨wr.heap.size, 0, none⟩)) := RA.setFree (by simp) _
          have L5 : Hid (Lnk ((wr.alloc (.cells #[.int .i64 (j : Int), .pointer p] 74)).setCell ⟨w.heap.size + 1, 121, none⟩ (.pointer (some ⟨wr.heap.size, 0, none⟩))) (w.heap.size + 1) (some ⟨wr.heap.size, 0, none⟩) (List.range' j (m - j))) := by
            show Lnk _ _ _ _
            rw [range_cons j m (by omega)]
            refine Lnk.set ?_ 121 _
            exact ⟨wr.heap.size, p, rfl, hrl, by rw [World.size_alloc]; omega, World.cell?_alloc_at _ _ _ _ rfl, World.cell?_alloc_at _ _ _ _ rfl, hk.out.below ((Below.refl _ _).alloc (Nat.le_refl _) _)⟩
          have E5 : Hid (Below w.heap.size w ((wr.alloc (.cells #[.int .i64 (j : Int), .pointer p] 74)).setCell ⟨w.heap.size + 1, 121, none⟩ (.pointer (some ⟨wr.heap.size, 0, none⟩)))) := (hbel.out.alloc (by omega) _).setCell (p := ⟨w.heap.size + 1, 121, none⟩) (by dsimp only; omega) _
          have K5 : Hid (Blk ((wr.alloc (.cells #[.int .i64 (j : Int), .pointer p] 74)).setCell ⟨w.heap.size + 1, 121, none⟩ (.pointer (some ⟨wr.heap.size, 0, none⟩))) w.heap.size 24 [.slice none 0 0, .int .i64 0]) := Blk.far (Blk.more hN.out _) _ _ (by dsimp only; omega)
          have hrl' := hide1 hrl
          clear RA hR hk hN hbel F0 hrl q'
          go_wp2
          go_roundw
          case rel => exact ⟨j, _, by omega, by go_num, R5, L5, K5, E5⟩
          case measure => simp [intOf]
end Go.Proofs.Ytenmpciimocggaa
