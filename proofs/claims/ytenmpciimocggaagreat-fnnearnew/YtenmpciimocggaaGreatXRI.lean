/- The contracts of the program's functions that read a place: whether it is right, what lies there, handles, how many are used. -/
import Derived.Test.YtenmpciimocggaaGreatXRO
import Derived.Test.YtenmpciimocggaaGreatXBO
import Derived.Test.YtenmpciimocggaaGreatXBW
namespace Go.Proofs.YtenmpciimocggaaGreat
open Go.RowKit

set_option maxRecDepth 100000 in
theorem implOk_any (ao : Option Addr) (l : List Sl) (ca : Nat) (f : Int) (w : World) (hl : l.length ≤ 1048576) (hA : RdA w ao l) :
    Calls Tryz.prog 37 #[arV ao l.length ca f] w fun e w' => ∃ x : Bool, e = .returned (.bool x) ∧ (x = true ↔ OkA l f) ∧ Below w.heap.size w w' := by
  have C1 := hide1 (fun o => roomOf_any ao l ca f (w.alloc o) hl (hA.later ((Below.refl _ _).alloc (Nat.le_refl _) o)))
  clear hA
  unfold arV at C1 ⊢
  go_enter Tryz.func37, Tryz.ntmps37
  go_wp2_with fail
  refine (C1.out _).mono ?_
  rintro e w1 ⟨⟨r, p, V, rfl, hr, ho, hc, hR, hk⟩ | ⟨rfl, hn⟩, hb1⟩
  · have HO := hide1 ho
    have HB := hide1 (below_box hb1)
    clear ho hc hR hk hb1
    go_wp2
    go_ret
    exact ⟨true, rfl, ⟨fun _ => HO.out, fun _ => rfl⟩, HB.out⟩
  · have HN := hide1 hn
    have HB := hide1 (below_box hb1)
    clear hn hb1
    go_wp2
    go_ret
    exact ⟨false, rfl, ⟨(fun h => by cases h), fun h => absurd h HN.out⟩, HB.out⟩

theorem fillup_get {l : List Sl} (h : l.length ≤ 24) (i : Nat) (hi : i < l.length) : (fillup l)[i]'(by rw [fillup_length h]; omega) = l[i] := by
  have := fillup_at i hi
  rw [List.getElem?_eq_getElem (by rw [fillup_length h]; omega)] at this
  exact Option.some.inj this
/-- The slot of a place, out of the room. -/
theorem RoomAt.of {w : World} {r : Nat} {l : List Sl} {p : Option Addr} (h : RoomAt w r l.length (fillup l) p) (h2 : l.length ≤ 24) (i : Nat) (hi : i < l.length) : slotO w r 1 i l[i] := by
  have := h.slot i (by rw [fillup_length h2]; omega)
  rw [fillup_get h2 i hi] at this
  exact this
theorem handleOf_any {w : World} {r : Nat} {l : List Sl} {p : Option Addr} (h : RoomAt w r l.length (fillup l) p) {f : Int} (ho : OkA l f) (i : Nat) (hi : i < l.length) :
    Calls Tryz.prog 83 #[.pointer (some ⟨r, 0, none⟩), .int .i64 (i : Int)] w fun e w' => e = .returned (.int .i64 (24 * l[i].gen + (i : Int))) ∧ w' = w := by
  have h2 := ho.most
  have hs := ho.slots i hi
  have := handleAt_any h (fillup_length h2) i (by omega) (by rw [fillup_get h2 i hi]; exact hs.1) (by rw [fillup_get h2 i hi]; exact hs.2.1)
  rw [fillup_get h2 i hi] at this
  exact this

set_option maxRecDepth 100000 in
set_option maxHeartbeats 1000000 in
theorem placeOfA_any {w : World} {r : Nat} {l : List Sl} {p : Option Addr} (hR : RoomAt w r l.length (fillup l) p) {f : Int} (ho : OkA l f) (h : Int) (h1 : -9223372036854775808 ≤ h) (h2 : h ≤ 9223372036854775807) :
    Calls Tryz.prog 63 #[.pointer (some ⟨r, 0, none⟩), .int .i64 h] w fun e w' => ((∃ k : Nat, e = .returned (.tuple #[.int .i64 (k : Int), .bool true]) ∧ AtA l f h k) ∨ (e = .returned (.tuple #[.int .i64 0, .bool false]) ∧ ∀ k, ¬ AtA l f h k)) ∧ w' = w := by
  have hn24 := ho.most
  have HO := hide1 ho
  have HR := hide1 hR
  have x0 := hR.size
  clear ho hR
  by_cases hneg : h < 0
  · have q : decide (h < 0) = true := decide_eq_true hneg
    have HN := hide1 (show ∀ k, ¬ AtA l f h k from fun k hk => by have := hk.nonneg; omega)
    clear hneg
    go_enter Tryz.func63, Tryz.ntmps63
    go_wp2
    go_ret2
    exact ⟨.inr ⟨rfl, HN.out⟩, rfl⟩
  · obtain ⟨n, rfl⟩ := Int.eq_ofNat_of_zero_le (show 0 ≤ h by omega)
    have q0 : decide ((n : Int) < 0) = false := by simp
    obtain ⟨k, hk⟩ : ∃ k, n % 24 = k := ⟨_, rfl⟩
    have q1 : (n : Int) % 24 = (k : Int) := by omega
    have Q1 := hide1 q1
    have HK := hide1 hk
    have k24 : (k : Int) < 24 := by omega
    clear hneg hk
    by_cases hlt : k < l.length
    · have q2 : decide ((l.length : Int) ≤ (k : Int)) = false := by simp; omega
      obtain ⟨y0, y1, y2, y3, y4⟩ := HR.out.of hn24 k hlt
      have CH := hide1 (handleOf_any HR.out HO.out k hlt)
      rcases hu : l[k].used with _ | _
      · rw [hu] at y1
        have HN := hide1 (show ∀ j, ¬ AtA l f (n : Int) j from fun j hj => by
          have h1 := hj.place
          have h2 := HK.out
          obtain rfl : j = k := by omega
          have := hj.used
          rw [hu] at this
          cases this)
        clear hu CH
        go_enter Tryz.func63, Tryz.ntmps63
        go_wp2
        go_ret2
        exact ⟨.inr ⟨rfl, HN.out⟩, rfl⟩
      · rw [hu] at y1
        have hgs := HO.out.slots k hlt
        by_cases hgn : 24 * l[k].gen + (k : Int) = (n : Int)
        · rw [hgn] at CH
          have q4 : ((n : Int) != (n : Int)) = false := by simp
          have HY := hide1 (show AtA l f (n : Int) k from ⟨HO.out, by omega, hlt, by have := HK.out; omega, hu, by omega⟩)
          clear hu hgn hgs
          go_enter Tryz.func63, Tryz.ntmps63
          go_wp2_with fail
          refine CH.out.mono ?_
          rintro e w1 ⟨rfl, rfl⟩
          go_wp2
          go_ret2
          exact ⟨.inl ⟨k, by first | rfl | (show Ending.returned (.tuple #[.int .i64 ((n : Int) % 24), .bool true]) = _; rw [Q1.out]), HY.out⟩, rfl⟩
        · have q4 : (24 * l[k].gen + (k : Int) != (n : Int)) = true := by simp [hgn]
          have HN := hide1 (show ∀ j, ¬ AtA l f (n : Int) j from fun j hj => by
            have h1 := hj.place
            have h2 := HK.out
            obtain rfl : j = k := by omega
            have h3 := hj.gen
            exact hgn (by rw [h3]; omega))
          clear hu hgn hgs
          generalize l[k].gen = gn at *
          go_enter Tryz.func63, Tryz.ntmps63
          go_wp2_with fail
          refine CH.out.mono ?_
          rintro e w1 ⟨rfl, rfl⟩
          go_wp2
          go_ret2
          exact ⟨.inr ⟨rfl, HN.out⟩, rfl⟩
    · have q2 : decide ((l.length : Int) ≤ (k : Int)) = true := by simp; omega
      have q2' : decide ((l.length : Int) ≤ (n : Int) % 24) = true := by rw [q1]; exact q2
      have hge : l.length ≤ k := by omega
      have HN := hide1 (show ∀ j, ¬ AtA l f (n : Int) j from fun j hj => by
        have h1 := hj.place
        have h2 := HK.out
        have h3 := hj.lt
        omega)
      clear hlt
      go_enter Tryz.func63, Tryz.ntmps63
      go_wp2
      go_ret2
      exact ⟨.inr ⟨rfl, HN.out⟩, rfl⟩

set_option maxRecDepth 100000 in
set_option maxHeartbeats 1000000 in
theorem implUsed_any (ao : Option Addr) (l : List Sl) (ca : Nat) (f : Int) (w : World) (hl : l.length ≤ 1048576) (hA : RdA w ao l) :
    Calls Tryz.prog 25 #[arV ao l.length ca f] w fun e w' => (∃ r : Nat, e = .returned (.int .i64 (r : Int)) ∧ (OkA l f → r = usedN l l.length) ∧ (¬ OkA l f → r = 0)) ∧ Below w.heap.size w w' := by
  have C1 := hide1 (fun o => roomOf_any ao l ca f (w.alloc o) hl (hA.later ((Below.refl _ _).alloc (Nat.le_refl _) o)))
  clear hA
  unfold arV at C1 ⊢
  go_enter Tryz.func25, Tryz.ntmps25
  go_wp2_with fail
  refine (C1.out _).mono ?_
  rintro e w1 ⟨⟨r, q, V, rfl, hr, ho, hc, hR, hk⟩ | ⟨rfl, hn⟩, hb1⟩
  · have HO := hide1 ho
    have HU := hide1 (used_chain ho hc)
    have n24 := ho.most
    have HB := hide1 (below_box hb1)
    have x0 := hR.size
    have x1 := hR.free (fillup_length n24)
    have HK := hide1 hk
    clear ho hc hk hb1 hR hr
    go_wp2
    go_loopg [5, 6] V.length (fun k uv fv wr => ∃ (V2 : List Nat) (p2 : Option Addr) (u : Nat), uv = .int .i64 (u : Int) ∧ fv = .pointer p2 ∧ u ≤ 24 ∧ V2.length ≤ u ∧ Hid (u = usedN l l.length + V2.length) ∧ Hid (k = V2.length) ∧ Hid (Lnk w1 r p2 V2) ∧ wr = w1)
    case atStart => exact ⟨V, q, l.length, rfl, rfl, n24, by have := HU.out; omega, HU.out.symm, rfl, HK, rfl⟩
    case round =>
      obtain ⟨V2, p2, u, rfl, rfl, hu1, hu2, hu, hkk, hlk, rfl⟩ := hrel
      match V2, hlk, hkk, hu, hu2 with
      | [], hlk, hkk, hu, hu2 =>
        have hp : p2 = none := hlk.out
        subst hp
        go_wp2
        go_ret
        exact ⟨⟨u, rfl, fun _ => hu.out, fun h => absurd HO.out h⟩, HB.out⟩
      | k :: V2, hlk, hkk, hu, hu2 =>
        obtain ⟨b, q2, rfl, _, _, z0, z1, hq⟩ := hlk.out
        have HQ := hide1 hq
        have hu3 : V2.length + 1 ≤ u := hu2
        clear hq hlk
        go_wp2
        go_roundg V2.length
        case rel => exact ⟨V2, q2, u - 1, by go_num, rfl, by omega, by omega, by have := hu.out; rw [List.length_cons] at this; show u - 1 = _; omega, rfl, HQ, rfl⟩
        case measure => have := hkk.out; rw [List.length_cons] at this; omega
  · have HN := hide1 hn
    have HB := hide1 (below_box hb1)
    clear hn hb1
    go_wp2
    go_ret
    exact ⟨⟨0, rfl, fun h => absurd h HN.out, fun _ => rfl⟩, HB.out⟩
end Go.Proofs.YtenmpciimocggaaGreat
namespace Go.Proofs.YtenmpciimocggaaGreat
open Go.RowKit

theorem fillup_set {l : List Sl} (k : Nat) (hk : k < l.length) (s : Sl) : (fillup l).set k s = fillup (l.set k s) := by
  rw [fillup, fillup, List.set_append_left _ _ hk, List.length_set]
/-- What the two first blocks of such a function hold, behind a call. -/
theorem two_blocks {w w1 : World} {ao : Option Addr} {n ca : Nat} {f : Int} {t : TypeId} (hb1 : Below ((w.alloc (.cells #[.slice ao n ca, .int .i64 f] t)).alloc (.cells #[.slice none 0 0, .int .i64 0] t)).heap.size ((w.alloc (.cells #[.slice ao n ca, .int .i64 f] t)).alloc (.cells #[.slice none 0 0, .int .i64 0] t)) w1) :
    Blk w1 (w.heap.size + 1) t [.slice none 0 0, .int .i64 0] ∧ Below w.heap.size w w1 ∧ w.heap.size + 1 + 1 ≤ w1.heap.size := by
  have bl := blocks2 w (.cells #[.slice ao n ca, .int .i64 f] t) (.cells #[.slice none 0 0, .int .i64 0] t)
  refine ⟨(hb1.block (w.heap.size + 1) (by simp only [World.size_alloc]; omega)).trans bl.2, (below2 w _ _).trans (hb1.mono (below2 w _ _).size), ?_⟩
  have := hb1.size
  simp only [World.size_alloc] at this
  exact this
theorem Blk.pair {w : World} {g : Nat} {t : TypeId} (h : Blk w g t [.slice none 0 0, .int .i64 0]) : w.cell? ⟨g, 0, none⟩ = some (.slice none 0 0) ∧ w.cell? ⟨g, 1, none⟩ = some (.int .i64 0) ∧ (∀ j, w.frozen? ⟨g, j, none⟩ = false) ∧ w.heap[g]? = some (.cells #[.slice none 0 0, .int .i64 0] t (0, 0)) :=
  ⟨h.cell 0, h.cell 1, fun j => h.froz j, h⟩

theorem range_cons (j m : Nat) (h : j < m) : List.range' j (m - j) = j :: List.range' (j + 1) (m - (j + 1)) := by
  rw [show m - j = (m - (j + 1)) + 1 by omega, List.range'_succ]

set_option maxRecDepth 100000 in
set_option maxHeartbeats 2000000 in
theorem implNewA_any (n : Int) (w : World) :
    Calls Tryz.prog 13 #[.int .i64 n] w fun e w' =>
      ((∃ (m b c : Nat), n = (m : Int) ∧ 1 ≤ m ∧ m ≤ 24 ∧ e = .returned (.tuple #[arV (some ⟨b, 0, none⟩) m c 0, .bool true]) ∧ w'.ownsRow w.heap.size 67 5 (.slice (some ⟨b, 0, none⟩) m c) m (sls (newL m m)))
       ∨ (e = .returned (.tuple #[arV none 0 0 0, .bool false]) ∧ ¬ (1 ≤ n ∧ n ≤ 24))) ∧ Below w.heap.size w w' := by
  unfold arV
  have hN : (w.alloc (.cells #[.slice none 0 0, .int .i64 0] 27)).heap[w.heap.size]? = some (.cells #[.slice none 0 0, .int .i64 0] 27 (0, 0)) := heap_alloc_last _ _
  have HN := hide1 hN
  clear hN
  by_cases c1 : n < 1
  · have q1 : decide (n < 1) = true := decide_eq_true c1
    have HNN := hide1 (show ¬ (1 ≤ n ∧ n ≤ 24) by omega)
    clear c1
    go_enter Tryz.func13, Tryz.ntmps13
    go_wp2
    refine bodyPost_ret (results_row2 Tryz.results13 _ _ w.heap.size 27 #[.slice none 0 0, .int .i64 0] (0, 0) _ rfl (by first | exact HN.out | exact heap2 HN.out _ _) Tryz.underlying27 rfl (by kernel_rfl)) rfl ?_
    exact ⟨.inr ⟨rfl, HNN.out⟩, by go_grown⟩
  · have q1 : decide (n < 1) = false := decide_eq_false c1
    by_cases c2 : 24 < n
    · have q2 : decide (24 < n) = true := decide_eq_true c2
      have HNN := hide1 (show ¬ (1 ≤ n ∧ n ≤ 24) by omega)
      clear c1 c2
      go_enter Tryz.func13, Tryz.ntmps13
      go_wp2
      refine bodyPost_ret (results_row2 Tryz.results13 _ _ w.heap.size 27 #[.slice none 0 0, .int .i64 0] (0, 0) _ rfl (by first | exact HN.out | exact heap2 HN.out _ _) Tryz.underlying27 rfl (by kernel_rfl)) rfl ?_
      exact ⟨.inr ⟨rfl, HNN.out⟩, by go_grown⟩
    · have q2 : decide (24 < n) = false := decide_eq_false c2
      obtain ⟨m, rfl⟩ := Int.eq_ofNat_of_zero_le (show 0 ≤ n by omega)
      have m1 : 1 ≤ m := by omega
      have m2 : m ≤ 24 := by omega
      obtain ⟨hz, _⟩ := zero_of_info Tryz.infoRoom
      obtain ⟨Z, hZ⟩ : ∃ Z, Z = (roomC 0 (List.replicate 24 zS) none).toArray := ⟨_, rfl⟩
      rw [← hZ] at hz
      have hne : ¬ Z = #[] := by rw [hZ]; intro e; have := congrArg Array.size e; simp [roomC] at this
      have F0 : Hid (RoomAt ((w.alloc (.cells #[.slice none 0 0, .int .i64 0] 27)).alloc (.cells (Z.setIfInBounds 0 (.int .i64 (m : Int))) 72)) (w.heap.size + 1) m (List.replicate 24 zS) none ∧ Blk ((w.alloc (.cells #[.slice none 0 0, .int .i64 0] 27)).alloc (.cells (Z.setIfInBounds 0 (.int .i64 (m : Int))) 72)) w.heap.size 27 [.slice none 0 0, .int .i64 0] ∧ Below w.heap.size w ((w.alloc (.cells #[.slice none 0 0, .int .i64 0] 27)).alloc (.cells (Z.setIfInBounds 0 (.int .i64 (m : Int))) 72))) := by
        refine ⟨?_, Blk.more (Blk.new w _ _) _, below2 w _ _⟩
        have := Blk.new (w.alloc (.cells #[.slice none 0 0, .int .i64 0] 27)) 72 (Z.setIfInBounds 0 (.int .i64 (m : Int)))
        have e : (Z.setIfInBounds 0 (.int .i64 (m : Int))).toList = roomC m (List.replicate 24 zS) none := by rw [hZ, Array.toList_setIfInBounds, List.toList_toArray, roomC, List.set_cons_zero]; rfl
        rw [World.size_alloc, e] at this
        exact this
      clear hZ c1 c2 HN
      go_enter Tryz.func13, Tryz.ntmps13
      go_upto_region 4 with fail
      generalize ((w.alloc (.cells #[.slice none 0 0, .int .i64 0] 27)).alloc (.cells (Z.setIfInBounds 0 (.int .i64 (m : Int))) 72)) = wn at F0 ⊢
      clear hz hne
      go_wp2
      go_loopw [5] (fun jv wr => ∃ (j : Nat) (p : Option Addr), j ≤ m ∧ jv = .int .i64 ((j : Int) - 1) ∧ Hid (RoomAt wr (w.heap.size + 1) m (List.replicate 24 zS) p) ∧ Hid (Lnk wr (w.heap.size + 1) p (List.range' j (m - j))) ∧ Hid (Blk wr w.heap.size 27 [.slice none 0 0, .int .i64 0]) ∧ Hid (Below w.heap.size w wr)) (fun jv _ => (intOf jv + 1).toNat)
      case atStart => exact ⟨m, none, Nat.le_refl _, rfl, F0.out.1, by rw [Nat.sub_self]; rfl, F0.out.2.1, F0.out.2.2⟩
      case round =>
        obtain ⟨j, p, hj, rfl, hR, hk, hN, hbel⟩ := hrel
        match j, hj, hk with
        | 0, hj, hk =>
          have q : decide (0 ≤ ((0 : Nat) : Int) - 1) = false := by decide
          have hw := hide1 (wrt_eq (L := List.replicate 24 zS) (OkA.new m m1 m2) (chain_new m m 0 (by omega) (by omega)) (by simp) (fun i hi => ⟨zS, by rw [newL_length] at hi; rw [List.getElem?_replicate, if_pos (by omega)], by rw [newL_at]; rfl, fun hno => absurd (by rw [newL_length] at hi; simp [List.mem_range'_1]; omega) hno⟩))
          have CA := hide1 (arena_any (M := newL m m) (L := List.replicate 24 zS) (V := List.range' 0 m) (p := p) (by rw [newL_length]; exact hR.out) (by simp) (by rw [newL_length]; exact m1) (by rw [newL_length]; exact m2) hk.out (fun i hi => by rw [List.mem_range'_1] at hi; omega) hw.out)
          rw [newL_length] at CA
          unfold arV at CA
          have hd : Hid (hdI (List.range' 0 m) = 0) := by show _ = _; rw [show m = (m - 1) + 1 by omega, List.range'_succ]; rfl
          have hsz : Hid (w.heap.size + 1 < wr.heap.size) := hR.out.lt
          clear hR hk hw F0
          go_wp2_with fail
          refine CA.out.mono ?_
          rintro e w6 ⟨b', c, rfl, hown, hb6⟩
          have OW := hide1 hown
          have B6 := hide1 hb6
          have K6 := hide1 (hN.out.below hb6 hN.out.lt)
          obtain ⟨t0, t1, ft, hbr⟩ := K6.out.pair
          have HBR := hide1 hbr
          rw [hd.out]
          clear hown hb6 hbr CA
          go_wp2
          refine bodyPost_ret (results_row2 Tryz.results13 _ _ w.heap.size 27 #[.slice (some ⟨b', 0, none⟩) m c, .int .i64 0] (0, 0) _ rfl (heap2 HBR.out _ _) Tryz.underlying27 rfl (by kernel_rfl)) rfl ?_
          have hlow : ∀ j, (Value.slice (some ⟨b', 0, none⟩) m c).ownBlock = some j → j ≠ w.heap.size := by
            intro j hj
            have := (OW.out.lt j hj).1
            have := hsz.out
            omega
          refine ⟨.inl ⟨m, b', c, rfl, m1, m2, rfl, own_base (own_far (own_far OW.out _ _ hlow) _ _ hlow) (by have := hsz.out; omega)⟩, ?_⟩
          exact ((hbel.out.trans (B6.out.mono hbel.out.size)).setCell (p := ⟨w.heap.size, 0, none⟩) (Nat.le_refl _) _).setCell (p := ⟨w.heap.size, 1, none⟩) (Nat.le_refl _) _
        | j + 1, hj, hk =>
          have q : decide (0 ≤ ((j + 1 : Nat) : Int) - 1) = true := decide_eq_true (by omega)
          have q' : ((j + 1 : Nat) : Int) - 1 = (j : Int) := by omega
          rw [q'] at q ⊢
          have x1 := hR.out.free (by simp)
          have hrl := hR.out.lt
          have RA : RoomAt (wr.alloc (.cells #[.int .i64 (j : Int), .pointer p] 74)) (w.heap.size + 1) m (List.replicate 24 zS) p := Blk.more hR.out _
          have c1 : (wr.alloc (.cells #[.int .i64 (j : Int), .pointer p] 74)).cell? ⟨w.heap.size + 1, 121, none⟩ = some (.pointer p) := RA.free (by simp)
          have c2 : ∀ i, (wr.alloc (.cells #[.int .i64 (j : Int), .pointer p] 74)).frozen? ⟨w.heap.size + 1, i, none⟩ = false := fun i => Blk.froz RA i
          have R5 : Hid (RoomAt ((wr.alloc (.cells #[.int .i64 (j : Int), .pointer p] 74)).setCell ⟨w.heap.size + 1, 121, none⟩ (.pointer (some ⟨wr.heap.size, 0, none⟩))) (w.heap.size + 1) m (List.replicate 24 zS) (some ⟨wr.heap.size, 0, none⟩)) := RA.setFree (by simp) _
          have L5 : Hid (Lnk ((wr.alloc (.cells #[.int .i64 (j : Int), .pointer p] 74)).setCell ⟨w.heap.size + 1, 121, none⟩ (.pointer (some ⟨wr.heap.size, 0, none⟩))) (w.heap.size + 1) (some ⟨wr.heap.size, 0, none⟩) (List.range' j (m - j))) := by
            show Lnk _ _ _ _
            rw [range_cons j m (by omega)]
            refine Lnk.set ?_ 121 _
            exact ⟨wr.heap.size, p, rfl, hrl, by rw [World.size_alloc]; omega, World.cell?_alloc_at _ _ _ _ rfl, World.cell?_alloc_at _ _ _ _ rfl, hk.out.below ((Below.refl _ _).alloc (Nat.le_refl _) _)⟩
          have E5 : Hid (Below w.heap.size w ((wr.alloc (.cells #[.int .i64 (j : Int), .pointer p] 74)).setCell ⟨w.heap.size + 1, 121, none⟩ (.pointer (some ⟨wr.heap.size, 0, none⟩)))) := (hbel.out.alloc (by omega) _).setCell (p := ⟨w.heap.size + 1, 121, none⟩) (by dsimp only; omega) _
          have K5 : Hid (Blk ((wr.alloc (.cells #[.int .i64 (j : Int), .pointer p] 74)).setCell ⟨w.heap.size + 1, 121, none⟩ (.pointer (some ⟨wr.heap.size, 0, none⟩))) w.heap.size 27 [.slice none 0 0, .int .i64 0]) := Blk.far (Blk.more hN.out _) _ _ (by dsimp only; omega)
          have hrl' := hide1 hrl
          clear RA hR hk hN hbel F0 hrl q'
          go_wp2
          go_roundw
          case rel => exact ⟨j, _, by omega, by go_num, R5, L5, K5, E5⟩
          case measure => simp [intOf]
end Go.Proofs.YtenmpciimocggaaGreat
