/- The contracts of the program's functions that read a place: whether it is right, what lies there, handles, how many are used. -/
import Derived.Test.YtjgiobdpbbhekaaGreatXRO
import Derived.Test.YtjgiobdpbbhekaaGreatXBO
import Derived.Test.YtjgiobdpbbhekaaGreatXBW
namespace Go.Proofs.YtjgiobdpbbhekaaGreat
open Go.RowKit

set_option maxRecDepth 100000 in
theorem implOk_any (ao : Option Addr) (l : List Sl) (ca : Nat) (f : Int) (w : World) (hl : l.length ≤ 1048576) (hA : RdA w ao l) :
    Calls Tryz.prog 42 #[arV ao l.length ca f] w fun e w' => ∃ x : Bool, e = .returned (.bool x) ∧ (x = true ↔ OkA l f) ∧ Below w.heap.size w w' := by
  have C1 := hide1 (fun o => roomOf_any ao l ca f (w.alloc o) hl (hA.later ((Below.refl _ _).alloc (Nat.le_refl _) o)))
  clear hA
  unfold arV at C1 ⊢
  go_enter Tryz.func42, Tryz.ntmps42
  go_wp2_with fail
  refine (C1.out _).mono ?_
  rintro e w1 ⟨⟨r, p, V, rfl, hr, ho, hc, hR, hk⟩ | ⟨rfl, hn⟩, hb1⟩
  · have HO := hide1 ho
    have HB := hide1 (below_box hb1)
    clear ho hc hR hk hb1
    go_wp2
    go_ret
    exact ⟨true, rfl, ⟨fun _ => HO.out, fun _ => rfl⟩, HB.out⟩
  · have HN := hide1 hn
    have HB := hide1 (below_box hb1)
    clear hn hb1
    go_wp2
    go_ret
    exact ⟨false, rfl, ⟨(fun h => by cases h), fun h => absurd h HN.out⟩, HB.out⟩

theorem fillup_get {l : List Sl} (h : l.length ≤ 24) (i : Nat) (hi : i < l.length) : (fillup l)[i]'(by rw [fillup_length h]; omega) = l[i] := by
  have := fillup_at i hi
  rw [List.getElem?_eq_getElem (by rw [fillup_length h]; omega)] at this
  exact Option.some.inj this
/-- The slot of a place, out of the room. -/
theorem RoomAt.of {w : World} {r : Nat} {l : List Sl} {p : Option Addr} (h : RoomAt w r l.length (fillup l) p) (h2 : l.length ≤ 24) (i : Nat) (hi : i < l.length) : slotO w r 1 i l[i] := by
  have := h.slot i (by rw [fillup_length h2]; omega)
  rw [fillup_get h2 i hi] at this
  exact this
theorem handleOf_any {w : World} {r : Nat} {l : List Sl} {p : Option Addr} (h : RoomAt w r l.length (fillup l) p) {f : Int} (ho : OkA l f) (i : Nat) (hi : i < l.length) :
    Calls Tryz.prog 126 #[.pointer (some ⟨r, 0, none⟩), .int .i64 (i : Int)] w fun e w' => e = .returned (.int .i64 (24 * l[i].gen + (i : Int))) ∧ w' = w := by
  have h2 := ho.most
  have hs := ho.slots i hi
  have := handleAt_any h (fillup_length h2) i (by omega) (by rw [fillup_get h2 i hi]; exact hs.1) (by rw [fillup_get h2 i hi]; exact hs.2.1)
  rw [fillup_get h2 i hi] at this
  exact this

set_option maxRecDepth 100000 in
set_option maxHeartbeats 1000000 in
theorem placeOfA_any {w : World} {r : Nat} {l : List Sl} {p : Option Addr} (hR : RoomAt w r l.length (fillup l) p) {f : Int} (ho : OkA l f) (h : Int) (h1 : -9223372036854775808 ≤ h) (h2 : h ≤ 9223372036854775807) :
    Calls Tryz.prog 76 #[.pointer (some ⟨r, 0, none⟩), .int .i64 h] w fun e w' => ((∃ k : Nat, e = .returned (.tuple #[.int .i64 (k : Int), .bool true]) ∧ AtA l f h k) ∨ (e = .returned (.tuple #[.int .i64 0, .bool false]) ∧ ∀ k, ¬ AtA l f h k)) ∧ w' = w := by
  have hn24 := ho.most
  have HO := hide1 ho
  have HR := hide1 hR
  have x0 := hR.size
  clear ho hR
  by_cases hneg : h < 0
  · have q : decide (h < 0) = true := decide_eq_true hneg
    have HN := hide1 (show ∀ k, ¬ AtA l f h k from fun k hk => by have := hk.nonneg; omega)
    clear hneg
    go_enter Tryz.func76, Tryz.ntmps76
    go_wp2
    go_ret2
    exact ⟨.inr ⟨rfl, HN.out⟩, rfl⟩
  · obtain ⟨n, rfl⟩ := Int.eq_ofNat_of_zero_le (show 0 ≤ h by omega)
    have q0 : decide ((n : Int) < 0) = false := by simp
    obtain ⟨k, hk⟩ : ∃ k, n % 24 = k := ⟨_, rfl⟩
    have q1 : (n : Int) % 24 = (k : Int) := by omega
    have Q1 := hide1 q1
    have HK := hide1 hk
    have k24 : (k : Int) < 24 := by omega
    clear hneg hk
    by_cases hlt : k < l.length
    · have q2 : decide ((l.length : Int) ≤ (k : Int)) = false := by simp; omega
      obtain ⟨y0, y1, y2, y3, y4⟩ := HR.out.of hn24 k hlt
      have CH := hide1 (handleOf_any HR.out HO.out k hlt)
      rcases hu : l[k].used with _ | _
      · rw [hu] at y1
        have HN := hide1 (show ∀ j, ¬ AtA l f (n : Int) j from fun j hj => by
          have h1 := hj.place
          have h2 := HK.out
          obtain rfl : j = k := by omega
          have := hj.used
          rw [hu] at this
          cases this)
        clear hu CH
        go_enter Tryz.func76, Tryz.ntmps76
        go_wp2
        go_ret2
        exact ⟨.inr ⟨rfl, HN.out⟩, rfl⟩
      · rw [hu] at y1
        have hgs := HO.out.slots k hlt
        by_cases hgn : 24 * l[k].gen + (k : Int) = (n : Int)
        · rw [hgn] at CH
          have q4 : ((n : Int) != (n : Int)) = false := by simp
          have HY := hide1 (show AtA l f (n : Int) k from ⟨HO.out, by omega, hlt, by have := HK.out; omega, hu, by omega⟩)
          clear hu hgn hgs
          go_enter Tryz.func76, Tryz.ntmps76
          go_wp2_with fail
          refine CH.out.mono ?_
          rintro e w1 ⟨rfl, rfl⟩
          go_wp2
          go_ret2
          exact ⟨.inl ⟨k, by first | rfl | (show Ending.returned (.tuple #[.int .i64 ((n : Int) % 24), .bool true]) = _; rw [Q1.out]), HY.out⟩, rfl⟩
        · have q4 : (24 * l[k].gen + (k : Int) != (n : Int)) = true := by simp [hgn]
          have HN := hide1 (show ∀ j, ¬ AtA l f (n : Int) j from fun j hj => by
            have h1 := hj.place
            have h2 := HK.out
            obtain rfl : j = k := by omega
            have h3 := hj.gen
            exact hgn (by rw [h3]; omega))
          clear hu hgn hgs
          generalize l[k].gen = gn at *
          go_enter Tryz.func76, Tryz.ntmps76
          go_wp2_with fail
          refine CH.out.mono ?_
          rintro e w1 ⟨rfl, rfl⟩
          go_wp2
          go_ret2
          exact ⟨.inr ⟨rfl, HN.out⟩, rfl⟩
    · have q2 : decide ((l.length : Int) ≤ (k : Int)) = true := by simp; omega
      have q2' : decide ((l.length : Int) ≤ (n : Int) % 24) = true := by rw [q1]; exact q2
      have hge : l.length ≤ k := by omega
      have HN := hide1 (show ∀ j, ¬ AtA l f (n : Int) j from fun j hj => by
        have h1 := hj.place
        have h2 := HK.out
        have h3 := hj.lt
        omega)
      clear hlt
      go_enter Tryz.func76, Tryz.ntmps76
      go_wp2
      go_ret2
      exact ⟨.inr ⟨rfl, HN.out⟩, rfl⟩

set_option maxRecDepth 100000 in
set_option maxHeartbeats 1000000 in
theorem implLook_any (ao : Option Addr) (l : List Sl) (ca : Nat) (f h : Int) (w : World) (hl : l.length ≤ 1048576) (h1 : -9223372036854775808 ≤ h) (h2 : h ≤ 9223372036854775807) (hA : RdA w ao l) :
    Calls Tryz.prog 36 #[arV ao l.length ca f, .int .i64 h] w fun e w' => ((∃ (k : Nat) (hk : k < l.length), e = .returned (.tuple #[.string l[k].key, .string l[k].val, .bool true]) ∧ AtA l f h k) ∨ (e = .returned (.tuple #[.string ⟨#[]⟩, .string ⟨#[]⟩, .bool false]) ∧ ∀ k, ¬ AtA l f h k)) ∧ Below w.heap.size w w' := by
  have C1 := hide1 (fun o => roomOf_any ao l ca f (w.alloc o) hl (hA.later ((Below.refl _ _).alloc (Nat.le_refl _) o)))
  clear hA
  unfold arV at C1 ⊢
  go_enter Tryz.func36, Tryz.ntmps36
  go_wp2_with fail
  refine (C1.out _).mono ?_
  rintro e w1 ⟨⟨r, p, V, rfl, hr, ho, hc, hR, hk⟩ | ⟨rfl, hn⟩, hb1⟩
  · have HO := hide1 ho
    have HR := hide1 hR
    have HB := hide1 (below_box hb1)
    have CP := hide1 (placeOfA_any hR ho h h1 h2)
    clear ho hc hk hb1 hR hr
    go_wp2_with fail
    refine CP.out.mono ?_
    rintro e w2 ⟨⟨k, rfl, hk⟩ | ⟨rfl, hn⟩, rfl⟩
    · have hlt := hk.lt
      have n24 := hk.ok.most
      have k24 : (k : Int) < 24 := by omega
      obtain ⟨_, _, y2, y3, _⟩ := HR.out.of n24 k hlt
      have hrl := HR.out.lt
      have HY := hide1 (show (∃ (j : Nat) (hj : j < l.length), Ending.returned (.tuple #[.string l[k].key, .string l[k].val, .bool true]) = .returned (.tuple #[.string l[j].key, .string l[j].val, .bool true]) ∧ AtA l f h j) from ⟨k, hlt, rfl, hk⟩)
      generalize l[k].key = ky at *
      generalize l[k].val = vl at *
      have Y := hide1 (And.intro y2 y3)
      clear hk CP
      go_upto_region 7 with fail
      go_region_held3 (fun w' => w'.cell? ⟨r, 1 + k * 5 + 2, none⟩ = some (.string ky) ∧ w'.cell? ⟨r, 1 + k * 5 + 3, none⟩ = some (.string vl)) (first | exact ⟨(HBc.cell hrl).trans Y.out.1, (HBc.cell hrl).trans Y.out.2⟩ | exact Y.out) ((go_at_call 77; refine (newT_any _ _).mono ?_; rintro e wk ⟨rfl, hbk⟩; have HBc : Below w2.heap.size w2 wk := (by first | exact HBc.trans (hbk.mono HBc.size) | exact HBc.drew.trans (hbk.mono HBc.size) | exact hbk | exact (Below.refl _ _).drew.trans hbk)))
      go_wp2
      go_ret3
      exact ⟨.inl HY.out, HB.out.trans (HBc.mono HB.out.size)⟩
    · have HN := hide1 hn
      clear hn CP
      go_wp2
      go_ret3
      exact ⟨.inr ⟨rfl, HN.out⟩, HB.out⟩
  · have HN := hide1 (show ∀ k, ¬ AtA l f h k from fun k hk => hn hk.ok)
    have HB := hide1 (below_box hb1)
    clear hn hb1
    go_wp2
    go_ret3
    exact ⟨.inr ⟨rfl, HN.out⟩, HB.out⟩

set_option maxRecDepth 100000 in
set_option maxHeartbeats 1000000 in
theorem implUsed_any (ao : Option Addr) (l : List Sl) (ca : Nat) (f : Int) (w : World) (hl : l.length ≤ 1048576) (hA : RdA w ao l) :
    Calls Tryz.prog 26 #[arV ao l.length ca f] w fun e w' => (∃ r : Nat, e = .returned (.int .i64 (r : Int)) ∧ (OkA l f → r = usedN l l.length) ∧ (¬ OkA l f → r = 0)) ∧ Below w.heap.size w w' := by
  have C1 := hide1 (fun o => roomOf_any ao l ca f (w.alloc o) hl (hA.later ((Below.refl _ _).alloc (Nat.le_refl _) o)))
  clear hA
  unfold arV at C1 ⊢
  go_enter Tryz.func26, Tryz.ntmps26
  go_wp2_with fail
  refine (C1.out _).mono ?_
  rintro e w1 ⟨⟨r, q, V, rfl, hr, ho, hc, hR, hk⟩ | ⟨rfl, hn⟩, hb1⟩
  · have HO := hide1 ho
    have HU := hide1 (used_chain ho hc)
    have n24 := ho.most
    have HB := hide1 (below_box hb1)
    have x0 := hR.size
    have x1 := hR.free (fillup_length n24)
    have HK := hide1 hk
    clear ho hc hk hb1 hR hr
    go_wp2
    go_loopg [5, 6] V.length (fun k uv fv wr => ∃ (V2 : List Nat) (p2 : Option Addr) (u : Nat), uv = .int .i64 (u : Int) ∧ fv = .pointer p2 ∧ u ≤ 24 ∧ V2.length ≤ u ∧ Hid (u = usedN l l.length + V2.length) ∧ Hid (k = V2.length) ∧ Hid (Lnk w1 r p2 V2) ∧ wr = w1)
    case atStart => exact ⟨V, q, l.length, rfl, rfl, n24, by have := HU.out; omega, HU.out.symm, rfl, HK, rfl⟩
    case round =>
      obtain ⟨V2, p2, u, rfl, rfl, hu1, hu2, hu, hkk, hlk, rfl⟩ := hrel
      match V2, hlk, hkk, hu, hu2 with
      | [], hlk, hkk, hu, hu2 =>
        have hp : p2 = none := hlk.out
        subst hp
        go_wp2
        go_ret
        exact ⟨⟨u, rfl, fun _ => hu.out, fun h => absurd HO.out h⟩, HB.out⟩
      | k :: V2, hlk, hkk, hu, hu2 =>
        obtain ⟨b, q2, rfl, _, _, z0, z1, hq⟩ := hlk.out
        have HQ := hide1 hq
        have hu3 : V2.length + 1 ≤ u := hu2
        clear hq hlk
        go_wp2
        go_roundg V2.length
        case rel => exact ⟨V2, q2, u - 1, by go_num, rfl, by omega, by omega, by have := hu.out; rw [List.length_cons] at this; show u - 1 = _; omega, rfl, HQ, rfl⟩
        case measure => have := hkk.out; rw [List.length_cons] at this; omega
  · have HN := hide1 hn
    have HB := hide1 (below_box hb1)
    clear hn hb1
    go_wp2
    go_ret
    exact ⟨⟨0, rfl, fun h => absurd h HN.out, fun _ => rfl⟩, HB.out⟩
end Go.Proofs.YtjgiobdpbbhekaaGreat
namespace Go.Proofs.YtjgiobdpbbhekaaGreat
open Go.RowKit

/-- What the two first blocks of such a function hold, behind a call. -/
theorem two_blocks {w w1 : World} {ao : Option Addr} {n ca : Nat} {f : Int} {t : TypeId} (hb1 : Below ((w.alloc (.cells #[.slice ao n ca, .int .i64 f] t)).alloc (.cells #[.slice none 0 0, .int .i64 0] t)).heap.size ((w.alloc (.cells #[.slice ao n ca, .int .i64 f] t)).alloc (.cells #[.slice none 0 0, .int .i64 0] t)) w1) :
    Blk w1 (w.heap.size + 1) t [.slice none 0 0, .int .i64 0] ∧ Below w.heap.size w w1 ∧ w.heap.size + 1 + 1 ≤ w1.heap.size := by
  have bl := blocks2 w (.cells #[.slice ao n ca, .int .i64 f] t) (.cells #[.slice none 0 0, .int .i64 0] t)
  refine ⟨(hb1.block (w.heap.size + 1) (by simp only [World.size_alloc]; omega)).trans bl.2, (below2 w _ _).trans (hb1.mono (below2 w _ _).size), ?_⟩
  have := hb1.size
  simp only [World.size_alloc] at this
  exact this
theorem Blk.pair {w : World} {g : Nat} {t : TypeId} (h : Blk w g t [.slice none 0 0, .int .i64 0]) : w.cell? ⟨g, 0, none⟩ = some (.slice none 0 0) ∧ w.cell? ⟨g, 1, none⟩ = some (.int .i64 0) ∧ (∀ j, w.frozen? ⟨g, j, none⟩ = false) ∧ w.heap[g]? = some (.cells #[.slice none 0 0, .int .i64 0] t (0, 0)) :=
  ⟨h.cell 0, h.cell 1, fun j => h.froz j, h⟩

theorem genAfter_any (g : Int) (h1 : 0 ≤ g) (h2 : g ≤ 41666665) (w : World) : Calls Tryz.prog 128 #[.int .i64 g] w fun e w' => e = .returned (.int .i64 (upGen g)) ∧ w' = w := by
  by_cases c : 41666665 ≤ g
  · have q : decide (41666665 ≤ g) = true := decide_eq_true c
    have HU := hide1 (show upGen g = 0 by rw [upGen, if_pos (by omega)])
    go_enter Tryz.func128, Tryz.ntmps128
    go_wp2
    go_ret
    exact ⟨by rw [HU.out]; rfl, rfl⟩
  · have q : decide (41666665 ≤ g) = false := decide_eq_false c
    have HU := hide1 (show upGen g = g + 1 by rw [upGen, if_neg (by omega)])
    go_enter Tryz.func128, Tryz.ntmps128
    go_wp2
    go_ret
    exact ⟨by rw [HU.out]; rfl, rfl⟩

set_option maxRecDepth 100000 in
set_option maxHeartbeats 2000000 in
theorem implLift_any (ao : Option Addr) (l : List Sl) (ca : Nat) (f h : Int) (w : World) (hl : l.length ≤ 1048576) (h1 : -9223372036854775808 ≤ h) (h2 : h ≤ 9223372036854775807) (hA : RdA w ao l) :
    Calls Tryz.prog 82 #[arV ao l.length ca f, .int .i64 h] w fun e w' =>
      ((∃ (k b c : Nat) (hk : k < l.length), e = .returned (.tuple #[arV (some ⟨b, 0, none⟩) l.length c (k : Int), .bool true]) ∧ AtA l f h k ∧ w'.ownsRow w.heap.size 72 5 (.slice (some ⟨b, 0, none⟩) l.length c) l.length (sls (l.set k (lifted l[k] f))))
       ∨ (e = .returned (.tuple #[arV none 0 0 0, .bool false]) ∧ ∀ k, ¬ AtA l f h k)) ∧ Below w.heap.size w w' := by
  have C1 := hide1 (fun o1 o2 => roomOf_any ao l ca f ((w.alloc o1).alloc o2) hl (hA.later (below2 w o1 o2)))
  clear hA
  unfold arV at C1 ⊢
  go_enter Tryz.func82, Tryz.ntmps82
  go_wp2_with fail
  refine (C1.out _ _).mono ?_
  rintro e w1 ⟨⟨r, p, V, rfl, hr, ho, hc, hR, hk⟩ | ⟨rfl, hn⟩, hb1⟩
  · obtain ⟨BR, B1, hsz⟩ := two_blocks hb1
    have hr2 : w.heap.size + 2 ≤ r := by simp only [World.size_alloc] at hr; exact hr
    obtain ⟨y0, y1, f0, hbr⟩ := BR.pair
    have HBR := hide1 hbr
    have BR := hide1 BR
    have B1 := hide1 B1
    have HO := hide1 ho
    have HC := hide1 hc
    have HR := hide1 hR
    have HK := hide1 hk
    have n24 := ho.most
    have CP := hide1 (placeOfA_any hR ho h h1 h2)
    clear hb1 hr ho hc hR hk hbr C1
    go_wp2_with fail
    refine CP.out.mono ?_
    rintro e w2 ⟨⟨k, rfl, hk⟩ | ⟨rfl, hn⟩, rfl⟩
    · have hlt := hk.lt
      have k24 : (k : Int) < 24 := by omega
      have HAT := hide1 hk
      obtain ⟨v0, v1, v2, v3, v4⟩ := HR.out.of n24 k hlt
      have hgs := HO.out.slots k hlt
      have CG := hide1 (genAfter_any l[k].gen hgs.1 hgs.2.1 w2)
      have hkV : Hid (k ∉ V) := fun hm => by
        have := (HO.out.met HC.out k hlt).2 hm
        rw [hk.used] at this
        cases this
      have hlift := HO.out.lift hlt hk.used
      have hMc : Chain (l.set k (lifted l[k] f)) (k : Int) (k :: V) := ⟨rfl, by rw [List.length_set]; exact hlt, by rw [List.getElem_set_self]; exact HC.out.set k _ hkV.out⟩
      obtain ⟨M, hM⟩ : ∃ M, M = l.set k (lifted l[k] f) := ⟨_, rfl⟩
      rw [← hM] at hlift hMc
      have hMl : M.length = l.length := by rw [hM, List.length_set]
      have fr1 : ∀ j, w2.frozen? ⟨r, j, none⟩ = false := fun j => Blk.froz HR.out j
      obtain ⟨w3, hw3⟩ : ∃ w3, w3 = ((((w2.setCell ⟨r, 1 + k * 5, none⟩ (.int .i64 (upGen l[k].gen))).setCell ⟨r, 1 + k * 5 + 1, none⟩ (.bool false)).setCell ⟨r, 1 + k * 5 + 2, none⟩ (.string ⟨#[]⟩)).setCell ⟨r, 1 + k * 5 + 3, none⟩ (.string ⟨#[]⟩)).setCell ⟨r, 1 + k * 5 + 4, none⟩ (.int .i64 0) := ⟨_, rfl⟩
      have R3 : Hid (RoomAt w3 r l.length ((fillup l).set k ⟨upGen l[k].gen, false, ⟨#[]⟩, ⟨#[]⟩, 0⟩) p) := by
        show RoomAt w3 r l.length ((fillup l).set k ⟨upGen l[k].gen, false, ⟨#[]⟩, ⟨#[]⟩, 0⟩) p
        rw [hw3]
        exact HR.out.setSlot k (by rw [fillup_length n24]; omega) ⟨upGen l[k].gen, false, ⟨#[]⟩, ⟨#[]⟩, 0⟩
      have L3 : Hid (Lnk w3 r p V) := by
        show Lnk w3 r p V
        rw [hw3]
        exact ((((HK.out.set (1 + k * 5) (.int .i64 (upGen l[k].gen))).set (1 + k * 5 + 1) (.bool false)).set (1 + k * 5 + 2) (.string ⟨#[]⟩)).set (1 + k * 5 + 3) (.string ⟨#[]⟩)).set (1 + k * 5 + 4) (.int .i64 0)
      have E3 : Hid (Below w.heap.size w w3) := by
        show Below w.heap.size w w3
        rw [hw3]
        exact ((((B1.out.setCell (p := ⟨r, 1 + k * 5, none⟩) (by dsimp only; omega) (.int .i64 (upGen l[k].gen))).setCell (p := ⟨r, 1 + k * 5 + 1, none⟩) (by dsimp only; omega) (.bool false)).setCell (p := ⟨r, 1 + k * 5 + 2, none⟩) (by dsimp only; omega) (.string ⟨#[]⟩)).setCell (p := ⟨r, 1 + k * 5 + 3, none⟩) (by dsimp only; omega) (.string ⟨#[]⟩)).setCell (p := ⟨r, 1 + k * 5 + 4, none⟩) (by dsimp only; omega) (.int .i64 0)
      have K3 : Hid (Blk w3 (w.heap.size + 1) 26 [.slice none 0 0, .int .i64 0]) := by
        show Blk w3 (w.heap.size + 1) 26 [.slice none 0 0, .int .i64 0]
        rw [hw3]
        exact Blk.far (Blk.far (Blk.far (Blk.far (Blk.far BR.out ⟨r, 1 + k * 5, none⟩ (.int .i64 (upGen l[k].gen)) (by dsimp only; omega)) ⟨r, 1 + k * 5 + 1, none⟩ (.bool false) (by dsimp only; omega)) ⟨r, 1 + k * 5 + 2, none⟩ (.string ⟨#[]⟩) (by dsimp only; omega)) ⟨r, 1 + k * 5 + 3, none⟩ (.string ⟨#[]⟩) (by dsimp only; omega)) ⟨r, 1 + k * 5 + 4, none⟩ (.int .i64 0) (by dsimp only; omega)
      have hL24 : Hid (((fillup l).set k ⟨upGen l[k].gen, false, ⟨#[]⟩, ⟨#[]⟩, 0⟩).length = 24) := by show _ = _; rw [List.length_set, fillup_length n24]
      have hMw := hide1 (wrt_eq (L := (fillup l).set k ⟨upGen l[k].gen, false, ⟨#[]⟩, ⟨#[]⟩, 0⟩) hlift hMc hL24.out (fun i hi => by
        by_cases e : k = i
        · subst e
          exact ⟨_, List.getElem?_set_self (by rw [fillup_length n24]; omega), by simp [hM, lifted], fun hno => absurd (by simp) hno⟩
        · have hil : i < l.length := by omega
          refine ⟨l[i], by rw [List.getElem?_set_ne e]; exact fillup_at i hil, ?_⟩
          have : M[i] = l[i] := by simp only [hM]; rw [List.getElem_set_ne e]
          rw [this]
          exact ⟨rfl, fun _ => ⟨rfl, rfl⟩⟩))
      rw [← hMl] at R3
      have V24 : Hid (∀ j ∈ k :: V, j < 24) := fun j hj => by have := hMc.lt j hj; omega
      have HM := hide1 hM
      have HML := hide1 hMl
      have HW3 := hide1 hw3
      have n24' : M.length ≤ 24 := by omega
      have m1 : Hid (1 ≤ M.length) := hlift.least
      have x3 := R3.out.free hL24.out
      have fr3 : ∀ j, w3.frozen? ⟨r, j, none⟩ = false := fun j => Blk.froz R3.out j
      have s3 : Hid (r < w3.heap.size) := R3.out.lt
      clear hk CP hw3 hM hMl hMc hlift hgs y0 y1 f0
      go_wp2_with fail
      refine CG.out.mono ?_
      rintro e w4 ⟨rfl, rfl⟩
      go_upto_region 9 with fail
      rw [← HW3.out]
      clear HW3 v0 v1 v2 v3 v4 fr1 CG HR HK BR HBR B1
      generalize (fillup l).set k ⟨upGen l[k].gen, false, ⟨#[]⟩, ⟨#[]⟩, 0⟩ = L at *
      -- the new link
      obtain ⟨w5, hw5⟩ : ∃ w5, w5 = (w3.alloc (.cells #[.int .i64 (k : Int), .pointer p] 119)).setCell ⟨r, 121, none⟩ (.pointer (some ⟨w3.heap.size, 0, none⟩)) := ⟨_, rfl⟩
      have RA : RoomAt (w3.alloc (.cells #[.int .i64 (k : Int), .pointer p] 119)) r M.length L p := Blk.more R3.out _
      have R5 : Hid (RoomAt w5 r M.length L (some ⟨w3.heap.size, 0, none⟩)) := by
        show RoomAt w5 r M.length L (some ⟨w3.heap.size, 0, none⟩)
        rw [hw5]
        exact RA.setFree hL24.out _
      have L5 : Hid (Lnk w5 r (some ⟨w3.heap.size, 0, none⟩) (k :: V)) := by
        show Lnk w5 r (some ⟨w3.heap.size, 0, none⟩) (k :: V)
        rw [hw5]
        refine Lnk.set ?_ 121 _
        refine ⟨w3.heap.size, p, rfl, s3.out, by rw [World.size_alloc]; omega, World.cell?_alloc_at _ _ _ _ rfl, World.cell?_alloc_at _ _ _ _ rfl, L3.out.below ((Below.refl _ _).alloc (Nat.le_refl _) _)⟩
      have E5 : Hid (Below w.heap.size w w5) := by
        show Below w.heap.size w w5
        rw [hw5]
        exact (E3.out.alloc (by have := E3.out.size; omega) _).setCell (p := ⟨r, 121, none⟩) (by dsimp only; omega) _
      have K5 : Hid (Blk w5 (w.heap.size + 1) 26 [.slice none 0 0, .int .i64 0]) := by
        show Blk w5 (w.heap.size + 1) 26 [.slice none 0 0, .int .i64 0]
        rw [hw5]
        exact Blk.far (Blk.more K3.out _) _ _ (by dsimp only; omega)
      have c1 : (w3.alloc (.cells #[.int .i64 (k : Int), .pointer p] 119)).cell? ⟨r, 121, none⟩ = some (.pointer p) := RA.free hL24.out
      have c2 : ∀ j, (w3.alloc (.cells #[.int .i64 (k : Int), .pointer p] 119)).frozen? ⟨r, j, none⟩ = false := fun j => Blk.froz RA j
      have HW5 := hide1 hw5
      clear hw5 RA
      go_upto_region 10 with fail
      rw [← HW5.out]
      clear HW5 c1 c2 x3 fr3
      have CA := hide1 (arena_any (w := w5) (M := M) (L := L) R5.out hL24.out m1.out n24' L5.out V24.out hMw.out)
      rw [HML.out] at CA
      unfold arV at CA
      have K5s : Hid (w.heap.size + 1 < w5.heap.size) := K5.out.lt
      go_wp2_with fail
      refine CA.out.mono ?_
      rintro e w6 ⟨b', c, rfl, hown, hb6⟩
      have OW := hide1 hown
      have B6 := hide1 hb6
      have K6 := hide1 (K5.out.below hb6 K5.out.lt)
      obtain ⟨t0, t1, ft, hbr⟩ := K6.out.pair
      have HBR := hide1 hbr
      clear hown hb6 hbr CA
      go_wp2
      refine bodyPost_ret (results_row2 Tryz.results82 _ _ (w.heap.size + 1) 26 #[.slice (some ⟨b', 0, none⟩) l.length c, .int .i64 (hdI (k :: V))] (0, 0) _ rfl (heap2 HBR.out _ _) Tryz.underlying26 rfl (by kernel_rfl)) rfl ?_
      have hlow : ∀ j, (Value.slice (some ⟨b', 0, none⟩) l.length c).ownBlock = some j → j ≠ w.heap.size + 1 := by
        intro j hj
        have := (OW.out.lt j hj).1
        have := K5s.out
        omega
      refine ⟨.inl ⟨k, b', c, hlt, rfl, HAT.out, ?_⟩, ?_⟩
      · rw [← HM.out]
        exact own_base (own_far (own_far OW.out _ _ hlow) _ _ hlow) (by have := E5.out.size; omega)
      · exact ((E5.out.trans (B6.out.mono E5.out.size)).setCell (p := ⟨w.heap.size + 1, 0, none⟩) (by dsimp only; omega) _).setCell (p := ⟨w.heap.size + 1, 1, none⟩) (by dsimp only; omega) _
    · have HN := hide1 hn
      clear hn CP
      go_wp2
      refine bodyPost_ret (results_row2 Tryz.results82 _ _ (w.heap.size + 1) 26 #[.slice none 0 0, .int .i64 0] (0, 0) _ rfl (heap2 HBR.out _ _) Tryz.underlying26 rfl (by kernel_rfl)) rfl ?_
      exact ⟨.inr ⟨rfl, HN.out⟩, (B1.out.setCell (p := ⟨w.heap.size + 1, 0, none⟩) (by dsimp only; omega) _).setCell (p := ⟨w.heap.size + 1, 1, none⟩) (by dsimp only; omega) _⟩
  · obtain ⟨BR, B1, hsz⟩ := two_blocks hb1
    obtain ⟨y0, y1, f0, hbr⟩ := BR.pair
    have HBR := hide1 hbr
    have B1 := hide1 B1
    have HN := hide1 (show ∀ k, ¬ AtA l f h k from fun k hk => hn hk.ok)
    clear hn hb1 hbr BR C1
    go_wp2
    refine bodyPost_ret (results_row2 Tryz.results82 _ _ (w.heap.size + 1) 26 #[.slice none 0 0, .int .i64 0] (0, 0) _ rfl (heap2 HBR.out _ _) Tryz.underlying26 rfl (by kernel_rfl)) rfl ?_
    exact ⟨.inr ⟨rfl, HN.out⟩, (B1.out.setCell (p := ⟨w.heap.size + 1, 0, none⟩) (by dsimp only; omega) _).setCell (p := ⟨w.heap.size + 1, 1, none⟩) (by dsimp only; omega) _⟩

end Go.Proofs.YtjgiobdpbbhekaaGreat
