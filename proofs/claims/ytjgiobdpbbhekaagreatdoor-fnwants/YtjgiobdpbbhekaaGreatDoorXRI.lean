/- The contracts of the program's functions that read a place: whether it is right, what lies there, handles, how many are used. -/
import Derived.Test.YtjgiobdpbbhekaaGreatDoorXRO
import Derived.Test.YtjgiobdpbbhekaaGreatDoorXBO
import Derived.Test.YtjgiobdpbbhekaaGreatDoorXBW
namespace Go.Proofs.YtjgiobdpbbhekaaGreatDoor
open Go.RowKit

set_option maxRecDepth 100000 in
theorem implOk_any (ao : Option Addr) (l : List Sl) (ca : Nat) (f : Int) (w : World) (hl : l.length ≤ 1048576) (hA : RdA w ao l) :
    Calls Tryz.prog 103 #[arV ao l.length ca f] w fun e w' => ∃ x : Bool, e = .returned (.bool x) ∧ (x = true ↔ OkA l f) ∧ Below w.heap.size w w' := by
  have C1 := hide1 (fun o => roomOf_any ao l ca f (w.alloc o) hl (hA.later ((Below.refl _ _).alloc (Nat.le_refl _) o)))
  clear hA
  unfold arV at C1 ⊢
  go_enter Tryz.func103, Tryz.ntmps103
  go_wp2_with fail
  refine (C1.out _).mono ?_
  rintro e w1 ⟨⟨r, p, V, rfl, hr, ho, hc, hR, hk⟩ | ⟨rfl, hn⟩, hb1⟩
  · have HO := hide1 ho
    have HB := hide1 (below_box hb1)
    clear ho hc hR hk hb1
    go_wp2
    go_ret
    exact ⟨true, rfl, ⟨fun _ => HO.out, fun _ => rfl⟩, HB.out⟩
  · have HN := hide1 hn
    have HB := hide1 (below_box hb1)
    clear hn hb1
    go_wp2
    go_ret
    exact ⟨false, rfl, ⟨(fun h => by cases h), fun h => absurd h HN.out⟩, HB.out⟩

theorem fillup_get {l : List Sl} (h : l.length ≤ 24) (i : Nat) (hi : i < l.length) : (fillup l)[i]'(by rw [fillup_length h]; omega) = l[i] := by
  have := fillup_at i hi
  rw [List.getElem?_eq_getElem (by rw [fillup_length h]; omega)] at this
  exact Option.some.inj this
/-- The slot of a place, out of the room. -/
theorem RoomAt.of {w : World} {r : Nat} {l : List Sl} {p : Option Addr} (h : RoomAt w r l.length (fillup l) p) (h2 : l.length ≤ 24) (i : Nat) (hi : i < l.length) : slotO w r 1 i l[i] := by
  have := h.slot i (by rw [fillup_length h2]; omega)
  rw [fillup_get h2 i hi] at this
  exact this
theorem handleOf_any {w : World} {r : Nat} {l : List Sl} {p : Option Addr} (h : RoomAt w r l.length (fillup l) p) {f : Int} (ho : OkA l f) (i : Nat) (hi : i < l.length) :
    Calls Tryz.prog 170 #[.pointer (some ⟨r, 0, none⟩), .int .i64 (i : Int)] w fun e w' => e = .returned (.int .i64 (24 * l[i].gen + (i : Int))) ∧ w' = w := by
  have h2 := ho.most
  have hs := ho.slots i hi
  have := handleAt_any h (fillup_length h2) i (by omega) (by rw [fillup_get h2 i hi]; exact hs.1) (by rw [fillup_get h2 i hi]; exact hs.2.1)
  rw [fillup_get h2 i hi] at this
  exact this

set_option maxRecDepth 100000 in
set_option maxHeartbeats 1000000 in
theorem placeOfA_any {w : World} {r : Nat} {l : List Sl} {p : Option Addr} (hR : RoomAt w r l.length (fillup l) p) {f : Int} (ho : OkA l f) (h : Int) (h1 : -9223372036854775808 ≤ h) (h2 : h ≤ 9223372036854775807) :
    Calls Tryz.prog 143 #[.pointer (some ⟨r, 0, none⟩), .int .i64 h] w fun e w' => ((∃ k : Nat, e = .returned (.tuple #[.int .i64 (k : Int), .bool true]) ∧ AtA l f h k) ∨ (e = .returned (.tuple #[.int .i64 0, .bool false]) ∧ ∀ k, ¬ AtA l f h k)) ∧ w' = w := by
  have hn24 := ho.most
  have HO := hide1 ho
  have HR := hide1 hR
  have x0 := hR.size
  clear ho hR
  by_cases hneg : h < 0
  · have q : decide (h < 0) = true := decide_eq_true hneg
    have HN := hide1 (show ∀ k, ¬ AtA l f h k from fun k hk => by have := hk.nonneg; omega)
    clear hneg
    go_enter Tryz.func143, Tryz.ntmps143
    go_wp2
    go_ret2
    exact ⟨.inr ⟨rfl, HN.out⟩, rfl⟩
  · obtain ⟨n, rfl⟩ := Int.eq_ofNat_of_zero_le (show 0 ≤ h by omega)
    have q0 : decide ((n : Int) < 0) = false := by simp
    obtain ⟨k, hk⟩ : ∃ k, n % 24 = k := ⟨_, rfl⟩
    have q1 : (n : Int) % 24 = (k : Int) := by omega
    have Q1 := hide1 q1
    have HK := hide1 hk
    have k24 : (k : Int) < 24 := by omega
    clear hneg hk
    by_cases hlt : k < l.length
    · have q2 : decide ((l.length : Int) ≤ (k : Int)) = false := by simp; omega
      obtain ⟨y0, y1, y2, y3, y4⟩ := HR.out.of hn24 k hlt
      have CH := hide1 (handleOf_any HR.out HO.out k hlt)
      rcases hu : l[k].used with _ | _
      · rw [hu] at y1
        have HN := hide1 (show ∀ j, ¬ AtA l f (n : Int) j from fun j hj => by
          have h1 := hj.place
          have h2 := HK.out
          obtain rfl : j = k := by omega
          have := hj.used
          rw [hu] at this
          cases this)
        clear hu CH
        go_enter Tryz.func143, Tryz.ntmps143
        go_wp2
        go_ret2
        exact ⟨.inr ⟨rfl, HN.out⟩, rfl⟩
      · rw [hu] at y1
        have hgs := HO.out.slots k hlt
        by_cases hgn : 24 * l[k].gen + (k : Int) = (n : Int)
        · rw [hgn] at CH
          have q4 : ((n : Int) != (n : Int)) = false := by simp
          have HY := hide1 (show AtA l f (n : Int) k from ⟨HO.out, by omega, hlt, by have := HK.out; omega, hu, by omega⟩)
          clear hu hgn hgs
          go_enter Tryz.func143, Tryz.ntmps143
          go_wp2_with fail
          refine CH.out.mono ?_
          rintro e w1 ⟨rfl, rfl⟩
          go_wp2
          go_ret2
          exact ⟨.inl ⟨k, by first | rfl | (show Ending.returned (.tuple #[.int .i64 ((n : Int) % 24), .bool true]) = _; rw [Q1.out]), HY.out⟩, rfl⟩
        · have q4 : (24 * l[k].gen + (k : Int) != (n : Int)) = true := by simp [hgn]
          have HN := hide1 (show ∀ j, ¬ AtA l f (n : Int) j from fun j hj => by
            have h1 := hj.place
            have h2 := HK.out
            obtain rfl : j = k := by omega
            have h3 := hj.gen
            exact hgn (by rw [h3]; omega))
          clear hu hgn hgs
          generalize l[k].gen = gn at *
          go_enter Tryz.func143, Tryz.ntmps143
          go_wp2_with fail
          refine CH.out.mono ?_
          rintro e w1 ⟨rfl, rfl⟩
          go_wp2
          go_ret2
          exact ⟨.inr ⟨rfl, HN.out⟩, rfl⟩
    · have q2 : decide ((l.length : Int) ≤ (k : Int)) = true := by simp; omega
      have q2' : decide ((l.length : Int) ≤ (n : Int) % 24) = true := by rw [q1]; exact q2
      have hge : l.length ≤ k := by omega
      have HN := hide1 (show ∀ j, ¬ AtA l f (n : Int) j from fun j hj => by
        have h1 := hj.place
        have h2 := HK.out
        have h3 := hj.lt
        omega)
      clear hlt
      go_enter Tryz.func143, Tryz.ntmps143
      go_wp2
      go_ret2
      exact ⟨.inr ⟨rfl, HN.out⟩, rfl⟩

set_option maxRecDepth 100000 in
set_option maxHeartbeats 1000000 in
theorem implLook_any (ao : Option Addr) (l : List Sl) (ca : Nat) (f h : Int) (w : World) (hl : l.length ≤ 1048576) (h1 : -9223372036854775808 ≤ h) (h2 : h ≤ 9223372036854775807) (hA : RdA w ao l) :
    Calls Tryz.prog 80 #[arV ao l.length ca f, .int .i64 h] w fun e w' => ((∃ (k : Nat) (hk : k < l.length), e = .returned (.tuple #[.string l[k].key, .string l[k].val, .bool true]) ∧ AtA l f h k) ∨ (e = .returned (.tuple #[.string ⟨#[]⟩, .string ⟨#[]⟩, .bool false]) ∧ ∀ k, ¬ AtA l f h k)) ∧ Below w.heap.size w w' := by
  have C1 := hide1 (fun o => roomOf_any ao l ca f (w.alloc o) hl (hA.later ((Below.refl _ _).alloc (Nat.le_refl _) o)))
  clear hA
  unfold arV at C1 ⊢
  go_enter Tryz.func80, Tryz.ntmps80
  go_wp2_with fail
  refine (C1.out _).mono ?_
  rintro e w1 ⟨⟨r, p, V, rfl, hr, ho, hc, hR, hk⟩ | ⟨rfl, hn⟩, hb1⟩
  · have HO := hide1 ho
    have HR := hide1 hR
    have HB := hide1 (below_box hb1)
    have CP := hide1 (placeOfA_any hR ho h h1 h2)
    clear ho hc hk hb1 hR hr
    go_wp2_with fail
    refine CP.out.mono ?_
    rintro e w2 ⟨⟨k, rfl, hk⟩ | ⟨rfl, hn⟩, rfl⟩
    · have hlt := hk.lt
      have n24 := hk.ok.most
      have k24 : (k : Int) < 24 := by omega
      obtain ⟨_, _, y2, y3, _⟩ := HR.out.of n24 k hlt
      have hrl := HR.out.lt
      have HY := hide1 (show (∃ (j : Nat) (hj : j < l.length), Ending.returned (.tuple #[.string l[k].key, .string l[k].val, .bool true]) = .returned (.tuple #[.string l[j].key, .string l[j].val, .bool true]) ∧ AtA l f h j) from ⟨k, hlt, rfl, hk⟩)
      generalize l[k].key = ky at *
      generalize l[k].val = vl at *
      have Y := hide1 (And.intro y2 y3)
      clear hk CP
      go_upto_region 7 with fail
      go_region_held3 (fun w' => w'.cell? ⟨r, 1 + k * 5 + 2, none⟩ = some (.string ky) ∧ w'.cell? ⟨r, 1 + k * 5 + 3, none⟩ = some (.string vl)) (first | exact ⟨(HBc.cell hrl).trans Y.out.1, (HBc.cell hrl).trans Y.out.2⟩ | exact Y.out) ((go_at_call 135; refine (newT_any _ _).mono ?_; rintro e wk ⟨rfl, hbk⟩; have HBc : Below w2.heap.size w2 wk := (by first | exact HBc.trans (hbk.mono HBc.size) | exact HBc.drew.trans (hbk.mono HBc.size) | exact hbk | exact (Below.refl _ _).drew.trans hbk)))
      go_wp2
      go_ret3
      exact ⟨.inl HY.out, HB.out.trans (HBc.mono HB.out.size)⟩
    · have HN := hide1 hn
      clear hn CP
      go_wp2
      go_ret3
      exact ⟨.inr ⟨rfl, HN.out⟩, HB.out⟩
  · have HN := hide1 (show ∀ k, ¬ AtA l f h k from fun k hk => hn hk.ok)
    have HB := hide1 (below_box hb1)
    clear hn hb1
    go_wp2
    go_ret3
    exact ⟨.inr ⟨rfl, HN.out⟩, HB.out⟩

set_option maxRecDepth 100000 in
set_option maxHeartbeats 1000000 in
theorem implUsed_any (ao : Option Addr) (l : List Sl) (ca : Nat) (f : Int) (w : World) (hl : l.length ≤ 1048576) (hA : RdA w ao l) :
    Calls Tryz.prog 56 #[arV ao l.length ca f] w fun e w' => (∃ r : Nat, e = .returned (.int .i64 (r : Int)) ∧ (OkA l f → r = usedN l l.length) ∧ (¬ OkA l f → r = 0)) ∧ Below w.heap.size w w' := by
  have C1 := hide1 (fun o => roomOf_any ao l ca f (w.alloc o) hl (hA.later ((Below.refl _ _).alloc (Nat.le_refl _) o)))
  clear hA
  unfold arV at C1 ⊢
  go_enter Tryz.func56, Tryz.ntmps56
  go_wp2_with fail
  refine (C1.out _).mono ?_
  rintro e w1 ⟨⟨r, q, V, rfl, hr, ho, hc, hR, hk⟩ | ⟨rfl, hn⟩, hb1⟩
  · have HO := hide1 ho
    have HU := hide1 (used_chain ho hc)
    have n24 := ho.most
    have HB := hide1 (below_box hb1)
    have x0 := hR.size
    have x1 := hR.free (fillup_length n24)
    have HK := hide1 hk
    clear ho hc hk hb1 hR hr
    go_wp2
    go_loopg [5, 6] V.length (fun k uv fv wr => ∃ (V2 : List Nat) (p2 : Option Addr) (u : Nat), uv = .int .i64 (u : Int) ∧ fv = .pointer p2 ∧ u ≤ 24 ∧ V2.length ≤ u ∧ Hid (u = usedN l l.length + V2.length) ∧ Hid (k = V2.length) ∧ Hid (Lnk w1 r p2 V2) ∧ wr = w1)
    case atStart => exact ⟨V, q, l.length, rfl, rfl, n24, by have := HU.out; omega, HU.out.symm, rfl, HK, rfl⟩
    case round =>
      obtain ⟨V2, p2, u, rfl, rfl, hu1, hu2, hu, hkk, hlk, rfl⟩ := hrel
      match V2, hlk, hkk, hu, hu2 with
      | [], hlk, hkk, hu, hu2 =>
        have hp : p2 = none := hlk.out
        subst hp
        go_wp2
        go_ret
        exact ⟨⟨u, rfl, fun _ => hu.out, fun h => absurd HO.out h⟩, HB.out⟩
      | k :: V2, hlk, hkk, hu, hu2 =>
        obtain ⟨b, q2, rfl, _, _, z0, z1, hq⟩ := hlk.out
        have HQ := hide1 hq
        have hu3 : V2.length + 1 ≤ u := hu2
        clear hq hlk
        go_wp2
        go_roundg V2.length
        case rel => exact ⟨V2, q2, u - 1, by go_num, rfl, by omega, by omega, by have := hu.out; rw [List.length_cons] at this; show u - 1 = _; omega, rfl, HQ, rfl⟩
        case measure => have := hkk.out; rw [List.length_cons] at this; omega
  · have HN := hide1 hn
    have HB := hide1 (below_box hb1)
    clear hn hb1
    go_wp2
    go_ret
    exact ⟨⟨0, rfl, fun h => absurd h HN.out, fun _ => rfl⟩, HB.out⟩
end Go.Proofs.YtjgiobdpbbhekaaGreatDoor
namespace Go.Proofs.YtjgiobdpbbhekaaGreatDoor
open Go.RowKit

end Go.Proofs.YtjgiobdpbbhekaaGreatDoor
