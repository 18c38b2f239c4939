/- Three lists of texts joined, by the library's function. -/
import Derived.Test.YtenmpciimocggaaGreatSls
import Derived.Test.YtenmpciimocggaaGreatXQI
import Derived.Test.YtenmpciimocggaaGreatXA
namespace Go.Proofs.YtenmpciimocggaaGreat
open Go.RowKit Go.Shelf

theorem growQ_any (n : Nat) (w : World) (hn : n ≤ 1048576) :
    Calls Tryz.prog 58 #[.slice none 0 0, .int .i64 (n : Int)] w fun e w' => ∃ po pc, e = .returned (.slice po 0 pc) ∧ w'.ownsRow w.heap.size 9 1 (.slice po 0 pc) 0 [] ∧ Below w.heap.size w w' := by
  by_cases h0 : n = 0
  · subst h0
    have hcon := Any8.slices_Grow_room growS none 0 0 0 w (Nat.le_refl _) (by omega) (by omega) (Nat.le_refl _)
    change Calls Tryz.prog 58 _ _ _ at hcon
    refine hcon.mono ?_
    rintro e w' ⟨rfl, rfl⟩
    exact ⟨none, 0, rfl, World.ownsRow_nil _ _ _ _, Below.refl _ _⟩
  · obtain ⟨i0, hi, hz0, hz1, hz2⟩ := info_parts Tryz.infoQ
    have hcon := Any8.slices_Grow_grow growS i0 (.string ⟨#[]⟩) hi hz0 (by omega) none 0 0 n [] w (Nat.le_refl _) (by omega) (by rw [hz2]; omega) (by omega) (by simp) (fun _ => rfl) (fun a ha => by cases ha)
    change Calls Tryz.prog 58 _ _ _ at hcon
    refine hcon.mono ?_
    rintro e w' ⟨rfl, rfl⟩
    have hge := grownCap_ge w n 0 (growS_ren.t 25)
    have hle := grownCap_le_maxLen w (0 + n) 0 9 (by unfold maxLen; omega)
    refine ⟨_, _, rfl, ⟨rfl, .inr ⟨w.heap.size, _, _, rfl, Nat.le_refl _, heap_alloc_new w.drew _, Nat.zero_le _, hle, ?_, rfl⟩⟩, ?_⟩
    · simp [Builtin.zeroCells, Value.cells]
      omega
    · exact (Below.refl w.heap.size w).drew.alloc (Nat.le_refl _) _

/-- The first of three lists, joined. -/
def pre3 (l1 l2 l3 : List ByteArray) : Nat → List ByteArray
  | 0 => []
  | 1 => [] ++ l1
  | 2 => [] ++ l1 ++ l2
  | _ => [] ++ l1 ++ l2 ++ l3
theorem own_slc {w : World} {base n : Nat} {v : Value} {e : TypeId} {xs : List Value} (h : w.ownsRow base e 1 v n xs) : ∃ po pc, v = .slice po n pc := by
  rcases h.2 with ⟨rfl, rfl⟩ | ⟨g, cap, cur, rfl, _⟩
  · exact ⟨none, 0, rfl⟩
  · exact ⟨_, _, rfl⟩
set_option maxRecDepth 100000 in
set_option maxHeartbeats 4000000 in
theorem concat3_any {w : World} {P : Nat} {t : TypeId} {a1 a2 a3 : Option Addr} {c1 c2 c3 : Nat} {l1 l2 l3 : List ByteArray} (hP : Blk w P t [.slice a1 l1.length c1, .slice a2 l2.length c2, .slice a3 l3.length c3]) (h1 : RdQ w a1 l1) (h2 : RdQ w a2 l2) (h3 : RdQ w a3 l3) (n1 : l1.length ≤ 1000) (n2 : l2.length ≤ 1000) (n3 : l3.length ≤ 1000) :
    Calls Tryz.prog 42 #[.slice (some ⟨P, 0, none⟩) 3 3] w fun e w' => ∃ po pc, e = .returned (.slice po (l1 ++ l2 ++ l3).length pc) ∧ OwnQ w' w.heap.size po pc (l1 ++ l2 ++ l3) ∧ Below w.heap.size w w' := by
  have CG := hide1 (fun (m : Nat) (hm : m ≤ 1048576) => growQ_any m w hm)
  have HP := hide1 hP
  have H1 := hide1 h1
  have H2 := hide1 h2
  have H3 := hide1 h3
  have hPl := hP.lt
  have x0 : w.cell? ⟨P, 0, none⟩ = some (.slice a1 l1.length c1) := hP.cell 0
  have x1 : w.cell? ⟨P, 1, none⟩ = some (.slice a2 l2.length c2) := hP.cell 1
  have x2 : w.cell? ⟨P, 2, none⟩ = some (.slice a3 l3.length c3) := hP.cell 2
  have m1 : (l1.length : Int) ≤ 1000 := by omega
  have m2 : (l2.length : Int) ≤ 1000 := by omega
  have m3 : (l3.length : Int) ≤ 1000 := by omega
  clear hP h1 h2 h3
  go_enter Tryz.func42, Tryz.ntmps42
  go_wp2
  go_loop [3, 11] (fun sv iv => ∃ i s : Nat, i ≤ 3 ∧ iv = .int .i64 (i : Int) ∧ sv = .int .i64 (s : Int) ∧ s ≤ 3000 ∧ s = (if 1 ≤ i then l1.length else 0) + (if 2 ≤ i then l2.length else 0) + (if 3 ≤ i then l3.length else 0)) (fun _ iv => 3 - (intOf iv).toNat)
  case atStart => exact ⟨0, 0, by omega, rfl, rfl, by omega, rfl⟩
  case round =>
    obtain ⟨i, s, hi, rfl, rfl, hs3, hs⟩ := hrel
    have hc : i = 0 ∨ i = 1 ∨ i = 2 ∨ i = 3 := by omega
    rcases hc with rfl | rfl | rfl | rfl
    · obtain rfl : s = 0 := by simpa using hs
      clear hs
      go_wp2
      go_round
      case rel => exact ⟨1, l1.length, by omega, rfl, by go_num, by omega, by simp⟩
      case measure => simp [intOf]
    · obtain rfl : s = l1.length := by simpa using hs
      clear hs
      go_wp2
      go_round
      case rel => exact ⟨2, l1.length + l2.length, by omega, rfl, by go_num, by omega, by simp⟩
      case measure => simp [intOf]
    · obtain rfl : s = l1.length + l2.length := by simpa using hs
      clear hs
      have mm : (0 : Int) ≤ (l1.length : Int) + (l2.length : Int) := by omega
      go_wp2
      go_round
      case rel => exact ⟨3, l1.length + l2.length + l3.length, by omega, rfl, by go_num, by omega, by simp⟩
      case measure => simp [intOf]
    · have hs' : s = l1.length + l2.length + l3.length := by simpa using hs
      clear hs hs'
      go_wp2_with fail
      refine (CG.out s (by omega)).mono ?_
      rintro e w1 ⟨po, pc, rfl, ho1, hb1⟩
      have O1 := hide1 ho1
      have B1 := hide1 hb1
      clear ho1 hb1 x0 x1 x2 CG
      go_wp2
      go_loopw [6, 27] (fun nv iv wr => ∃ i : Nat, i ≤ 3 ∧ iv = .int .i64 (i : Int) ∧ Hid (wr.ownsRow w.heap.size 9 1 nv (pre3 l1 l2 l3 i).length (sc (pre3 l1 l2 l3 i))) ∧ Hid (Below w.heap.size w wr)) (fun _ iv _ => 3 - (intOf iv).toNat)
      case atStart => exact ⟨0, by omega, rfl, O1, B1⟩
      case round =>
        obtain ⟨i, hi, rfl, hown, hbel⟩ := hrel
        have hc : i = 0 ∨ i = 1 ∨ i = 2 ∨ i = 3 := by omega
        have y0 : wr.cell? ⟨P, 0, none⟩ = some (.slice a1 l1.length c1) := (HP.out.below hbel.out hPl).cell 0
        have y1 : wr.cell? ⟨P, 1, none⟩ = some (.slice a2 l2.length c2) := (HP.out.below hbel.out hPl).cell 1
        have y2 : wr.cell? ⟨P, 2, none⟩ = some (.slice a3 l3.length c3) := (HP.out.below hbel.out hPl).cell 2
        rcases hc with rfl | rfl | rfl | rfl
        · go_wp2_with (at_builtin; (refine wpList_appQ rfl _ _ 31 rfl Tryz.underlying31 w.heap.size _ (pre3 l1 l2 l3 0).length (pre3 l1 l2 l3 0) rfl hown.out a1 l1.length c1 l1 rfl rfl (H1.out.later hbel.out) (by simp only [pre3, List.length_nil]; omega) hbel.out.size ?_; intro v2 w2 ho2 hg2))
          have hb2 := hide1 (Below.grown hbel.out hg2 hbel.out.size (fun k hk => (hown.out.lt k hk).1))
          have O2 : Hid (w2.ownsRow w.heap.size 9 1 v2 (pre3 l1 l2 l3 1).length (sc (pre3 l1 l2 l3 1))) := by
            show w2.ownsRow _ _ _ _ _ _
            rw [show pre3 l1 l2 l3 1 = pre3 l1 l2 l3 0 ++ l1 from rfl, List.length_append]
            exact ho2
          clear ho2 hg2 hown hbel y0 y1 y2
          go_wp2
          go_roundw
          case rel => exact ⟨1, by omega, rfl, O2, hb2⟩
          case measure => simp [intOf]
        · go_wp2_with (at_builtin; (refine wpList_appQ rfl _ _ 31 rfl Tryz.underlying31 w.heap.size _ (pre3 l1 l2 l3 1).length (pre3 l1 l2 l3 1) rfl hown.out a2 l2.length c2 l2 rfl rfl (H2.out.later hbel.out) (by simp only [pre3, List.length_nil, List.length_append]; omega) hbel.out.size ?_; intro v2 w2 ho2 hg2))
          have hb2 := hide1 (Below.grown hbel.out hg2 hbel.out.size (fun k hk => (hown.out.lt k hk).1))
          have O2 : Hid (w2.ownsRow w.heap.size 9 1 v2 (pre3 l1 l2 l3 2).length (sc (pre3 l1 l2 l3 2))) := by
            show w2.ownsRow _ _ _ _ _ _
            rw [show pre3 l1 l2 l3 2 = pre3 l1 l2 l3 1 ++ l2 from rfl, List.length_append]
            exact ho2
          clear ho2 hg2 hown hbel y0 y1 y2
          go_wp2
          go_roundw
          case rel => exact ⟨2, by omega, rfl, O2, hb2⟩
          case measure => simp [intOf]
        · go_wp2_with (at_builtin; (refine wpList_appQ rfl _ _ 31 rfl Tryz.underlying31 w.heap.size _ (pre3 l1 l2 l3 2).length (pre3 l1 l2 l3 2) rfl hown.out a3 l3.length c3 l3 rfl rfl (H3.out.later hbel.out) (by simp only [pre3, List.length_nil, List.length_append]; omega) hbel.out.size ?_; intro v2 w2 ho2 hg2))
          have hb2 := hide1 (Below.grown hbel.out hg2 hbel.out.size (fun k hk => (hown.out.lt k hk).1))
          have O2 : Hid (w2.ownsRow w.heap.size 9 1 v2 (pre3 l1 l2 l3 3).length (sc (pre3 l1 l2 l3 3))) := by
            show w2.ownsRow _ _ _ _ _ _
            rw [show pre3 l1 l2 l3 3 = pre3 l1 l2 l3 2 ++ l3 from rfl, List.length_append]
            exact ho2
          clear ho2 hg2 hown hbel y0 y1 y2
          go_wp2
          go_roundw
          case rel => exact ⟨3, by omega, rfl, O2, hb2⟩
          case measure => simp [intOf]
        · go_wp2
          go_ret
          obtain ⟨qo, qc, hq⟩ := own_slc hown.out
          rw [hq] at hown ⊢
          exact ⟨qo, qc, rfl, hown.out, hbel.out⟩

theorem rdQ_cells {w : World} {ao : Option Addr} {L : List ByteArray} (h : RdQ w ao L) (h0 : 0 < L.length) : ∃ b o, ao = some ⟨b, o, none⟩ ∧ ∀ j, j < L.length → w.cell? ⟨b, o + j, none⟩ = some (.string (L.getD j ByteArray.empty)) := by
  obtain ⟨b, o, hab, _, _⟩ := h 0 h0
  refine ⟨b, o, hab, fun j hj => ?_⟩
  obtain ⟨b', o', hab', _, hc⟩ := h j hj
  rw [hab] at hab'
  simp only [Option.some.injEq, Addr.mk.injEq] at hab'
  obtain ⟨rfl, rfl, _⟩ := hab'
  rw [hc, List.getD_eq_getElem?_getD, List.getElem?_eq_getElem hj]
  rfl
theorem equalQ_any {w : World} {ao bo : Option Addr} {c d : Nat} {L : List ByteArray} (hA : RdQ w ao L) (hB : RdQ w bo L) (hl : L.length ≤ 1048576) :
    Calls Tryz.prog 44 #[.slice ao L.length c, .slice bo L.length d] w fun e w' => e = .returned (.bool true) ∧ Below w.heap.size w w' := by
  by_cases h0 : L.length = 0
  · have hcon := Any.slices_Equal_string_empty equalS ao bo c L.length d w (by omega)
    change Calls Tryz.prog 44 _ _ _ at hcon
    rw [h0] at hcon ⊢
    refine hcon.mono ?_
    rintro e w' ⟨rfl, rfl⟩
    exact ⟨rfl, Below.refl _ _⟩
  · obtain ⟨b1, o1, rfl, hc1⟩ := rdQ_cells hA (by omega)
    obtain ⟨b2, o2, rfl, hc2⟩ := rdQ_cells hB (by omega)
    have hcon := Any.slices_Equal_string equalS b1 o1 L.length c b2 o2 L.length d L L w (Nat.le_refl _) (Nat.le_refl _) (by omega) (by omega) hc1 hc2
    change Calls Tryz.prog 44 _ _ _ at hcon
    refine hcon.mono ?_
    rintro e w' ⟨rfl, q, rfl⟩
    exact ⟨by simp, below_drewN (Below.refl _ _) q⟩
end Go.Proofs.YtenmpciimocggaaGreat
