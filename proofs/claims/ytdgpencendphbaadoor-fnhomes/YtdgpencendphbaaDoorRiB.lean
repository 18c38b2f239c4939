/- The contracts of the statements' functions on rings: comparing, marking, holding, copying, sizing; what came in, opened. -/
import Derived.Test.YtdgpencendphbaaDoorSptM
import Derived.Test.YtdgpencendphbaaDoorRiS
import Derived.Test.YtdgpencendphbaaDoorSk
import Derived.Deep.SlicePairs
import Derived.Lib.SmallJoins
import Derived.ProofKit
import Derived.OpenShut
namespace Go.Proofs.YtdgpencendphbaaDoor
open Go.ChangeShapes Go.WideShapes Go.ChangeAt Go.RowKit Go.Deep Go.Joins
set_option linter.unusedVariables false

/-- A spot that came in, two memory cells from a place on. -/
def spotO (w : World) (b o i : Nat) (s : Sp) : Prop := w.cell? ⟨b, o + i * 2, none⟩ = some (.int .i64 s.1) ∧ w.cell? ⟨b, o + i * 2 + 1, none⟩ = some (.int .i64 s.2)
/-- What came in as a row of spots. -/
def RdO (w : World) (a : Option Addr) (l : List Sp) : Prop := ∀ i (h : i < l.length), ∃ b o, a = some ⟨b, o, none⟩ ∧ b < w.heap.size ∧ spotO w b o i l[i]
theorem spotO.below {w w' : World} {B b o i : Nat} {s : Sp} (h : spotO w b o i s) (hb : Below B w w') (hg : b < B) : spotO w' b o i s := ⟨(hb.cell hg).trans h.1, (hb.cell hg).trans h.2⟩
theorem RdO.later {w w' : World} {a : Option Addr} {l : List Sp} (h : RdO w a l) (hb : Below w.heap.size w w') : RdO w' a l := by
  intro i hi
  obtain ⟨b, o, ha, hg, hc⟩ := h i hi
  exact ⟨b, o, ha, Nat.lt_of_lt_of_le hg hb.size, hc.below hb hg⟩
theorem RdP.toO {w : World} {a : Option Addr} {l : List Sp} (h : RdP w a l) : RdO w a l := by
  intro i hi
  obtain ⟨g, ha, hg, h1, h2⟩ := h.at i hi
  exact ⟨g, 0, ha, hg, by simpa using h1, by simpa using h2⟩

set_option maxRecDepth 100000 in
theorem toSpot_any (s : Sp) (w : World) : Calls Tryd.prog 71 #[spV s] w fun e w' => e = .returned (spV s) ∧ Below w.heap.size w w' := by
  unfold spV
  go_enter Tryd.func71, Tryd.ntmps71
  go_wp2
  go_returns
  exact ⟨rfl, by go_grown⟩

theorem own_set2P {w : World} {base n g cap : Nat} {e : TypeId} {L : List Sp} (h : w.ownsRow base e 2 (.slice (some ⟨g, 0, none⟩) n cap) n (sps L)) (hL : L.length = n) (i : Nat) (hi : i < n) (s : Sp) :
    ((w.setCell ⟨g, i * 2, none⟩ (.int .i64 s.1)).setCell ⟨g, i * 2 + 1, none⟩ (.int .i64 s.2)).ownsRow base e 2 (.slice (some ⟨g, 0, none⟩) n cap) n (sps (L.set i s)) := by
  have st := (World.ownsRow.stored (World.ownsRow.stored h (i * 2) (.int .i64 s.1)).1 (i * 2 + 1) (.int .i64 s.2)).1
  rw [set2P _ _ _ _ (by rw [sps_length]; omega)] at st
  rw [sps_set L i s (by omega)]
  exact st
theorem below_set2P {B g : Nat} {w w' : World} (h : Below B w w') (hg : B ≤ g) (i : Nat) (s : Sp) : Below B w ((w'.setCell ⟨g, i * 2, none⟩ (.int .i64 s.1)).setCell ⟨g, i * 2 + 1, none⟩ (.int .i64 s.2)) :=
  (h.setCell (p := ⟨g, i * 2, none⟩) hg _).setCell (p := ⟨g, i * 2 + 1, none⟩) hg _
theorem fill_set2P (l : List Sp) (z s : Sp) (i : Nat) (hi : i < l.length) (hs : l[i] = s) : (l.take i ++ List.replicate (l.length - i) z).set i s = l.take (i + 1) ++ List.replicate (l.length - (i + 1)) z := by
  have hl : (l.take i).length = i := by simp; omega
  rw [List.set_append_right _ _ (by omega), hl, Nat.sub_self, show l.length - i = (l.length - (i + 1)) + 1 by omega, List.replicate_succ, List.set_cons_zero, List.take_succ_eq_append_getElem hi, hs, List.append_assoc]
  rfl
theorem Tryd.infoSpot : (Tryd.prog.info? 57).map (fun i => (i.zero, i.size, i.bytes)) = some (some (spV (0, 0)), 2, 16) := by kernel_rfl
theorem made2P : ∀ n : Nat, (madeCells (spV (0, 0)).cells (n * 2)).toList = sps (List.replicate n (0, 0)) := by
  intro n
  refine List.ext_getElem? fun j => ?_
  have hz : (spV (0, 0)).cells = #[.int .i64 0, .int .i64 0] := rfl
  by_cases hj : j < n * 2
  · have h5 : j % 2 < 2 := Nat.mod_lt _ (by decide)
    have hr := sps_at (List.replicate n (0, 0)) (j / 2) (j % 2) (by simp; omega) h5
    rw [show j / 2 * 2 + j % 2 = j by omega, List.getElem_replicate] at hr
    rw [hr, hz]
    simp only [madeCells, Array.getElem?_toList]
    rw [Array.getElem?_map, Array.getElem?_range, if_pos hj]
    simp only [Option.map_some]
    show some ((#[Value.int .i64 0, .int .i64 0] : Array Value)[j % 2]!) = _
    generalize j % 2 = q at h5
    match q, h5 with
    | 0, _ => rfl
    | 1, _ => rfl
    | q + 2, h => omega
  · rw [List.getElem?_eq_none (by simp [madeCells]; omega), List.getElem?_eq_none (by rw [sps_length]; simp; omega)]

set_option maxRecDepth 100000 in
set_option maxHeartbeats 400000 in
theorem toSpotS_any (ao : Option Addr) (l : List Sp) (ca : Nat) (w : World) (hl : l.length ≤ 1048576) (hA : RdO w ao l) :
    Calls Tryd.prog 56 #[.slice ao l.length ca] w fun e w' => ∃ b c, e = .returned (.slice b l.length c) ∧ w'.ownsRow w.heap.size 57 2 (.slice b l.length c) l.length (sps l) ∧ Below w.heap.size w w' := by
  obtain ⟨i0, hi, hz0, hz1, hz2⟩ := info_parts Tryd.infoSpot
  have HA := hide1 hA
  clear hA
  go_enter Tryd.func56, Tryd.ntmps56
  go_wp2_with (at_make; (refine wpList_make_full _ rfl _ _ 26 rfl w.heap.size 57 i0 (spV (0, 0)) 2 Tryd.underlying26 hi hz0 hz1 _ _ _ _ l.length rfl rfl rfl rfl (by rw [hz2]; omega) (by unfold maxLen; omega) (Nat.le_refl _) ?_; intro w0 hown0 hg0))
  rw [made2P] at hown0
  have HO := hide1 hown0
  clear hown0
  go_loopw [4] (fun iv wr => ∃ i : Nat, i ≤ l.length ∧ iv = .int .i64 (i : Int) ∧ wr.ownsRow w.heap.size 57 2 (.slice (some ⟨w.heap.size, 0, none⟩) l.length l.length) l.length (sps (l.take i ++ List.replicate (l.length - i) (0, 0))) ∧ Below w.heap.size w wr) (fun iv _ => l.length - (intOf iv).toNat)
  case atStart => exact ⟨0, by omega, rfl, by simpa using HO.out, Below.grown (Below.refl _ _) hg0 (Nat.le_refl _) (by intro k hk; cases hk)⟩
  case round =>
    obtain ⟨i, hi, rfl, hown, hbel⟩ := hrel
    by_cases hlt : i < l.length
    · have k1 : (i : Int) < (l.length : Int) := by omega
      obtain ⟨b, o, rfl, hb, h1⟩ := HA.out i hlt
      obtain ⟨x0, x1⟩ := h1.below hbel hb
      have cc := hide1 (fun w => toSpot_any l[i] w)
      generalize hs : l[i] = s at *
      have HS := hide1 hs
      clear h1 hs
      have HO1 := hide1 hown
      clear hown
      unfold spV at cc
      go_wp2_with fail
      refine (cc.out _).mono ?_
      rintro e w2 ⟨rfl, hb2⟩
      have o2 := own_kept HO1.out hb2
      obtain ⟨u0, y0⟩ := own_some o2 (i * 2) (by omega)
      obtain ⟨u1, y1⟩ := own_some o2 (i * 2 + 1) (by omega)
      have f0 := o2.frozenAt (i * 2)
      have f1 := o2.frozenAt (i * 2 + 1)
      have O2 := hide1 o2
      clear o2
      go_wp2
      go_roundw
      case rel =>
        refine ⟨i + 1, by omega, by go_num, ?_, below_set2P (hbel.trans (hb2.mono hbel.size)) (Nat.le_refl _) i s⟩
        rw [← fill_set2P l (0, 0) s i hlt HS.out]
        exact own_set2P O2.out (by simp; omega) i hlt s
      case measure => simp [intOf]; omega
    · obtain rfl : i = l.length := by omega
      go_wp2
      go_ret
      exact ⟨_, _, rfl, by simpa using hown, hbel⟩

/-- A row of spots that is the call's own, behind a bound. -/
def OwnR (w : World) (B : Nat) (ao : Option Addr) (c : Nat) (L : List Sp) : Prop := w.ownsRow B 57 2 (.slice ao L.length c) L.length (sps L)
theorem OwnR.rd {w : World} {B c : Nat} {ao : Option Addr} {L : List Sp} (h : OwnR w B ao c L) : RdP w ao L := rdP_of_own h
theorem OwnR.later {w w' : World} {B c : Nat} {ao : Option Addr} {L : List Sp} (h : OwnR w B ao c L) (hb : Below w.heap.size w w') : OwnR w' B ao c L := own_kept h hb
theorem OwnR.base {w : World} {B B' c : Nat} {ao : Option Addr} {L : List Sp} (h : OwnR w B ao c L) (hB : B' ≤ B) : OwnR w B' ao c L := own_base h hB
theorem OwnR.lt {w : World} {B c : Nat} {ao : Option Addr} {L : List Sp} (h : OwnR w B ao c L) : ∀ g, (Value.slice ao L.length c).ownBlock = some g → B ≤ g ∧ g < w.heap.size := fun g e => World.ownsRow.lt h g e

set_option maxRecDepth 100000 in
set_option maxHeartbeats 1000000 in
theorem toRing_own (ao : Option Addr) (l : List Sp) (ca : Nat) (w : World) (hl : l.length ≤ 1048576) (hA : RdO w ao l) :
    Calls Tryd.prog 31 #[.agg #[.slice ao l.length ca]] w fun e w' => ∃ b c, e = .returned (.agg #[.slice b l.length c]) ∧ OwnR w' w.heap.size b c l ∧ Below w.heap.size w w' := by
  have C1 := hide1 (fun w1 (h : Below w.heap.size w w1) => toSpotS_any ao l ca w1 hl (hA.later h))
  clear hA
  have F0 := hide1 (blkN3 w #[.slice ao l.length ca] #[.slice none 0 0] #[.slice none 0 0] 49 28 28)
  go_enter Tryd.func31, Tryd.ntmps31
  go_wp2_with fail
  generalize (((w.alloc (.cells #[.slice ao l.length ca] 49)).alloc (.cells #[.slice none 0 0] 28)).alloc (.cells #[.slice none 0 0] 28)) = w0 at F0 ⊢
  obtain ⟨K0, K1, K2, B0⟩ := F0.out
  have hs0 : w.heap.size + 1 + 1 < w0.heap.size := K2.lt
  refine (C1.out w0 B0).mono ?_
  rintro e w1 ⟨b, c, rfl, hown1, hb1⟩
  have J1 := hide1 (K1.below hb1 K1.lt)
  have J2 := hide1 (K2.below hb1 K2.lt)
  have hlow := hide1 (fun k (hk : (Value.slice b l.length c).ownBlock = some k) => (hown1.lt k hk).1)
  have O1 := hide1 hown1
  have B1 := hide1 (B0.trans (hb1.mono B0.size))
  have y0 : w1.cell? ⟨w.heap.size + 1 + 1, 0, none⟩ = some (.slice none 0 0) := J2.out.cell 0
  have yf : ∀ j, w1.frozen? ⟨w.heap.size + 1 + 1, j, none⟩ = false := fun j => J2.out.froz j
  have r0 : w1.cell? ⟨w.heap.size + 1, 0, none⟩ = some (.slice none 0 0) := J1.out.cell 0
  have rf : ∀ j, w1.frozen? ⟨w.heap.size + 1, j, none⟩ = false := fun j => J1.out.froz j
  clear hown1 hb1 K0 K1 K2 B0 F0 C1
  go_wp2
  have hh : Blk ((w1.setCell ⟨w.heap.size + 1 + 1, 0, none⟩ (.slice b l.length c)).setCell ⟨w.heap.size + 1, 0, none⟩ (.slice b l.length c)) (w.heap.size + 1) 28 [.slice b l.length c] :=
    Blk.set (Blk.far J1.out ⟨w.heap.size + 1 + 1, 0, none⟩ _ (by dsimp only; omega)) 0 (.slice b l.length c)
  refine bodyPost_ret (results_cell_row Tryd.results31 _ _ (w.heap.size + 1) 28 #[.slice b l.length c] (0, 0) _ rfl hh Tryd.underlying28 rfl (by kernel_rfl)) rfl ?_
  refine ⟨b, c, rfl, ?_, ?_⟩
  · refine own_base (own_far (own_far O1.out _ _ ?_) _ _ ?_) (by omega)
    all_goals
      intro k hk
      have := hlow.out k hk
      dsimp only
      omega
  · exact (B1.out.setCell (p := ⟨w.heap.size + 1 + 1, 0, none⟩) (by dsimp only; omega) _).setCell (p := ⟨w.heap.size + 1, 0, none⟩) (by dsimp only; omega) _

set_option maxRecDepth 100000 in
set_option maxHeartbeats 1000000 in
theorem eqRing_own (a b : Option Addr) (l : List Sp) (ca cb : Nat) (w : World) (hl : l.length ≤ 1048576) (ha : RdP w a l) (hb : RdP w b l) :
    Calls Tryd.prog 24 #[.agg #[.slice a l.length ca], .agg #[.slice b l.length cb]] w fun e w' => e = .returned (.bool true) ∧ Below w.heap.size w w' := by
  have C1 := hide1 (fun o1 o2 => eqSpotS_any a b l l ca cb ((w.alloc o1).alloc o2) hl (ha.later (below2 w o1 o2)) (hb.later (below2 w o1 o2)))
  have D1 := hide1 (fun o1 o2 => below2 w o1 o2)
  clear ha hb
  go_enter Tryd.func24, Tryd.ntmps24
  go_wp2_with fail
  refine (C1.out _ _).mono ?_
  rintro e w1 ⟨x, rfl, hx, hb1⟩
  obtain rfl : x = true := by simpa using hx
  have B1 := hide1 ((D1.out _ _).trans (hb1.mono (D1.out _ _).size))
  clear hb1 hx
  go_wp2
  go_ret
  exact ⟨rfl, B1.out⟩

set_option maxRecDepth 100000 in
theorem markRing_any (ao : Option Addr) (c k base : Nat) (l : List Sp) (w : World) (hn : l.length ≤ 1048576) (hk : k ≤ 33554432) (hk0 : 0 < k) (hown : OwnR w base ao c l) :
    Calls Tryd.prog 27 #[.agg #[.slice ao l.length c], .int .i64 (k : Int)] w fun e w' => e = .returned (.int .i64 ((k : Int) + 2 * (l.length : Int))) ∧ w'.ownsRow base 57 2 (.slice ao l.length c) l.length (sps (patPs k l.length)) ∧ w.grownBy w' (Value.slice ao l.length c).ownBlock := by
  have C1 := hide1 (fun o => markSpotS_any (.slice ao l.length c) l.length k (sps l) base (w.alloc o) hn hk hk0 (hown.alloc o))
  have G := hide1 (fun o => gnew (r := (Value.slice ao l.length c).ownBlock) ((Below.refl w.heap.size w).alloc (Nat.le_refl _) o))
  clear hown
  go_enter Tryd.func27, Tryd.ntmps27
  go_wp2_with fail
  refine (C1.out _).mono ?_
  rintro e w1 ⟨rfl, ho, hg⟩
  have HO := hide1 ho
  have HG := hide1 (gtrans (G.out _) hg)
  clear ho hg G
  go_wp2
  go_ret
  exact ⟨rfl, HO.out, HG.out⟩

set_option maxRecDepth 100000 in
theorem heldRing_any (ao : Option Addr) (n ca k : Nat) (w : World) (hn : n ≤ 1048576) (hk : k ≤ 33554432) (hk0 : 0 < k) (hA : RdP w ao (patPs k n)) :
    Calls Tryd.prog 28 #[.agg #[.slice ao n ca], .int .i64 (k : Int)] w fun e w' => e = .returned (.int .i64 ((k : Int) + 2 * (n : Int))) ∧ Below w.heap.size w w' := by
  have C1 := hide1 (fun o => heldSpotS_any ao n ca k (w.alloc o) hn hk hk0 (hA.later ((Below.refl _ _).alloc (Nat.le_refl _) o)))
  have B1 := hide1 (fun o => (Below.refl w.heap.size w).alloc (Nat.le_refl _) o)
  clear hA
  have q : decide ((k : Int) + 2 * (n : Int) < 0) = false := by simp; omega
  go_enter Tryd.func28, Tryd.ntmps28
  go_wp2_with fail
  refine (C1.out _).mono ?_
  rintro e w1 ⟨rfl, hb1⟩
  have B2 := hide1 ((B1.out _).trans (hb1.mono (B1.out _).size))
  clear hb1
  go_wp2
  go_ret
  exact ⟨rfl, B2.out⟩

set_option maxRecDepth 100000 in
theorem szSpotS_any (ao : Option Addr) (n ca left : Nat) (w : World) (hl : n ≤ 9223372036854775807) (hl2 : left ≤ 1048576) :
    Calls Tryd.prog 54 #[.slice ao n ca, .int .i64 (left : Int)] w fun e w' => (e = .returned (.int .i64 (-1)) ∨ ∃ r : Nat, e = .returned (.int .i64 (r : Int)) ∧ r + n = left) ∧ w' = w := by
  by_cases c0 : n ≤ left
  · have q0 : decide ((left : Int) - (n : Int) < 0) = false := by simp; omega
    go_enter Tryd.func54, Tryd.ntmps54
    go_wp2
    go_ret
    exact ⟨.inr ⟨left - n, by show Ending.returned (.int .i64 ((left : Int) - (n : Int))) = _; rw [show ((left - n : Nat) : Int) = (left : Int) - (n : Int) by omega], by omega⟩, rfl⟩
  · have q0 : decide ((left : Int) - (n : Int) < 0) = true := by simp; omega
    go_enter Tryd.func54, Tryd.ntmps54
    go_wp2
    go_ret
    exact ⟨.inl rfl, rfl⟩

set_option maxRecDepth 100000 in
theorem szRing_any (ao : Option Addr) (n ca left : Nat) (w : World) (hl : n ≤ 9223372036854775807) (hl2 : left ≤ 1048576) :
    Calls Tryd.prog 29 #[.agg #[.slice ao n ca], .int .i64 (left : Int)] w fun e w' => (e = .returned (.int .i64 (-1)) ∨ ∃ r : Nat, e = .returned (.int .i64 (r : Int)) ∧ r + n = left) ∧ Below w.heap.size w w' := by
  have C1 := hide1 (fun w1 => szSpotS_any ao n ca left w1 hl hl2)
  have B1 := hide1 (fun o => (Below.refl w.heap.size w).alloc (Nat.le_refl _) o)
  go_enter Tryd.func29, Tryd.ntmps29
  go_wp2_with fail
  refine (C1.out _).mono ?_
  rintro e w1 ⟨hr, rfl⟩
  rcases hr with rfl | ⟨r, rfl, hsm⟩
  · go_wp2
    go_ret
    exact ⟨.inl rfl, B1.out _⟩
  · have q : decide ((r : Int) < 0) = false := by simp
    have HS := hide1 hsm
    clear hsm
    go_wp2
    go_ret
    exact ⟨.inr ⟨r, rfl, HS.out⟩, B1.out _⟩

set_option maxRecDepth 100000 in
theorem open_spot {H : Type} {enc : TypeId × Value → H} {w : World} {base fuel : Nat} {sp : Nat → Bool} {held : Bool} {cs : List Value} {x : DataW H × List MemPlace} (h : DataW.trod enc Tryd.prog w base sp held fuel 94 cs = some x) :
    ∃ s : Sp, cs = spC s ∧ (Lit.int .i64 s.2).wf = true := by
  obtain ⟨xs, n, _, _, hlen, hxl, hf⟩ := DataW.trod_struct Tryd.underlying94 h
  have hc : Tryd.prog.cellsOf 94 = 2 := by kernel_rfl
  rw [hc] at hlen
  match xs, hxl, cs, hlen with
  | [q0, q1], _, [v0, v1], _ =>
    have g0 := hf 0 _ rfl
    have g1 := hf 1 _ rfl
    have ci : Tryd.prog.cellsOf 3 = 1 := by kernel_rfl
    simp [ci] at g0 g1
    obtain ⟨n0, e0, _, _⟩ := DataW.trod_int Tryd.underlying3 g0
    obtain ⟨n1, e1, _, wf1⟩ := DataW.trod_int Tryd.underlying3 g1
    simp at e0 e1
    subst e0 e1
    exact ⟨(n0, n1), rfl, wf1⟩

set_option maxRecDepth 100000 in
theorem open_spots {H : Type} {enc : TypeId × Value → H} {w : World} {base fuel : Nat} {sp : Nat → Bool} {held : Bool} {cs : List Value} {x : DataW H × List MemPlace} (h : DataW.trod enc Tryd.prog w base sp held fuel 47 cs = some x) :
    ∃ (ao : Option Addr) (l : List Sp) (ca : Nat), cs = [.slice ao l.length ca] ∧ RdO w ao l ∧ l.length ≤ maxLen ∧ ∀ i (h : i < l.length), (Lit.int .i64 l[i].2).wf = true := by
  rcases open_slice Tryd.underlying47 h with ⟨rfl, _⟩ | ⟨a, len, cap, m, n, D, Pl, rfl, hb, hl, hm, hmm, _, hx⟩
  · exact ⟨none, [], 0, rfl, fun i hi => by simp at hi, Nat.zero_le _, fun i hi => by simp at hi⟩
  have hlm : len ≤ m := by rw [hmm]; split <;> omega
  have hc : Tryd.prog.cellsOf 94 = 2 := by kernel_rfl
  have each : ∀ i, i < m → ∃ s : Sp, (Lit.int .i64 s.2).wf = true ∧ ∀ j, j < 2 → w.cell? ((a.add (i * 2)).add j) = (spC s)[j]? := by
    intro i hi
    obtain ⟨cs', h1, h2⟩ := hx i hi
    rw [hc] at h1
    obtain ⟨_, hlen, hcell⟩ := World.cells?_some h1
    obtain ⟨s, rfl, hwf⟩ := open_spot h2
    exact ⟨s, hwf, fun j hj => hcell j (by omega)⟩
  obtain ⟨S, hSS⟩ := choose_lt each
  have hS := fun i (hi : i < m) => (hSS i hi).2
  refine ⟨some a, (List.range len).map S, cap, by simp, ?_, by simp; omega, fun i hi => by simpa using (hSS i (by simp at hi; omega)).1⟩
  intro i hi
  have hi' : i < len := by simpa using hi
  have hc5 := hS i (by omega)
  obtain ⟨b, o, spot⟩ := a
  have hspot : spot = none := by
    have := hS 0 (by omega) 0 (by omega)
    simpa [Addr.add, spC] using World.cell?_spot this
  subst hspot
  simp only [Addr.add_lit] at hc5
  have hlt : b < w.heap.size := World.block_lt_of_cell? w _ (hc5 0 (by omega))
  refine ⟨b, o, rfl, hlt, ?_⟩
  simp only [List.getElem_map, List.getElem_range]
  exact ⟨by simpa [spC] using hc5 0 (by omega), by simpa [spC] using hc5 1 (by omega)⟩

theorem array1R {α : Type} {cs : Array α} (h : cs.size = 1) : ∃ c0, cs = #[c0] := by
  obtain ⟨l⟩ := cs
  match l, h with
  | [c0], _ => exact ⟨c0, rfl⟩

set_option maxRecDepth 100000 in
/-- A ring that came in. -/
theorem open_ringW {H : Type} {enc : TypeId × Value → H} {w : World} {r : Reach} {b0 base : Nat} {sp : Nat → Bool} {held : Bool} {v : Value} {d : DataW H} {p : List MemPlace} (hv : Value.okWide Tryd.prog w r b0 49 v) (h : DataW.Trod enc Tryd.prog w base sp held 49 v d p) :
    ∃ (ao : Option Addr) (l : List Sp) (ca : Nat), v = .agg #[.slice ao l.length ca] ∧ RdO w ao l ∧ l.length ≤ maxLen ∧ ∀ i (h : i < l.length), (Lit.int .i64 l[i].2).wf = true := by
  obtain ⟨cs, rfl, hsz⟩ := okWide_struct Tryd.underlying49 hv
  obtain ⟨c0, rfl⟩ := array1R (hsz.trans (show Tryd.prog.cellsOf 49 = 1 by kernel_rfl))
  obtain ⟨fuel, hf⟩ := h
  obtain ⟨y0, n, hx, _, h0⟩ := trod_struct1 Tryd.underlying49 hf
  have h1 : DataW.trod enc Tryd.prog w base sp held n 47 [c0] = some y0 := by simpa [Value.cells, show Tryd.prog.cellsOf 47 = 1 by kernel_rfl] using h0
  obtain ⟨ao, l, ca, e1, hR, hl⟩ := open_spots h1
  simp at e1
  subst e1
  exact ⟨ao, l, ca, rfl, hR, hl⟩

set_option maxRecDepth 100000 in
theorem open_ring {H : Type} {enc : TypeId × Value → H} {w : World} {r : Reach} {b0 base : Nat} {sp : Nat → Bool} {held : Bool} {v : Value} {d : DataW H} {p : List MemPlace} (hv : Value.okWide Tryd.prog w r b0 49 v) (h : DataW.Trod enc Tryd.prog w base sp held 49 v d p) :
    ∃ (ao : Option Addr) (l : List Sp) (ca : Nat), v = .agg #[.slice ao l.length ca] ∧ RdO w ao l ∧ l.length ≤ maxLen := by
  obtain ⟨ao, l, ca, h1, h2, h3, _⟩ := open_ringW hv h
  exact ⟨ao, l, ca, h1, h2, h3⟩

/-- A variable that holds a ring. -/
def VarR (w : World) (t : TypeId) (A : Nat) (ao : Option Addr) (n c : Nat) : Prop := Blk w A t [.slice ao n c]
theorem VarR.cells {w : World} {t : TypeId} {A n c : Nat} {ao : Option Addr} (h : VarR w t A ao n c) : A < w.heap.size ∧ w.cell? ⟨A, 0, none⟩ = some (.slice ao n c) := ⟨Blk.lt h, Blk.cell h 0⟩
theorem VarR.later {w w' : World} {t : TypeId} {A n c : Nat} {ao : Option Addr} (h : VarR w t A ao n c) (hb : Below w.heap.size w w') : VarR w' t A ao n c := Blk.below h hb (Blk.lt h)
theorem VarR.below {w w' : World} {t : TypeId} {A n c B : Nat} {ao : Option Addr} (h : VarR w t A ao n c) (hb : Below B w w') (hA : A < B) : VarR w' t A ao n c := Blk.below h hb hA
theorem VarR.box {w w1 : World} {t : TypeId} {n c : Nat} {ao : Option Addr} (hb : Below (w.alloc (.cells #[.slice ao n c] t)).heap.size (w.alloc (.cells #[.slice ao n c] t)) w1) : VarR w1 t w.heap.size ao n c :=
  Blk.below (Blk.new w t _) hb (by rw [World.size_alloc]; omega)
theorem boxR_below {w w1 : World} {o : Obj} (hb : Below (w.alloc o).heap.size (w.alloc o) w1) : Below w.heap.size w w1 := ((Below.refl _ _).alloc (Nat.le_refl _) _).trans (hb.mono (by rw [World.size_alloc]; omega))
theorem boxR_size {w w1 : World} {o : Obj} (hb : Below (w.alloc o).heap.size (w.alloc o) w1) : w.heap.size + 1 ≤ w1.heap.size := by have := hb.size; rw [World.size_alloc] at this; exact this
end Go.Proofs.YtdgpencendphbaaDoor
