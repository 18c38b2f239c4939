/- Keys that were marked are seen, all of them; marked again nothing changes; by an empty door none is seen: whatever is drawn, the program's table of bits being as its text lays it (the card ties it to the text of a pruned copy of the project). -/
import Derived.Test.YtocoligcbgcanaaDoorCards
import Derived.Test.YtocoligcbgcanaaDoorTie
import Derived.ProofKit
import Derived.LaidMore
import Derived.OpenShut
import Derived.ShutString
import Derived.ChangeOld
import Derived.Stop.Joined
import Derived.Stop.LaidErr
import Derived.SevenTiedAt
import Derived.OpenVars
import Derived.ChangeVars
import Derived.Test.YtocoligcbgcanaaDoorDrF
import Derived.Test.YtocoligcbgcanaaDoorDrawWd
namespace Go.Proofs.YtocoligcbgcanaaDoor
open Go.ChangeShapes Go.WideShapes Go.ChangeAt Go.RowKit
open Go.ChangeMaps (open_string shut_string)
set_option linter.unusedVariables false

theorem of_laid_FnDoors {W : World} (h : laidMetH Tryd.prog Rows.fnDoorsRow.laid W) : TabD W := by
  rw [MakeChecks.laidMetH_plain _ _ _ (by kernel_rfl)] at h
  exact Lib.tabIs_of_head gTabD (by kernel_rfl) Tryd.underlying48 Tryd.underlying3 (by kernel_rfl) (by kernel_rfl) h

theorem big6_no (a : Option Addr) (len cap : Nat) (w : World) (h : len ≤ 1048576) : Calls Tryd.prog 6 #[.slice a len cap] w fun e w' => e = .returned (.bool false) ∧ w = w' := by
  have q : decide ((1048576 : Int) < (len : Int)) = false := decide_eq_false (by omega)
  go_enter Tryd.func6, Tryd.ntmps6
  go_wp2
  go_ret
  exact ⟨by first | rfl | (show Ending.returned (.bool (decide ((1048576 : Int) < (len : Int)))) = _; rw [q]), rfl⟩

theorem big6_yes (a : Option Addr) (len cap : Nat) (w : World) (h : ¬ len ≤ 1048576) : Calls Tryd.prog 6 #[.slice a len cap] w fun e w' => e = .returned (.bool true) ∧ w = w' := by
  have q : decide ((1048576 : Int) < (len : Int)) = true := decide_eq_true (by omega)
  go_enter Tryd.func6, Tryd.ntmps6
  go_wp2
  go_ret
  exact ⟨by first | rfl | (show Ending.returned (.bool (decide ((1048576 : Int) < (len : Int)))) = _; rw [q]), rfl⟩

/-- What stands behind k marked words. -/
structure StD (w wr : World) (A d : Nat) (wo : Option Addr) (ws : List ByteArray) (k : Nat) : Prop where
  lt : d < 4294967296
  blk : Blk wr A 27 [.int .i64 (d : Int)]
  wds : Wds wr wo ws
  wne : ∀ g, wo = some ⟨g, 0, none⟩ → ws ≠ [] → g ≠ A
  bel : Below w.heap.size w wr
  base : w.heap.size ≤ A
  seen : ∀ j (h : j < ws.length), j < k → seenN d ws[j] = true
theorem StD.later {w wr w' : World} {A d : Nat} {wo : Option Addr} {ws : List ByteArray} {k : Nat} (h : StD w wr A d wo ws k) (hb : Below wr.heap.size wr w') : StD w w' A d wo ws k :=
  ⟨h.lt, h.blk.below hb h.blk.lt, h.wds.later hb, h.wne, h.bel.trans (hb.mono h.bel.size), h.base, h.seen⟩
theorem StD.put {w wr : World} {A d : Nat} {wo : Option Addr} {ws : List ByteArray} {k : Nat} (h : StD w wr A d wo ws k) (hk : k < ws.length) : StD w (wr.setCell ⟨A, 0, none⟩ (.int .i64 (markN d ws[k] : Int))) A (markN d ws[k]) wo ws (k + 1) := by
  refine ⟨markN_lt _ _ h.lt, Blk.set h.blk 0 _, ?_, h.wne, h.bel.setCell (p := ⟨A, 0, none⟩) h.base _, h.base, ?_⟩
  · intro j hj
    obtain ⟨g, h1, h2, h3⟩ := h.wds j hj
    have hne : g ≠ A := h.wne g h1 (List.ne_nil_of_length_pos (by omega))
    exact ⟨g, h1, by simpa using h2, by rw [World.cell?_setCell_far _ _ _ _ (by simpa using hne.symm)]; exact h3⟩
  · intro j hj hjk
    by_cases e : j = k
    · subst e; exact seen_mark _ _
    · exact seen_more _ _ _ (h.seen j hj (by omega))
theorem StD.drew {w wr : World} {A d : Nat} {wo : Option Addr} {ws : List ByteArray} {k : Nat} (h : StD w wr A d wo ws k) : StD w wr.drew A d wo ws k := h.later ((Below.refl _ _).drew)

set_option maxRecDepth 100000 in
set_option maxHeartbeats 8000000 in
theorem walk_FnDoors (a : Option Addr) (len cap : Nat) (w : World) (hr : RowB w a len) (ht : TabD w) :
    Calls Tryd.prog 3 #[.slice a len cap] w fun e w' => e = .returned (.bool true) ∧ Below w.heap.size w w' := by
  by_cases hbig : len ≤ 1048576
  · have CB := hide1 (big6_no a len cap w hbig)
    have CD := hide1 (drawWords_any w a len cap (hr.code hbig))
    have HT := hide1 ht
    clear hr ht
    go_enter Tryd.func3, Tryd.ntmps3
    go_wp2_with fail
    refine CB.out.mono ?_
    rintro e w1 ⟨rfl, rfl⟩
    go_wp2_with fail
    refine CD.out.mono ?_
    rintro e w1 ⟨ws, wo, wc, rfl, hwl, hwz, hwd, hb1⟩
    have HW := hide1 hwd
    have HZ := hide1 hwz
    have B1 := hide1 hb1
    clear hwd hwz hb1 CB CD
    go_wp2
    have F3 : Hid (StD w (w1.alloc (.cells #[.int .i64 0] 27)) w1.heap.size 0 wo ws 0) := by
      refine ⟨by decide, Blk.new w1 _ _, HW.out.later ((Below.refl _ _).alloc (Nat.le_refl _) _), ?_, B1.out.alloc B1.out.size _, B1.out.size, fun j _ hj => absurd hj (by omega)⟩
      intro g e hn
      obtain ⟨g', e1, h2, _⟩ := HW.out 0 (List.length_pos_iff.2 hn)
      rw [e] at e1
      simp at e1
      omega
    generalize (w1.alloc (.cells #[.int .i64 0] 27)) = w3 at F3 ⊢
    generalize w1.heap.size = A at F3 ⊢
    go_loopw [5] (fun iv wr => ∃ (k d : Nat), k ≤ ws.length ∧ iv = .int .i64 (k : Int) ∧ Hid (StD w wr A d wo ws k)) (fun iv _ => ws.length - (intOf iv).toNat)
    case atStart => exact ⟨0, 0, by omega, rfl, F3⟩
    case round =>
      obtain ⟨k, d, hk, rfl, hG⟩ := hrel
      by_cases hlt : k < ws.length
      · have k1 : (k : Int) < (ws.length : Int) := by omega
        have k2 : (0 : Int) ≤ (k : Int) := by omega
        have hA := hG.out.blk.lt
        have v0 : wr.cell? ⟨A, 0, none⟩ = some (.int .i64 (d : Int)) := hG.out.blk.cell 0
        obtain ⟨gw, rfl, hgw, n0⟩ := hG.out.wds k hlt
        have hz := HZ.out ws[k] (List.getElem_mem hlt)
        have TB := hide1 (fun w' (h : Below wr.heap.size wr w') => HT.out.later ((hG.out.later h).bel))
        have CM := hide1 (fun w' (h : Below wr.heap.size wr w') => implMark_any (d : Int) ws[k] (by omega) w' (TB.out w' h))
        have HM : Hid (markD (d : Int) ws[k] = (markN d ws[k] : Int)) := by show markD _ _ = _; unfold markD; rw [okD_nat d hG.out.lt]; rfl
        rw [HM.out] at CM
        have PUT := hide1 (fun w' (h : Below wr.heap.size wr w') => (hG.out.later h).put hlt)
        have SN := hide1 (fun (w' : World) (h : TabD w') => implSeen_any (markN d ws[k] : Int) ws[k] (by omega) w' h)
        have ON := hide1 (fun (w' : World) => implDoorOk_any (markN d ws[k] : Int) w')
        have hml := markN_lt d ws[k] hG.out.lt
        have e1 : seenD (markN d ws[k] : Int) ws[k] = true := by unfold seenD; rw [okD_nat _ hml]; exact seen_mark d ws[k]
        rw [e1] at SN
        rw [okD_nat _ hml] at ON
        clear e1 HM
        generalize hzz : ws[k] = z at *
        generalize markN d z = m at *
        have HVF := hide1 hG.out.blk
        have vf : ∀ j, wr.frozen? ⟨A, j, none⟩ = false := fun j => hG.out.blk.froz j
        go_upto_region 8 with fail
        go_region_with ((go_at_call 8; refine (CM.out _ (by go_grown)).mono ?_; rintro e w8 ⟨rfl, hb8⟩; have D8 : Hid (Below wr.heap.size wr w8) := (show Below wr.heap.size wr _ by go_grown).trans (hb8.mono (by go_size)); clear hb8; have vv := HVF.out.below D8.out hA; have y0 : w8.cell? ⟨A, 0, none⟩ = some (.int .i64 (d : Int)) := vv.cell 0; have yf : ∀ j, w8.frozen? ⟨A, j, none⟩ = false := fun j => vv.froz j; clear vv))
        all_goals
          have S9 := hide1 (PUT.out w8 D8.out)
          clear y0 yf D8
          generalize (w8.setCell ⟨A, 0, none⟩ (.int .i64 (m : Int))) = w9 at S9 ⊢
          have x0 : w9.cell? ⟨A, 0, none⟩ = some (.int .i64 (m : Int)) := S9.out.blk.cell 0
          have xA := S9.out.blk.lt
          obtain ⟨g', e', xg, x1⟩ := S9.out.wds k hlt
          obtain rfl : gw = g' := by simpa using e'
          rw [hzz] at x1
          clear e' v0 n0 vf CM PUT TB HVF
          have TB := hide1 (fun w' (h : Below w9.heap.size w9 w') => HT.out.later ((S9.out.later h).bel))
          go_upto_region 9 with fail
          go_region_held3 (fun w' => w'.cell? ⟨A, 0, none⟩ = some (.int .i64 (m : Int)) ∧ w'.cell? ⟨gw, k, none⟩ = some (.string z)) (first | go_keep | exact ⟨(D11.out.cell xA).trans x0, (D11.out.cell xg).trans x1⟩ | exact ⟨(D10.out.cell xA).trans x0, (D10.out.cell xg).trans x1⟩) (first | (go_at_call 9; refine (SN.out _ (TB.out _ (by go_grown))).mono ?_; rintro e w10 ⟨rfl, hb10⟩; have D10 : Hid (Below w9.heap.size w9 w10) := (show Below w9.heap.size w9 _ by go_grown).trans (hb10.mono (by go_size)); clear hb10) | (go_at_call 10; refine (ON.out _).mono ?_; rintro e w11 ⟨rfl, hb11⟩; have D11 : Hid (Below w9.heap.size w9 w11) := (D10.out.trans (show Below w9.heap.size w10 _ by go_grown)).trans (hb11.mono (by have := D10.out.size; go_size)); clear hb11))
          go_wp2
          go_roundw
          case rel => exact ⟨k + 1, m, by omega, by go_num, by have := S9.out.later D11.out; first | exact this | exact this.drew⟩
          case measure => simp [intOf]; omega
      · obtain rfl : k = ws.length := by omega
        go_wp2
        go_loopw [6] (fun iv wr => ∃ i : Nat, i ≤ ws.length ∧ iv = .int .i64 (i : Int) ∧ Hid (StD w wr A d wo ws ws.length)) (fun iv _ => ws.length - (intOf iv).toNat)
        case atStart => exact ⟨0, by omega, rfl, hG⟩
        case round =>
          obtain ⟨W, hWW⟩ : ∃ W, W = wr := ⟨_, rfl⟩
          subst hWW
          obtain ⟨i, hi, rfl, hU⟩ := hrel
          by_cases hlt : i < ws.length
          · have k1 : (i : Int) < (ws.length : Int) := by omega
            have k2 : (0 : Int) ≤ (i : Int) := by omega
            have hz := HZ.out ws[i] (List.getElem_mem hlt)
            have x0 : W.cell? ⟨A, 0, none⟩ = some (.int .i64 (d : Int)) := hU.out.blk.cell 0
            have xA := hU.out.blk.lt
            obtain ⟨gw, rfl, xg, x1⟩ := hU.out.wds i hlt
            have TB := hide1 (fun w' (h : Below W.heap.size W w') => HT.out.later ((hU.out.later h).bel))
            have hsn := hU.out.seen i hlt hlt
            have SN := hide1 (fun (w' : World) (h : TabD w') => implSeen_any (d : Int) ws[i] (by omega) w' h)
            have CM := hide1 (fun (w' : World) (h : TabD w') => implMark_any (d : Int) ws[i] (by omega) w' h)
            have e1 : seenD (d : Int) ws[i] = true := by unfold seenD; rw [okD_nat _ hU.out.lt]; exact hsn
            have e2 : markD (d : Int) ws[i] = (d : Int) := by unfold markD; rw [okD_nat _ hU.out.lt, if_pos rfl]; show ((markN d ws[i] : Nat) : Int) = _; rw [mark_seen d ws[i] hsn]
            rw [e1] at SN
            rw [e2] at CM
            clear e1 e2 hsn
            generalize ws[i] = z at *
            go_upto_region 14 with fail
            go_region_held3 (fun w' => w'.cell? ⟨A, 0, none⟩ = some (.int .i64 (d : Int)) ∧ w'.cell? ⟨gw, i, none⟩ = some (.string z)) (first | go_keep | exact ⟨(D11.out.cell xA).trans x0, (D11.out.cell xg).trans x1⟩ | exact ⟨(D10.out.cell xA).trans x0, (D10.out.cell xg).trans x1⟩) (first | (go_at_call 9; refine (SN.out _ (TB.out _ (by go_grown))).mono ?_; rintro e w10 ⟨rfl, hb10⟩; have D10 : Hid (Below W.heap.size W w10) := (show Below W.heap.size W _ by go_grown).trans (hb10.mono (by go_size)); clear hb10) | (go_at_call 8; refine (CM.out _ (TB.out _ (D10.out.trans (show Below W.heap.size w10 _ by go_grown)))).mono ?_; rintro e w11 ⟨rfl, hb11⟩; have D11 : Hid (Below W.heap.size W w11) := (D10.out.trans (show Below W.heap.size w10 _ by go_grown)).trans (hb11.mono (by have := D10.out.size; go_size)); clear hb11))
            go_wp2
            go_roundw
            case rel => exact ⟨i + 1, by omega, by go_num, by have := hU.out.later D11.out; first | exact this | exact this.drew⟩
            case measure => simp [intOf]; omega
          · obtain rfl : i = ws.length := by omega
            have BW := hide1 hU.out.bel
            have hsz : (⟨#[97]⟩ : ByteArray).size ≤ 1048576 := by decide
            have SN := hide1 (fun (w' : World) (h : TabD w') => implSeen_any 0 ⟨#[97]⟩ hsz w' h)
            have CM := hide1 (fun (w' : World) (h : TabD w') => implMark_any 0 ⟨#[97]⟩ hsz w' h)
            have CS := hide1 (fun (w' : World) => specMark_any 0 ⟨#[97]⟩ hsz w')
            have e1 : seenD 0 ⟨#[97]⟩ = false := by unfold seenD; show (okD 0 && seenN 0 _) = false; rw [seen_none, Bool.and_false]
            rw [e1] at SN
            clear e1
            generalize markD 0 ⟨#[97]⟩ = m at *
            have qm : (m == m) = true := by simp
            go_wp2_with fail
            refine (SN.out _ (HT.out.later BW.out)).mono ?_
            rintro e w4 ⟨rfl, hb4⟩
            have B4 := hide1 (BW.out.trans (hb4.mono BW.out.size))
            clear hb4
            go_wp2_with fail
            refine (CM.out _ (HT.out.later B4.out)).mono ?_
            rintro e w5 ⟨rfl, hb5⟩
            have B5 := hide1 (B4.out.trans (hb5.mono B4.out.size))
            clear hb5
            go_wp2_with fail
            refine (CS.out _).mono ?_
            rintro e w6 ⟨rfl, hb6⟩
            have B6 := hide1 (B5.out.trans (hb6.mono B5.out.size))
            clear hb6
            go_wp2
            go_ret
            exact ⟨rfl, B6.out⟩
  · have CB := hide1 (big6_yes a len cap w hbig)
    clear hr ht
    go_enter Tryd.func3, Tryd.ntmps3
    go_wp2_with fail
    refine CB.out.mono ?_
    rintro e w1 ⟨rfl, rfl⟩
    go_wp2
    go_ret
    exact ⟨rfl, Below.refl _ _⟩

theorem door_met_FnDoors (os : Os) (args : Array Value) : laidMetH Tryd.prog Rows.fnDoorsRow.laid ((World.doorLaid Tryd.prog 14 os).forCall (fun _ _ => 0) ⟨#[], args, []⟩).memory :=
  laidMetH_of_parts3 (fuel := 8) (laidMet_of_run' 8 (by kernel_rfl) (by kernel_rfl)) (by kernel_rfl) (by kernel_rfl)

set_option maxRecDepth 100000 in
theorem lifted_FnDoors (os : Os) (started : os.Started) (H : Type) (enc : TypeId × Value → H) :
    ReturnsInHanded {} Tryd.checked os 3 .any (fun w args => (Rows.fnDoorsSpec.pre enc Tryd.prog Tryd.f3 [] false w args ∧ laidMetH Tryd.prog Rows.fnDoorsRow.laid w) ∧ sizedMet enc Tryd.prog Tryd.f3 (OpenSpec.ofChange Rows.fnDoorsSpec) false w args)
      (Rows.fnDoorsSpec.post enc Tryd.prog Tryd.f3 false true false false) := by
  refine returnsInHanded_of_change_and (C := Tryd.checked) (X := fun w _ => laidMetH Tryd.prog Rows.fnDoorsRow.laid w) (fun _ _ _ hh h => h.of_heap hh) (show ownKnob Tryd.prog.godebug = none by kernel_rfl) started (by kernel_rfl) Tryd.func3
    (ChangeSpec.witness_shaped (enc := enc) (C := Tryd.checked) (os := os) (X := fun w _ => laidMetH Tryd.prog Rows.fnDoorsRow.laid w) false (World.doorLaid Tryd.prog 14 os) #[.slice none 0 0] 8 rfl (World.shaped_of_RefB (by kernel_rfl) (by kernel_rfl)) (by kernel_rfl) (by kernel_rfl) (by kernel_rfl) (door_met_FnDoors os _)) ?_
  intro W base args ds gs before hval0 hW _ _ hL _
  have hval : ∀ (j : Nat) t v, Tryd.f3.params[j]? = some t → args[j]? = some v → Value.okWide Tryd.prog W .any base t v := hval0
  have hW' := hW
  obtain ⟨p, q, hA0, hV, rfl, hfz, hnd⟩ := hW
  have hA : DataW.TrodAll enc Tryd.prog W 0 (fun _ => true) true Tryd.f3.params.toList args.toList ds p := hA0
  rw [Tryd.params3] at hA hval
  obtain ⟨v0, d0, rfl, rfl, h0⟩ := trodAll_one hA
  obtain ⟨_, _, _, _, gd, _, rfl, _⟩ := trodVars_one hV
  obtain ⟨a0, len0, cap0, rfl⟩ := okWide_slice Tryd.underlying22 (hval 0 22 v0 rfl rfl)
  have k0 := h0
  have lt0 : ∀ x ∈ p, x.block < W.heap.size := by obtain ⟨m, hm⟩ := k0; exact DataW.trod_lt m _ _ _ hm
  have r0 : RowB W a0 len0 := by
    obtain ⟨fuel, hf⟩ := h0
    rcases open_ints Tryd.underlying22 Tryd.underlying5 (by kernel_rfl) hf with ⟨hcs, _⟩ | ⟨x, l, c, zs, hcs, _, hl, hm, hz, _, hcell, hwz⟩
    · simp [Value.cells] at hcs
      obtain ⟨rfl, rfl, rfl⟩ := hcs
      exact fun j hj => absurd hj (Nat.not_lt_zero _)
    · simp [Value.cells] at hcs
      obtain ⟨rfl, rfl, rfl⟩ := hcs
      exact rowB_of hl (by simpa using hz) hcell (fun n hn => bounds_u8 (hwz n hn))
  have hX := of_laid_FnDoors hL
  clear hA0 hval0
  refine (walk_FnDoors a0 len0 cap0 W r0 hX).mono fun e W' ⟨he, bel⟩ => ?_
  subst he
  exact ⟨_, rfl, _, _, _, [], _, q, hW', trodAll_mk1 (shut_bool Tryd.underlying4 _), trodAll_mk1 (Below.trod (show laidOutB Tryd.prog = true by kernel_rfl) (by kernel_rfl) (of_decide_eq_true (by kernel_rfl)) k0 bel lt0), bel.trodVars (show laidOutB Tryd.prog = true by kernel_rfl) (by kernel_rfl) hV, bel.frame _, fun h => by cases h⟩

theorem row_FnDoors : Rows.FnDoorsSaid :=
  OpenClaim.holds_of_wide 3 Tryd.f3 rfl rfl rfl rfl rfl rfl rfl ⟨rfl, rfl, rfl, rfl, rfl⟩ rfl rfl rfl rfl rfl (by kernel_rfl) Tryd.func3 (by kernel_rfl)
    (of_decide_eq_true (by kernel_rfl)) (by unfold Func.isWrapper; first | (rw [if_pos (by decide +kernel)]; kernel_rfl) | (rw [if_neg (by decide +kernel)]; exact ⟨rfl, rfl⟩))
    (fun os started H enc _ => lifted_FnDoors os started H enc)

theorem proved_FnDoors : Rows.FnDoorsCardSaid :=
  Claim7.holds_tied_plain_at .later [] Rows.fnDoorsCard.laidKinds true Rows.fnDoorsCard.stood.harness false
    row_FnDoors (fun _ h => by cases h) (by kernel_rfl) (fun _ h => by cases h) fnDoors_row_tie rfl ⟨rfl, rfl⟩ (by kernel_rfl) rfl
    (fun f fn hf hfn => by
      obtain rfl : f = 3 := Option.some.inj ((show Tryd.prog.funcNamed Tryd.f3.name = some 3 by kernel_rfl).symm.trans hf) |>.symm
      obtain rfl : fn = Tryd.f3 := (Option.some.inj (Tryd.func3.symm.trans hfn)).symm
      exact ⟨by kernel_rfl, fun j t ht => by
        rw [Tryd.params3] at ht
        have hm : t ∈ ([22] : List TypeId) := by simpa using Array.mem_of_getElem? ht
        have hall : (([22] : List TypeId).all fun u => !Tryd.prog.wantsStandIn u) = true := by kernel_rfl
        exact (show Tryd.prog.wantsStandIn t = false by simpa using List.all_eq_true.1 hall t hm)⟩)
    (by kernel_rfl)
#print axioms proved_FnDoors
end Go.Proofs.YtocoligcbgcanaaDoor
