/- Rings, by the model: RingOf. -/
import Derived.Test.YtdgpencendphbaaDoorRiZ
import Derived.Test.YtdgpencendphbaaDoorRiB
import Derived.Deep.DeepCutAuto
namespace Go.Proofs.YtdgpencendphbaaDoor
open Go.RowKit
set_option linter.unusedVariables false

/-- What RingOf answers. -/
def RingA (L : List Int) (R : List Sp) (t : Bool) : Prop := (okNds L ∧ R = ringL spotF L ∧ t = true) ∨ (¬ okNds L ∧ R = [] ∧ t = false)
theorem RingA.det {L : List Int} {R R' : List Sp} {t t' : Bool} (h : RingA L R t) (h' : RingA L R' t') : R = R' ∧ t = t' := by
  rcases h with ⟨h1, h2, h3⟩ | ⟨h1, h2, h3⟩ <;> rcases h' with ⟨k1, k2, k3⟩ | ⟨k1, k2, k3⟩
  · exact ⟨h2.trans k2.symm, h3.trans k3.symm⟩
  · exact absurd h1 k1
  · exact absurd k1 h1
  · exact ⟨h2.trans k2.symm, h3.trans k3.symm⟩
def MadeRg (w w' : World) (e : Ending) (L : List Int) : Prop := ∃ b c R t, e = .returned (.tuple #[.agg #[.slice b R.length c], .bool t]) ∧ RingA L R t ∧ OwnR w' w.heap.size b c R ∧ Below w.heap.size w w'
theorem resR2 {P : Program} {fn : Func} {p u : Tmp} {ty : TypeId} (h : fn.results = #[.cell p ty, .tmp u]) (tmps : Array Value) (w : World) (g : Nat) (t : TypeId) (cs : Array Value) (fr : Nat × Nat) (d : TypeDesc)
    (hp : tmps.getD p undef = .pointer (some ⟨g, 0, none⟩)) (hg : w.heap[g]? = some (.cells cs t fr))
    (hu : P.underlying ty = some d) (hd : (match d with | .struct _ | .array _ _ => true | _ => false) = true) (hi : (P.info? ty).map (·.size) = some cs.size) :
    (results fn tmps).run P w = .ok (.tuple #[.agg cs, tmps.getD u undef]) w := by
  have hp' : tmps[p]?.getD undef = .pointer (some ⟨g, 0, none⟩) := by simpa using hp
  simp [results, h, hp', asAddr, run_loadVar_row w g t ty cs fr d hg hu hd hi]
/-- The spots behind k of a node's. -/
def nodeK (ls : List Sp) (v : Int) (k : Nat) : List Sp := (List.range k).foldl (fun l k => insS l (spotF v k, v)) ls
theorem nodeK_next (ls : List Sp) (v : Int) (k : Nat) : nodeK ls v (k + 1) = insS (nodeK ls v k) (spotF v k, v) := by
  unfold nodeK
  rw [List.range_succ, List.foldl_append]
  rfl
theorem nodeK_all (ls : List Sp) (v : Int) : nodeK ls v 4 = nodeS spotF ls v := rfl
theorem nodeK_length (ls : List Sp) (v : Int) (k : Nat) : (nodeK ls v k).length = ls.length + k := by
  induction k with
  | zero => rfl
  | succ k ih => rw [nodeK_next, insS_length, ih]; omega
theorem ringL_next {L : List Int} {i : Nat} (h : i < L.length) : ringL spotF (L.take (i + 1)) = nodeK (ringL spotF (L.take i)) L[i] 4 := by
  unfold ringL
  rw [List.take_succ_eq_append_getElem h, List.foldl_append]
  rfl
theorem filt_next (p : Sp → Bool) {l : List Sp} {j : Nat} (h : j < l.length) : (l.take (j + 1)).filter p = if p l[j] then (l.take j).filter p ++ [l[j]] else (l.take j).filter p := by
  rw [List.take_succ_eq_append_getElem h, List.filter_append]
  by_cases c : p l[j] = true
  · rw [if_pos c, List.filter_cons, if_pos c]
    rfl
  · rw [if_neg c, List.filter_cons, if_neg c, List.filter_nil, List.append_nil]

set_option maxRecDepth 100000 in
set_option maxHeartbeats 8000000 in
theorem specRing_any (ao : Option Addr) (L : List Int) (ca : Nat) (w : World) (hl : L.length ≤ 1048576) (hA : RdZ w ao L) :
    Calls Tryd.prog 22 #[.slice ao L.length ca] w fun e w' => MadeRg w w' e L := by
  obtain ⟨i0, hi0, hz0, hz1, hz2⟩ := info_parts Tryd.infoSpotR
  have F0 := hide1 (And.intro (Blk.new w 28 #[.slice none 0 0]) ((Below.refl w.heap.size w).alloc (Nat.le_refl _) (.cells #[.slice none 0 0] 28)))
  have CN := hide1 (fun w' (hb : Below w.heap.size w w') => specNodesOk_any ao L ca w' hl (hA.later hb))
  have HA := hide1 hA
  clear hA
  go_enter Tryd.func22, Tryd.ntmps22
  go_wp2_with fail
  generalize (w.alloc (.cells #[.slice none 0 0] 28)) = w0 at F0 ⊢
  refine (CN.out w0 F0.out.2).mono ?_
  rintro e w1 ⟨x, rfl, hx, hb1⟩
  have R1 := hide1 (F0.out.1.below hb1 F0.out.1.lt)
  have B1 := hide1 (F0.out.2.trans (hb1.mono F0.out.2.size))
  have HX := hide1 hx
  have hs1 : w.heap.size + 1 ≤ w1.heap.size := R1.out.lt
  clear hb1 hx CN F0
  rcases x with _ | _
  · have HN := hide1 (show ¬ okNds L from fun h => by have := HX.out.2 h; cases this)
    have c0 : w1.cell? ⟨w.heap.size, 0, none⟩ = some (.slice none 0 0) := R1.out.cell 0
    have cf : ∀ j, w1.frozen? ⟨w.heap.size, j, none⟩ = false := fun j => R1.out.froz j
    clear HX
    go_wp2
    refine bodyPost_ret (resR2 Tryd.results22 _ _ w.heap.size 28 #[.slice none 0 0] (0, 0) _ rfl (Blk.set R1.out 0 (.slice none 0 0)) Tryd.underlying28 rfl (by kernel_rfl)) rfl ?_
    exact ⟨none, 0, [], false, rfl, .inr ⟨HN.out, rfl, rfl⟩, World.ownsRow_nil _ _ _ _, B1.out.setCell (p := ⟨w.heap.size, 0, none⟩) (Nat.le_refl _) _⟩
  · have HOK := hide1 (HX.out.1 rfl)
    have hL6 := HOK.out.1.2
    clear HX
    have G1 := hide1 (And.intro (owns_empty2R w1 57) ((Below.refl w1.heap.size w1).alloc (Nat.le_refl _) (.cells #[] 57)))
    go_wp2_with fail
    generalize (w1.alloc (.cells #[] 57)) = w2 at G1 ⊢
    have hs2 : w.heap.size + 1 ≤ w2.heap.size := Nat.le_trans hs1 G1.out.2.size
    have O2 := hide1 (own_base (base := w.heap.size + 1) G1.out.1 hs1)
    have R2 := hide1 (R1.out.below G1.out.2 R1.out.lt)
    have B2 := hide1 (B1.out.trans (G1.out.2.mono B1.out.size))
    clear G1 R1 B1
    try go_wp2
    go_loopw [4, 5] (fun v iv wr => ∃ i : Nat, i ≤ L.length ∧ iv = .int .i64 (i : Int) ∧ wr.ownsRow (w.heap.size + 1) 57 2 v (ringL spotF (L.take i)).length (sps (ringL spotF (L.take i))) ∧ Hid (Below (w.heap.size + 1) w2 wr)) (fun _ iv _ => L.length - (intOf iv).toNat)
    case atStart => exact ⟨0, by omega, rfl, O2.out, hide1 (Below.refl _ _)⟩
    case round =>
      obtain ⟨i, hi, rfl, hown, hbel⟩ := hrel
      have hbs := hbel.out.size
      obtain ⟨vo, vc, rfl⟩ := own_slice2 hown
      have HBw := hide1 (B2.out.trans (hbel.out.mono (Nat.le_succ _)))
      by_cases c1 : i < L.length
      · have k1 : (i : Int) < (L.length : Int) := by omega
        obtain ⟨b, o, rfl, hb0, x0⟩ := HA.out i c1
        have hv := (HOK.out.2 i c1 c1).1
        have HN := hide1 (ringL_next (L := L) c1)
        have hrl : (ringL spotF (L.take i)).length = 4 * i := by rw [ringL_len, List.length_take]; omega
        have X0 := hide1 x0
        generalize L[i] = v at *
        have HO := hide1 hown
        clear hown x0
        have hrl2 : (ringL spotF (L.take i)).length ≤ 24 := by omega
        clear hrl
        generalize ringL spotF (L.take i) = ls at *
        obtain ⟨WA, hWA⟩ : ∃ W, W = wr := ⟨_, rfl⟩
        subst hWA
        go_wp2
        go_loopw [4, 6] (fun lv kv wv => ∃ k : Nat, k ≤ 4 ∧ kv = .int .i64 (k : Int) ∧ wv.ownsRow (w.heap.size + 1) 57 2 lv (nodeK ls v k).length (sps (nodeK ls v k)) ∧ Hid (Below (w.heap.size + 1) w2 wv)) (fun _ kv _ => 4 - (intOf kv).toNat)
        case atStart => exact ⟨0, by omega, rfl, HO.out, hbel⟩
        case round =>
          clear hbel hbs HBw HO
          obtain ⟨k, hk, rfl, hown, hbel⟩ := hrel
          have hbs := hbel.out.size
          obtain ⟨po, pc, rfl⟩ := own_slice2 hown
          have HBw := hide1 (B2.out.trans (hbel.out.mono (Nat.le_succ _)))
          by_cases c2 : k < 4
          · have k2 : (k : Int) < 4 := by omega
            have HK := hide1 (nodeK_next ls v k)
            have hnl : (nodeK ls v k).length ≤ 28 := by rw [nodeK_length]; omega
            have C1 := hide1 (fun w' => specDecimal_any v w' (by omega) (by omega))
            have C2 := hide1 (fun w' => specDecimal_any (k : Int) w' (by omega) (by omega))
            have hzk : (keyT v k).size ≤ 1048576 := by rw [keyT_size hv.1 hv.2 (by omega)]; omega
            have C3 := hide1 (fun w' => specHash_any (keyT v k) 0 w' hzk (by omega) (by omega))
            have hsz1 : (decB v).size = 1 := by
              obtain ⟨n, rfl⟩ : ∃ n : Nat, v = (n : Int) := ⟨v.toNat, by omega⟩
              exact decB_size n (by omega)
            have hsz2 : (decB (k : Int)).size = 1 := decB_size k (by omega)
            have HO := hide1 hown
            have hbW : b < wr.heap.size := Nat.lt_of_lt_of_le hb0 HBw.out.size
            have n0 : wr.cell? ⟨b, o + i, none⟩ = some (.int .i64 v) := (HBw.out.cell (p := ⟨b, o + i, none⟩) hb0).trans X0.out
            clear hown
            go_upto_region 10 with fail
            go_cut [7] (fun xv wx => ∃ bx : Nat, xv = .pointer (some ⟨bx, 0, none⟩) ∧ Hid (wr.heap.size ≤ bx) ∧ Hid (Blk wx bx 57 [.int .i64 (spotF v k), .int .i64 v]) ∧ Hid (Below wr.heap.size wr wx))
            case first =>
              refine regSpot (s1 := decB v) (s2 := decB (k : Int)) (h := spotF v k) rfl hbW n0 k1 hsz1 hsz2 C1.out C2.out C3.out ?_
              intro bx w' h1 h2 h3
              go_wp2_with fail
              go_meet
              exact ⟨bx, rfl, hide1 h1, hide1 h2, hide1 h3⟩
            case rest =>
              obtain ⟨bx, rfl, hbx, HBx, HB3⟩ := hcut
              have O3 := hide1 (own_kept HO.out HB3.out)
              have E3 := hide1 (hbel.out.trans (HB3.out.mono (by omega)))
              have hs3 : wr.heap.size ≤ wc.heap.size := HB3.out.size
              have hx3 := HBx.out.lt
              clear C1 C2 C3 hzk hsz1 hsz2 n0 HO HBw hbel hbW HB3
              generalize spotF v k = h at *
              generalize nodeK ls v k = ls2 at *
              have G4 := hide1 (And.intro (owns_empty2R wc 57) ((Below.refl wc.heap.size wc).alloc (Nat.le_refl _) (.cells #[] 57)))
              go_wp2_with fail
              generalize (wc.alloc (.cells #[] 57)) = w4 at G4 ⊢
              have RL := hide1 (rdP_of_own O3.out)
              have hs4 : wc.heap.size ≤ w4.heap.size := G4.out.2.size
              try go_wp2
              go_loopw [8, 9] (fun nv jv wv => ∃ j : Nat, j ≤ ls2.length ∧ jv = .int .i64 (j : Int) ∧ wv.ownsRow wc.heap.size 57 2 nv ((ls2.take j).filter (fun y => ahd y (h, v))).length (sps ((ls2.take j).filter (fun y => ahd y (h, v)))) ∧ Hid (Below wc.heap.size wc wv)) (fun _ jv _ => ls2.length - (intOf jv).toNat)
              case atStart => exact ⟨0, by omega, rfl, G4.out.1, hide1 G4.out.2⟩
              case round =>
                obtain ⟨j, hj, rfl, hown, hbel⟩ := hrel
                have hbs5 := hbel.out.size
                obtain ⟨qo, qc, rfl⟩ := own_slice2 hown
                have hfl : ((ls2.take j).filter (fun y => ahd y (h, v))).length ≤ 28 := Nat.le_trans (List.length_filter_le _ _) (by rw [List.length_take]; omega)
                by_cases c3 : j < ls2.length
                · have k3 : (j : Int) < (ls2.length : Int) := by omega
                  obtain ⟨g, rfl, hg, y0, y1⟩ := RL.out.at j c3
                  have z0 := (hbel.out.cell (p := ⟨g, j * 2, none⟩) hg).trans y0
                  have z1 := (hbel.out.cell (p := ⟨g, j * 2 + 1, none⟩) hg).trans y1
                  have Bx := hide1 (HBx.out.below hbel.out hx3)
                  have z2 : wr.cell? ⟨bx, 0, none⟩ = some (.int .i64 h) := Bx.out.cell 0
                  have z3 : wr.cell? ⟨bx, 1, none⟩ = some (.int .i64 v) := Bx.out.cell 1
                  have HF := hide1 (filt_next (fun y => ahd y (h, v)) c3)
                  have CA := hide1 (fun w' => ahead_any ls2[j] (h, v) w')
                  generalize ls2[j] = s at *
                  obtain ⟨sa, sn⟩ := s
                  dsimp only at z0 z1
                  unfold spV at CA
                  dsimp only at CA
                  have ZZ := hide1 (And.intro z0 (And.intro z1 (And.intro z2 z3)))
                  have lg : g < wr.heap.size := Nat.lt_of_lt_of_le hg hbs5
                  have lx : bx < wr.heap.size := Nat.lt_of_lt_of_le hx3 hbs5
                  have HO5 := hide1 hown
                  clear hown y0 y1
                  rcases ca : ahd (sa, sn) (h, v) with _ | _
                  · rw [ca] at CA
                    simp only [ca] at HF
                    go_wp2
                    go_region_held3 (fun w' => w'.cell? ⟨g, j * 2, none⟩ = some (.int .i64 sa) ∧ w'.cell? ⟨g, j * 2 + 1, none⟩ = some (.int .i64 sn) ∧ w'.cell? ⟨bx, 0, none⟩ = some (.int .i64 h) ∧ w'.cell? ⟨bx, 1, none⟩ = some (.int .i64 v)) (first | go_keep | exact ⟨(b6.out.cell lg).trans ZZ.out.1, (b6.out.cell lg).trans ZZ.out.2.1, (b6.out.cell lx).trans ZZ.out.2.2.1, (b6.out.cell lx).trans ZZ.out.2.2.2⟩) ((go_at_call 50; refine (CA.out _).mono ?_; rintro e w6 ⟨rfl, hb6⟩; have b6 : Hid (Below wr.heap.size wr w6) := (show Below wr.heap.size wr _ by go_grown).trans (hb6.mono (by go_size)); clear hb6))
                    go_wp2
                    go_roundw
                    case rel => exact ⟨j + 1, by omega, by go_num, by rw [HF.out, if_neg (by simp)]; exact own_kept HO5.out b6.out, hide1 (hbel.out.trans (b6.out.mono hbs5))⟩
                    case measure => simp [intOf]; omega
                  · rw [ca] at CA
                    simp only [ca] at HF
                    go_wp2
                    go_region_held3 (fun w' => w'.cell? ⟨g, j * 2, none⟩ = some (.int .i64 sa) ∧ w'.cell? ⟨g, j * 2 + 1, none⟩ = some (.int .i64 sn) ∧ w'.cell? ⟨bx, 0, none⟩ = some (.int .i64 h) ∧ w'.cell? ⟨bx, 1, none⟩ = some (.int .i64 v)) (first | go_keep | exact ⟨(b6.out.cell lg).trans ZZ.out.1, (b6.out.cell lg).trans ZZ.out.2.1, (b6.out.cell lx).trans ZZ.out.2.2.1, (b6.out.cell lx).trans ZZ.out.2.2.2⟩) ((go_at_call 50; refine (CA.out _).mono ?_; rintro e w6 ⟨rfl, hb6⟩; have b6 : Hid (Below wr.heap.size wr w6) := (show Below wr.heap.size wr _ by go_grown).trans (hb6.mono (by go_size)); clear hb6))
                    have o6 := own_kept HO5.out b6.out
                    have t0 := (b6.out.cell (p := ⟨g, j * 2, none⟩) lg).trans ZZ.out.1
                    have t1 := (b6.out.cell (p := ⟨g, j * 2 + 1, none⟩) lg).trans ZZ.out.2.1
                    have hs6 : wc.heap.size ≤ w6.heap.size := Nat.le_trans hbs5 b6.out.size
                    generalize (ls2.take j).filter (fun y => ahd y (h, v)) = acc at *
                    clear z0 z1 z2 z3 ZZ CA
                    go_wp2_with (at_builtin; (refine wpList_push2 rfl _ _ 26 rfl wc.heap.size 57 i0 (spV (0, 0)) 16 Tryd.underlying26 hi0 hz0 hz1 hz2 rfl (by decide) _ acc.length (sps acc) rfl o6 _ _ rfl rfl rfl (by omega) hs6 ?_; intro v' w7 hown' hb'))
                    go_roundw
                    case rel =>
                      refine ⟨j + 1, by omega, by go_num, ?_, hide1 (hbel.out.trans ((b6.out.mono hbs5).trans hb'))⟩
                      rw [HF.out, if_pos trivial, sps_append, List.length_append]
                      exact hown'
                    case measure => simp [intOf]; omega
                · obtain rfl : j = ls2.length := by omega
                  rw [List.take_length] at hown
                  have z2 : wr.cell? ⟨bx, 0, none⟩ = some (.int .i64 h) := (HBx.out.below hbel.out hx3).cell 0
                  have z3 : wr.cell? ⟨bx, 1, none⟩ = some (.int .i64 v) := (HBx.out.below hbel.out hx3).cell 1
                  have hfl2 : (ls2.filter (fun y => ahd y (h, v))).length ≤ 28 := Nat.le_trans (List.length_filter_le _ _) (by omega)
                  obtain ⟨fa, hfa⟩ : ∃ fa, ls2.filter (fun y => ahd y (h, v)) = fa := ⟨_, rfl⟩
                  have HFA := hide1 hfa
                  rw [hfa] at hown hfl2
                  clear hfa hfl
                  have hown0 := hown
                  clear hown
                  rw [List.take_length, HFA.out]
                  go_wp2_with (at_builtin; (refine wpList_push2 rfl _ _ 26 rfl wc.heap.size 57 i0 (spV (0, 0)) 16 Tryd.underlying26 hi0 hz0 hz1 hz2 rfl (by decide) _ fa.length (sps fa) rfl hown0 _ _ rfl rfl rfl (by omega) hbs5 ?_; intro v' w7 hown7 hb7))
                  have HE7 := hide1 (hbel.out.trans hb7)
                  have hs7 : wc.heap.size ≤ w7.heap.size := HE7.out.size
                  have HO7 : Hid (w7.ownsRow wc.heap.size 57 2 v' (fa ++ [(h, v)] ++ (ls2.take 0).filter (fun y => !ahd y (h, v))).length (sps (fa ++ [(h, v)] ++ (ls2.take 0).filter (fun y => !ahd y (h, v))))) := by
                    rw [List.take_zero, List.filter_nil, List.append_nil, sps_append, List.length_append]
                    exact hown7
                  clear hown7 hb7 hbel z2 z3 hown0
                  obtain ⟨WB, hWB⟩ : ∃ W, W = wr := ⟨_, rfl⟩
                  subst hWB
                  try go_wp2
                  go_loopw [8, 10] (fun nv jv wv => ∃ j : Nat, j ≤ ls2.length ∧ jv = .int .i64 (j : Int) ∧ wv.ownsRow wc.heap.size 57 2 nv (fa ++ [(h, v)] ++ (ls2.take j).filter (fun y => !ahd y (h, v))).length (sps (fa ++ [(h, v)] ++ (ls2.take j).filter (fun y => !ahd y (h, v)))) ∧ Hid (Below wc.heap.size wc wv)) (fun _ jv _ => ls2.length - (intOf jv).toNat)
                  case atStart => exact ⟨0, by omega, rfl, HO7.out, HE7⟩
                  case round =>
                    clear HO7 HE7
                    obtain ⟨j, hj, rfl, hown, hbel⟩ := hrel
                    have hbs5 := hbel.out.size
                    obtain ⟨qo, qc, rfl⟩ := own_slice2 hown
                    have hfl : (fa ++ [(h, v)] ++ (ls2.take j).filter (fun y => !ahd y (h, v))).length ≤ 100 := by
                      have := List.length_filter_le (fun y => !ahd y (h, v)) (ls2.take j)
                      rw [List.length_take] at this
                      simp only [List.length_append, List.length_cons, List.length_nil]
                      omega
                    generalize hacc : fa ++ [(h, v)] ++ (ls2.take j).filter (fun y => !ahd y (h, v)) = acc at *
                    have HAc := hide1 hacc
                    clear hacc
                    by_cases c3 : j < ls2.length
                    · have k3 : (j : Int) < (ls2.length : Int) := by omega
                      obtain ⟨g, rfl, hg, y0, y1⟩ := RL.out.at j c3
                      have z0 := (hbel.out.cell (p := ⟨g, j * 2, none⟩) hg).trans y0
                      have z1 := (hbel.out.cell (p := ⟨g, j * 2 + 1, none⟩) hg).trans y1
                      have Bx := hide1 (HBx.out.below hbel.out hx3)
                      have z2 : wr.cell? ⟨bx, 0, none⟩ = some (.int .i64 h) := Bx.out.cell 0
                      have z3 : wr.cell? ⟨bx, 1, none⟩ = some (.int .i64 v) := Bx.out.cell 1
                      have HF := hide1 (filt_next (fun y => !ahd y (h, v)) c3)
                      have CA := hide1 (fun w' => ahead_any ls2[j] (h, v) w')
                      generalize ls2[j] = s at *
                      obtain ⟨sa, sn⟩ := s
                      dsimp only at z0 z1
                      unfold spV at CA
                      dsimp only at CA
                      have ZZ := hide1 (And.intro z0 (And.intro z1 (And.intro z2 z3)))
                      have lg : g < wr.heap.size := Nat.lt_of_lt_of_le hg hbs5
                      have lx : bx < wr.heap.size := Nat.lt_of_lt_of_le hx3 hbs5
                      have HO5 := hide1 hown
                      clear hown y0 y1
                      rcases ca : ahd (sa, sn) (h, v) with _ | _
                      · rw [ca] at CA
                        have HG : Hid ((ls2.take (j + 1)).filter (fun y => !ahd y (h, v)) = (ls2.take j).filter (fun y => !ahd y (h, v)) ++ [(sa, sn)]) := by
                          show _ = _
                          rw [HF.out, if_pos (by rw [ca]; rfl)]
                        clear HF
                        go_wp2
                        go_region_held3 (fun w' => w'.cell? ⟨g, j * 2, none⟩ = some (.int .i64 sa) ∧ w'.cell? ⟨g, j * 2 + 1, none⟩ = some (.int .i64 sn) ∧ w'.cell? ⟨bx, 0, none⟩ = some (.int .i64 h) ∧ w'.cell? ⟨bx, 1, none⟩ = some (.int .i64 v)) (first | go_keep | exact ⟨(b6.out.cell lg).trans ZZ.out.1, (b6.out.cell lg).trans ZZ.out.2.1, (b6.out.cell lx).trans ZZ.out.2.2.1, (b6.out.cell lx).trans ZZ.out.2.2.2⟩) ((go_at_call 50; refine (CA.out _).mono ?_; rintro e w6 ⟨rfl, hb6⟩; have b6 : Hid (Below wr.heap.size wr w6) := (show Below wr.heap.size wr _ by go_grown).trans (hb6.mono (by go_size)); clear hb6))
                        have o6 := own_kept HO5.out b6.out
                        have t0 := (b6.out.cell (p := ⟨g, j * 2, none⟩) lg).trans ZZ.out.1
                        have t1 := (b6.out.cell (p := ⟨g, j * 2 + 1, none⟩) lg).trans ZZ.out.2.1
                        have hs6 : wc.heap.size ≤ w6.heap.size := Nat.le_trans hbs5 b6.out.size
                        clear z0 z1 z2 z3 ZZ CA
                        go_wp2_with (at_builtin; (refine wpList_push2 rfl _ _ 26 rfl wc.heap.size 57 i0 (spV (0, 0)) 16 Tryd.underlying26 hi0 hz0 hz1 hz2 rfl (by decide) _ acc.length (sps acc) rfl o6 _ _ rfl rfl rfl (by omega) hs6 ?_; intro v' w7 hown' hb'))
                        go_roundw
                        case rel =>
                          refine ⟨j + 1, by omega, by go_num, ?_, hide1 (hbel.out.trans ((b6.out.mono hbs5).trans hb'))⟩
                          rw [HG.out, ← List.append_assoc, HAc.out, sps_append, List.length_append]
                          exact hown'
                        case measure => simp [intOf]; omega
                      · rw [ca] at CA
                        have HG : Hid ((ls2.take (j + 1)).filter (fun y => !ahd y (h, v)) = (ls2.take j).filter (fun y => !ahd y (h, v))) := by
                          show _ = _
                          rw [HF.out, if_neg (by rw [ca]; simp)]
                        clear HF
                        go_wp2
                        go_region_held3 (fun w' => w'.cell? ⟨g, j * 2, none⟩ = some (.int .i64 sa) ∧ w'.cell? ⟨g, j * 2 + 1, none⟩ = some (.int .i64 sn) ∧ w'.cell? ⟨bx, 0, none⟩ = some (.int .i64 h) ∧ w'.cell? ⟨bx, 1, none⟩ = some (.int .i64 v)) (first | go_keep | exact ⟨(b6.out.cell lg).trans ZZ.out.1, (b6.out.cell lg).trans ZZ.out.2.1, (b6.out.cell lx).trans ZZ.out.2.2.1, (b6.out.cell lx).trans ZZ.out.2.2.2⟩) ((go_at_call 50; refine (CA.out _).mono ?_; rintro e w6 ⟨rfl, hb6⟩; have b6 : Hid (Below wr.heap.size wr w6) := (show Below wr.heap.size wr _ by go_grown).trans (hb6.mono (by go_size)); clear hb6))
                        go_wp2
                        go_roundw
                        case rel => exact ⟨j + 1, by omega, by go_num, by rw [HG.out, HAc.out]; exact own_kept HO5.out b6.out, hide1 (hbel.out.trans (b6.out.mono hbs5))⟩
                        case measure => simp [intOf]; omega
                    · obtain rfl : j = ls2.length := by omega
                      have HI := hide1 (show nodeK ls v (k + 1) = acc by rw [HK.out, insS, HFA.out, ← HAc.out, List.take_length])
                      have HO8 := hide1 hown
                      have HE8 := hide1 (E3.out.trans (hbel.out.mono (show w.heap.size + 1 ≤ wc.heap.size by omega)))
                      clear hown
                      go_wp2
                      go_roundw
                      case rel => exact ⟨k + 1, by omega, by go_num, by rw [HI.out]; exact own_base HO8.out (by omega), HE8⟩
                      case measure => simp [intOf]; omega
          · obtain rfl : k = 4 := by omega
            rw [nodeK_all] at hown
            have HO := hide1 hown
            clear hown
            go_wp2
            go_roundw
            case rel => exact ⟨i + 1, by omega, by go_num, by rw [HN.out, nodeK_all]; exact HO.out, hbel⟩
            case measure => simp [intOf]; omega
      · obtain rfl : i = L.length := by omega
        rw [List.take_length] at hown
        have HO := hide1 hown
        have R3 := hide1 (R2.out.below hbel.out (Nat.lt_succ_self _))
        have c0 : wr.cell? ⟨w.heap.size, 0, none⟩ = some (.slice none 0 0) := R3.out.cell 0
        have cf : ∀ j, wr.frozen? ⟨w.heap.size, j, none⟩ = false := fun j => R3.out.froz j
        clear hown
        go_wp2
        refine bodyPost_ret (resR2 Tryd.results22 _ _ w.heap.size 28 #[.slice vo _ vc] (0, 0) _ rfl (Blk.set R3.out 0 _) Tryd.underlying28 rfl (by kernel_rfl)) rfl ?_
        refine ⟨_, _, _, true, rfl, .inl ⟨HOK.out, rfl, rfl⟩, ?_, HBw.out.setCell (p := ⟨w.heap.size, 0, none⟩) (Nat.le_refl _) _⟩
        exact own_base (own_far HO.out _ _ (fun k hk => by have := (World.ownsRow.lt HO.out k hk).1; dsimp only; omega)) (Nat.le_succ _)
end Go.Proofs.YtdgpencendphbaaDoor
