/- A guess is never less than how often a key was counted, since a new sketch, as long as none were halved (but 15 at most): whatever is drawn. -/
import Derived.Test.YthigmdocfjhdlaaRows
import Derived.ProofKit
import Derived.OpenShut
import Derived.ShutString
import Derived.ChangeOld
import Derived.Test.YthigmdocfjhdlaaLawSW
namespace Go.Proofs.Ythigmdocfjhdlaa
open Go.ChangeShapes Go.WideShapes Go.ChangeAt Go.RowKit
open Go.ChangeMaps (open_string shut_string)
set_option linter.unusedVariables false

/-- Words, sketch and what was counted so far. -/
structure GuK (w wr : World) (A : Nat) (po : Option Addr) (L : List Int) (c : Nat) (wo : Option Addr) (ws : List ByteArray) (k : Nat) : Prop where
  one : OneK wr A po L c (k : Int)
  wds : Wds wr wo ws
  told : Told (fun j => ws.getD j ⟨#[]⟩) k L
  bel : Below w.heap.size w wr
  ne : ∀ g o, po = some ⟨g, o, none⟩ → g ≠ A
  hA : w.heap.size ≤ A
  wne : ∀ g, wo = some ⟨g, 0, none⟩ → ws ≠ [] → g < A
theorem GuK.later {w wr w' : World} {A c k : Nat} {po wo : Option Addr} {L : List Int} {ws : List ByteArray} (h : GuK w wr A po L c wo ws k) (hb : Below wr.heap.size wr w') : GuK w w' A po L c wo ws k :=
  ⟨h.one.later hb, h.wds.later hb, h.told, h.bel.trans (hb.mono h.bel.size), h.ne, h.hA, h.wne⟩
theorem far_rdZ {w : World} {ao : Option Addr} {l : List Int} (h : RdZ w ao l) (A j : Nat) (v : Value) (hne : ∀ b f, ao = some ⟨b, f, none⟩ → l ≠ [] → b ≠ A) : RdZ (w.setCell ⟨A, j, none⟩ v) ao l := by
  intro i hi
  obtain ⟨b, o, ha, hg, hc⟩ := h i hi
  refine ⟨b, o, ha, by simpa using hg, ?_⟩
  rw [World.cell?_of_block (w := w) (Below.heap_setCell _ _ _ _ (hne b o ha (fun e => by subst e; simp at hi)))]
  exact hc
theorem far_wds {w : World} {wo : Option Addr} {ws : List ByteArray} (h : Wds w wo ws) (A j : Nat) (v : Value) (hne : ∀ g, wo = some ⟨g, 0, none⟩ → ws ≠ [] → g ≠ A) : Wds (w.setCell ⟨A, j, none⟩ v) wo ws := by
  intro i hi
  obtain ⟨g, ha, hg, hc⟩ := h i hi
  refine ⟨g, ha, by simpa using hg, ?_⟩
  rw [World.cell?_of_block (w := w) (Below.heap_setCell _ _ _ _ (hne g ha (fun e => by subst e; simp at hi)))]
  exact hc
theorem GuK.put {w wr : World} {A c c' base k : Nat} {po p wo : Option Addr} {L : List Int} {ws : List ByteArray} (h : GuK w wr A po L c wo ws k) (hk : k < ws.length) (hk2 : k < 99) (ho : wr.ownsRow base 3 1 (.slice p (addK L ws[k] 3).length c') (addK L ws[k] 3).length (iz (addK L ws[k] 3))) (hb : A < base) :
    GuK w ((wr.setCell ⟨A, 0, none⟩ (.slice p (addK L ws[k] 3).length c')).setCell ⟨A, 1, none⟩ (.int .i64 ((k : Int) + 1))) A p (addK L ws[k] 3) c' wo ws (k + 1) := by
  have hA := h.hA
  have hOk := h.one.ok
  have hne : ∀ b f, p = some ⟨b, f, none⟩ → (addK L ws[k] 3) ≠ [] → b ≠ A := fun b f e hn => by
    have h0 : 0 < (addK L ws[k] 3).length := List.length_pos_iff.2 hn
    obtain ⟨g, cap, e2⟩ := own_at1 ho h0
    simp only [Value.slice.injEq] at e2
    have := (ho.lt g (by rw [e2.1]; rfl)).1
    rw [e2.1] at e
    simp at e
    omega
  have hwn : ∀ g, wo = some ⟨g, 0, none⟩ → ws ≠ [] → g ≠ A := fun g e hn => by have := h.wne g e hn; omega
  have hok2 : OkK (addK L ws[k] 3) ((k : Int) + 1) := ⟨by rw [addK_length]; exact hOk.1, by omega, by omega, InK15.add hOk.in15 _ 3⟩
  have hcast : (((k + 1 : Nat)) : Int) = (k : Int) + 1 := by omega
  refine ⟨⟨by rw [hcast]; exact hok2, by rw [hcast]; exact Blk.set (Blk.set h.one.var 0 _) 1 _, far_rdZ (far_rdZ (rdZ_of_own ho) _ _ _ hne) _ _ _ hne⟩, far_wds (far_wds h.wds _ _ _ hwn) _ _ _ hwn, ?_, (h.bel.setCell (p := ⟨A, 0, none⟩) hA _).setCell (p := ⟨A, 1, none⟩) hA _, ?_, hA, h.wne⟩
  · have := h.told.next hOk.in15 hOk.1
    have e : ws.getD k ⟨#[]⟩ = ws[k] := by simp [hk]
    rw [e] at this
    exact this
  · intro g o e
    by_cases hn : addK L ws[k] 3 = []
    · have := hok2.1
      rw [hn] at this
      simp at this
    · exact hne g o e hn

set_option maxRecDepth 100000 in
set_option maxHeartbeats 8000000 in
theorem walk_FnGuesses (a : Option Addr) (len cap : Nat) (w : World) (hr : RowB w a len) :
    Calls Try.prog 3 #[.slice a len cap] w fun e w' => e = .returned (.bool true) ∧ Below w.heap.size w w' := by
  by_cases hbig : len ≤ 1048576
  · have CB := hide1 (big5_no a len cap w hbig)
    have CD := hide1 (drawWords_any w a len cap (hr.code hbig))
    clear hr
    go_enter Try.func3, Try.ntmps3
    go_wp2_with fail
    refine CB.out.mono ?_
    rintro e w1 ⟨rfl, rfl⟩
    go_wp2_with fail
    refine CD.out.mono ?_
    rintro e w1 ⟨ws, wo, wc, rfl, hwl, hwz, hwd, hb1⟩
    have HW := hide1 hwd
    have HZ := hide1 hwz
    have B1 := hide1 hb1
    clear hwd hwz hb1 CB CD
    have CN := hide1 (implSNew_any w1)
    go_wp2_with fail
    refine CN.out.mono ?_
    rintro e w2 ⟨po, c, rfl, ho, hb2⟩
    have ho' : w2.ownsRow w1.heap.size 3 1 (.slice po (List.replicate 48 (0 : Int)).length c) (List.replicate 48 (0 : Int)).length (iz (List.replicate 48 0)) := ho
    have F3 : Hid (GuK w (w2.alloc (.cells #[.slice po 48 c, .int .i64 0] 28)) w2.heap.size po (List.replicate 48 0) c wo ws 0) := by
      have B2 := B1.out.trans (hb2.mono B1.out.size)
      refine ⟨OneK.box okK_new ho', (HW.out.later hb2).later ((Below.refl _ _).alloc (Nat.le_refl _) _), told_new _, B2.alloc B2.size _, ?_, B2.size, ?_⟩
      · intro g o e
        obtain ⟨g', cap', e2⟩ := own_at1 ho' (by rw [List.length_replicate]; omega)
        simp only [Value.slice.injEq] at e2
        have := (ho'.lt g' (by rw [e2.1]; rfl)).2
        rw [e2.1] at e
        simp at e
        omega
      · intro g e hn
        obtain ⟨g', e1, h2, _⟩ := (HW.out.later hb2) 0 (List.length_pos_iff.2 hn)
        rw [e] at e1
        simp at e1
        omega
    clear ho ho' hb2 CN
    unfold skV newK
    dsimp only
    rw [List.length_replicate]
    go_wp2
    generalize (w2.alloc (.cells #[.slice po 48 c, .int .i64 0] 28)) = w3 at F3 ⊢
    generalize w2.heap.size = A at F3 ⊢
    go_loopw [5] (fun iv wr => ∃ (k : Nat) (p : Option Addr) (L : List Int) (cc : Nat), k ≤ ws.length ∧ iv = .int .i64 (k : Int) ∧ Hid (GuK w wr A p L cc wo ws k)) (fun iv _ => ws.length - (intOf iv).toNat)
    case atStart => exact ⟨0, _, _, _, by omega, rfl, F3⟩
    case round =>
      obtain ⟨k, p, L, cc, hk, rfl, hG⟩ := hrel
      by_cases hlt : k < ws.length
      · have k1 : (k : Int) < (ws.length : Int) := by omega
        obtain ⟨hA, v0, v1⟩ := hG.out.one.cells
        obtain ⟨gw, rfl, hgw, n0⟩ := hG.out.wds k hlt
        have hz := HZ.out ws[k] (List.getElem_mem hlt)
        have CC := hide1 (fun w' (h : Below wr.heap.size wr w') => cntI hG.out.one ws[k] hz h)
        rw [cntK_else _ (by omega)] at CC
        dsimp only at CC
        have PUT := hide1 (fun w' (h : Below wr.heap.size wr w') p' c' => (hG.out.later h).put (p := p') (c' := c') (base := wr.heap.size) hlt (by omega))
        generalize hzz : ws[k] = z at *
        have V0 := hide1 v0
        have vf : ∀ j, wr.frozen? ⟨A, j, none⟩ = false := fun j => hG.out.one.var.froz j
        have HVF := hide1 hG.out.one.var
        have w1k : IntKind.i64.wrap ((k : Int) + 1) = (k : Int) + 1 := IntWalk.i64_in _ ⟨by omega, by omega⟩
        go_upto_region 8 with fail
        go_region_with ((go_at_call 9; refine (CC.out _ (by go_grown)).mono ?_; rintro e w8 ⟨p', c', rfl, ho8, hb8⟩; have D8 : Hid (Below wr.heap.size wr w8) := (show Below wr.heap.size wr _ by go_grown).trans (hb8.mono (by go_size)); have O8 := hide1 (own_base ho8 (show wr.heap.size ≤ _ by go_size)); clear ho8 hb8; have vv := HVF.out.below D8.out hA; have y0 : w8.cell? ⟨A, 0, none⟩ = some (.slice p L.length cc) := vv.cell 0; have y1 : w8.cell? ⟨A, 1, none⟩ = some (.int .i64 (k : Int)) := vv.cell 1; have yf : ∀ j, w8.frozen? ⟨A, j, none⟩ = false := fun j => vv.froz j; clear vv))
        all_goals
          have S9 := hide1 (PUT.out w8 D8.out p' c' O8.out hA)
          clear y0 y1 yf O8
          go_wp2
          go_roundw
          case rel => exact ⟨k + 1, p', _, c', by omega, by go_num, S9⟩
          case measure => simp [intOf]; omega
      · obtain rfl : k = ws.length := by omega
        obtain ⟨hA, v0, v1⟩ := hG.out.one.cells
        have CO := hide1 (okI hG.out.one (Below.refl _ _))
        have qe : ((ws.length : Int) != (ws.length : Int)) = false := by simp
        go_wp2_with fail
        refine CO.out.mono ?_
        rintro e w4 ⟨rfl, hb4⟩
        have G4 := hide1 (hG.out.later hb4)
        clear hb4 CO v0 v1 hA
        obtain ⟨hA, v0, v1⟩ := G4.out.one.cells
        have CN := hide1 (names5_any w4)
        go_wp2_with fail
        refine CN.out.mono ?_
        rintro e w5 ⟨rfl, hN, hb5⟩
        have G5 := hide1 (G4.out.later hb5)
        have HN := hide1 hN
        clear CN hN hb5 v0 v1 hA G4 hG
        generalize w4.heap.size = N at HN ⊢
        go_wp2
        go_loopw [7] (fun iv wr => ∃ i : Nat, i ≤ 12 ∧ iv = .int .i64 (i : Int) ∧ Hid (GuK w wr A p L cc wo ws ws.length) ∧ Hid (Nms wr N)) (fun iv _ => 12 - (intOf iv).toNat)
        case atStart => exact ⟨0, by omega, rfl, G5, HN⟩
        case round =>
          obtain ⟨W, hWW⟩ : ∃ W, W = wr := ⟨_, rfl⟩
          subst hWW
          obtain ⟨i, hi, rfl, hU, hNm⟩ := hrel
          by_cases hlt : i < 12
          · have k1 : (i : Int) < 12 := by omega
            have n0 := hNm.out.2 i hlt
            have mN := hNm.out.1
            have hsz := nm5_size i hlt
            obtain ⟨mA, t0, t1⟩ := hU.out.one.cells
            have CI := hide1 (fun w' (h : Below W.heap.size W w') => gueI hU.out.one (nm5 i) hsz h)
            have CS := hide1 (fun w' (h : Below W.heap.size W w') => gueS hU.out.one (nm5 i) hsz h)
            have TL := hU.out.told.least (nm5 i) 3 (by omega)
            have hin := leastK_in hU.out.one.ok.in15 (nm5 i) 3
            have FN := hide1 (fun k => show cntF (fun j => ws.getD j ⟨#[]⟩) (nm5 i) (k + 1) = cntF (fun j => ws.getD j ⟨#[]⟩) (nm5 i) k + (if (ws.getD k ⟨#[]⟩).toList = (nm5 i).toList then 1 else 0) from rfl)
            have F0 : Hid (cntF (fun j => ws.getD j ⟨#[]⟩) (nm5 i) 0 = 0) := hide1 rfl
            have FL := hide1 (cntF_le (fun j => ws.getD j ⟨#[]⟩) (nm5 i))
            generalize cntF (fun j => ws.getD j ⟨#[]⟩) (nm5 i) = cf at *
            generalize leastK L (nm5 i) 3 = u at *
            generalize nm5 i = z at *
            have ZX := hide1 (And.intro t0 (And.intro t1 n0))
            have TLH := hide1 TL
            clear TL
            go_wp2
            go_loopw [8, 9] (fun nv kv wt => ∃ k : Nat, k ≤ ws.length ∧ kv = .int .i64 (k : Int) ∧ nv = .int .i64 ((cf k : Nat) : Int) ∧ Hid (Below W.heap.size W wt)) (fun _ kv _ => ws.length - (intOf kv).toNat)
            case atStart => exact ⟨0, by omega, rfl, by rw [F0.out]; rfl, Below.refl _ _⟩
            case round =>
              obtain ⟨k, hk, rfl, rfl, hD⟩ := hrel
              by_cases hlk : k < ws.length
              · have k2 : (k : Int) < (ws.length : Int) := by omega
                obtain ⟨gw, rfl, hgw, m0⟩ := (hU.out.wds.later hD.out) k hlk
                have r2 := (hD.out.cell mN).trans ZX.out.2.2
                have FK := hide1 (FN.out k)
                have hgd : ws.getD k ⟨#[]⟩ = ws[k] := by simp [hlk]
                rw [hgd] at FK
                have hcf := FL.out k
                generalize ws[k] = y at *
                by_cases d : y.toList = z.toList
                · have b1 : (y.toList == z.toList) = true := by rw [d]; simp
                  have FE := FK.out
                  rw [if_pos d] at FE
                  have FE2 := hide1 FE
                  clear d FE FK
                  go_wp2_with fail
                  go_quiet (fail)
                  go_wp2
                  go_roundw
                  case rel => exact ⟨k + 1, by omega, by go_num, by rw [FE2.out]; go_num, below_drewN hD.out _⟩
                  case measure => simp [intOf]; omega
                · have b1 : (y.toList == z.toList) = false := by simpa using d
                  have FE := FK.out
                  rw [if_neg d] at FE
                  have FE2 := hide1 FE
                  clear d FE FK
                  go_wp2_with fail
                  go_quiet (fail)
                  go_wp2
                  go_roundw
                  case rel => exact ⟨k + 1, by omega, by go_num, by rw [FE2.out]; rfl, below_drewN hD.out _⟩
                  case measure => simp [intOf]; omega
              · obtain rfl : k = ws.length := by omega
                obtain ⟨w6, hw6⟩ : ∃ x, x = wr := ⟨_, rfl⟩
                subst hw6
                have D6 := hD
                have hcf := FL.out ws.length
                have TL := TLH.out
                have r0 := (D6.out.cell mA).trans ZX.out.1
                have r1 := (D6.out.cell mA).trans ZX.out.2.1
                have r2 := (D6.out.cell mN).trans ZX.out.2.2
                have m6 : w6.heap.size ≥ W.heap.size := D6.out.size
                by_cases c15 : 15 < cf ws.length
                · skip
                  have q15 : decide (15 < (cf ws.length : Int)) = true := by simp; omega
                  have qa : decide (u < 15) = false := by simp; omega
                  have qb : decide (15 < u) = false := by simp; omega
                  have qc : (u != u) = false := by simp
                  go_upto_region 23 with fail
                  go_region_held3 (fun w' => w'.cell? ⟨A, 0, none⟩ = some (.slice p L.length cc) ∧ w'.cell? ⟨A, 1, none⟩ = some (.int .i64 (ws.length : Int)) ∧ w'.cell? ⟨N, i, none⟩ = some (.string z)) (first | go_keep | exact ⟨(D7.out.cell mA).trans ZX.out.1, (D7.out.cell mA).trans ZX.out.2.1, (D7.out.cell mN).trans ZX.out.2.2⟩) ((go_at_call 12; refine (CI.out _ (D6.out.trans (show Below W.heap.size w6 _ by go_grown))).mono ?_; rintro e w7 ⟨rfl, hb7⟩; have D7 : Hid (Below W.heap.size W w7) := (D6.out.trans (show Below W.heap.size w6 _ by go_grown)).trans (hb7.mono (by have := D6.out.size; go_size)); clear hb7))
                  go_upto_region 24 with fail
                  have s0 := (D7.out.cell mA).trans ZX.out.1
                  have s1 := (D7.out.cell mA).trans ZX.out.2.1
                  have s2 := (D7.out.cell mN).trans ZX.out.2.2
                  go_region_held3 (fun w' => w'.cell? ⟨A, 0, none⟩ = some (.slice p L.length cc) ∧ w'.cell? ⟨A, 1, none⟩ = some (.int .i64 (ws.length : Int)) ∧ w'.cell? ⟨N, i, none⟩ = some (.string z)) (first | go_keep | exact ⟨(D8.out.cell mA).trans ZX.out.1, (D8.out.cell mA).trans ZX.out.2.1, (D8.out.cell mN).trans ZX.out.2.2⟩ | exact ⟨(D7.out.cell mA).trans ZX.out.1, (D7.out.cell mA).trans ZX.out.2.1, (D7.out.cell mN).trans ZX.out.2.2⟩) ((go_at_call 13; refine (CS.out _ (D7.out.trans (show Below W.heap.size w7 _ by go_grown))).mono ?_; rintro e w8 ⟨rfl, hb8⟩; have D8 : Hid (Below W.heap.size W w8) := (D7.out.trans (show Below W.heap.size w7 _ by go_grown)).trans (hb8.mono (by have := D7.out.size; go_size)); clear hb8))
                  go_wp2
                  go_roundw
                  case rel => exact ⟨i + 1, by omega, by go_num, hU.out.later D8.out, hNm.out.later D8.out⟩
                  case measure => simp [intOf]; omega
                · skip
                  have q15 : decide (15 < (cf ws.length : Int)) = false := by simp; omega
                  have qa : decide (u < (cf ws.length : Int)) = false := by simp; omega
                  have qb : decide (15 < u) = false := by simp; omega
                  have qc : (u != u) = false := by simp
                  go_upto_region 23 with fail
                  go_region_held3 (fun w' => w'.cell? ⟨A, 0, none⟩ = some (.slice p L.length cc) ∧ w'.cell? ⟨A, 1, none⟩ = some (.int .i64 (ws.length : Int)) ∧ w'.cell? ⟨N, i, none⟩ = some (.string z)) (first | go_keep | exact ⟨(D7.out.cell mA).trans ZX.out.1, (D7.out.cell mA).trans ZX.out.2.1, (D7.out.cell mN).trans ZX.out.2.2⟩) ((go_at_call 12; refine (CI.out _ (D6.out.trans (show Below W.heap.size w6 _ by go_grown))).mono ?_; rintro e w7 ⟨rfl, hb7⟩; have D7 : Hid (Below W.heap.size W w7) := (D6.out.trans (show Below W.heap.size w6 _ by go_grown)).trans (hb7.mono (by have := D6.out.size; go_size)); clear hb7))
                  go_upto_region 24 with fail
                  have s0 := (D7.out.cell mA).trans ZX.out.1
                  have s1 := (D7.out.cell mA).trans ZX.out.2.1
                  have s2 := (D7.out.cell mN).trans ZX.out.2.2
                  go_region_held3 (fun w' => w'.cell? ⟨A, 0, none⟩ = some (.slice p L.length cc) ∧ w'.cell? ⟨A, 1, none⟩ = some (.int .i64 (ws.length : Int)) ∧ w'.cell? ⟨N, i, none⟩ = some (.string z)) (first | go_keep | exact ⟨(D8.out.cell mA).trans ZX.out.1, (D8.out.cell mA).trans ZX.out.2.1, (D8.out.cell mN).trans ZX.out.2.2⟩ | exact ⟨(D7.out.cell mA).trans ZX.out.1, (D7.out.cell mA).trans ZX.out.2.1, (D7.out.cell mN).trans ZX.out.2.2⟩) ((go_at_call 13; refine (CS.out _ (D7.out.trans (show Below W.heap.size w7 _ by go_grown))).mono ?_; rintro e w8 ⟨rfl, hb8⟩; have D8 : Hid (Below W.heap.size W w8) := (D7.out.trans (show Below W.heap.size w7 _ by go_grown)).trans (hb8.mono (by have := D7.out.size; go_size)); clear hb8))
                  go_wp2
                  go_roundw
                  case rel => exact ⟨i + 1, by omega, by go_num, hU.out.later D8.out, hNm.out.later D8.out⟩
                  case measure => simp [intOf]; omega
          · obtain rfl : i = 12 := by omega
            go_wp2
            go_ret
            exact ⟨rfl, hU.out.bel⟩
  · have CB := hide1 (big5_yes a len cap w hbig)
    clear hr
    go_enter Try.func3, Try.ntmps3
    go_wp2_with fail
    refine CB.out.mono ?_
    rintro e w1 ⟨rfl, rfl⟩
    go_wp2
    go_ret
    exact ⟨rfl, Below.refl _ _⟩

set_option maxRecDepth 100000 in
theorem lifted_FnGuesses (os : Os) (started : os.Started) (H : Type) (enc : TypeId × Value → H) :
    ReturnsInHanded {} Try.checked os 3 .any (Rows.fnGuessesSpec.pre6 enc Try.prog Try.f3 Rows.fnGuessesRow.domain false) (Rows.fnGuessesSpec.post enc Try.prog Try.f3 false true false false) := by
  refine returnsInHanded_of_change (C := Try.checked) (show ownKnob Try.prog.godebug = none by kernel_rfl) started (by kernel_rfl) Try.func3
    (ChangeSpec.witness6 (enc := enc) (C := Try.checked) false ⟨#[], #[.slice none 0 0], []⟩ 8 (by kernel_rfl) (by kernel_rfl) (by kernel_rfl) (by kernel_rfl)) ?_
  intro W base args ds gs before hval0 hW hcnd _
  have hval : ∀ (j : Nat) t v, Try.f3.params[j]? = some t → args[j]? = some v → Value.okWide Try.prog W .any base t v := hval0
  have hW' := hW
  obtain ⟨p, q, hA0, hV, rfl, hfz, hnd⟩ := hW
  have hA : DataW.TrodAll enc Try.prog W 0 (fun _ => true) true Try.f3.params.toList args.toList ds p := hA0
  rw [Try.params3] at hA hval
  obtain ⟨v0, d0, rfl, rfl, h0⟩ := trodAll_one hA
  obtain ⟨rfl, rfl⟩ := trodVars_none hV
  obtain ⟨a0, len0, cap0, rfl⟩ := okWide_slice Try.underlying22 (hval 0 22 v0 rfl rfl)
  have k0 := h0
  have lt0 : ∀ x ∈ p, x.block < W.heap.size := by obtain ⟨m, hm⟩ := k0; exact DataW.trod_lt m _ _ _ hm
  have r0 : RowB W a0 len0 := by
    obtain ⟨fuel, hf⟩ := h0
    rcases open_ints Try.underlying22 Try.underlying5 (by kernel_rfl) hf with ⟨hcs, _⟩ | ⟨x, l, c, zs, hcs, _, hl, hm, hz, _, hcell, hwz⟩
    · simp [Value.cells] at hcs
      obtain ⟨rfl, rfl, rfl⟩ := hcs
      exact fun j hj => absurd hj (Nat.not_lt_zero _)
    · simp [Value.cells] at hcs
      obtain ⟨rfl, rfl, rfl⟩ := hcs
      exact rowB_of hl (by simpa using hz) hcell (fun n hn => bounds_u8 (hwz n hn))
  clear hA0 hval0
  refine (walk_FnGuesses a0 len0 cap0 W r0).mono fun e W' ⟨he, bel⟩ => ?_
  subst he
  exact ⟨_, rfl, _, _, _, [], _, [], hW', trodAll_mk1 (shut_bool Try.underlying4 _), trodAll_mk1 (Below.trod (show laidOutB Try.prog = true by kernel_rfl) (by kernel_rfl) (of_decide_eq_true (by kernel_rfl)) k0 bel lt0), rfl, bel.frame _, fun h => by cases h⟩

theorem proved_FnGuesses : Rows.FnGuessesSaid :=
  OpenClaim.holds_of_wide 3 Try.f3 rfl rfl rfl rfl rfl rfl rfl ⟨rfl, rfl, rfl, rfl, rfl⟩ rfl rfl rfl rfl rfl (by kernel_rfl) Try.func3 (by kernel_rfl)
    (of_decide_eq_true (by kernel_rfl)) (by unfold Func.isWrapper; first | (rw [if_pos (by decide +kernel)]; kernel_rfl) | (rw [if_neg (by decide +kernel)]; exact ⟨rfl, rfl⟩))
    (fun os started H enc _ => lifted_FnGuesses os started H enc)
#print axioms proved_FnGuesses
end Go.Proofs.Ythigmdocfjhdlaa
