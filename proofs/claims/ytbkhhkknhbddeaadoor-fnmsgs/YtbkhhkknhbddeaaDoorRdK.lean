/- The program's reader: the items of a message. -/
import Derived.Test.YtbkhhkknhbddeaaDoorRdJ
import Derived.Test.YtbkhhkknhbddeaaDoorRowO
namespace Go.Proofs.YtbkhhkknhbddeaaDoor
open Go.RowKit
set_option linter.unusedVariables false

theorem pShort_le {s t : ByteArray} {p q : Nat} (h : pShort s p = some (t, q)) : q ≤ s.size := by
  obtain ⟨h1, h2⟩ := pShort_back h
  have := h1.2
  rw [List.length_append] at this
  omega
theorem pVar_le {s : ByteArray} {p n q : Nat} (h : pVar s p = some (n, q)) : q ≤ s.size := by
  obtain ⟨h1, h2, _⟩ := pVar_back h
  have := h1.2
  omega
theorem pItem_le {s : ByteArray} {p q : Nat} {x : Im} (h : pItem s p = some (x, q)) : q ≤ s.size := by
  obtain ⟨h1, h2⟩ := pItem_back h
  have := h1.2
  omega
/-- What is still to be read, behind what was. -/
def goesOn (s : ByteArray) (c p : Nat) (pre : List Im) (i q : Nat) : Prop := pItems s c p = (pItems s (c - i) q).map (fun r => (pre ++ r.1, r.2))
theorem goesOn_start (s : ByteArray) (c p : Nat) : goesOn s c p [] 0 p := by
  unfold goesOn
  rw [Nat.sub_zero]
  cases pItems s c p <;> rfl
theorem goesOn_next {s : ByteArray} {c p i q q' : Nat} {pre : List Im} {x : Im} (h : goesOn s c p pre i q) (hi : i < c) (hx : pItem s q = some (x, q')) : goesOn s c p (pre ++ [x]) (i + 1) q' := by
  unfold goesOn at h ⊢
  rw [h]
  obtain ⟨d, hd⟩ : ∃ d, c - i = d + 1 := ⟨c - i - 1, by omega⟩
  rw [hd, show c - (i + 1) = d by omega]
  conv => lhs; unfold pItems
  rw [hx]
  show ((pItems s d q').bind _).map _ = _
  cases pItems s d q' with
  | none => rfl
  | some r => simp
theorem goesOn_none {s : ByteArray} {c p i q : Nat} {pre : List Im} (h : goesOn s c p pre i q) (hi : i < c) (hx : pItem s q = none) : pItems s c p = none := by
  unfold goesOn at h
  rw [h]
  obtain ⟨d, hd⟩ : ∃ d, c - i = d + 1 := ⟨c - i - 1, by omega⟩
  rw [hd]
  unfold pItems
  rw [hx]
  rfl
theorem goesOn_end {s : ByteArray} {c p q : Nat} {pre : List Im} (h : goesOn s c p pre c q) : pItems s c p = some (pre, q) := by
  unfold goesOn at h
  rw [h, Nat.sub_self]
  simp [pItems]
theorem pItem_n1 {s : ByteArray} {p : Nat} (h : pShort s p = none) : pItem s p = none := by unfold pItem; rw [h]; rfl
theorem pItem_n2 {s t : ByteArray} {p q : Nat} (h : pShort s p = some (t, q)) (h2 : pShort s q = none) : pItem s p = none := by unfold pItem; rw [h]; show (pShort s q).bind _ = _; rw [h2]; rfl
theorem pItem_n3 {s t v : ByteArray} {p q q2 : Nat} (h : pShort s p = some (t, q)) (h2 : pShort s q = some (v, q2)) (h3 : pVar s q2 = none) : pItem s p = none := by unfold pItem; rw [h]; show (pShort s q).bind _ = _; rw [h2]; show (pVar s q2).bind _ = _; rw [h3]; rfl
theorem pItem_y {s t v : ByteArray} {p q q2 n q3 : Nat} (h : pShort s p = some (t, q)) (h2 : pShort s q = some (v, q2)) (h3 : pVar s q2 = some (n, q3)) : pItem s p = some (⟨t, v, (n : Int)⟩, q3) := by unfold pItem; rw [h]; show (pShort s q).bind _ = _; rw [h2]; show (pVar s q2).bind _ = _; rw [h3]; rfl
theorem gfar {w w' : World} {r : Option Nat} {g : Nat} (h : w.grownBy w' r) (hg : w.heap.size ≤ g) (j : Nat) (u : Value) : w.grownBy (w'.setCell ⟨g, j, none⟩ u) r :=
  ⟨h.os, h.tape, h.output, by have := h.size; simpa using this, fun k hk hne => by rw [Below.heap_setCell _ _ _ _ (by show k ≠ g; omega)]; exact h.block k hk hne⟩
theorem fill_next (pre : List Im) (z x : Im) (c : Nat) (hc : pre.length < c) : (pre ++ List.replicate (c - pre.length) z).set pre.length x = (pre ++ [x]) ++ List.replicate (c - (pre ++ [x]).length) z := by
  obtain ⟨d, hd⟩ : ∃ d, c - pre.length = d + 1 := ⟨c - pre.length - 1, by omega⟩
  rw [hd, List.length_append, List.length_singleton, show c - (pre.length + 1) = d by omega, List.replicate_succ, List.set_append_right _ _ (Nat.le_refl _), Nat.sub_self, List.set_cons_zero, List.append_assoc]
  rfl
set_option maxRecDepth 100000 in
set_option maxHeartbeats 4000000 in
theorem items_any (R : Nat) (s : ByteArray) (p : Nat) (w : World) (hs : s.size ≤ 1048576) (hp : p ≤ s.size) (hB : Rdr w R s p) :
    Calls Tryd.prog 76 #[.pointer (some ⟨R, 0, none⟩)] w fun e w' => ((∃ l q a, pList s p = some (l, q) ∧ e = .returned (.slice a l.length l.length) ∧ w'.ownsRow w.heap.size 51 3 (.slice a l.length l.length) l.length (rowG imC l) ∧ Rdr w' R s q ∧ q ≤ s.size) ∨ (pList s p = none ∧ e = .panicked stopC)) ∧ w.grownBy w' (some R) := by
  have HB := hide1 hB
  obtain ⟨i0, hi, hz0, hz1, hz2⟩ := info_parts Tryd.infoIm
  cases e1 : pVar s p with
  | none =>
    have CN := hide1 (number_no R s p w hs hp hB e1)
    have RES := hide1 (show pList s p = none by unfold pList; rw [e1]; rfl)
    clear hB e1
    go_enter Tryd.func76, Tryd.ntmps76
    go_wp2_with fail
    refine CN.out.mono ?_
    rintro e w1 ⟨rfl, hg1⟩
    exact ⟨rfl, .inr ⟨RES.out, rfl⟩, hg1⟩
  | some r =>
    obtain ⟨c, p1⟩ := r
    have CN := hide1 (number_yes R s p c p1 w hs hp hB e1)
    have hp1 := pVar_le e1
    by_cases c12 : 12 < c
    · have RES := hide1 (show pList s p = none by unfold pList; rw [e1]; show (if 12 < c then none else _) = _; rw [if_pos c12])
      have q1 : ¬ ((c : Int) ≤ 12) := by omega
      have q2 : decide ((c : Int) ≤ 12) = false := decide_eq_false q1
      clear hB e1
      go_enter Tryd.func76, Tryd.ntmps76
      go_wp2_with fail
      refine CN.out.mono ?_
      rintro e w1 ⟨rfl, hr1, hg1⟩
      go_wp2_with fail
      refine (want_no _ _).mono ?_
      rintro e w2 ⟨rfl, rfl⟩
      exact ⟨rfl, .inr ⟨RES.out, rfl⟩, hg1⟩
    · have PL := hide1 (show pList s p = pItems s c p1 by unfold pList; rw [e1]; show (if 12 < c then none else pItems s c p1) = _; rw [if_neg c12])
      have q1 : (c : Int) ≤ 12 := by omega
      have q2 : decide ((c : Int) ≤ 12) = true := decide_eq_true q1
      have q3 : (0 : Int) ≤ (c : Int) := by omega
      clear hB e1
      go_enter Tryd.func76, Tryd.ntmps76
      go_wp2_with fail
      refine CN.out.mono ?_
      rintro e w1 ⟨rfl, hr1, hg1⟩
      have R1 := hide1 hr1
      have G1 := hide1 hg1
      have lw1 : w.heap.size ≤ w1.heap.size := hg1.size
      have lR1 : R < w1.heap.size := hr1.lt
      clear hr1 hg1 CN
      go_wp2_with fail
      refine (want_yes _ _).mono ?_
      rintro e w2 ⟨rfl, rfl⟩
      go_wp2_with (at_make; (refine wpList_make_full _ rfl _ _ 24 rfl w2.heap.size 51 i0 (.agg #[.string ⟨#[]⟩, .string ⟨#[]⟩, .int .i64 0]) 3 Tryd.underlying24 hi hz0 hz1 _ _ _ _ c rfl rfl rfl rfl (by rw [hz2]; omega) (by unfold maxLen; omega) (Nat.le_refl _) ?_; intro w3 hown3 hg3))
      rw [show (madeCells (.agg #[.string ⟨#[]⟩, .string ⟨#[]⟩, .int .i64 0] : Value).cells (c * 3)).toList = rowG imC (List.replicate c (⟨⟨#[]⟩, ⟨#[]⟩, 0⟩ : Im)) from madeG encIm (by decide) (⟨⟨#[]⟩, ⟨#[]⟩, 0⟩ : Im) c] at hown3
      have hb3 : Below w2.heap.size w2 w3 := Below.grown (Below.refl _ _) hg3 (Nat.le_refl _) (by intro k hk; cases hk)
      obtain ⟨G, hG⟩ : ∃ G, G = w2.heap.size := ⟨_, rfl⟩
      rw [← hG] at hown3 ⊢
      have hGR : R ≠ G := by omega
      have lwG : w.heap.size ≤ G := by omega
      have O3 := hide1 hown3
      have R3 := hide1 (show Rdr w3 R s p1 from R1.out.below hb3 lR1)
      have G3 := hide1 (gtrans G1.out (gnew hb3))
      clear hown3 hg3 hb3 hG R1 G1
      go_loopw [16] (fun iv wr => ∃ (i : Nat) (pre : List Im) (q : Nat), i ≤ c ∧ pre.length = i ∧ iv = .int .i64 (i : Int) ∧ Hid (goesOn s c p1 pre i q) ∧ q ≤ s.size ∧ Hid (wr.ownsRow G 51 3 (.slice (some ⟨G, 0, none⟩) c c) c (rowG imC (pre ++ List.replicate (c - pre.length) (⟨⟨#[]⟩, ⟨#[]⟩, 0⟩ : Im)))) ∧ Hid (Rdr wr R s q) ∧ Hid (w.grownBy wr (some R))) (fun iv _ => c - (intOf iv).toNat)
      case atStart => exact ⟨0, [], p1, Nat.zero_le _, rfl, rfl, hide1 (goesOn_start s c p1), hp1, O3, R3, G3⟩
      case round =>
        obtain ⟨i, pre, q, hi, hpre, rfl, HG, hq, OW, RD, GR⟩ := hrel
        by_cases hlt : i < c
        · have k1 : (i : Int) < (c : Int) := by omega
          have k0 : (0 : Int) ≤ (i : Int) := by omega
          cases e1 : pShort s q with
          | none =>
            have RES := hide1 (PL.out.trans (goesOn_none HG.out hlt (pItem_n1 e1)))
            have C1 := hide1 (short_no R s q wr hs hq RD.out e1)
            clear e1
            go_wp2_with fail
            refine C1.out.mono ?_
            rintro e w4 ⟨rfl, hg4⟩
            exact ⟨rfl, .inr ⟨RES.out, rfl⟩, gtrans GR.out hg4⟩
          | some r1 =>
            obtain ⟨t1, q1⟩ := r1
            have C1 := hide1 (short_yes R s t1 q q1 wr hs hq RD.out e1)
            have hq1 := pShort_le e1
            cases e2 : pShort s q1 with
            | none =>
              have RES := hide1 (PL.out.trans (goesOn_none HG.out hlt (pItem_n2 e1 e2)))
              have C2 := hide1 (fun v hv => short_no R s q1 v hs hq1 hv e2)
              clear e1 e2
              go_wp2_with fail
              refine C1.out.mono ?_
              rintro e w4 ⟨rfl, hr4, hg4⟩
              go_wp2_with fail
              refine (C2.out w4 hr4).mono ?_
              rintro e w5 ⟨rfl, hg5⟩
              exact ⟨rfl, .inr ⟨RES.out, rfl⟩, gtrans GR.out (gtrans hg4 hg5)⟩
            | some r2 =>
              obtain ⟨t2, q2⟩ := r2
              have C2 := hide1 (fun v hv => short_yes R s t2 q1 q2 v hs hq1 hv e2)
              have hq2 := pShort_le e2
              cases e3 : pVar s q2 with
              | none =>
                have RES := hide1 (PL.out.trans (goesOn_none HG.out hlt (pItem_n3 e1 e2 e3)))
                have C3 := hide1 (fun v hv => number_no R s q2 v hs hq2 hv e3)
                clear e1 e2 e3
                go_wp2_with fail
                refine C1.out.mono ?_
                rintro e w4 ⟨rfl, hr4, hg4⟩
                go_wp2_with fail
                refine (C2.out w4 hr4).mono ?_
                rintro e w5 ⟨rfl, hr5, hg5⟩
                go_wp2_with fail
                refine (C3.out w5 hr5).mono ?_
                rintro e w6 ⟨rfl, hg6⟩
                exact ⟨rfl, .inr ⟨RES.out, rfl⟩, gtrans GR.out (gtrans (gtrans hg4 hg5) hg6)⟩
              | some r3 =>
                obtain ⟨n3, q3⟩ := r3
                have C3 := hide1 (fun v hv => number_yes R s q2 n3 q3 v hs hq2 hv e3)
                have hq3 := pVar_le e3
                have HG2 := hide1 (goesOn_next HG.out hlt (pItem_y e1 e2 e3))
                clear e1 e2 e3
                go_wp2_with fail
                refine C1.out.mono ?_
                rintro e w4 ⟨rfl, hr4, hg4⟩
                go_wp2_with fail
                refine (C2.out w4 hr4).mono ?_
                rintro e w5 ⟨rfl, hr5, hg5⟩
                go_wp2_with fail
                refine (C3.out w5 hr5).mono ?_
                rintro e w6 ⟨rfl, hr6, hg6⟩
                have g6 := gtrans (gtrans hg4 hg5) hg6
                have o6 := gown g6 OW.out (fun k hk e => by
                  have : (some G : Option Nat) = some k := hk
                  rw [← this] at e
                  injection e with e
                  exact hGR e)
                have GR6 := hide1 (gtrans GR.out g6)
                obtain ⟨u0, z0⟩ := own_some o6 (i * 3) (by omega)
                obtain ⟨u1, z1⟩ := own_some o6 (i * 3 + 1) (by omega)
                obtain ⟨u2, z2⟩ := own_some o6 (i * 3 + 2) (by omega)
                have f0 := o6.frozenAt (i * 3)
                have f1 := o6.frozenAt (i * 3 + 1)
                have f2 := o6.frozenAt (i * 3 + 2)
                have O6 := hide1 o6
                have R6 := hide1 hr6
                clear o6 hr4 hr5 hr6 hg4 hg5 hg6 g6
                go_wp2
                go_roundw
                case rel =>
                  refine ⟨i + 1, pre ++ [⟨t1, t2, (n3 : Int)⟩], q3, by omega, by rw [List.length_append, hpre]; rfl, by go_num, HG2, hq3, hide1 ?_, hide1 ?_, hide1 ?_⟩
                  · rw [← fill_next pre _ _ c (by omega), rowG_set imC 3 encIm.len _ _ _ (by rw [List.length_append, List.length_replicate]; omega), hpre]
                    exact own_putG (imC ⟨t1, t2, (n3 : Int)⟩) (i * 3) (by rw [← hpre]; exact O6.out)
                  · exact Blk.far (Blk.far (Blk.far R6.out _ _ hGR) _ _ hGR) _ _ hGR
                  · exact gfar (gfar (gfar GR6.out lwG _ _) lwG _ _) lwG _ _
                case measure => simp [intOf]; omega
        · obtain rfl : i = c := by omega
          have k1 : ¬ ((i : Int) < (i : Int)) := by omega
          have RES := hide1 (PL.out.trans (goesOn_end HG.out))
          have O9 := hide1 (show wr.ownsRow w.heap.size 51 3 (.slice (some ⟨G, 0, none⟩) pre.length pre.length) pre.length (rowG imC pre) by
            have := own_base OW.out lwG
            rw [hpre, Nat.sub_self, List.replicate_zero, List.append_nil] at this
            rw [hpre]
            exact this)
          clear OW
          go_wp2
          go_ret
          first | exact ⟨.inl ⟨pre, q, some ⟨G, 0, none⟩, RES.out, by rw [hpre]; rfl, O9.out, RD.out, hq⟩, GR.out⟩ | exact ⟨.inl ⟨pre, q, RES.out, some ⟨G, 0, none⟩, by rw [hpre]; rfl, O9.out, RD.out, hq⟩, GR.out⟩
end Go.Proofs.YtbkhhkknhbddeaaDoor
