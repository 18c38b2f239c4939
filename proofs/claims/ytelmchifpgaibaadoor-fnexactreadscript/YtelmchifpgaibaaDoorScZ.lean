/- The program's doLine. -/
import Derived.Test.YtelmchifpgaibaaDoorScY
namespace Go.Proofs.YtelmchifpgaibaaDoor
open Go.RowKit
set_option linter.unusedVariables false

theorem pS_size (s : ByteArray) : ∀ i, ∀ x ∈ (pS s i).2, x.size ≤ s.size
  | 0 => fun x hx => by simp [pS] at hx
  | i + 1 => fun x hx => by
    rw [pS] at hx
    split at hx
    · exact pS_size s i x hx
    · dsimp only at hx
      split at hx
      · rcases List.mem_append.1 hx with h | h
        · exact pS_size s i x h
        · rw [List.mem_singleton.1 h, ByteArray.size_extract]; omega
      · exact pS_size s i x hx
theorem partsL_size (s : ByteArray) : ∀ x ∈ partsL s, x.size ≤ s.size := by
  intro x hx
  unfold partsL at hx
  split at hx
  · exact pS_size s _ x hx
  · simp at hx
theorem lineSc_bad {st : Sc} {l : ByteArray} (h : partsB l = false) : lineSc st l = none := by unfold lineSc; rw [if_pos h]
theorem lineSc_rem {st : Sc} {l : ByteArray} (h : partsB l = true) (hr : remark (partsL l) = true) : lineSc st l = some st := by unfold lineSc; rw [if_neg (by rw [h]; simp), if_pos hr]
theorem lineSc_do {st : Sc} {l : ByteArray} (h : partsB l = true) (hr : remark (partsL l) = false) : lineSc st l = partsSc st (partsL l) := by unfold lineSc; rw [if_neg (by rw [h]; simp), if_neg (by rw [hr]; simp)]

theorem cap_le {w : World} {B n c k : Nat} {e : TypeId} {a : Option Addr} {xs : List Value} (h : w.ownsRow B e k (.slice a n c) n xs) : n ≤ c := by
  rcases h.2 with ⟨hv, h0⟩ | ⟨g, cap, cur, hv, _, _, h1, h2, _⟩
  · omega
  · injection hv with e1 e2 e3
    omega
theorem RdQ.tail {w : World} {g o : Nat} {x : ByteArray} {q : List ByteArray} (h : RdQ w (some ⟨g, o, none⟩) (x :: q)) : RdQ w (some ⟨g, o + 1, none⟩) q := fun i hi => by
  obtain ⟨b, f, e, hb, hc⟩ := h (i + 1) (by rw [List.length_cons]; omega)
  injection e with e
  injection e with e1 e2
  subst e1 e2
  exact ⟨g, o + 1, rfl, hb, by rw [Nat.add_assoc, Nat.add_comm 1 i]; exact hc⟩
theorem WdS.later {G : Nat} {w w' : World} {r C d2 d3 d4 d5 d6 : Nat} (h : WdS G w r C d2 d3 d4 d5 d6) (hb : Below w.heap.size w w') : WdS G w' r C d2 d3 d4 d5 d6 :=
  ⟨h.m.later hb, Blk.below h.c hb (Blk.lt h.c), Blk.below h.k2 hb (Blk.lt h.k2), Blk.below h.k3 hb (Blk.lt h.k3), Blk.below h.k4 hb (Blk.lt h.k4), Blk.below h.k5 hb (Blk.lt h.k5), Blk.below h.k6 hb (Blk.lt h.k6)⟩
theorem zeroWord (w : World) : (zeroValue 62).run Tryd.prog w = .ok .nilFunc w := by kernel_rfl
set_option maxRecDepth 100000 in
set_option maxHeartbeats 8000000 in
theorem doLine_any (X : Nat → Prop) (S G r C d2 d3 d4 d5 d6 : Nat) (a : Sca) (st : Sc) (l : ByteArray) (w : World) (h : ScA S G w a st) (hk : st.Ok) (hO : OffA X G w a st) (hW : WdS G w r C d2 d3 d4 d5 d6) (hX : X C ∧ X d2 ∧ X d3 ∧ X d4 ∧ X d5 ∧ X d6) (hl : l.size ≤ 4000) (ht : Tens w) (hm : MaxL w) :
    Calls Tryd.prog 29 #[.string l, .map (some r)] w fun e w' => DoesE X S G w (lineSc st l) e w' := by
  have CP := hide1 (implParts_any l w (by omega))
  have HLT := hide1 hO.lt
  cases hpb : partsB l with
  | false =>
    have RES := hide1 (lineSc_bad (st := st) hpb)
    rw [hpb] at CP
    clear hpb h hk hO hW hX ht hm
    go_enter Tryd.func29, Tryd.ntmps29
    go_wp2_with fail
    refine CP.out.mono ?_
    rintro e w2 ⟨v, rfl, hv, hb2⟩
    go_wp2
    go_ret
    rw [RES.out]
    exact ⟨rfl, (fun _ h => by cases h), ScF.of hb2 HLT.out⟩
  | true =>
    rw [hpb] at CP
    have PS := hide1 (partsL_size l)
    have PL := hide1 (partsL_le l)
    have REM := hide1 (lineSc_rem (st := st) hpb)
    have DO := hide1 (lineSc_do (st := st) hpb)
    have H := hide1 h
    have HO := hide1 hO
    have HW := hide1 hW
    have HT := hide1 ht
    have HM := hide1 hm
    have HX := hide1 hX
    clear hpb h hO hW hX ht hm
    generalize partsL l = p at *
    go_enter Tryd.func29, Tryd.ntmps29
    go_wp2_with fail
    refine CP.out.mono ?_
    rintro e w2 ⟨v, rfl, hv, hb2⟩
    obtain ⟨ap, cp, rfl⟩ := own_slice hv
    have OV := hide1 hv
    have B2 := hide1 hb2
    have RQ := hide1 (rdQ_of_own hv)
    have CR := hide1 (isRemark_any p ap cp w2 PL.out RQ.out)
    clear hv hb2 CP
    cases hr : remark p with
    | true =>
      have RES := hide1 (REM.out hr)
      rw [hr] at CR
      clear hr DO REM
      go_wp2_with fail
      refine CR.out.mono ?_
      rintro e w3 ⟨rfl, hb3⟩
      go_wp2
      go_ret
      rw [RES.out]
      have B3 := hide1 (B2.out.trans (hb3.mono B2.out.size))
      exact ⟨rfl, fun s hs => (by injection hs with hs; subst hs; exact ⟨a, H.out.later B3.out⟩), ScF.of B3.out HLT.out⟩
    | false =>
      have RES := hide1 (DO.out hr)
      have ne : p ≠ [] := by intro e; rw [e] at hr; exact absurd hr (by decide)
      rw [hr] at CR
      clear hr DO REM
      obtain ⟨x, q, rfl⟩ := List.exists_cons_of_ne_nil ne
      rw [List.length_cons] at *
      go_wp2_with fail
      refine CR.out.mono ?_
      rintro e w3 ⟨rfl, hb3⟩
      have B3 := hide1 (B2.out.trans (hb3.mono B2.out.size))
      have R3 := hide1 (RQ.out.later hb3)
      have W3 := hide1 (HW.out)
      have q1 : (0 : Int) < ((q.length + 1 : Nat) : Int) := by omega
      obtain ⟨g, o, rfl, hg, hc⟩ := R3.out 0 (by simp)
      have x0 : w3.cell? ⟨g, o, none⟩ = some (.string x) := hc

      have V3 := hide1 (HW.out.later B3.out)
      have LK := hide1 (lookup_run (P := Tryd.prog) Tryd.underlying56 Tryd.underlying9 .nilFunc (zeroWord w3) V3.out.m x)
      have H3 := hide1 (H.out.later B3.out)
      have O3 := hide1 (HO.out.later B3.out)
      have hg2 : w.heap.size ≤ g := by have h1 := (OV.out.lt g rfl).1; exact h1
      have O3g := hide1 (show OffA (fun k => X k ∨ k = g) G w3 a st from ⟨fun k hk => hk.elim (O3.out.lt k) (fun e => by rw [e]; exact hg), fun k hk => hk.elim (O3.out.g k) (fun e e2 => by have := H.out.bx.lt; omega), fun k hk => hk.elim (O3.out.v k) (fun e e2 => by have := (H.out.vs.o.lt k e2).2; omega), fun k hk => hk.elim (O3.out.e k) (fun e e2 => by have := (H.out.es.lt k e2).2; omega)⟩)
      have Q10 := hide1 (show q.length ≤ 10 from by have := PL.out; first | omega | (rw [List.length_cons] at this; omega))
      have QS := hide1 (show ∀ y ∈ q, y.size ≤ 4000 from fun y hy => Nat.le_trans (PS.out y (.tail _ hy)) hl)
      clear CR hc
      by_cases c0 : x = wView
      · have NXT := hide1 (show lineSc st l = doView st q by rw [RES.out, c0]; exact parts_view st q)
        have LR := LK.out
        rw [show lookW x (wordsL C d2 d3 d4 d5 d6) 0 = some (0, .func (.func 38) #[] #[.pointer (some ⟨C, 0, none⟩)]) by rw [c0]; rfl] at LR
        dsimp only at LR
        clear LK RES c0
        go_wp2_with fail
        all_goals
          refine (wordView_any (fun k => X k ∨ k = g) S G a st q _ _ C w3 H3.out hk O3g.out V3.out.c (.inl HX.out.1) (by first | exact RdQ.tail R3.out | exact (fun i hi => absurd (cap_le OV.out) (by omega))) (fun _ q' o' e => by injection e with e; injection e with e1 e2; exact .inr e1.symm) Q10.out QS.out (Tens.later (show Tens w from HT.out) B3.out) (MaxL.later (show MaxL w from HM.out) B3.out)).mono ?_
          rintro e w4 ⟨rfl, h4, f4⟩
          have H4 := hide1 h4
          have F4 := hide1 ((ScF.of B3.out HLT.out).trans (f4.less (fun k hk => .inl hk)))
          clear h4 f4
          go_wp2
          go_ret
          rw [NXT.out]
          exact ⟨rfl, H4.out, F4.out⟩
      · skip
        by_cases c1 : x = wPut
        · have NXT := hide1 (show lineSc st l = doPut st q by rw [RES.out, c1]; exact parts_put st q)
          have LR := LK.out
          rw [show lookW x (wordsL C d2 d3 d4 d5 d6) 0 = some (1, .func (.func 40) #[] #[.pointer (some ⟨C, 0, none⟩)]) by rw [c1]; rfl] at LR
          dsimp only at LR
          clear LK RES c1
          go_wp2_with fail
          all_goals
            refine (wordPut_any (fun k => X k ∨ k = g) S G a st q _ _ C w3 H3.out hk O3g.out V3.out.c (.inl HX.out.1) (by first | exact RdQ.tail R3.out | exact (fun i hi => absurd (cap_le OV.out) (by omega))) (fun _ q' o' e => by injection e with e; injection e with e1 e2; exact .inr e1.symm) Q10.out QS.out (Tens.later (show Tens w from HT.out) B3.out) (MaxL.later (show MaxL w from HM.out) B3.out)).mono ?_
            rintro e w4 ⟨rfl, h4, f4⟩
            have H4 := hide1 h4
            have F4 := hide1 ((ScF.of B3.out HLT.out).trans (f4.less (fun k hk => .inl hk)))
            clear h4 f4
            go_wp2
            go_ret
            rw [NXT.out]
            exact ⟨rfl, H4.out, F4.out⟩
        · skip
          by_cases c2 : x = wGet
          · have NXT := hide1 (show lineSc st l = doGet st q by rw [RES.out, c2]; exact parts_get st q)
            have LR := LK.out
            rw [show lookW x (wordsL C d2 d3 d4 d5 d6) 0 = some (2, .func (.func 41) #[] #[.pointer (some ⟨C, 0, none⟩)]) by rw [c2]; rfl] at LR
            dsimp only at LR
            clear LK RES c2
            go_wp2_with fail
            all_goals
              refine (wordGet_any (fun k => X k ∨ k = g) S G a st q _ _ C w3 H3.out hk O3g.out V3.out.c (.inl HX.out.1) (by first | exact RdQ.tail R3.out | exact (fun i hi => absurd (cap_le OV.out) (by omega))) (fun _ q' o' e => by injection e with e; injection e with e1 e2; exact .inr e1.symm) Q10.out QS.out (Tens.later (show Tens w from HT.out) B3.out) (MaxL.later (show MaxL w from HM.out) B3.out)).mono ?_
              rintro e w4 ⟨rfl, h4, f4⟩
              have H4 := hide1 h4
              have F4 := hide1 ((ScF.of B3.out HLT.out).trans (f4.less (fun k hk => .inl hk)))
              clear h4 f4
              go_wp2
              go_ret
              rw [NXT.out]
              exact ⟨rfl, H4.out, F4.out⟩
          · skip
            by_cases c3 : x = wDeliver
            · have NXT := hide1 (show lineSc st l = doMsg 2 st q by rw [RES.out, c3]; exact parts_msg st q (.inl ⟨rfl, rfl⟩))
              have LR := LK.out
              rw [show lookW x (wordsL C d2 d3 d4 d5 d6) 0 = some (3, .func (.func 36) #[] #[.pointer (some ⟨C, 0, none⟩), .pointer (some ⟨d2, 0, none⟩)]) by rw [c3]; rfl] at LR
              dsimp only at LR
              clear LK RES c3
              go_wp2_with fail
              all_goals
                refine (wordMsg_any (fun k => X k ∨ k = g) S G a st q _ _ C d2 2 w3 V3.out.k2 (.inl HX.out.2.1) H3.out hk O3g.out V3.out.c (.inl HX.out.1) (by first | exact RdQ.tail R3.out | exact (fun i hi => absurd (cap_le OV.out) (by omega))) (fun _ q' o' e => by injection e with e; injection e with e1 e2; exact .inr e1.symm) Q10.out QS.out (Tens.later (show Tens w from HT.out) B3.out) (MaxL.later (show MaxL w from HM.out) B3.out)).mono ?_
                rintro e w4 ⟨rfl, h4, f4⟩
                have H4 := hide1 h4
                have F4 := hide1 ((ScF.of B3.out HLT.out).trans (f4.less (fun k hk => .inl hk)))
                clear h4 f4
                go_wp2
                go_ret
                rw [NXT.out]
                exact ⟨rfl, H4.out, F4.out⟩
            · skip
              by_cases c4 : x = wDrop
              · have NXT := hide1 (show lineSc st l = doMsg 3 st q by rw [RES.out, c4]; exact parts_msg st q (.inr (.inl ⟨rfl, rfl⟩)))
                have LR := LK.out
                rw [show lookW x (wordsL C d2 d3 d4 d5 d6) 0 = some (4, .func (.func 36) #[] #[.pointer (some ⟨C, 0, none⟩), .pointer (some ⟨d3, 0, none⟩)]) by rw [c4]; rfl] at LR
                dsimp only at LR
                clear LK RES c4
                go_wp2_with fail
                all_goals
                  refine (wordMsg_any (fun k => X k ∨ k = g) S G a st q _ _ C d3 3 w3 V3.out.k3 (.inl HX.out.2.2.1) H3.out hk O3g.out V3.out.c (.inl HX.out.1) (by first | exact RdQ.tail R3.out | exact (fun i hi => absurd (cap_le OV.out) (by omega))) (fun _ q' o' e => by injection e with e; injection e with e1 e2; exact .inr e1.symm) Q10.out QS.out (Tens.later (show Tens w from HT.out) B3.out) (MaxL.later (show MaxL w from HM.out) B3.out)).mono ?_
                  rintro e w4 ⟨rfl, h4, f4⟩
                  have H4 := hide1 h4
                  have F4 := hide1 ((ScF.of B3.out HLT.out).trans (f4.less (fun k hk => .inl hk)))
                  clear h4 f4
                  go_wp2
                  go_ret
                  rw [NXT.out]
                  exact ⟨rfl, H4.out, F4.out⟩
              · skip
                by_cases c5 : x = wCopy
                · have NXT := hide1 (show lineSc st l = doMsg 4 st q by rw [RES.out, c5]; exact parts_msg st q (.inr (.inr ⟨rfl, rfl⟩)))
                  have LR := LK.out
                  rw [show lookW x (wordsL C d2 d3 d4 d5 d6) 0 = some (5, .func (.func 36) #[] #[.pointer (some ⟨C, 0, none⟩), .pointer (some ⟨d4, 0, none⟩)]) by rw [c5]; rfl] at LR
                  dsimp only at LR
                  clear LK RES c5
                  go_wp2_with fail
                  all_goals
                    refine (wordMsg_any (fun k => X k ∨ k = g) S G a st q _ _ C d4 4 w3 V3.out.k4 (.inl HX.out.2.2.2.1) H3.out hk O3g.out V3.out.c (.inl HX.out.1) (by first | exact RdQ.tail R3.out | exact (fun i hi => absurd (cap_le OV.out) (by omega))) (fun _ q' o' e => by injection e with e; injection e with e1 e2; exact .inr e1.symm) Q10.out QS.out (Tens.later (show Tens w from HT.out) B3.out) (MaxL.later (show MaxL w from HM.out) B3.out)).mono ?_
                    rintro e w4 ⟨rfl, h4, f4⟩
                    have H4 := hide1 h4
                    have F4 := hide1 ((ScF.of B3.out HLT.out).trans (f4.less (fun k hk => .inl hk)))
                    clear h4 f4
                    go_wp2
                    go_ret
                    rw [NXT.out]
                    exact ⟨rfl, H4.out, F4.out⟩
                · skip
                  by_cases c6 : x = wAdopt
                  · have NXT := hide1 (show lineSc st l = doNode 5 st q by rw [RES.out, c6]; exact parts_node st q (.inl ⟨rfl, rfl⟩))
                    have LR := LK.out
                    rw [show lookW x (wordsL C d2 d3 d4 d5 d6) 0 = some (6, .func (.func 33) #[] #[.pointer (some ⟨C, 0, none⟩), .pointer (some ⟨d5, 0, none⟩)]) by rw [c6]; rfl] at LR
                    dsimp only at LR
                    clear LK RES c6
                    go_wp2_with fail
                    all_goals
                      refine (wordNode_any (fun k => X k ∨ k = g) S G a st q _ _ C d5 5 w3 V3.out.k5 (.inl HX.out.2.2.2.2.1) H3.out hk O3g.out V3.out.c (.inl HX.out.1) (by first | exact RdQ.tail R3.out | exact (fun i hi => absurd (cap_le OV.out) (by omega))) (fun _ q' o' e => by injection e with e; injection e with e1 e2; exact .inr e1.symm) Q10.out QS.out (Tens.later (show Tens w from HT.out) B3.out) (MaxL.later (show MaxL w from HM.out) B3.out)).mono ?_
                      rintro e w4 ⟨rfl, h4, f4⟩
                      have H4 := hide1 h4
                      have F4 := hide1 ((ScF.of B3.out HLT.out).trans (f4.less (fun k hk => .inl hk)))
                      clear h4 f4
                      go_wp2
                      go_ret
                      rw [NXT.out]
                      exact ⟨rfl, H4.out, F4.out⟩
                  · skip
                    by_cases c7 : x = wFall
                    · have NXT := hide1 (show lineSc st l = doNode 6 st q by rw [RES.out, c7]; exact parts_node st q (.inr ⟨rfl, rfl⟩))
                      have LR := LK.out
                      rw [show lookW x (wordsL C d2 d3 d4 d5 d6) 0 = some (7, .func (.func 33) #[] #[.pointer (some ⟨C, 0, none⟩), .pointer (some ⟨d6, 0, none⟩)]) by rw [c7]; rfl] at LR
                      dsimp only at LR
                      clear LK RES c7
                      go_wp2_with fail
                      all_goals
                        refine (wordNode_any (fun k => X k ∨ k = g) S G a st q _ _ C d6 6 w3 V3.out.k6 (.inl HX.out.2.2.2.2.2) H3.out hk O3g.out V3.out.c (.inl HX.out.1) (by first | exact RdQ.tail R3.out | exact (fun i hi => absurd (cap_le OV.out) (by omega))) (fun _ q' o' e => by injection e with e; injection e with e1 e2; exact .inr e1.symm) Q10.out QS.out (Tens.later (show Tens w from HT.out) B3.out) (MaxL.later (show MaxL w from HM.out) B3.out)).mono ?_
                        rintro e w4 ⟨rfl, h4, f4⟩
                        have H4 := hide1 h4
                        have F4 := hide1 ((ScF.of B3.out HLT.out).trans (f4.less (fun k hk => .inl hk)))
                        clear h4 f4
                        go_wp2
                        go_ret
                        rw [NXT.out]
                        exact ⟨rfl, H4.out, F4.out⟩
                    · skip
                      have NXT := hide1 (show lineSc st l = none by rw [RES.out]; exact parts_other st q c0 c1 c2 c3 c4 c5 c6 c7)
                      have LR := LK.out
                      rw [show lookW x (wordsL C d2 d3 d4 d5 d6) 0 = none from lookW_none (fun p hp => by
                        simp only [wordsL, List.mem_cons, List.not_mem_nil, or_false] at hp
                        rcases hp with rfl | rfl | rfl | rfl | rfl | rfl | rfl | rfl
                        · exact fun e => c0 e.symm
                        · exact fun e => c1 e.symm
                        · exact fun e => c2 e.symm
                        · exact fun e => c3 e.symm
                        · exact fun e => c4 e.symm
                        · exact fun e => c5 e.symm
                        · exact fun e => c6 e.symm
                        · exact fun e => c7 e.symm)] at LR
                      dsimp only at LR
                      clear LK RES c0 c1 c2 c3 c4 c5 c6 c7
                      go_wp2
                      go_ret
                      rw [NXT.out]
                      exact ⟨rfl, (fun _ h => by cases h), ScF.of B3.out HLT.out⟩
end Go.Proofs.YtelmchifpgaibaaDoor
