/- The program's read and ReadScript. -/
import Derived.Test.YtelmchifpgaibaaDoorScZ
namespace Go.Proofs.YtelmchifpgaibaaDoor
open Go.RowKit
set_option linter.unusedVariables false

theorem MaxL.below {w w' : World} {B : Nat} (h : MaxL w) (hb : Below B w w') (hB : 0 < B) : MaxL w' := by
  obtain ⟨m, h1, h2⟩ := h
  exact ⟨m, (hb.cell (p := ⟨0, 0, none⟩) hB).trans h1, Nat.lt_of_lt_of_le h2 hb.size⟩
theorem WdS.kept {X : Nat → Prop} {G : Nat} {w w' : World} {r C d2 d3 d4 d5 d6 : Nat} (h : WdS G w r C d2 d3 d4 d5 d6) (f : ScF X w w') (hX : X C ∧ X d2 ∧ X d3 ∧ X d4 ∧ X d5 ∧ X d6) (hr : X r) : WdS G w' r C d2 d3 d4 d5 d6 := by
  obtain ⟨x0, x2, x3, x4, x5, x6⟩ := hX
  refine ⟨?_, (f.block C x0).trans h.c, (f.block d2 x2).trans h.k2, (f.block d3 x3).trans h.k3, (f.block d4 x4).trans h.k4, (f.block d5 x5).trans h.k5, (f.block d6 x6).trans h.k6⟩
  obtain ⟨arr, h1, h2⟩ := h.m
  exact ⟨arr, (f.block r hr).trans h1, h2⟩
theorem ScA.off {S G : Nat} {w : World} {a : Sca} {st : Sc} (h : ScA S G w a st) : OffA (fun k => k < S ∧ k ≠ G) G w a st :=
  ⟨fun k hk => Nat.lt_of_lt_of_le hk.1 h.hS, fun k hk => hk.2, fun k hk e => by have := (h.vs.o.lt k e).1; omega, fun k hk e => by have := (h.es.lt k e).1; omega⟩
def ansOf (R : Sc × Nat) : Int := if R.2 ≠ 0 then (R.2 : Int) else if R.1.vs = [] then 1 else 0
theorem scrS_big {s : ByteArray} (h : 4000 < s.size ∨ 100 < (linesL s).length) : scrS s = (⟨[], []⟩, -1) := by unfold scrS; rw [if_pos h]
theorem scrS_ans {s : ByteArray} (h : ¬ (4000 < s.size ∨ 100 < (linesL s).length)) : (scrS s).2 = ansOf (scan (linesL s) 0 ⟨[], []⟩) := by
  unfold scrS ansOf
  rw [if_neg h]
  split
  · rfl
  · split <;> rfl
theorem scrS_st {s : ByteArray} (h : ¬ (4000 < s.size ∨ 100 < (linesL s).length)) (h0 : (scrS s).2 = 0) : (scrS s).1 = (scan (linesL s) 0 ⟨[], []⟩).1 := by
  unfold scrS at h0 ⊢
  rw [if_neg h] at h0 ⊢
  split
  · rename_i h1
    rw [if_pos h1] at h0
    dsimp only at h0
    omega
  · rename_i h1
    rw [if_neg h1] at h0
    split
    · rename_i h2
      rw [if_pos h2] at h0
      exact absurd h0 (by decide)
    · rfl
theorem scrS_none {s : ByteArray} (h0 : (scrS s).2 ≠ 0) : (scrS s).1 = ⟨[], []⟩ := by
  unfold scrS at h0 ⊢
  split
  · rfl
  · rename_i h
    rw [if_neg h] at h0
    split
    · rfl
    · rename_i h1
      rw [if_neg h1] at h0
      split
      · rfl
      · rename_i h2
        rw [if_neg h2] at h0
        exact absurd rfl h0

set_option maxRecDepth 100000 in
set_option maxHeartbeats 8000000 in
theorem read_any (G : Nat) (s : ByteArray) (w : World) (hG : Blk w G 46 [.slice none 0 0, .slice none 0 0]) (hs : s.size ≤ 1048576) (ht : Tens w) (hm : MaxL w) (hTG : 1 < G) (hMG : 0 < G) :
    Calls Tryd.prog 18 #[.pointer (some ⟨G, 0, none⟩), .string s] w fun e w' => e = .returned (.int .i64 (scrS s).2) ∧ ((scrS s).2 = 0 → ∃ S a, ScA S G w' a (scrS s).1 ∧ w.heap.size ≤ S) ∧ ScF (fun k => k < w.heap.size ∧ k ≠ G) w w' := by
  have ltG : G < w.heap.size := hG.lt
  by_cases c1 : 4000 < s.size
  · have k1 : (4000 : Int) < (s.size : Int) := by omega
    have RES := hide1 (scrS_big (s := s) (.inl c1))
    clear c1
    go_enter Tryd.func18, Tryd.ntmps18
    go_wp2
    go_ret
    rw [RES.out]
    exact ⟨rfl, fun h => absurd h (by decide), ScF.refl _ _⟩
  · have k1 : ¬ ((4000 : Int) < (s.size : Int)) := by omega
    have CL := hide1 (linesOf_any s w (by omega))
    have LS := hide1 (linesL_size s)
    have LN := hide1 (linesL_le s)
    have s4 : s.size ≤ 4000 := by omega
    have BIG := hide1 (fun h => scrS_big (s := s) (.inr h))
    have ANS := hide1 (fun (h : ¬ 100 < (linesL s).length) => scrS_ans (s := s) (by omega))
    have STT := hide1 (fun (h : ¬ 100 < (linesL s).length) h0 => scrS_st (s := s) (by omega) h0)
    clear c1
    generalize scrS s = A at *
    generalize linesL s = L at *
    obtain ⟨R, hR⟩ : ∃ R, R = scan L 0 ⟨[], []⟩ := ⟨_, rfl⟩
    rw [← hR] at ANS STT
    have HR := hide1 hR
    clear hR
    obtain ⟨n, hn⟩ : ∃ n, n = L.length := ⟨_, rfl⟩
    have HN := hide1 hn
    rw [← hn] at CL BIG ANS STT
    have nle : n ≤ 4000 := by have := LN.out; omega
    have HGB := hide1 hG
    have HT := hide1 ht
    have HM := hide1 hm
    clear hn hG ht hm LN
    go_enter Tryd.func18, Tryd.ntmps18
    go_wp2_with fail
    refine CL.out.mono ?_
    rintro e w1 ⟨v, rfl, hv, hb1⟩
    obtain ⟨ap, cp, rfl⟩ := own_slice hv
    have OV := hide1 hv
    have RQ := hide1 (rdQ_of_own hv)
    have B1 := hide1 hb1
    have s1 : w.heap.size ≤ w1.heap.size := hb1.size
    clear hv hb1 CL
    by_cases c2 : 100 < n
    · have k2 : (100 : Int) < (n : Int) := by omega
      have RES := hide1 (BIG.out c2)
      clear c2 ANS STT BIG
      go_wp2
      go_ret
      rw [RES.out]
      exact ⟨rfl, fun h => absurd h (by decide), ScF.of B1.out (fun k hk => hk.1)⟩
    · have k2 : ¬ ((100 : Int) < (n : Int)) := by omega
      have AN := hide1 (ANS.out c2)
      have ST := hide1 (fun h0 => STT.out c2 h0)
      clear ANS STT BIG
      go_wp2_with fail
      refine (words_any G w1).mono ?_
      rintro e w2 ⟨r, C, d2, d3, d4, d5, d6, rfl, hW, hC, hr, hb2⟩
      obtain ⟨S, hS⟩ : ∃ S, S = w2.heap.size := ⟨_, rfl⟩
      have s2 : w1.heap.size ≤ w2.heap.size := hb2.size
      have B2 := hide1 (B1.out.trans (hb2.mono s1))
      have XW := hide1 (show ((C < S ∧ C ≠ G) ∧ (d2 < S ∧ d2 ≠ G) ∧ (d3 < S ∧ d3 ≠ G) ∧ (d4 < S ∧ d4 ≠ G) ∧ (d5 < S ∧ d5 ≠ G) ∧ (d6 < S ∧ d6 ≠ G)) ∧ (r < S ∧ r ≠ G) from by
        have GB := (HGB.out.below B2.out ltG)
        have nd : ∀ d k, KiS w2 d k → d < S ∧ d ≠ G := fun d k h => ⟨by rw [hS]; exact Blk.lt h, fun e => by
          subst e
          have h2 : Blk w2 d 46 [.slice none 0 0, .slice none 0 0] := GB
          have h1 : Blk w2 d 3 [.int .i64 k] := h
          have := (h1.cell 0).symm.trans (h2.cell 0)
          simp at this⟩
        exact ⟨⟨⟨by rw [hS]; exact Blk.lt hW.c, by omega⟩, nd _ _ hW.k2, nd _ _ hW.k3, nd _ _ hW.k4, nd _ _ hW.k5, nd _ _ hW.k6⟩, by rw [hS]; exact hW.m.lt, by omega⟩)
      have HW := hide1 hW
      have A2 := hide1 (show ScA S G w2 ⟨none, 0, none, 0, []⟩ ⟨[], []⟩ from ⟨HGB.out.below B2.out ltG, by omega, by omega, ⟨⟨rfl, .inl ⟨rfl, rfl⟩⟩, fun x hx => by simp at hx, List.Pairwise.nil, fun x hx => by simp at hx⟩, rfl, ⟨rfl, .inl ⟨rfl, rfl⟩⟩, fun g hg => by simp [Value.ownBlock] at hg⟩)
      have RQ2 := hide1 (RQ.out.later hb2)
      have RX := hide1 (show ∀ q o, ap = some ⟨q, o, none⟩ → 0 < n → q < S ∧ q ≠ G from fun q o e hn0 => by
        have h1 := (OV.out.lt q (by rw [e]; first | rfl | (rcases OV.out.2 with ⟨h, _⟩ | ⟨g, cap, cur, h, _⟩ <;> (injection h with h1 h2 h3; rw [e] at h1; first | cases h1 | (injection h1 with h1; injection h1 with h1 h4; subst h4; rfl))))).1
        have h2 := (OV.out.lt q (by rw [e]; first | rfl | (rcases OV.out.2 with ⟨h, _⟩ | ⟨g, cap, cur, h, _⟩ <;> (injection h with h1 h2 h3; rw [e] at h1; first | cases h1 | (injection h1 with h1; injection h1 with h1 h4; subst h4; rfl))))).2
        omega)
      have SX := hide1 (show ∀ k, k < G → k < S ∧ k ≠ G from fun k hk => by omega)
      have leS : w.heap.size ≤ S := by omega
      clear hW hC hr hb2 hS RQ OV c2
      have fin : ∀ wr, ScF (fun k => k < S ∧ k ≠ G) w2 wr → ScF (fun k => k < w.heap.size ∧ k ≠ G) w wr := fun wr f => (ScF.of B2.out (fun k hk => hk.1)).trans (f.less (fun k hk => ⟨by omega, hk.2⟩))
      have FIN := hide1 fin
      clear fin
      go_wp2
      go_loopw [21] (fun iv wr => ∃ (i : Nat) (st : Sc) (a : Sca), i ≤ n ∧ iv = .int .i64 (i : Int) ∧ Hid (scan (L.drop i) i st = R) ∧ Hid (Sc.Ok st) ∧ Hid (ScA S G wr a st) ∧ Hid (ScF (fun k => k < S ∧ k ≠ G) w2 wr)) (fun iv _ => n - (intOf iv).toNat)
      case atStart => exact ⟨0, ⟨[], []⟩, _, Nat.zero_le _, rfl, hide1 (by rw [HR.out]; rfl), hide1 ⟨by simp, by simp, by simp⟩, A2, hide1 (ScF.refl _ _)⟩
      case round =>
        obtain ⟨i, st, a, hi1, rfl, HS, OK, HA, FF⟩ := hrel
        by_cases hlt : i < n
        · have k3 : (i : Int) < (n : Int) := by omega
          have k0 : (0 : Int) ≤ (i : Int) := by omega
          have hL : i < L.length := by have := HN.out; omega
          obtain ⟨g, o, rfl, hg, hc⟩ := RQ2.out i hL
          have x0 : wr.cell? ⟨g, o + i, none⟩ = some (.string L[i]) := (FF.out.cell (RX.out g o rfl (by omega))).trans hc
          have BG := hide1 (FF.out.bel (B := G) SX.out)
          have T2 := hide1 (Tens.later (show Tens w from HT.out) B2.out)
          have M2 := hide1 (MaxL.later (show MaxL w from HM.out) B2.out)
          have CD := hide1 (doLine_any _ S G r C d2 d3 d4 d5 d6 a st L[i] wr HA.out OK.out HA.out.off (HW.out.kept FF.out XW.out.1 XW.out.2) XW.out.1 (by have := LS.out L[i] (List.getElem_mem hL); omega) (Tens.below (show Tens w2 from T2.out) BG.out hTG) (MaxL.below (show MaxL w2 from M2.out) BG.out hMG))
          have NXT := hide1 (fun st' (h : lineSc st L[i] = some st') => And.intro (scan_next HS.out hL h) (OK.out.line h))
          have STP := hide1 (fun (h : lineSc st L[i] = none) => scan_stop HS.out hL h)
          clear hc BG T2 M2
          generalize L[i] = l at *
          cases hl : lineSc st l with
          | none =>
            have RES := hide1 (show A.2 = (i : Int) + 1 by rw [AN.out, STP.out hl]; unfold ansOf; rw [if_pos (by simp)]; simp)
            rw [hl] at CD
            clear hl STP NXT
            go_wp2_with fail
            refine CD.out.mono ?_
            rintro e w5 ⟨rfl, h5, f5⟩
            go_wp2
            go_ret
            refine ⟨?_, fun h => ?_, FIN.out _ (FF.out.trans f5)⟩
            · rw [RES.out]; first | done | rfl | (congr 2; go_num)
            · exfalso; have := RES.out; omega
          | some st' =>
            have NX := hide1 (NXT.out st' hl)
            rw [hl] at CD
            clear hl STP NXT
            go_wp2_with fail
            refine CD.out.mono ?_
            rintro e w5 ⟨rfl, h5, f5⟩
            obtain ⟨a', ha'⟩ := h5 st' rfl
            go_wp2
            go_roundw
            case rel => exact ⟨i + 1, st', a', by omega, by go_num, NX.out.1, NX.out.2, ha', FF.out.trans f5⟩
            case measure => simp [intOf] <;> omega
        · obtain rfl : i = n := by omega
          have k3 : ¬ ((i : Int) < (i : Int)) := by omega
          have EN := hide1 (scan_end HS.out HN.out)
          obtain ⟨nv, hnv⟩ : ∃ nv, nv = a.M.length := ⟨_, rfl⟩
          have HNV := hide1 hnv
          have g0 : wr.cell? ⟨G, 0, none⟩ = some (.slice a.va nv a.vc) := by rw [hnv]; exact HA.out.bx.cell 0
          have VL := hide1 (show nv = st.vs.length by rw [hnv]; exact HA.out.nv)
          clear hnv HS
          by_cases c3 : nv = 0
          · have q3 : ((nv : Int) == 0) = true := by simp [c3]
            have RES := hide1 (show A.2 = 1 by rw [AN.out, EN.out]; unfold ansOf; rw [if_neg (by simp), if_pos (List.eq_nil_of_length_eq_zero (by rw [← VL.out]; exact c3))])
            clear c3
            go_wp2
            go_ret
            rw [RES.out]
            exact ⟨rfl, fun h => absurd h (by decide), FIN.out _ FF.out⟩
          · have q3 : ((nv : Int) == 0) = false := by simp; omega
            have RES := hide1 (show A.2 = 0 by rw [AN.out, EN.out]; unfold ansOf; rw [if_neg (by simp), if_neg (fun e => c3 (by rw [VL.out, e]; rfl))])
            have RST := hide1 (show A.1 = st by rw [ST.out RES.out, EN.out])
            clear c3
            go_wp2
            go_ret
            rw [RES.out, RST.out]
            exact ⟨rfl, fun _ => ⟨S, ⟨a, HA.out⟩, leS⟩, FIN.out _ FF.out⟩

set_option maxRecDepth 100000 in
set_option maxHeartbeats 4000000 in
theorem implReadScript_any (s : ByteArray) (w : World) (hs : s.size ≤ 1048576) (ht : Tens w) (hm : MaxL w) :
    Calls Tryd.prog 5 #[.string s] w fun e w' => (∃ a : Sca, ∃ S : Nat, e = .returned (.tuple #[.slice a.va a.M.length a.vc, .slice a.ea (scrS s).1.es.length a.ec, .int .i64 (scrS s).2]) ∧ a.M.map (·.l) = (scrS s).1.vs ∧ OwnVs w' w.heap.size a.va a.vc a.M ∧ w'.ownsRow w.heap.size 40 6 (.slice a.ea (scrS s).1.es.length a.ec) (scrS s).1.es.length (rowG evC (scrS s).1.es) ∧ (∀ g, (Value.slice a.ea (scrS s).1.es.length a.ec).ownBlock = some g → (Value.slice a.va a.M.length a.vc).ownBlock ≠ some g ∧ ∀ x ∈ a.M, (Value.slice x.a x.l.length x.c).ownBlock ≠ some g)) ∧ Below w.heap.size w w' := by
  have F0 := hide1 (And.intro (Blk.new w 46 #[.slice none 0 0, .slice none 0 0]) ((Below.refl w.heap.size w).alloc (Nat.le_refl _) (.cells #[.slice none 0 0, .slice none 0 0] 46)))
  have HT := hide1 ht
  have HM := hide1 hm
  have hTp := ht.pos
  have hMp : 0 < w.heap.size := by obtain ⟨m, _, h2⟩ := hm; exact h2
  have NON := hide1 (scrS_none (s := s))
  have RD := hide1 (fun (u : World) h1 h2 h3 => read_any w.heap.size s u h1 hs h2 h3 hTp hMp)
  clear ht hm
  obtain ⟨A, hA⟩ : ∃ A, A = scrS s := ⟨_, rfl⟩
  rw [← hA] at NON RD ⊢
  clear hA
  go_enter Tryd.func5, Tryd.ntmps5
  go_upto_region 2 with fail
  generalize (w.alloc (.cells #[.slice none 0 0, .slice none 0 0] 46)) = u at F0 ⊢
  have CR := hide1 (RD.out u F0.out.1 (Tens.later (show Tens w from HT.out) F0.out.2) (MaxL.later (show MaxL w from HM.out) F0.out.2))
  have su : w.heap.size ≤ u.heap.size := F0.out.2.size
  go_wp2_with fail
  refine CR.out.mono ?_
  rintro e w2 ⟨rfl, hA, f2⟩
  have B2 := hide1 (F0.out.2.trans (f2.bel (B := w.heap.size) (fun k hk => by have := F0.out.1.lt; exact ⟨by omega, by omega⟩)))
  by_cases c0 : A.2 = 0
  · have q0 : (A.2 != 0) = false := by simp [c0]
    obtain ⟨S, a, hSA, hS⟩ := hA c0
    have HA := hide1 hSA
    have g0 : ∀ n : Gr w2, n.w.cell? ⟨w.heap.size, 0, none⟩ = some (.slice a.va a.M.length a.vc) := fun n => n.cell (hSA.bx.cell 0)
    have g1 : ∀ n : Gr w2, n.w.cell? ⟨w.heap.size, 1, none⟩ = some (.slice a.ea A.1.es.length a.ec) := fun n => n.cell (hSA.bx.cell 1)
    have RES := hide1 c0
    clear hA hSA c0 CR F0 f2
    go_upto_region 5 with fail
    refine wp_region_grown (by kernel_rfl) (by kernel_rfl) ?_
    (repeat (first | go_big_quiet_skip | (go_big_quiet_want; go_big_quiet_op; go_big_quiet_on)))
    refine wpQuiet_nil ?_
    rintro w3 ⟨m3, rfl⟩
    go_wp2
    have leS : w.heap.size ≤ S := by omega
    have H3 := hide1 (HA.out.later m3.b)
    refine bodyPost_ret (results_tmp3 Tryd.results5 _ _ _) rfl ?_
    exact ⟨⟨a, S, by rw [RES.out]; rfl, H3.out.ml, ⟨own_base H3.out.vs.o leS, fun x hx => (H3.out.vs.r x hx).base leS, H3.out.vs.d, H3.out.vs.n⟩, own_base H3.out.es leS, H3.out.ne⟩, B2.out.trans (m3.b.mono B2.out.size)⟩
  · have q0 : (A.2 != 0) = true := by simp [c0]
    have A1 := hide1 (NON.out c0)
    clear hA c0 CR F0 f2
    go_wp2
    refine bodyPost_ret (results_tmp3 Tryd.results5 _ _ _) rfl ?_
    rw [A1.out]
    have O1 := owns_emptyX w2 35 1
    have B3 := (Below.refl w2.heap.size w2).alloc (Nat.le_refl _) (.cells #[] 35)
    have s3 : (w2.alloc (.cells #[] 35)).heap.size = w2.heap.size + 1 := World.size_alloc _ _
    have O2 := owns_emptyX (w2.alloc (.cells #[] 35)) 40 6
    rw [s3] at O2
    have s2 : w.heap.size ≤ w2.heap.size := B2.out.size
    refine ⟨⟨⟨some ⟨w2.heap.size, 0, none⟩, 0, some ⟨w2.heap.size + 1, 0, none⟩, 0, []⟩, 0, rfl, rfl, ⟨own_base (O1.alloc _) s2, fun x hx => by simp at hx, List.Pairwise.nil, fun x hx => by simp at hx⟩, own_base O2 (by omega), fun g hg => ⟨fun e => ?_, fun x hx => by simp at hx⟩⟩, (B2.out.trans (B3.mono s2)).alloc (by rw [s3]; omega) _⟩
    have e1 : w2.heap.size + 1 = g := by injection hg
    have e2 : w2.heap.size = g := by injection e
    omega
end Go.Proofs.YtelmchifpgaibaaDoor
