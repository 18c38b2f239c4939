/- The model's Push. -/
import Derived.Test.YtaafofgfeaodhaaQuT
namespace Go.Proofs.Ytaafofgfeaodhaa
open Go.RowKit

set_option maxRecDepth 100000 in
set_option maxHeartbeats 2000000 in
theorem specPush_any (ao : Option Addr) (l : List ByteArray) (ca : Nat) (m : Int) (k : ByteArray) (w : World) (hl : l.length ≤ 1048576) (hA : RdQ w ao l) :
    Calls Try.prog 27 #[.agg #[.int .i64 m, .slice ao l.length ca], .string k] w fun e w' => ∃ v, e = .returned (.tuple #[v, .string (pshR l m k).2.1, .bool (pshR l m k).2.2]) ∧ MadeQ w w' v (pshR l m k).1 := by
  have CO := hide1 (fun w' (hb : Below w.heap.size w w') => specQOk_any ao l ca m w' hl (hA.later hb))
  have CF : Hid (∀ w', Calls Try.prog 43 #[.int .i64 (k.size : Int), .int .i64 1, .int .i64 12] w' fun e w'' => ∃ x : Bool, e = .returned (.bool x) ∧ (x = true ↔ keyQ k) ∧ w'' = w') := by
    show ∀ w', _
    intro w'
    refine (inQ (k.size : Int) 1 12 w').mono ?_
    rintro e w2 ⟨rfl, rfl⟩
    exact ⟨_, rfl, by unfold keyQ; simp; omega, rfl⟩
  have CH := hide1 (fun w' (hb : Below w.heap.size w w') => specHas_any ao l ca m k w' hl (hA.later hb))
  have F0 := hide1 (blkN2 w #[.int .i64 m, .slice ao l.length ca] #[.int .i64 0, .slice none 0 0] 26 26)
  have HA := hide1 hA
  clear hA
  go_enter Try.func27, Try.ntmps27
  go_wp2_with fail
  generalize ((w.alloc (.cells #[.int .i64 m, .slice ao l.length ca] 26)).alloc (.cells #[.int .i64 0, .slice none 0 0] 26)) = w0 at F0 ⊢
  obtain ⟨K0, R0, B0⟩ := F0.out
  have K0 := hide1 K0
  have R0 := hide1 R0
  have B0 := hide1 B0
  clear F0
  refine (CO.out w0 B0.out).mono ?_
  rintro e w1 ⟨x, rfl, hx, hb1⟩
  have K1 := hide1 (K0.out.below hb1 K0.out.lt)
  have R1 := hide1 (R0.out.below hb1 R0.out.lt)
  have B1 := hide1 (B0.out.trans (hb1.mono B0.out.size))
  clear hb1 CO K0 R0 B0
  rcases x with _ | _
  · have HN := hide1 (pshR_no (l := l) (m := m) (k := k) (fun h => by have := hx.2 h.1; cases this))
    have y0 : w1.cell? ⟨w.heap.size + 1, 0, none⟩ = some (.int .i64 0) := R1.out.cell 0
    have y1 : w1.cell? ⟨w.heap.size + 1, 1, none⟩ = some (.slice none 0 0) := R1.out.cell 1
    have yf : ∀ j, w1.frozen? ⟨w.heap.size + 1, j, none⟩ = false := fun j => R1.out.froz j
    have HH := hide1 (Blk.set (Blk.set R1.out 0 (.int .i64 0)) 1 (.slice none 0 0))
    clear hx CF CH
    go_wp2
    refine bodyPost_ret (resQ3 Try.results27 _ _ (w.heap.size + 1) 26 #[.int .i64 0, .slice none 0 0] (0, 0) _ rfl HH.out Try.underlying26 rfl (by kernel_rfl)) rfl ?_
    rw [HN.out]
    exact ⟨_, rfl, MadeQ.no B1.out (by omega) _ _⟩
  have HOK := hide1 (hx.1 rfl)
  clear hx
  go_wp2_with fail
  refine (CF.out w1).mono ?_
  rintro e w1' ⟨x, rfl, hx, hw⟩
  have hw2 := hw.symm
  clear hw
  subst hw2
  rcases x with _ | _
  · have HN := hide1 (pshR_no (l := l) (m := m) (k := k) (fun h => by have := hx.2 h.2.1; cases this))
    have y0 : w1.cell? ⟨w.heap.size + 1, 0, none⟩ = some (.int .i64 0) := R1.out.cell 0
    have y1 : w1.cell? ⟨w.heap.size + 1, 1, none⟩ = some (.slice none 0 0) := R1.out.cell 1
    have yf : ∀ j, w1.frozen? ⟨w.heap.size + 1, j, none⟩ = false := fun j => R1.out.froz j
    have HH := hide1 (Blk.set (Blk.set R1.out 0 (.int .i64 0)) 1 (.slice none 0 0))
    clear hx CF CH
    go_wp2
    refine bodyPost_ret (resQ3 Try.results27 _ _ (w.heap.size + 1) 26 #[.int .i64 0, .slice none 0 0] (0, 0) _ rfl HH.out Try.underlying26 rfl (by kernel_rfl)) rfl ?_
    rw [HN.out]
    exact ⟨_, rfl, MadeQ.no B1.out (by omega) _ _⟩
  have HKQ := hide1 (hx.1 rfl)
  clear hx CF
  have x0 : w1.cell? ⟨w.heap.size, 0, none⟩ = some (.int .i64 m) := K1.out.cell 0
  have x1 : w1.cell? ⟨w.heap.size, 1, none⟩ = some (.slice ao l.length ca) := K1.out.cell 1
  go_wp2_with fail
  refine (CH.out w1 B1.out).mono ?_
  rintro e w2 ⟨rfl, hb2⟩
  have K2 := hide1 (K1.out.below hb2 K1.out.lt)
  have R2 := hide1 (R1.out.below hb2 R1.out.lt)
  have B2 := hide1 (B1.out.trans (hb2.mono B1.out.size))
  clear hb2 CH K1 R1 B1 x0 x1
  rcases hq : hasQ l k with _ | _
  rotate_left
  · have HN := hide1 (pshR_no (l := l) (m := m) (k := k) (fun h => h.2.2.1 ((hasQ_iff l k).1 hq)))
    have y0 : w2.cell? ⟨w.heap.size + 1, 0, none⟩ = some (.int .i64 0) := R2.out.cell 0
    have y1 : w2.cell? ⟨w.heap.size + 1, 1, none⟩ = some (.slice none 0 0) := R2.out.cell 1
    have yf : ∀ j, w2.frozen? ⟨w.heap.size + 1, j, none⟩ = false := fun j => R2.out.froz j
    have HH := hide1 (Blk.set (Blk.set R2.out 0 (.int .i64 0)) 1 (.slice none 0 0))
    clear hq
    go_wp2
    refine bodyPost_ret (resQ3 Try.results27 _ _ (w.heap.size + 1) 26 #[.int .i64 0, .slice none 0 0] (0, 0) _ rfl HH.out Try.underlying26 rfl (by kernel_rfl)) rfl ?_
    rw [HN.out]
    exact ⟨_, rfl, MadeQ.no B2.out (by omega) _ _⟩
  have HNK := hide1 (show ¬ k ∈ l from fun h => by rw [(hasQ_iff l k).2 h] at hq; cases hq)
  clear hq
  have x0 : w2.cell? ⟨w.heap.size, 0, none⟩ = some (.int .i64 m) := K2.out.cell 0
  have x1 : w2.cell? ⟨w.heap.size, 1, none⟩ = some (.slice ao l.length ca) := K2.out.cell 1
  by_cases hm : m = 0
  · subst hm
    have HN := hide1 (pshR_no (l := l) (m := 0) (k := k) (fun h => h.2.2.2 rfl))
    have y0 : w2.cell? ⟨w.heap.size + 1, 0, none⟩ = some (.int .i64 0) := R2.out.cell 0
    have y1 : w2.cell? ⟨w.heap.size + 1, 1, none⟩ = some (.slice none 0 0) := R2.out.cell 1
    have yf : ∀ j, w2.frozen? ⟨w.heap.size + 1, j, none⟩ = false := fun j => R2.out.froz j
    have HH := hide1 (Blk.set (Blk.set R2.out 0 (.int .i64 0)) 1 (.slice none 0 0))
    skip
    go_wp2
    refine bodyPost_ret (resQ3 Try.results27 _ _ (w.heap.size + 1) 26 #[.int .i64 0, .slice none 0 0] (0, 0) _ rfl HH.out Try.underlying26 rfl (by kernel_rfl)) rfl ?_
    rw [HN.out]
    exact ⟨_, rfl, MadeQ.no B2.out (by omega) _ _⟩
  have qm : (m == 0) = false := by simpa using hm
  have HP := hide1 (show PshQ l m k from ⟨HOK.out, HKQ.out, HNK.out, hm⟩)
  have HY := hide1 (pshR_yes HP.out)
  obtain ⟨mn, hmn⟩ : ∃ mn : Nat, m = (mn : Int) := ⟨m.toNat, by have := HOK.out.1; omega⟩
  have hmb : mn ≤ 24 := by have := HOK.out.2.1; omega
  have HMT := hide1 (show m.toNat = mn by omega)
  rw [HMT.out] at HY
  have hsm := HOK.out.small
  obtain ⟨KL, hKL⟩ : ∃ KL, k :: l = KL := ⟨_, rfl⟩
  have HKL := hide1 (show [k] ++ l = KL from hKL)
  have hln : KL.length = 1 + l.length := by rw [← hKL, List.length_cons, Nat.add_comm]
  have hll : l.length ≤ mn := by have := HOK.out.2.2.1; omega
  rw [hKL] at HY
  clear hKL
  have hs0 : w.heap.size < w2.heap.size := K2.out.lt
  have hs1 : w.heap.size + 1 < w2.heap.size := R2.out.lt
  have RA := hide1 (fun o => HA.out.later (B2.out.trans (((Below.refl w2.heap.size w2).alloc (Nat.le_refl _) o).mono B2.out.size)))
  clear hm HMT
  subst hmn
  obtain ⟨TK, hTK⟩ : ∃ TK, KL.take mn = TK := ⟨_, rfl⟩
  obtain ⟨lf, hlf⟩ : ∃ lf, KL.getD mn ⟨#[]⟩ = lf := ⟨_, rfl⟩
  rw [hTK, hlf] at HY
  have HTL := hide1 (show TK.length ≤ 25 by rw [← hTK, List.length_take]; omega)
  by_cases cm : l.length = mn
  · have hn1 : mn < KL.length := by omega
    have HTN := hide1 (show TK.length = mn by rw [← hTK, List.length_take]; omega)
    have HLN := hide1 (show 1 + l.length = mn + 1 by omega)
    have HG := hide1 (show KL[mn] = lf by rw [← hlf, List.getD_eq_getElem?_getD, List.getElem?_eq_getElem hn1]; rfl)
    have HTK := hide1 hTK
    have k1 : decide ((mn : Int) < (mn : Int) + 1) = true := decide_eq_true (by omega)
    have k2 : (mn : Int) < (mn : Int) + 1 := by omega
    clear hTK hlf hln cm hll
    go_wp2_with (at_builtin; (refine wpList_appQ rfl _ _ 24 rfl Try.underlying24 w2.heap.size _ 1 [k] rfl (litQ k (Nat.le_refl _)) ao _ ca l rfl rfl (RA.out _) (by omega) (by rw [World.size_alloc]; omega) ?_; intro v' w3 ho3 hg3; have D3 : Hid (Below w2.heap.size w2 w3) := ((Below.refl w2.heap.size w2).alloc (Nat.le_refl _) _).trans (gbelow (B := w2.heap.size) hg3 (fun g hg => ((litQ (base := w2.heap.size) k (Nat.le_refl _)).lt g hg).1) (by rw [World.size_alloc]; omega)); rw [HKL.out, HLN.out] at ho3; obtain ⟨b3, c3, hv3⟩ := own_slice ho3; subst hv3; have O3 := hide1 (rdQ_of_own ho3); have k3 : (mn : Int) ≤ (c3 : Int) := (by have := (own_cap ho3).1; omega); obtain ⟨g3, o3, hb3, _, hc3⟩ := O3.out mn hn1; subst hb3; rw [HG.out] at hc3; have z0 : w3.cell? ⟨w.heap.size, 0, none⟩ = some (.int .i64 (mn : Int)) := (D3.out.cell hs0).trans x0; clear ho3 hg3))
    have RT : Hid (RdQ w3 _ TK) := hide1 (by have := O3.out.take mn; rw [HTK.out] at this; exact this)
    have X : Hid (w3.cell? ⟨w.heap.size, 0, none⟩ = some (.int .i64 (mn : Int))) := z0
    have hs3 : w2.heap.size ≤ w3.heap.size := D3.out.size
    have R3 := hide1 (R2.out.below D3.out hs1)
    have B3 := hide1 (B2.out.trans (D3.out.mono B2.out.size))
    have h03 : w.heap.size < w3.heap.size := by omega
    have h13 : w.heap.size + 1 < w3.heap.size := by omega
    go_region_held3 (fun w' => w'.cell? ⟨w.heap.size, 0, none⟩ = some (.int .i64 (mn : Int))) (first | go_keep | exact (D5.out.cell h03).trans X.out) ((refine step_appB rfl (.tmp 52) (.tmp 53) 24 rfl Try.underlying24 w3.heap.size _ 0 [] rfl (by first | exact owns_empty w3 9 | exact owns_empty w3.drew 9) _ _ _ TK rfl (by first | rfl | exact HTN.out) (RT.out.later (by go_grown)) (by have := HTL.out; first | omega | (have := HTN.out; omega)) (by go_size) ?_; intro b5 c5 w5 ho5 hb5; have D5 : Hid (Below w3.heap.size w3 w5) := (show Below w3.heap.size w3 _ by go_grown).trans hb5; rw [List.nil_append] at ho5 ⊢; have O5 : Hid (OwnQ w5 w3.heap.size b5 c5 TK) := hide1 ho5; clear ho5 hb5; have r5 := R3.out.below D5.out h13; have y0 : w5.cell? ⟨w.heap.size + 1, 0, none⟩ = some (.int .i64 0) := r5.cell 0; have y1 : w5.cell? ⟨w.heap.size + 1, 1, none⟩ = some (.slice none 0 0) := r5.cell 1; have yf : ∀ j, w5.frozen? ⟨w.heap.size + 1, j, none⟩ = false := fun j => r5.froz j; have R5 := hide1 r5; clear r5))
    all_goals go_wp2
    all_goals
      have HH := hide1 (Blk.set (Blk.set R5.out 0 (.int .i64 (mn : Int))) 1 (.slice b5 TK.length c5))
      refine bodyPost_ret (resQ3 Try.results27 _ _ (w.heap.size + 1) 26 #[.int .i64 (mn : Int), .slice b5 TK.length c5] (0, 0) _ rfl HH.out Try.underlying26 rfl (by kernel_rfl)) rfl ?_
      rw [HY.out]
      exact ⟨_, rfl, MadeQ.yes (r := w.heap.size + 1) B3.out (by omega) h13 O5.out D5.out _ _⟩
  · have hkl : KL.length ≤ mn := by omega
    have e1 : TK = KL := by rw [← hTK, List.take_of_length_le hkl]
    have e2 : lf = ⟨#[]⟩ := by rw [← hlf, List.getD_eq_getElem?_getD, List.getElem?_eq_none hkl]; rfl
    subst e1 e2
    have HLN := hide1 (show 1 + l.length = TK.length by omega)
    have HTK := hide1 hTK
    have k1 : ¬ mn < TK.length := by omega
    clear hTK hlf cm hln hkl hll
    go_wp2_with (at_builtin; (refine wpList_appQ rfl _ _ 24 rfl Try.underlying24 w2.heap.size _ 1 [k] rfl (litQ k (Nat.le_refl _)) ao _ ca l rfl rfl (RA.out _) (by omega) (by rw [World.size_alloc]; omega) ?_; intro v' w3 ho3 hg3; have D3 : Hid (Below w2.heap.size w2 w3) := ((Below.refl w2.heap.size w2).alloc (Nat.le_refl _) _).trans (gbelow (B := w2.heap.size) hg3 (fun g hg => ((litQ (base := w2.heap.size) k (Nat.le_refl _)).lt g hg).1) (by rw [World.size_alloc]; omega)); rw [HKL.out, HLN.out] at ho3; obtain ⟨b3, c3, hv3⟩ := own_slice ho3; subst hv3; have O3 := hide1 (rdQ_of_own ho3); have z0 : w3.cell? ⟨w.heap.size, 0, none⟩ = some (.int .i64 (mn : Int)) := (D3.out.cell hs0).trans x0; clear ho3 hg3))
    have RT : Hid (RdQ w3 _ TK) := hide1 (by have := O3.out.take mn; rw [HTK.out] at this; exact this)
    have X : Hid (w3.cell? ⟨w.heap.size, 0, none⟩ = some (.int .i64 (mn : Int))) := z0
    have hs3 : w2.heap.size ≤ w3.heap.size := D3.out.size
    have R3 := hide1 (R2.out.below D3.out hs1)
    have B3 := hide1 (B2.out.trans (D3.out.mono B2.out.size))
    have h03 : w.heap.size < w3.heap.size := by omega
    have h13 : w.heap.size + 1 < w3.heap.size := by omega
    go_region_held3 (fun w' => w'.cell? ⟨w.heap.size, 0, none⟩ = some (.int .i64 (mn : Int))) (first | go_keep | exact (D5.out.cell h03).trans X.out) ((refine step_appB rfl (.tmp 52) (.tmp 53) 24 rfl Try.underlying24 w3.heap.size _ 0 [] rfl (by first | exact owns_empty w3 9 | exact owns_empty w3.drew 9) _ _ _ TK rfl (by first | rfl | exact HTN.out) (RT.out.later (by go_grown)) (by have := HTL.out; first | omega | (have := HTN.out; omega)) (by go_size) ?_; intro b5 c5 w5 ho5 hb5; have D5 : Hid (Below w3.heap.size w3 w5) := (show Below w3.heap.size w3 _ by go_grown).trans hb5; rw [List.nil_append] at ho5 ⊢; have O5 : Hid (OwnQ w5 w3.heap.size b5 c5 TK) := hide1 ho5; clear ho5 hb5; have r5 := R3.out.below D5.out h13; have y0 : w5.cell? ⟨w.heap.size + 1, 0, none⟩ = some (.int .i64 0) := r5.cell 0; have y1 : w5.cell? ⟨w.heap.size + 1, 1, none⟩ = some (.slice none 0 0) := r5.cell 1; have yf : ∀ j, w5.frozen? ⟨w.heap.size + 1, j, none⟩ = false := fun j => r5.froz j; have R5 := hide1 r5; clear r5))
    all_goals go_wp2
    all_goals
      have HH := hide1 (Blk.set (Blk.set R5.out 0 (.int .i64 (mn : Int))) 1 (.slice b5 TK.length c5))
      refine bodyPost_ret (resQ3 Try.results27 _ _ (w.heap.size + 1) 26 #[.int .i64 (mn : Int), .slice b5 TK.length c5] (0, 0) _ rfl HH.out Try.underlying26 rfl (by kernel_rfl)) rfl ?_
      rw [HY.out]
      exact ⟨_, rfl, MadeQ.yes (r := w.heap.size + 1) B3.out (by omega) h13 O5.out D5.out _ _⟩
end Go.Proofs.Ytaafofgfeaodhaa
